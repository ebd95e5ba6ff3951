/- The law DomMeet, walked. -/
import Derived.Test.YteipncggndefmaaDMtB
namespace Go.Proofs.Yteipncggndefmaa
open Go.RowKit Go.Maps Go.Shelf

theorem rootN_of {L : List (List Int)} {y : Nat} (h : y < L.length) : rootN L (y : Int) = y := by
  unfold rootN
  rw [if_pos ⟨by omega, by omega⟩, Int.toNat_natCast]
theorem shut_of {L B : List (List Int)} {y0 n : Nat} {l out : List Int} {s1 sp : List Nat} (hn : n = L.length) (hy : y0 < n) (hF : FrontOf L y0 B) (hI : IterOf B ((y0 : Int) :: l) out)
    (h1 : Ext n [y0] l l.length s1) (h2 : Ext n s1 out out.length sp) : Shut L y0 (fun u => u ∈ sp) := by
  intro w x hw hx
  have hxl : x < n := by obtain ⟨u, he, -⟩ := hx; have := he.lt.2; omega
  have hwl : w < n := by obtain ⟨u, he, hd, -⟩ := hx; have := hd.reached.lt.2; have := he.lt.1; omega
  have hBl := hF.1
  obtain ⟨r, hr⟩ : ∃ r, B[w]? = some r := ⟨_, List.getElem?_eq_getElem (by omega)⟩
  have hE : Edge B w x := ⟨by omega, r, hr, ((hF.2 w r hr).2 _).2 ⟨x, rfl, hx⟩⟩
  refine (h2 x).2 (.inr ⟨hxl, ?_⟩)
  rw [List.take_length]
  refine (hI.2 _).2 ⟨x, rfl, ?_⟩
  rcases (h2 w).1 hw with hw | ⟨-, hw⟩
  · rcases (h1 w).1 hw with hw | ⟨-, hw⟩
    · rw [List.mem_singleton.1 hw] at hE
      exact ⟨y0, y0, List.Mem.head _, .refl (by omega), hE⟩
    · rw [List.take_length] at hw
      exact ⟨w, w, List.Mem.tail _ hw, .refl (by omega), hE⟩
  · rw [List.take_length] at hw
    obtain ⟨y, e, s, z, c1, c2, c3⟩ := (hI.2 _).1 hw
    obtain rfl : w = y := by omega
    exact ⟨s, w, c1, .step c2 c3, hE⟩
theorem front_low2 {L B : List (List Int)} {y0 : Nat} (hF : FrontOf L y0 B) : ∀ r ∈ B, r.length ≤ L.length ∧ ∀ z ∈ r, 0 ≤ z ∧ z < L.length := by
  intro r hrm
  obtain ⟨i, hi, ei⟩ := List.getElem_of_mem hrm
  obtain ⟨s1, s2⟩ := hF.2 i r (by rw [List.getElem?_eq_getElem hi, ei])
  have hv : ∀ z ∈ r, 0 ≤ z ∧ z < L.length := fun z hz => by
    obtain ⟨y, e, x, he, -⟩ := (s2 z).1 hz
    have := he.lt.2
    omega
  refine ⟨?_, hv⟩
  have h3 : (r.map Int.toNat).Nodup := by
    rw [List.Nodup, List.pairwise_map]
    refine s1.imp_of_mem (fun {a b} ha hb hab => ?_)
    have := hv a ha
    have := hv b hb
    omega
  have h4 := h3.length_le_of_subset (l₂ := List.range L.length) (fun x hx => by
    obtain ⟨z, hz, rfl⟩ := List.mem_map.1 hx
    have := hv z hz
    exact List.mem_range.2 (by omega))
  simpa using h4

theorem back_rows {L : List (List Int)} {n : Nat} (hn : n = L.length) (hL : n ≤ 100000) : ∀ x, x < n → ∃ r, (backL L)[x]? = some r ∧ r.length ≤ 1000000 ∧ (∀ z ∈ r, 0 ≤ z ∧ z < n) ∧ ∀ u : Nat, Edge L u x ↔ (u : Int) ∈ r := by
  intro x hx
  have hl := backL_len L
  obtain ⟨r, hr⟩ : ∃ r, (backL L)[x]? = some r := ⟨_, List.getElem?_eq_getElem (by omega)⟩
  have h1 := back_low L (by omega) r (List.mem_of_getElem? hr)
  have h2 := (back_form L r (List.mem_of_getElem? hr)).2
  refine ⟨r, hr, by omega, fun z hz => by have := h2 z hz; rw [hl] at this; omega, fun u => ?_⟩
  rw [← edge_back]
  constructor
  · rintro ⟨-, r', hr', hm⟩
    rw [hr] at hr'
    obtain rfl := Option.some.inj hr'
    exact hm
  · intro hm
    exact ⟨by have := h2 _ hm; omega, r, hr, hm⟩

set_option maxRecDepth 20000 in
set_option maxHeartbeats 8000000 in
theorem domMeet_any {w : World} {v vl : Value} {L : List (List Int)} {root : Int} {l : List Int} (h : RdG w v L) (hl : RdI w vl l) :
    Calls Try.prog 5 #[v, .int .i64 root, vl] w fun e w' => e = .returned (.bool true) ∧ Below w.heap.size w w' := by
  obtain ⟨av, c0, rfl⟩ := h.form
  obtain ⟨al, cl, rfl⟩ := hl.shape
  have hG := great9_any h
  have hW := Lib.hid (fun w => wakes9_g (w := w))
  obtain ⟨p, hp⟩ : ∃ p, p = l.length := ⟨_, rfl⟩
  obtain ⟨n, hn⟩ : ∃ n, n = L.length := ⟨_, rfl⟩
  rw [← hp] at hl ⊢
  rw [← hn] at h hG ⊢
  replace h := Lib.hid h
  replace hl := Lib.hid hl
  replace hp := Lib.hid hp
  replace hG := Lib.hid hG
  replace hn := Lib.hid hn
  go_enter Try.func5, Try.ntmps5
  go_wp2_with fail
  refine hG.out.mono ?_
  rintro e w1 ⟨q, rfl, rfl, hq⟩
  cases q with
  | true =>
    clear hq
    go_wp2_with fail
    refine (hW.out _).mono ?_
    rintro e w2 ⟨rfl, hb2⟩
    go_wp2_with fail
    go_ret
    exact ⟨rfl, hb2⟩
  | false =>
    by_cases h1 : n ≤ 16
    case neg =>
      have j1 : decide ((n : Int) > 16) = true := by simp; omega
      have j1n : decide (16 < n) = true := by simp; omega
      clear hq
      go_wp2_with fail
      refine (hW.out _).mono ?_
      rintro e w2 ⟨rfl, hb2⟩
      go_wp2_with fail
      go_ret
      exact ⟨rfl, hb2⟩
    have j1 : decide ((n : Int) > 16) = false := by simp; omega
    have j1n : decide (16 < n) = false := by simp; omega
    by_cases h2 : 0 ≤ root
    case neg =>
      have j2 : decide (root < 0) = true := by simp; omega
      clear hq
      go_wp2_with fail
      refine (hW.out _).mono ?_
      rintro e w2 ⟨rfl, hb2⟩
      go_wp2_with fail
      go_ret
      exact ⟨rfl, hb2⟩
    obtain ⟨y0, rfl⟩ : ∃ y0 : Nat, root = y0 := ⟨root.toNat, by omega⟩
    have j2 : decide ((y0 : Int) < 0) = false := by simp
    by_cases h3 : y0 < n
    case neg =>
      have j3 : decide ((y0 : Int) ≥ (n : Int)) = true := by simp; omega
      have j3n : decide (n ≤ y0) = true := by simp; omega
      clear hq
      go_wp2_with fail
      refine (hW.out _).mono ?_
      rintro e w2 ⟨rfl, hb2⟩
      go_wp2_with fail
      go_ret
      exact ⟨rfl, hb2⟩
    have j3 : decide ((y0 : Int) ≥ (n : Int)) = false := by simp; omega
    have j3n : decide (n ≤ y0) = false := by simp; omega
    by_cases h4 : p ≤ 16
    case neg =>
      have j4 : decide ((p : Int) > 16) = true := by simp; omega
      have j4n : decide (16 < p) = true := by simp; omega
      clear hq
      go_wp2_with fail
      refine (hW.out _).mono ?_
      rintro e w2 ⟨rfl, hb2⟩
      go_wp2_with fail
      go_ret
      exact ⟨rfl, hb2⟩
    have j4 : decide ((p : Int) > 16) = false := by simp; omega
    have j4n : decide (16 < p) = false := by simp; omega
    obtain ⟨hL0, hr0⟩ := hq rfl
    have hL : Hid (L.length ≤ 100000) := Lib.hid (by omega)
    have hr : Hid (∀ r ∈ L, r.length ≤ 100000) := Lib.hid (fun r hrm => by have := hr0 r hrm; omega)
    have hh : Hid (RdG w (.slice av L.length c0) L) := Lib.hid (by rw [← hn.out]; exact h.out)
    have hRN : Hid (rootN L (y0 : Int) = y0) := Lib.hid (rootN_of (by have := hn.out; omega))
    have hDT : Hid (∃ t, DT L y0 t) := Lib.hid (by
      obtain ⟨e, w', fr, ⟨TB, t, -, -, hD, -⟩, -⟩ := (tree_any (root := (y0 : Int)) hh.out hL.out hr.out) []
      have := hD.dt
      rw [hRN.out] at this
      exact ⟨t, this⟩)
    have hmk := fun w' => make_bools n (by omega) w'
    obtain ⟨i0, hi0, hz0, hz1, hz2⟩ := info_parts infoI1
    have jy : (y0 : Int) < (n : Int) := by omega
    clear hq hL0 hr0 hG
    go_upto_region 4 with fail
    obtain ⟨S, hS⟩ : ∃ S, S = w.heap.size := ⟨_, rfl⟩
    have hS2 : (w.alloc (.cells (seenA n []) 4)).heap[S]? = some (.cells (seenA n []) 4 (0, 0)) := at_newD hS
    have hB2 : Below w.heap.size w (w.alloc (.cells (seenA n []) 4)) := (Below.refl _ _).alloc (Nat.le_refl _) _
    have f1 : (w.alloc (.cells (seenA n []) 4)).frozen? ⟨S, y0, none⟩ = false := by simp [World.frozen?, hS2]
    have c1 : ∃ u, (w.alloc (.cells (seenA n []) 4)).cell? ⟨S, y0, none⟩ = some u := ⟨_, by rw [blk_cell hS2]; exact seenA_at h3⟩
    obtain ⟨u1, c1⟩ := c1
    have hS3 : Hid (((w.alloc (.cells (seenA n []) 4)).setCell ⟨S, y0, none⟩ (.bool true)).heap[S]? = some (.cells (seenA n [y0]) 4 (0, 0))) := Lib.hid (by rw [blk_set _ hS2, seenA_set h3])
    have hB3 : Hid (Below w.heap.size w ((w.alloc (.cells (seenA n []) 4)).setCell ⟨S, y0, none⟩ (.bool true))) := Lib.hid (hB2.setCell (p := ⟨S, y0, none⟩) (by rw [hS]; exact Nat.le_refl _) _)
    have hSw : Hid (S < ((w.alloc (.cells (seenA n []) 4)).setCell ⟨S, y0, none⟩ (.bool true)).heap.size) := Lib.hid (by have h := hS3.out; exact (Array.getElem?_eq_some_iff.1 h).1)
    rw [← hS]
    replace hS := Lib.hid hS
    clear hS2 hB2 hmk
    go_upto_region 5 with fail
    generalize ((w.alloc (.cells (seenA n []) 4)).setCell ⟨S, y0, none⟩ (.bool true)) = w3 at hS3 hB3 hSw ⊢
    clear f1 c1
    have hown0 : (w3.alloc (.cells #[.int .i64 y0] 3)).ownsRow w3.heap.size 3 1 (.slice (some ⟨w3.heap.size, 0, none⟩) 1 1) 1 [.int .i64 y0] := by
      exact World.ownsRow_lit (base := w3.heap.size) (e := 3) (size := 1) w3 #[.int .i64 y0] 1 (Nat.le_refl _) (by decide) rfl
    have hbe0 : Hid (Below w3.heap.size w3 (w3.alloc (.cells #[.int .i64 y0] 3))) := Lib.hid ((Below.refl _ _).alloc (Nat.le_refl _) _)
    have hl0 : Hid (Rd (w3.alloc (.cells #[.int .i64 y0] 3)) (.slice al p cl) (l.map encI)) := Lib.hid (Rd.below hl.out (hB3.out.trans (hbe0.out.mono hB3.out.size)))
    go_wp2_with (at_builtin; refine wpList_append_rd _ rfl _ _ 25 rfl w3.heap.size 3 i0 (.int .i64 0) 8 Try.underlying25 hi0 hz0 hz1 hz2 rfl _ 1 _ rfl hown0 _ (l.map encI) rfl hl0.out (oneCells _) (by have := hp.out; simp; unfold maxLen; omega) (by have := hp.out; simp; omega) (by simp) ?_)
    intro v8 w4 hown4 hgrow hat
    have hb4 : Below w3.heap.size w3 w4 := hbe0.out.grown hgrow (by simp) (fun b e => by simp [Value.ownBlock] at e; omega)
    have hown4' : w4.ownsRow w3.heap.size 3 1 v8 (1 + p) (((y0 : Int) :: l).map encI) := by
      have := hown4
      rw [← hp.out] at this
      exact this
    obtain ⟨g8, c8, rfl⟩ := row_form hown4' (by omega)
    have hR8 := Lib.hid (strip_rd hown4')
    have hg8 := (hown4'.lt g8 rfl).1
    have hg8S : Hid (S < g8) := Lib.hid (by have := hSw.out; omega)
    have hS4 := Lib.hid ((hb4.block S hSw.out).trans hS3.out)
    have hB4 := Lib.hid (hB3.out.trans (hb4.mono hB3.out.size))
    clear hown0 hbe0 hl0 hown4 hown4' hgrow hat hb4 hg8 hS3 hB3 hSw
    go_upto_block 0 with fail
    refine dmt0 (by kernel_rfl) (w := w4) (l := l) (s0 := [y0]) hp.out hS4.out (Rd.below hl.out hB4.out) (Rd.old (fun b e => by rw [e, hS.out]; exact Nat.le_refl _) hl.out) (by omega) (by omega) (Lib.hid ?_)
    intros
    rename_i hx
    rename World => w5
    obtain ⟨s1, hS5, hT5, hE1⟩ := hx
    have hB5 := Lib.hid (hB4.out.trans (hT5.below hB4.out.size (fun k hk e => by have := hS.out; omega)))
    have hR8b : RdI w5 (.slice (some ⟨g8, 0, none⟩) (1 + p) c8) ((y0 : Int) :: l) := Rd.touch hR8.out hT5 (fun b e e2 => by simp [Value.ownBlock] at e; have := hg8S.out; omega)
    replace hR8b := Lib.hid hR8b
    have hS5l := Lib.hid (Array.getElem?_eq_some_iff.1 hS5).1
    replace hS5 := Lib.hid hS5
    rw [hp.out] at hE1
    replace hE1 := Lib.hid hE1
    have hfr := Lib.hid (frontier_any (root := (y0 : Int)) (hh.out.below hB5.out) hL.out hr.out)
    clear hS4 hB4 hR8 hT5
    go_wp2_with fail
    rw [hn.out]
    refine hfr.out.mono ?_
    rintro e w6 ⟨G6, vs6, B, rfl, M6, hF6, hb6⟩
    rw [hRN.out] at hF6
    have hFr := Lib.hid hF6
    have hBl : B.length = L.length := hF6.1
    have hB6 := Lib.hid (hB5.out.trans (hb6.mono hB5.out.size))
    have hS6 := Lib.hid ((hb6.block S hS5l.out).trans hS5.out)
    have hS6l := Lib.hid (Nat.lt_of_lt_of_le hS5l.out hb6.size)
    have hlowB := Lib.hid (front_low2 hF6)
    have hit := Lib.hid (iterate_any (F := B) (l := (y0 : Int) :: l) (M6.rd (n := L.length) (cap := L.length) hBl.symm) (by rw [hBl]; exact hL.out) (fun r hrm => by have := (hlowB.out r hrm).1; have := hL.out; omega) (Rd.below hR8b.out hb6) (by have := hp.out; simp; omega))
    rw [← hn.out] at hit ⊢
    clear M6 hF6 hb6 hfr hR8b hS5 hS5l hB5 hBl
    go_wp2_with fail
    refine hit.out.mono ?_
    rintro e w7 ⟨v10, out, rfl, hO7, hI7, hb7⟩
    obtain ⟨a7, c7, rfl⟩ := own_form hO7
    have hB7 := Lib.hid (hB6.out.trans (hb7.mono hB6.out.size))
    have hS7 := Lib.hid ((hb7.block S hS6l.out).trans hS6.out)
    have hS7l := Lib.hid (Nat.lt_of_lt_of_le hS6l.out hb7.size)
    have hO7r := Lib.hid (strip_rd hO7)
    have hO7l : Hid (Off (fun b => b = S) (.slice a7 out.length c7) (out.map encI).length) := Lib.hid (fun _ b e e2 => by have := (hO7.lt b e).1; have := hS6l.out; omega)
    have hrng : Hid (∀ z ∈ out, 0 ≤ z ∧ z < n) := Lib.hid (fun z hz => by
      obtain ⟨y, e, s, z', -, -, he⟩ := (hI7.2 z).1 hz
      have := he.lt.2
      have := hFr.out.1
      have := hn.out
      omega)
    have hol : out.length ≤ 100000 := by
      have h3 : (out.map Int.toNat).Nodup := by
        rw [List.Nodup, List.pairwise_map]
        refine hI7.1.imp_of_mem (fun {x y} hx hy hxy => ?_)
        have := hrng.out x hx
        have := hrng.out y hy
        omega
      have h4 := h3.length_le_of_subset (l₂ := List.range n) (fun x hx => by
        obtain ⟨z, hz, rfl⟩ := List.mem_map.1 hx
        have := hrng.out z hz
        exact List.mem_range.2 (by omega))
      simp at h4
      omega
    have hIt := Lib.hid hI7
    clear hO7 hb7 hit hS6 hB6 hI7 hS6l
    go_upto_block 2 with fail
    refine dmt2 (by kernel_rfl) (w := w7) (l := out) (s0 := s1) rfl hS7.out hO7r.out hO7l.out (by omega) (by omega) hrng.out (Lib.hid ?_)
    intros
    rename_i hx
    rename World => w8
    obtain ⟨sp, hS8, hT8, hE2⟩ := hx
    have hB8 := Lib.hid (hB7.out.trans (hT8.below hB7.out.size (fun k hk e => by have := hS.out; omega)))
    have hSh := Lib.hid (shut_of (y0 := y0) hn.out h3 hFr.out hIt.out hE1.out hE2)
    have hP0 : Hid (y0 ∈ sp) := Lib.hid ((hE2 y0).2 (.inl ((hE1.out y0).2 (.inl (List.Mem.head _)))))
    have hS8l := Lib.hid (Array.getElem?_eq_some_iff.1 hS8).1
    replace hS8 := Lib.hid hS8
    have hbk := Lib.hid (back_any (hh.out.below hB8.out) hL.out hr.out)
    clear hS7 hS7l hB7 hT8 hE2 hE1 hIt hFr hrng hO7l hO7r hlowB
    go_wp2_with fail
    rw [hn.out]
    refine hbk.out.mono ?_
    rintro e w9 ⟨G9, vs9, rfl, M9, hb9⟩
    have hG9 := Lib.hid (M9.rd (n := L.length) (cap := L.length) (backL_len L).symm)
    have hB9 := Lib.hid (hB8.out.trans (hb9.mono hB8.out.size))
    have hS9 := Lib.hid ((hb9.block S hS8l.out).trans hS8.out)
    have hS9l := Lib.hid (Nat.lt_of_lt_of_le hS8l.out hb9.size)
    have hb10 : Below w9.heap.size w9 (w9.alloc (.cells #[.int .i64 y0] 3)) := (Below.refl _ _).alloc (Nat.le_refl _) _
    have hB10 := Lib.hid (hB9.out.trans (hb10.mono hB9.out.size))
    have hG10 := Lib.hid (hG9.out.below hb10)
    have hS10 := Lib.hid ((hb10.block S hS9l.out).trans hS9.out)
    have hf10 : RdI (w9.alloc (.cells #[.int .i64 y0] 3)) (.slice (some ⟨w9.heap.size, 0, none⟩) 1 1) [(y0 : Int)] := Or.inr ⟨w9.heap.size, 0, 1, rfl, by simp, fun j u hu => cell_new1 _ _ _ j u hu⟩
    have hrc := Lib.hid (reach_any (hh.out.below hB10.out) hL.out hr.out hf10 (by simp))
    have hS10l := Lib.hid (Array.getElem?_eq_some_iff.1 hS10.out).1
    rw [← hn.out] at hrc ⊢
    clear M9 hb9 hb10 hf10 hG9 hS9 hB9 hbk hS8 hS8l hB8 hS9l
    go_wp2_with fail
    refine hrc.out.mono ?_
    rintro e w11 ⟨R, sv, rfl, hR11, hsv, hRs, hb11⟩
    have hB11 := Lib.hid (hB10.out.trans (hb11.mono hB10.out.size))
    have hS11 := Lib.hid ((hb11.block S hS10l.out).trans hS10.out)
    have hG11 := Lib.hid (hG10.out.below hb11)
    have hsv2 : Hid (∀ x, x ∈ sv ↔ Way L y0 x) := Lib.hid (fun x => by
      rw [hsv]
      constructor
      · rintro ⟨f, hf, hw⟩
        have := List.mem_singleton.1 hf
        obtain rfl : f = y0 := by omega
        exact hw
      · intro hw
        exact ⟨y0, List.Mem.head _, hw⟩)
    have hrows := Lib.hid (back_rows (L := L) hn.out (by omega))
    have hne0 : (((n : Nat) : Int) != (n : Int)) = false := by simp
    rw [← hn.out] at hG11
    replace hR11 := Lib.hid hR11
    have hMl : Hid ((backL L).length = n) := Lib.hid (by rw [backL_len]; exact hn.out.symm)
    generalize backL L = M at hG11 hrows hMl
    obtain ⟨t, hDT⟩ := hDT.out
    replace hDT := Lib.hid hDT
    clear hrc hsv hRs hb11 hG10 hS10 hS10l hB10 hRN hl h hp
    have hmk := fun w' => make_bools n (by omega) w'
    go_wp2_with fail
    go_loopw [6, 14, 15, 16, 17, 18, 19, 20] (fun _ i _ _ _ _ _ _ wr => ∃ b : Nat, b ≤ n ∧ i = .int .i64 b ∧ Hid (Below w11.heap.size w11 wr)) (fun _ i _ _ _ _ _ _ _ => n - (intOf i).toNat)
    case atStart => exact ⟨0, Nat.zero_le _, rfl, Lib.hid (Below.refl _ _)⟩
    case round =>
      obtain ⟨b, hb, rfl, hBr⟩ := hrel
      by_cases hlt : b < n
      · have k1 : decide ((b : Int) < (n : Int)) = true := by simpa using hlt
        have k2 : (b : Int) < (n : Int) := by omega
        have hSr := Lib.hid ((hBr.out.block S (Array.getElem?_eq_some_iff.1 hS11.out).1).trans hS11.out)
        have hRr := Lib.hid ((hBr.out.block R (Array.getElem?_eq_some_iff.1 hR11.out).1).trans hR11.out)
        have c1 : wr.cell? ⟨S, b, none⟩ = some (.bool (decide (b ∈ sp))) := by rw [blk_cell hSr.out]; exact seenA_at hlt
        have c2 : wr.cell? ⟨R, b, none⟩ = some (.bool (decide (b ∈ sv))) := by rw [blk_cell hRr.out]; exact seenA_at hlt
        by_cases hbP : b ∈ sp
        · rw [decide_eq_true hbP] at c1
          replace hbP := Lib.hid hbP
          clear c2 hSr hRr
          go_wp2_with fail
          exact ⟨⟨b + 1, by omega, by go_num, hBr⟩, by simp [intOf]; omega⟩
        · rw [decide_eq_false hbP] at c1
          by_cases hbW : Way L y0 b
          · rw [decide_eq_true ((hsv2.out b).2 hbW)] at c2
            obtain ⟨z, hz⟩ := hDT.out.isN (P := fun u => u ∈ sp) hP0.out hbW
            have hctx := Lib.hid (show DT L y0 t ∧ Shut L y0 (fun u => u ∈ sp) ∧ IsN L y0 (fun u => u ∈ sp) b z ∧ Way L y0 b ∧ b ∉ sp from ⟨hDT.out, hSh.out, hz, hbW, hbP⟩)
            have hBq := Lib.hid (Bq.begin (L := L) (y0 := y0) (z := z) (P := fun u => u ∈ sp) hlt hbP hz.1)
            replace hbP := Lib.hid hbP
            replace hbW := Lib.hid hbW
            clear hz
            go_upto_region 27 with fail
            obtain ⟨W, hWd⟩ : ∃ W, W = wr.heap.size := ⟨_, rfl⟩
            have hN1 : (wr.alloc (.cells (seenA n []) 4)).heap[W]? = some (.cells (seenA n []) 4 (0, 0)) := at_newD hWd
            have hN2 : ((wr.alloc (.cells (seenA n []) 4)).alloc (.cells #[.int .i64 b] 3)).heap[W]? = some (.cells (seenA n []) 4 (0, 0)) := at_oldD hN1
            have hV2 : ((wr.alloc (.cells (seenA n []) 4)).alloc (.cells #[.int .i64 b] 3)).heap[W + 1]? = some (.cells #[.int .i64 b] 3 (0, 0)) := at_newD (by rw [hWd]; simp)
            have hb12 : Below wr.heap.size wr ((wr.alloc (.cells (seenA n []) 4)).alloc (.cells #[.int .i64 b] 3)) := ((Below.refl _ _).alloc (Nat.le_refl _) _).alloc (by simp) _
            rw [← hWd] at hb12
            rw [← hWd]
            go_upto_region 28 with fail
            rw [← hWd]
            generalize ((wr.alloc (.cells (seenA n []) 4)).alloc (.cells #[.int .i64 b] 3)) = w12 at hN2 hV2 hb12 ⊢
            have f2 : w12.frozen? ⟨W, b, none⟩ = false := by simp [World.frozen?, hN2]
            have c3 : ∃ u, w12.cell? ⟨W, b, none⟩ = some u := ⟨_, by rw [blk_cell hN2]; exact seenA_at hlt⟩
            obtain ⟨u3, c3⟩ := c3
            have hN3 := Lib.hid (show (w12.setCell ⟨W, b, none⟩ (.bool true)).heap[W]? = some (.cells (seenA n [b]) 4 (0, 0)) from by rw [blk_set _ hN2, seenA_set hlt])
            have hb13 := Lib.hid (hb12.setCell (p := ⟨W, b, none⟩) (Nat.le_refl _) (.bool true))
            have hQ3 : Hid (Win (w12.setCell ⟨W, b, none⟩ (.bool true)) (W + 1) (.slice (some ⟨W + 1, 0, none⟩) 1 1) (ql [b])) := Lib.hid (by
              have h0 : Win w12 (W + 1) (.slice (some ⟨W + 1, 0, none⟩) 1 1) (ql [b]) := ⟨W + 1, 0, 1, #[.int .i64 b], rfl, by simp [ql], Nat.le_refl _, hV2, by simp, fun j x hj => by
                match j, hj with
                | 0, hj =>
                  simp [ql] at hj
                  subst hj
                  rfl⟩
              exact h0.touch (S := fun k => k = W) ((Touch.refl w12 (fun k => k = W)).setCell (a := ⟨W, b, none⟩) (fun _ => rfl) _) (fun k hk e => by omega))
            replace hWd := Lib.hid hWd
            clear hN1 hN2 hV2 hb12 c1 c2
            go_upto_block 6 with fail
            generalize (w12.setCell ⟨W, b, none⟩ (.bool true)) = w13 at hN3 hb13 hQ3 ⊢
            refine dmt6 (by kernel_rfl) (w := w13) (w0 := wr) (M := M) (t := t) (z := z) (s := [b]) (q := [b]) (v := 0) hWd.out hSr.out hRr.out (hG11.out.below hBr.out) hMl.out (by omega) hctx.out hsv2.out hP0.out hn.out.symm hrows.out hN3.out hQ3.out hb13.out hBq.out (Lib.hid ?_)
            intros
            rename_i hx
            rename World => w14
            obtain ⟨rfl, hb14⟩ := hx
            have hB14 := Lib.hid (hBr.out.trans ((by rw [hWd.out] at hb14; exact hb14 : Below wr.heap.size wr w14).mono hBr.out.size))
            clear hb14 f2 c3 hN3 hb13 hQ3 hSr hRr hBr hctx hBq
            go_wp2_with fail
            exact ⟨⟨b + 1, by omega, by go_num, hB14⟩, by simp [intOf]; omega⟩
          · rw [decide_eq_false (fun h => hbW ((hsv2.out b).1 h))] at c2
            replace hbP := Lib.hid hbP
            replace hbW := Lib.hid hbW
            clear hSr hRr
            go_wp2_with fail
            exact ⟨⟨b + 1, by omega, by go_num, hBr⟩, by simp [intOf]; omega⟩
      · obtain rfl : b = n := by omega
        have k1 : decide ((b : Int) < (b : Int)) = false := by simp
        have hBz := Lib.hid (hB11.out.trans (hBr.out.mono hB11.out.size))
        clear hBr hmk
        go_wp2_with fail
        refine (hW.out _).mono ?_
        rintro e w2 ⟨rfl, hb2⟩
        have hfin := Lib.hid (hBz.out.trans (hb2.mono hBz.out.size))
        clear hb2
        go_wp2_with fail
        go_ret
        exact ⟨rfl, hfin.out⟩
end Go.Proofs.Yteipncggndefmaa
