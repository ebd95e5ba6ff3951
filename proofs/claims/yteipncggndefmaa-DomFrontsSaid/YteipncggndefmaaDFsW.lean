/- The law DomFronts, walked. -/
import Derived.Test.YteipncggndefmaaDFsB
import Derived.Test.YteipncggndefmaaDFsC
import Derived.Test.YteipncggndefmaaDFsE
namespace Go.Proofs.Yteipncggndefmaa
open Go.RowKit Go.Maps Go.Shelf

theorem want_front {L B : List (List Int)} {y0 n : Nat} {t : List Int} (hT : DT L y0 t) (hn : n = L.length) (hF : FrontOf L y0 B) {a y : Nat} {r : List Int} (hr : B[a]? = some r) : decide ((y : Int) ∈ r) = wantB (normL L) t n a y n := by
  have hd : ∀ a b : Nat, domL n t a b = true ↔ Dmn L y0 a b := fun a b => by rw [hn]; exact hT.domL (Nat.le_refl _) a b
  have he : ∀ x y : Nat, ((y : Int) ∈ (normL L)[x]?.getD []) ↔ Edge L x y := fun x y => by
    rw [← edge_norm]
    unfold Edge
    constructor
    · intro h
      cases hx : (normL L)[x]? with
      | none => rw [hx] at h; cases h
      | some r =>
        rw [hx] at h
        have := (norm_form L r (List.mem_of_getElem? hx)).2 _ h
        exact ⟨by omega, r, rfl, h⟩
    · rintro ⟨-, r, hr, h⟩
      rw [hr]; exact h
  rw [Bool.eq_iff_iff, decide_eq_true_eq, (hF.2 a r hr).2]
  unfold wantB FrP FrBy
  rw [List.any_eq_true]
  constructor
  · rintro ⟨y', e, x, h1, h2, h3⟩
    obtain rfl : y = y' := by omega
    refine ⟨x, List.mem_range.2 (by have := h1.lt.1; omega), ?_⟩
    simp only [Bool.and_eq_true, Bool.or_eq_true, decide_eq_true_eq, Bool.not_eq_true']
    refine ⟨(he x y).2 h1, (hd a x).2 h2, h3.imp id (fun h => Bool.eq_false_iff.2 (fun h' => h ((hd a y).1 h')))⟩
  · rintro ⟨x, -, h⟩
    simp only [Bool.and_eq_true, Bool.or_eq_true, decide_eq_true_eq, Bool.not_eq_true'] at h
    obtain ⟨h1, h2, h3⟩ := h
    exact ⟨y, rfl, x, (he x y).1 h1, (hd a x).1 h2, h3.imp id (fun h h' => by rw [(hd a y).2 h'] at h; cases h)⟩
theorem front_low {L B : List (List Int)} {y0 : Nat} (hF : FrontOf L y0 B) : ∀ r ∈ B, r.length ≤ L.length ∧ ∀ z ∈ r, 0 ≤ z ∧ z < L.length := by
  intro r hrm
  obtain ⟨i, hi, ei⟩ := List.getElem_of_mem hrm
  obtain ⟨s1, s2⟩ := hF.2 i r (by rw [List.getElem?_eq_getElem hi, ei])
  have hv : ∀ z ∈ r, 0 ≤ z ∧ z < L.length := fun z hz => by
    obtain ⟨y, e, x, he, -⟩ := (s2 z).1 hz
    have := he.lt.2
    omega
  refine ⟨?_, hv⟩
  have h3 : (r.map Int.toNat).Nodup := by
    rw [List.Nodup, List.pairwise_map]
    refine s1.imp_of_mem (fun {a b} ha hb hab => ?_)
    have := hv a ha
    have := hv b hb
    omega
  have h4 := h3.length_le_of_subset (l₂ := List.range L.length) (fun x hx => by
    obtain ⟨z, hz, rfl⟩ := List.mem_map.1 hx
    have := hv z hz
    exact List.mem_range.2 (by omega))
  simpa using h4

theorem rdx_kept {U : Nat → Prop} {w w' : World} {v : Value} {L : List (List Int)} (h : RdX U w v L) (hT : Touch w w' U) : RdX U w' v L := by
  obtain ⟨vs, h1, h2, h3, h4⟩ := h
  exact ⟨vs, Rd.off h1 hT (by rw [h2]; exact h3), h2, h3, fun i u l hu hl => ⟨Rd.off (h4 i u l hu hl).1 hT (by rw [List.length_map]; exact (h4 i u l hu hl).2), (h4 i u l hu hl).2⟩⟩

set_option maxRecDepth 20000 in
set_option maxHeartbeats 8000000 in
theorem domFronts_any {w : World} {v vl : Value} {L : List (List Int)} {root : Int} {l : List Int} (h : RdG w v L) (hl : RdI w vl l) :
    Calls Try.prog 7 #[v, .int .i64 root, vl] w fun e w' => e = .returned (.bool true) ∧ Below w.heap.size w w' := by
  obtain ⟨av, c0, rfl⟩ := h.form
  obtain ⟨al, cl, rfl⟩ := hl.shape
  have hG := Lib.hid (great9_any h)
  have hW := Lib.hid (fun w => wakes9_g (w := w))
  obtain ⟨p, hp⟩ : ∃ p, p = l.length := ⟨_, rfl⟩
  rw [← hp] at hl ⊢
  replace h := Lib.hid h
  replace hl := Lib.hid hl
  replace hp := Lib.hid hp
  go_enter Try.func7, Try.ntmps7
  go_wp2_with fail
  refine hG.out.mono ?_
  rintro e w1 ⟨q, rfl, rfl, hq⟩
  cases q with
  | true =>
    clear hq
    go_wp2_with fail
    refine (hW.out _).mono ?_
    rintro e w2 ⟨rfl, hb2⟩
    go_wp2_with fail
    go_ret
    exact ⟨rfl, hb2⟩
  | false =>
    by_cases hp20 : p ≤ 20
    · have j1 : decide ((p : Int) > 20) = false := by simp; omega
      have j1n : decide (20 < p) = false := by simp; omega
      obtain ⟨hL, hr⟩ := hq rfl
      have hL2 : L.length ≤ 100000 := by omega
      have hr2 : Hid (∀ r ∈ L, r.length ≤ 100000) := Lib.hid (fun r hrm => by have := hr r hrm; omega)
      have hT := Lib.hid (tree_any (root := root) h.out hL2 hr2.out)
      clear hr hq
      go_wp2_with fail
      refine hT.out.mono ?_
      rintro e w2 ⟨TB, t, rfl, hI, hD, htl, -, hb2⟩
      have hDT := Lib.hid hD.dt
      have hRt := Lib.hid (hI.rd (n := L.length) htl.symm)
      have hB2 := Lib.hid hb2
      have htl3 := Lib.hid htl
      have hf := Lib.hid (frontier_any (root := root) (h.out.below hb2) hL2 hr2.out)
      clear hT hI hD hb2 htl
      go_wp2_with fail
      refine hf.out.mono ?_
      rintro e w3 ⟨G, vs, B, rfl, M3, hF3, hb3⟩
      have hB3 := Lib.hid (hB2.out.trans (hb3.mono hB2.out.size))
      have hRt3 := Lib.hid (Rd.below hRt.out hb3)
      have hG3 := Lib.hid (M3.rd (n := L.length) (cap := L.length) hF3.1.symm)
      have hFr := Lib.hid hF3
      have hno := Lib.hid (norm_any (h.out.below hB3.out) hL2 hr2.out)
      clear M3 hF3 hb3 hf hRt hB2
      go_wp2_with fail
      refine hno.out.mono ?_
      rintro e w4 ⟨GN, vsN, rfl, M4, hb4⟩
      have hB4 := Lib.hid (hB3.out.trans (hb4.mono hB3.out.size))
      have hRt4 := Lib.hid (Rd.below hRt3.out hb4)
      have hG4 := Lib.hid (hG3.out.below hb4)
      have hN4 := Lib.hid (M4.rd (n := L.length) (cap := L.length) (normL_len L).symm)
      obtain ⟨n, hn⟩ : ∃ n, n = L.length := ⟨_, rfl⟩
      have hwant := Lib.hid (fun (a y : Nat) (r : List Int) (hra : B[a]? = some r) => want_front (y := y) hDT.out hn hFr.out hra)
      have hlow := Lib.hid (front_low hFr.out)
      have hNr : Hid (∀ r ∈ normL L, r.length ≤ 100000) := Lib.hid (fun r hrm => by
        obtain ⟨s, hs, rfl⟩ := List.mem_map.1 hrm
        exact Nat.le_trans (rowL_len _ _) (hr2.out s hs))
      rw [← hn] at hL hL2 htl3 hRt4 hG4 hN4 hlow ⊢
      have hne0 : (((n : Nat) : Int) != (n : Int)) = false := by simp
      replace hn := Lib.hid hn
      clear M4 hb4 hno hRt3 hG3 hB3
      go_wp2_with fail
      go_loopw [10, 11, 12, 13, 14, 15, 16] (fun i _ _ _ _ _ _ wr => ∃ a : Nat, a ≤ n ∧ i = .int .i64 a ∧ wr = w4) (fun i _ _ _ _ _ _ _ => n - (intOf i).toNat)
      case atStart => exact ⟨0, Nat.zero_le _, rfl, rfl⟩
      case round =>
        obtain ⟨a, ha, rfl, rfl⟩ := hrel
        by_cases hlta : a < n
        · have k1 : decide ((a : Int) < (n : Int)) = true := by simpa using hlta
          go_wp2_with fail
          go_loopw [11, 12, 13, 14, 15, 16] (fun i _ _ _ _ _ wx => ∃ y : Nat, y ≤ n ∧ i = .int .i64 y ∧ wx = wr) (fun i _ _ _ _ _ _ => n - (intOf i).toNat)
          case atStart => exact ⟨0, Nat.zero_le _, rfl, rfl⟩
          case round =>
            obtain ⟨y, hy, rfl, rfl⟩ := hrel
            by_cases hlty : y < n
            · have k2 : decide ((y : Int) < (n : Int)) = true := by simpa using hlty
              go_upto_block 3 with fail
              refine dfr3 (by kernel_rfl) (w := wr) (t := t) (N := normL L) (B := B) hRt4.out htl3.out (by omega) hN4.out (by rw [normL_len]; exact hn.out.symm) hNr.out hG4.out (by have := hFr.out.1; have := hn.out; omega) (fun r hrm => by have := (hlow.out r hrm).1; omega) hlta (hwant.out a y) (Lib.hid ?_)
              intros
              rename_i hx
              subst hx
              go_wp2_with fail
              exact ⟨⟨y + 1, by omega, by go_num, by first | rfl | trivial⟩, by simp [intOf]; omega⟩
            · obtain rfl : y = n := by omega
              have k2 : decide ((y : Int) < (y : Int)) = false := by simp
              go_wp2_with fail
              exact ⟨⟨a + 1, by omega, by go_num, by first | rfl | trivial⟩, by simp [intOf]; omega⟩
        · obtain rfl : a = n := by omega
          have k1 : decide ((a : Int) < (a : Int)) = false := by simp
          have hit := Lib.hid (iterate_any (F := B) (l := l) hG4.out (by have := hFr.out.1; have := hn.out; omega) (fun r hrm => by have := (hlow.out r hrm).1; omega) (Rd.below hl.out hB4.out) (by have := hp.out; omega))
          go_wp2_with fail
          refine hit.out.mono ?_
          rintro e w5 ⟨v5, out, rfl, hO5, hIt, hb5⟩
          obtain ⟨a5, c5, rfl⟩ := own_form hO5
          have hmk := fun w' => make_bools a (by omega) w'
          have hO5r := strip_rd hO5
          have hOl := Lib.hid (fun b (e : (Value.slice a5 out.length c5).ownBlock = some b) => (hO5.lt b e).2)
          have hBl : B.length = a := by have := hFr.out.1; have := hn.out; omega
          have hrng : Hid (∀ z ∈ out, 0 ≤ z ∧ z < a) := Lib.hid (fun z hz => by
            obtain ⟨y, e, s, z', -, -, he⟩ := (hIt.2 z).1 hz
            have := he.lt.2
            omega)
          have hmem : Hid (∀ x, x ∈ natsOf out out.length ↔ ItR B l x) := Lib.hid (fun x => by
            unfold natsOf
            rw [List.take_length, List.mem_map]
            constructor
            · rintro ⟨z, hz, rfl⟩
              obtain ⟨y, e, hy⟩ := (hIt.2 z).1 hz
              rw [e, Int.toNat_natCast]
              exact hy
            · intro hx
              exact ⟨x, (hIt.2 x).2 ⟨x, rfl, hx⟩, by simp⟩)
          have hol : out.length ≤ 100000 := by
            have h3 : (out.map Int.toNat).Nodup := by
              rw [List.Nodup, List.pairwise_map]
              refine hIt.1.imp_of_mem (fun {x y} hx hy hxy => ?_)
              have := hrng.out x hx
              have := hrng.out y hy
              omega
            have h4 := h3.length_le_of_subset (l₂ := List.range a) (fun x hx => by
              obtain ⟨z, hz, rfl⟩ := List.mem_map.1 hx
              have := hrng.out z hz
              exact List.mem_range.2 (by omega))
            simp at h4
            omega
          have hrise := Lib.hid hIt.1
          have hB5 := Lib.hid (hB4.out.trans (hb5.mono hB4.out.size))
          have hG5 := Lib.hid (hG4.out.below hb5)
          replace hBl := Lib.hid hBl
          replace hO5r := Lib.hid hO5r
          clear hO5 hIt hb5 hit hwant hRt4 hN4 hG4 hB4 htl3 hDT hNr hne0
          go_upto_block 10 with fail
          have hb6 : Below w5.heap.size w5 (w5.alloc (.cells (seenA a []) 4)) := (Below.refl _ _).alloc (Nat.le_refl _) _
          have hS6 : (w5.alloc (.cells (seenA a []) 4)).heap[w5.heap.size]? = some (.cells (seenA a []) 4 (0, 0)) := at_newD rfl
          have hO6 := Lib.hid (Rd.below hO5r.out hb6)
          have hB6 := Lib.hid (hB5.out.trans (hb6.mono hB5.out.size))
          obtain ⟨S1, hS1⟩ : ∃ S1, S1 = w5.heap.size := ⟨_, rfl⟩
          have hG6 := Lib.hid ((hG5.out.off (U := fun b => b = S1) (fun b e => by omega)).below hb6)
          rw [← hS1] at hS6 ⊢
          have hS1w : Hid (w.heap.size ≤ S1) := Lib.hid (by have := hB5.out.size; omega)
          have hOf := Lib.hid (fun b e => show ¬ b = S1 from by have := hOl.out b e; omega)
          generalize (w5.alloc (.cells (seenA a []) 4)) = w6 at hS6 hO6 hB6 hG6 ⊢
          replace hS1 := Lib.hid hS1
          replace hS6 := Lib.hid hS6
          clear hb6 hO5r hB5 hG5 hOl
          refine dfr10 (by kernel_rfl) (w := w6) hS6.out hO6.out hOf.out hL2 hol hrise.out hrng.out (Lib.hid ?_)
          intros
          rename_i hx
          rename World => w7
          obtain ⟨hS7, hT7⟩ := hx
          have hB7 := Lib.hid (hB6.out.trans (hT7.below hB6.out.size (fun k hk e => by have := hS1w.out; omega)))
          have hG7 := (rdx_kept hG6.out hT7).rd
          have hS7l := (Array.getElem?_eq_some_iff.1 hS7).1
          obtain ⟨S2, hS2⟩ : ∃ S2, S2 = w7.heap.size := ⟨_, rfl⟩
          have hb8 : Below w7.heap.size w7 (w7.alloc (.cells (seenA a []) 4)) := (Below.refl _ _).alloc (Nat.le_refl _) _
          have hN8 : (w7.alloc (.cells (seenA a []) 4)).heap[S2]? = some (.cells (seenA a []) 4 (0, 0)) := at_newD hS2
          have hA8 : (w7.alloc (.cells (seenA a []) 4)).heap[S1]? = some (.cells (seenA a (natsOf out out.length)) 4 (0, 0)) := at_oldD hS7
          have hX8 := Lib.hid ((hG7.off (U := fun b => b = S2) (fun b e => by omega)).below hb8)
          have hB8 := Lib.hid (hB7.out.trans (hb8.mono hB7.out.size))
          have hS12 : S1 ≠ S2 := by omega
          have hS2w : Hid (w.heap.size ≤ S2) := Lib.hid (by have := hB7.out.size; omega)
          replace hS2 := Lib.hid hS2
          replace hN8 := Lib.hid hN8
          replace hA8 := Lib.hid hA8
          clear hb8 hG7 hS7 hT7 hB7 hG6 hS6 hO6 hB6 hOf hrise hrng
          go_wp2_with fail
          rw [← hS2.out]
          generalize (w7.alloc (.cells (seenA a []) 4)) = w8 at hN8 hA8 hX8 hB8 ⊢
          have hlx : Hid (∀ wr, Touch w8 wr (fun b => b = S2) → RdI wr (.slice al p cl) l) := Lib.hid (fun wr hT => Rd.below hl.out (hB8.out.trans (hT.below hB8.out.size (fun k hk e => by have := hS2w.out; omega))))
          go_loopg [21, 22, 23, 24, 25] (2 * unseen a [] + 1) (fun g v _ _ _ _ wr => ∃ (s : List Nat) (mr : Bool), v = .bool mr ∧ Hid (wr.heap[S2]? = some (.cells (seenA a s) 4 (0, 0))) ∧ Hid (Touch w8 wr (fun b => b = S2)) ∧ Hid (∀ y ∈ s, ItR B l y) ∧ Hid (mr = false → ∀ y, y ∈ s ↔ ItR B l y) ∧ Hid (g = 2 * unseen a s + (if mr = true then 1 else 0)))
          case atStart => exact ⟨[], true, rfl, hN8, Lib.hid (Touch.refl _ _), Lib.hid (fun y hy => by cases hy), Lib.hid (fun h => by cases h), Lib.hid rfl⟩
          case round =>
            clear hN8
            obtain ⟨s, mr, rfl, hN, hT, hsd, hcl, hg⟩ := hrel
            cases mr with
            | false =>
              have heq := Lib.hid (hcl.out rfl)
              have hAw := Lib.hid ((hT.out.block S1 (Array.getElem?_eq_some_iff.1 hA8.out).1 hS12).trans hA8.out)
              have hBw := Lib.hid (hB8.out.trans (hT.out.below hB8.out.size (fun k hk e => by have := hS2w.out; omega)))
              clear hcl hg hT hsd
              go_upto_block 20 with fail
              refine dfr20 (by kernel_rfl) (s1 := natsOf out out.length) (s2 := s) hAw.out hN.out (fun x => by rw [hmem.out, heq.out]) hL2 (Lib.hid ?_)
              intros
              rename_i hx
              obtain ⟨q, rfl⟩ := hx
              have hBz := Lib.hid (below_drawn hBw.out q)
              clear hAw hBw hN heq
              go_wp2_with fail
              refine (hW.out _).mono ?_
              rintro e wz ⟨rfl, hbz⟩
              have hfin := Lib.hid (hBz.out.trans (hbz.mono hBz.out.size))
              clear hbz
              go_wp2_with fail
              go_ret
              exact ⟨rfl, hfin.out⟩
            | true =>
              have hXw := Lib.hid (rdx_kept hX8.out hT.out)
              have hlw : Hid (∀ wx, Touch wr wx (fun b => b = S2) → RdI wx (.slice al p cl) l) := Lib.hid (fun wx hT2 => hlx.out wx (hT.out.trans hT2))
              clear hcl
              go_upto_block 14 with fail
              refine dfr14 (by kernel_rfl) (w := wr) (l := l) (s := s) (B := B) hN.out hXw.out hBl.out (fun r hrm => by have := (hlow.out r hrm).1; omega) (fun r hrm => (hlow.out r hrm).2) hp.out hlw.out (by omega) hL2 hsd.out (Lib.hid ?_)
              intros
              rename_i hx
              obtain ⟨s2, mr2, e21, hN2, hT2, hM2⟩ := hx
              subst e21
              have hTn := Lib.hid (hT.out.trans hT2)
              have hsd2 := Lib.hid hM2.sound
              have hcl2 : Hid (mr2 = false → ∀ y, y ∈ s2 ↔ ItR B l y) := Lib.hid (fun e => by
                subst e
                have h := hM2
                rw [← hBl.out] at h
                exact h.closed)
              have hgl : Hid (2 * unseen a s2 + (if mr2 = true then 1 else 0) < gk) := Lib.hid (by
                rw [hg.out]
                have h1 := hM2.le
                cases mr2 with
                | true => have h2 := hM2.lt rfl; simp; omega
                | false => simp; omega)
              replace hN2 := Lib.hid hN2
              clear hM2 hT2 hN hT hsd hg hXw hlw
              go_wp2_with fail
              go_roundg (2 * unseen a s2 + (if mr2 = true then 1 else 0))
              case measure => exact hgl.out
              case rel => exact ⟨s2, mr2, rfl, hN2, hTn, hsd2, hcl2, Lib.hid rfl⟩
    · have j1 : decide ((p : Int) > 20) = true := by simp; omega
      have j1n : decide (20 < p) = true := by simp; omega
      clear hq
      go_wp2_with fail
      refine (hW.out _).mono ?_
      rintro e w2 ⟨rfl, hb2⟩
      go_wp2_with fail
      go_ret
      exact ⟨rfl, hb2⟩
end Go.Proofs.Yteipncggndefmaa
