/- The document's own walk, and its order. -/
import Derived.Test.YtfhckabhaidhmaaGSame
namespace Go.Proofs.Ytfhckabhaidhmaa
open Go.RowKit Go.Maps Go.Shelf

/-- How the document's own walk stands: what is seen, what was left. -/
structure RW (w0 wr : World) (S n : Nat) (s : List Nat) (lv : Value) (o : List Nat) : Prop where
  bs : wr.heap[S]? = some (.cells (seenA n s) 4 (0, 0))
  T : Touch w0 wr (fun b => b = S)
  rd : RdI wr lv (o.map fun x : Nat => (x : Int))
  off : Off (fun b => b = S) lv o.length
def RWRow (L : List (List Int)) (w0 wr : World) (S : Nat) (r : List Int) (sB s1 o1 : List Nat) (lv j : Value) : Prop :=
  ∃ (m : Nat) (s o : List Nat), m ≤ r.length ∧ j = .int .i64 m ∧ RW w0 wr S L.length s lv o ∧ Kids L (r.drop m) s o s1 o1 ∧ (∀ x ∈ sB, x ∈ s) ∧ o.length + unseen L.length s ≤ 100000
theorem Kids.few {L : List (List Int)} {l : List Int} {s o s' o' : List Nat} (h : Kids L l s o s' o') : o'.length + unseen L.length s' ≤ o.length + unseen L.length s := by
  induction h with
  | nil => exact Nat.le_refl _
  | skip _ _ ih => exact ih
  | go hy hs _ _ _ ih1 ih2 =>
    have := unseen_lt hy hs
    simp only [List.length_cons] at ih2
    omega

theorem lit_own (w : World) (x : Int) : (w.alloc (.cells #[.int .i64 x] 3)).ownsRow w.heap.size 3 1 (.slice (some ⟨w.heap.size, 0, none⟩) 1 1) 1 [.int .i64 x] :=
  ⟨rfl, .inr ⟨w.heap.size, 1, #[.int .i64 x], rfl, Nat.le_refl _, heap_alloc_new _ _, Nat.le_refl _, by unfold maxLen; omega, rfl, rfl⟩⟩
set_option maxRecDepth 20000 in
set_option maxHeartbeats 8000000 in
theorem rwalk_any {L : List (List Int)} {S : Nat} (hL : L.length ≤ 100000) (hr : ∀ r ∈ L, r.length ≤ 100000 ∧ ∀ x ∈ r, 0 ≤ x ∧ x < L.length) : ∀ (d : Nat) (w : World) (gv lv : Value) (y : Nat) (r : List Int) (s o s1 o1 : List Nat),
    RdX (fun b => b = S) w gv L → w.heap[S]? = some (.cells (seenA L.length s) 4 (0, 0)) → RdI w lv (o.map fun x : Nat => (x : Int)) → Off (fun b => b = S) lv o.length → y < L.length → y ∉ s → L[y]? = some r → Kids L r (y :: s) o s1 o1 → unseen L.length s ≤ d → o.length + unseen L.length s ≤ 100000 →
    Calls Try.prog 34 #[gv, .int .i64 y, .slice (some ⟨S, 0, none⟩) L.length L.length, lv] w fun e w' => ∃ lv', e = .returned lv' ∧ RW w w' S L.length s1 lv' (y :: o1) ∧ ∀ b, lv'.ownBlock = some b → w.heap.size ≤ b := by
  intro d
  induction d with
  | zero =>
    intro w gv lv y r s o s1 o1 _ _ _ _ hy hs _ _ hd _
    have := unseen_lt hy hs
    omega
  | succ d ih =>
    intro w gv lv y r s o s1 o1 hX hbs hrd hoff hy hs hry hk hd hfew
    obtain ⟨b, off, cg, u, rfl, hb, hbS, hcell, hrr, hro⟩ := hX.at hry
    obtain ⟨ar, cr, rfl⟩ := hrr.shape
    obtain ⟨hrl, hrx⟩ := hr r (List.mem_of_getElem? hry)
    obtain ⟨alv, clv, rfl⟩ := hrd.shape
    rw [List.length_map] at *
    have hlt := unseen_lt hy hs
    have hsx : w.cell? ⟨S, y, none⟩ = some (.bool (decide (y ∈ s))) := by rw [blk_cell hbs]; exact seenA_at hy
    have hsf : w.frozen? ⟨S, y, none⟩ = false := by simp [World.frozen?, hbs]
    have hT0 : Touch w (w.setCell ⟨S, y, none⟩ (.bool true)) (fun b => b = S) := (Touch.refl w (fun b => b = S)).setCell (a := ⟨S, y, none⟩) (fun _ => rfl) _
    have hW0 : RW w (w.setCell ⟨S, y, none⟩ (.bool true)) S L.length (y :: s) (.slice alv o.length clv) o := ⟨by rw [blk_set _ hbs, seenA_set hy], hT0, Rd.off hrd hT0 (by rw [List.length_map, List.length_map]; exact hoff), hoff⟩
    have i1 : (y : Int) < (L.length : Int) := by omega
    replace hr := Lib.hid hr
    replace hrx := Lib.hid hrx
    replace hk := Lib.hid hk
    replace ih := Lib.hid ih
    clear hT0 hoff
    go_enter Try.func34, Try.ntmps34
    go_wp2_with fail
    go_loopw [3, 9] (fun lv j wx => RWRow L w wx S r (y :: s) s1 o1 lv j) (fun _ j _ => r.length - (intOf j).toNat)
    case atStart => exact ⟨0, y :: s, o, Nat.zero_le _, rfl, hW0, by rw [List.drop_zero]; exact hk.out, fun _ h => h, by omega⟩
    case round =>
      clear hW0 hsx hsf hrd
      obtain ⟨m, s2, o2, hm, rfl, hW, hk2, hsub, hfew2⟩ := hrel
      have hcell2 := (cell_off hW.T hb hbS).trans hcell
      obtain ⟨al2, cl2, rfl⟩ := hW.rd.shape
      rw [List.length_map] at *
      by_cases hltm : m < r.length
      · obtain ⟨x, hx⟩ : ∃ x, r[m]? = some x := ⟨_, List.getElem?_eq_getElem hltm⟩
        obtain ⟨hx0, hxn⟩ := hrx.out x (List.mem_of_getElem? hx)
        obtain ⟨z, rfl⟩ : ∃ z : Nat, x = z := ⟨x.toNat, by omega⟩
        obtain ⟨b2, off2, cap2, e2, hc2⟩ := RdI.cell (Rd.off hrr hW.T (by rw [List.length_map]; exact hro)) hx
        simp only [Value.slice.injEq] at e2
        obtain ⟨rfl, -, rfl⟩ := e2
        have hzn : z < L.length := by omega
        have i2 : (m : Int) < (r.length : Int) := by omega
        have i3 : (z : Int) < (L.length : Int) := hxn
        have hsz : wr.cell? ⟨S, z, none⟩ = some (.bool (decide (z ∈ s2))) := by rw [blk_cell hW.bs]; exact seenA_at hzn
        have hdrop : r.drop m = (z : Int) :: r.drop (m + 1) := by
          rw [List.drop_eq_getElem_cons hltm, (List.getElem?_eq_some_iff.1 hx).2]
        rw [hdrop] at hk2
        have hnx := hk2.next
        replace hdrop := Lib.hid hdrop
        by_cases hin : z ∈ s2
        · rw [decide_eq_true hin] at hsz
          have hk3 := Lib.hid (hnx.1 (fun _ => by simpa using hin))
          clear hnx hk2 hin
          go_wp2_with fail
          exact ⟨⟨m + 1, s2, o2, by omega, by go_num, hW, hk3.out, hsub, hfew2⟩, by simp [intOf]; omega⟩
        · rw [decide_eq_false hin] at hsz
          obtain ⟨s3, o3, hC, hk3⟩ := hnx.2 ⟨hx0, hxn⟩ (by simpa using hin)
          rw [Int.toNat_natCast] at hC
          obtain ⟨rz, s4, o4, hrz, hkz, e3, e4⟩ : ∃ rz s4 o4, L[z]? = some rz ∧ Kids L rz (z :: s2) o2 s4 o4 ∧ s3 = s4 ∧ o3 = z :: o4 := by
            cases hC with
            | cons h1 _ h2 h3 =>
              rw [List.drop_zero] at h2
              obtain ⟨e3, e4⟩ := h3.done
              exact ⟨_, _, _, h1, h2, e3, e4⟩
          subst e3 e4
          have hun : unseen L.length s2 ≤ d := by
            have := unseen_le (n := L.length) hsub
            omega
          have hC2 := Lib.hid (ih.out wr _ _ z rz s2 o2 s3 o4 (hX.touch hW.T) hW.bs hW.rd hW.off hzn hin hrz hkz hun hfew2)
          have hfew3 : (z :: o4).length + unseen L.length s3 ≤ 100000 := by
            have h1 := hkz.few
            have h2 := unseen_lt hzn hin
            simp only [List.length_cons]
            omega
          have hsub3 : ∀ x ∈ y :: s, x ∈ s3 := fun x hx => hkz.sub x (List.Mem.tail _ (hsub x hx))
          replace hk3 := Lib.hid hk3
          replace hsub3 := Lib.hid hsub3
          replace hfew3 := Lib.hid hfew3
          have hWT := hW.T
          clear hnx hk2 hin hkz hC hsub hW hun
          go_wp2_with fail
          refine hC2.out.mono ?_
          rintro e w3 ⟨lv3, rfl, hW3, -⟩
          have hW4 : RW w w3 S L.length s3 lv3 (z :: o4) := ⟨hW3.bs, hWT.trans hW3.T, hW3.rd, hW3.off⟩
          clear hW3
          go_wp2_with fail
          exact ⟨⟨m + 1, s3, z :: o4, by omega, by go_num, hW4, hk3.out, hsub3.out, hfew3.out⟩, by simp [intOf]; omega⟩
      · obtain rfl : m = r.length := by omega
        rw [List.drop_length] at hk2
        obtain ⟨rfl, rfl⟩ : s2 = s1 ∧ o2 = o1 := by cases hk2; exact ⟨rfl, rfl⟩
        have i2 : decide ((r.length : Int) < (r.length : Int)) = false := by simp
        obtain ⟨i0, hi0, hz0, hz1, hz2⟩ := info_parts infoI1
        have hb1 : Below wr.heap.size wr (wr.alloc (.cells #[.int .i64 y] 3)) := (Below.refl _ _).alloc (Nat.le_refl _) _
        have hrd2 := Lib.hid (Rd.below hW.rd hb1)
        have ho2 : o2.length ≤ 100000 := by omega
        have hle : w.heap.size ≤ wr.heap.size := hW.T.size
        have hSlt : S < wr.heap.size := (Array.getElem?_eq_some_iff.1 hW.bs).1
        replace hW := Lib.hid hW
        go_wp2_with (at_builtin; refine wpList_append_rd _ rfl _ _ 28 rfl wr.heap.size 3 i0 (.int .i64 0) 8 Try.underlying28 hi0 hz0 hz1 hz2 rfl _ _ _ rfl (lit_own wr y) _ _ rfl hrd2.out (oneCells _) (by simp; unfold maxLen; omega) (by simp; omega) (by simp) ?_)
        intro v' w2 hown2 hgrow hat
        obtain ⟨av2, cv2, rfl⟩ := own_form hown2
        have hT2 : Touch wr w2 (fun _ => False) := by
          have h1 : Below wr.heap.size wr w2 := hb1.grown hgrow (by simp) (fun b hb => by obtain rfl := Option.some.inj hb; exact Nat.le_refl _)
          exact Touch.of_below h1 _
        have hfin : Hid (RW w w2 S L.length s2 (.slice av2 (1 + o2.length) cv2) (y :: o2) ∧ ∀ b, (Value.slice av2 (1 + o2.length) cv2).ownBlock = some b → w.heap.size ≤ b) := by
          have hlow : ∀ b, (Value.slice av2 (1 + o2.length) cv2).ownBlock = some b → wr.heap.size ≤ b := fun b hb => (hown2.lt b hb).1
          refine Lib.hid ⟨⟨(hT2.block S hSlt (fun h => h)).trans hW.out.bs, Touch.join hW.out.T hT2 (fun _ _ h => h.elim), ?_, fun _ b e hb => ?_⟩, fun b hb => Nat.le_trans hle (hlow b hb)⟩
          · have h4 : w2.ownsRow wr.heap.size 3 1 (.slice av2 (1 + o2.length) cv2) (1 + o2.length) (((y :: o2).map fun x : Nat => (x : Int)).map encI) := by
              rw [List.map_cons, List.map_cons, List.map_map]
              exact hown2
            exact strip_rd h4
          · have := hlow b e
            omega
        clear hown2 hgrow hat hT2 hrd2
        go_wp2_with fail
        go_ret
        exact ⟨_, rfl, hfin.out⟩

/-- What stands ready for the document's own walk, made in any order. -/
structure RPrep (w w3 : World) (L : List (List Int)) (oN : Option Value) (oS : Option Nat) : Prop where
  old : Below w.heap.size w w3
  seen : ∀ S, oS = some S → w3.heap[S]? = some (.cells (seenA L.length []) 4 (0, 0)) ∧ w.heap.size ≤ S ∧ S < w3.heap.size
  nrm : ∀ g, oN = some g → RdX (fun b => oS = some b) w3 g (normL L)
section
variable {w w3 : World} {L : List (List Int)} {oN : Option Value} {oS : Option Nat}
theorem RPrep.start (w : World) : RPrep w w L none none := ⟨Below.refl _ _, fun _ h => (by cases h), fun _ h => (by cases h)⟩
theorem RPrep.below {w4 : World} (p : RPrep w w3 L oN oS) (hb : Below w3.heap.size w3 w4) : RPrep w w4 L oN oS := by
  refine ⟨p.old.trans (hb.mono p.old.size), fun S hS => ?_, fun g hg => (p.nrm g hg).below hb⟩
  obtain ⟨h1, h2, h3⟩ := p.seen S hS
  exact ⟨(hb.block S h3).trans h1, h2, Nat.lt_of_lt_of_le h3 hb.size⟩
theorem RPrep.drew (p : RPrep w w3 L oN oS) : RPrep w w3.drew L oN oS := p.below (Below.refl _ _).drew
theorem RPrep.see (p : RPrep w w3 L oN none) {S : Nat} (hS : S = w3.heap.size) : RPrep w (w3.alloc (.cells (seenA L.length []) 4)) L oN (some S) := by
  subst hS
  have hb : Below w3.heap.size w3 (w3.alloc (.cells (seenA L.length []) 4)) := (Below.refl _ _).alloc (Nat.le_refl _) _
  have q := p.below hb
  refine ⟨q.old, fun S h => ?_, fun g hg => ?_⟩
  · obtain rfl := Option.some.inj h
    exact ⟨heap_alloc_new _ _, p.old.size, by simp⟩
  · refine RdX.mono ((p.nrm g hg).plus.below hb) (fun b e => ?_)
    obtain rfl := Option.some.inj e
    exact .inr (Nat.le_refl _)
theorem RPrep.norm (p : RPrep w w3 L none oS) {g : Value} {w4 : World} (hb : Below w3.heap.size w3 w4) (M : RdX (fun b => b < w3.heap.size) w4 g (normL L)) : RPrep w w4 L (some g) oS := by
  have q := p.below hb
  refine ⟨q.old, q.seen, fun g' h => ?_⟩
  obtain rfl := Option.some.inj h
  exact M.mono (fun b e => (p.seen b e).2.2)
theorem RPrep.walk {g : Value} {S x : Nat} {r : List Int} {s1 o1 : List Nat} (p : RPrep w w3 L (some g) (some S)) (hL : L.length ≤ 50000) (hr : ∀ r ∈ L, r.length ≤ 100000) (hx : x < L.length) (hrx : (normL L)[x]? = some r) (hk : Kids (normL L) r [x] [] s1 o1) :
    Calls Try.prog 34 #[g, .int .i64 x, .slice (some ⟨S, 0, none⟩) L.length L.length, .slice none 0 0] w3 fun e w' =>
      ∃ lv, e = .returned lv ∧ RdI w' lv ((x :: o1).map fun x : Nat => (x : Int)) ∧ Below w.heap.size w w' := by
  obtain ⟨hs, hs1, hs2⟩ := p.seen S rfl
  have hX : RdX (fun b => b = S) w3 g (normL L) := (p.nrm g rfl).mono (fun b e => by rw [e])
  have hlens : ∀ r ∈ normL L, r.length ≤ 100000 ∧ ∀ x ∈ r, 0 ≤ x ∧ x < (normL L).length := by
    intro r hr'
    refine ⟨?_, (norm_form L r hr').2⟩
    obtain ⟨q, hq, rfl⟩ := List.mem_map.1 hr'
    exact Nat.le_trans (rowL_len _ _) (hr q hq)
  have hu := unseen_all (normL L).length []
  rw [← normL_len L] at hs hL hx ⊢
  refine (rwalk_any (by omega) hlens (unseen (normL L).length []) w3 g (.slice none 0 0) x r [] [] s1 o1 hX hs (rd_none _) (fun h => absurd h (Nat.lt_irrefl _)) hx (by simp) hrx hk (Nat.le_refl _) (by simp; omega)).mono ?_
  rintro e w' ⟨lv, rfl, hW, -⟩
  exact ⟨lv, rfl, hW.rd, p.old.trans (hW.T.below p.old.size (fun b hb e => by omega))⟩
end
set_option maxRecDepth 20000 in
set_option maxHeartbeats 4000000 in
theorem rpost_any {w : World} {v : Value} {L : List (List Int)} {y : Int} (h : RdG w v L) (hL : L.length ≤ 50000) (hr : ∀ r ∈ L, r.length ≤ 100000) :
    Calls Try.prog 24 #[v, .int .i64 y] w fun e w' => ∃ lv o, e = .returned lv ∧ RdI w' lv (o.map fun x : Nat => (x : Int)) ∧ PostOf L y o ∧ Below w.heap.size w w' := by
  obtain ⟨av, c0, rfl⟩ := h.form
  by_cases hv : 0 ≤ y ∧ y < L.length
  · obtain ⟨x, rfl⟩ : ∃ x : Nat, y = x := ⟨y.toNat, by omega⟩
    have hx : x < L.length := by omega
    obtain ⟨r, hrx⟩ : ∃ r, (normL L)[x]? = some r := ⟨_, List.getElem?_eq_getElem (by rw [normL_len]; exact hx)⟩
    obtain ⟨s1, o1, hk⟩ := Kids.total (normL L) r [x] []
    have hpost : PostOf L x (x :: o1) := ⟨s1, .go (by rw [normL_len]; exact hx) (by simp) hrx hk .nil⟩
    have d1 : decide ((x : Int) < 0) = false := by simp
    have d2 : decide ((x : Int) ≥ (L.length : Int)) = false := by simpa using hx
    have d3 : decide (L.length ≤ x) = false := by simpa using hx
    have hmk := fun w' => make_bools L.length (by omega) w'
    have hN := Lib.hid (fun (w3 : World) (oS : Option Nat) (p : RPrep w w3 L none oS) => (rnorm_any (h.below p.old) (by omega) hr).mono (R' := fun e w2 => ∃ g, e = .returned g ∧ RPrep w w2 L (some g) oS) (fun e w2 ⟨g, he, M, hb⟩ => ⟨g, he, p.norm hb M⟩))
    have hW := Lib.hid (fun (w3 : World) (g : Value) (S : Nat) (p : RPrep w w3 L (some g) (some S)) => p.walk hL hr hx hrx hk)
    have P0 := Lib.hid (RPrep.start (L := L) w)
    replace hpost := Lib.hid hpost
    replace hrx := Lib.hid hrx
    replace hk := Lib.hid hk
    clear hv h
    go_enter Try.func24, Try.ntmps24
    go_wp2_with fail
    go_region_with (first
      | (go_at_call 15; refine Calls.mono (hN.out _ _ (by first | exact P0.out.drew | exact (P0.out.see (S := w.heap.size) rfl).drew)) ?_; rintro e w2 ⟨g, rfl, p⟩)
      | (go_at_call 34; refine Calls.mono (hW.out _ _ _ (by first | exact p | exact p.see rfl)) ?_; rintro e w4 ⟨lv, rfl, hlv, hb4⟩))
    all_goals
      go_wp2_with fail
      go_ret
      exact ⟨_, _, rfl, hlv, hpost.out, hb4⟩
  · have hnil : PostOf L y [] := ⟨[], .skip (fun h => absurd h (by rw [normL_len]; exact hv)) .nil⟩
    replace hnil := Lib.hid hnil
    by_cases h0 : y < 0
    · have d1 : decide (y < 0) = true := by simpa using h0
      go_enter Try.func24, Try.ntmps24
      go_wp2_with fail
      go_ret
      exact ⟨_, [], rfl, rd_none _, hnil.out, Below.refl _ _⟩
    · have d1 : decide (y < 0) = false := by simpa using h0
      have d2 : decide (y ≥ (L.length : Int)) = true := by simp; omega
      go_enter Try.func24, Try.ntmps24
      go_wp2_with fail
      go_ret
      exact ⟨_, rfl, [], rd_none _, hnil.out, Below.refl _ _⟩
end Go.Proofs.Ytfhckabhaidhmaa
