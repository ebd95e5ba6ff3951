/- The document's own answers: lists out of lists. -/
import Derived.Test.YtdpmpppafkefoaaDoorRefL
namespace Go.Proofs.YtdpmpppafkefoaaDoor
open Go.RowKit Go.Maps

/-- The numbers of a list, rising. -/
def ofL (xs : List Int) : List Int := xs.foldl addL []
def uniL (xs ys : List Int) : List Int := ys.foldl addL xs
def pickL (xs ys : List Int) (inn : Bool) : List Int := xs.filter (fun x => decide (x ∈ ys) == inn)

theorem uniL_snoc (xs ys : List Int) (y : Int) : uniL xs (ys ++ [y]) = addL (uniL xs ys) y := by simp [uniL]
theorem ofL_uniL (xs : List Int) : ofL xs = uniL [] xs := rfl
theorem uniL_len (xs ys : List Int) : (uniL xs ys).length ≤ xs.length + ys.length := by
  refine snoc_ind (Q := fun ys => (uniL xs ys).length ≤ xs.length + ys.length) (by simp [uniL]) (fun l x ih => ?_) ys
  rw [uniL_snoc, List.length_append]
  have := (addL_len (uniL xs l) x).1
  simp only [List.length_singleton]
  omega
theorem rise_uniL {xs : List Int} (h : xs.Pairwise (· < ·)) (ys : List Int) : (uniL xs ys).Pairwise (· < ·) := by
  refine snoc_ind (Q := fun ys => (uniL xs ys).Pairwise (· < ·)) (by simpa [uniL] using h) (fun l x ih => ?_) ys
  rw [uniL_snoc]
  exact rise_addL ih
theorem mem_uniL {xs ys : List Int} {y : Int} : y ∈ uniL xs ys ↔ y ∈ xs ∨ (y ∈ ys ∧ 0 ≤ y) := by
  refine snoc_ind (Q := fun ys => y ∈ uniL xs ys ↔ y ∈ xs ∨ (y ∈ ys ∧ 0 ≤ y)) (by simp [uniL]) (fun l x ih => ?_) ys
  rw [uniL_snoc, mem_addL, ih, List.mem_append, List.mem_singleton]
  constructor
  · rintro ((h | h) | ⟨rfl, h⟩)
    · exact Or.inl h
    · exact Or.inr ⟨Or.inl h.1, h.2⟩
    · exact Or.inr ⟨Or.inr rfl, h⟩
  · rintro (h | ⟨h | rfl, h2⟩)
    · exact Or.inl (Or.inl h)
    · exact Or.inl (Or.inr ⟨h, h2⟩)
    · exact Or.inr ⟨rfl, h2⟩
theorem mem_pickL {xs ys : List Int} {inn : Bool} {y : Int} : y ∈ pickL xs ys inn ↔ y ∈ xs ∧ decide (y ∈ ys) = inn := by unfold pickL; rw [List.mem_filter]; simp
theorem rise_pickL {xs : List Int} (h : xs.Pairwise (· < ·)) (ys : List Int) (inn : Bool) : (pickL xs ys inn).Pairwise (· < ·) := h.sublist List.filter_sublist
theorem pickL_len (xs ys : List Int) (inn : Bool) : (pickL xs ys inn).length ≤ xs.length := List.length_filter_le _ _

section
variable {w : World} {v u : Value} {xs ys : List Int}

theorem rof_any (h : RdI w v xs) (hlen : xs.length ≤ 10000) : Calls Tryd.prog 8 #[v] w fun e w' => ∃ v', e = .returned v' ∧ Strip w' v' (ofL xs) ∧ (∀ b, v'.ownBlock = some b → w.heap.size ≤ b) ∧ Below w.heap.size w w' := by
  obtain ⟨a, c, rfl⟩ := h.form
  rw [List.length_map] at *
  go_enter Tryd.func8, Tryd.ntmps8
  go_wp2
  go_loopw [3, 4] (fun out i wr => ∃ j : Nat, j ≤ xs.length ∧ i = .int .i64 j ∧ Strip wr out (uniL [] (xs.take j)) ∧ (∀ b, out.ownBlock = some b → w.heap.size ≤ b) ∧ Below w.heap.size w wr) (fun _ i _ => xs.length - (intOf i).toNat)
  case atStart => exact ⟨0, Nat.zero_le _, rfl, strip_nil _, by simp [Value.ownBlock], Below.refl _ _⟩
  case round =>
    obtain ⟨j, hj, rfl, hs, hf, hb⟩ := hrel
    by_cases hlt : j < xs.length
    · obtain ⟨x, hx⟩ : ∃ x, xs[j]? = some x := ⟨_, List.getElem?_eq_getElem hlt⟩
      obtain ⟨b, o, cap, e, _, hc⟩ := (h.below hb).at (i := j) (u := encI x) (by simp [hx])
      unfold encI at hc
      simp only [Value.slice.injEq] at e
      obtain ⟨rfl, -, rfl⟩ := e
      have hln : (uniL [] (xs.take j)).length ≤ 100000 := Nat.le_trans (uniL_len _ _) (by simp; omega)
      have hts := Lib.hid (take_snoc hx)
      have hadd := Lib.hid (radd_any (i := x) hs hln)
      replace hf := Lib.hid hf
      clear hx h hs
      go_wp2_with (go_at_call 20; refine hadd.out.mono ?_; rintro e w2 ⟨v2, rfl, hs2, hl2, hb2⟩)
      have hb3 := hb.trans (hb2.mono hb.size)
      rw [← uniL_snoc, ← hts.out] at hs2
      go_roundw
      case rel =>
        refine ⟨j + 1, by omega, by go_num, hs2, fun b' hb' => ?_, hb3⟩
        rcases hl2 with rfl | hl2
        · exact hf.out b' hb'
        · exact Nat.le_trans hb.size (hl2 b' hb')
      case measure => simp [intOf]; omega
    · have : j = xs.length := by omega
      subst this
      rw [List.take_length] at hs
      replace hs := Lib.hid hs
      go_wp2
      go_ret
      exact ⟨_, rfl, hs.out, hf, hb⟩

theorem runion_any (hv : Strip w v xs) (h : RdI w u ys) (hx : xs.length ≤ 50000) (hlen : ys.length ≤ 10000) : Calls Tryd.prog 24 #[v, u] w fun e w' => ∃ v', e = .returned v' ∧ Strip w' v' (uniL xs ys) ∧ (v' = v ∨ ∀ b, v'.ownBlock = some b → w.heap.size ≤ b) ∧ Below w.heap.size w w' := by
  obtain ⟨a, c, rfl⟩ := h.form
  rw [List.length_map] at *
  go_enter Tryd.func24, Tryd.ntmps24
  go_wp2
  go_loopw [0, 5] (fun out i wr => ∃ j : Nat, j ≤ ys.length ∧ i = .int .i64 j ∧ Strip wr out (uniL xs (ys.take j)) ∧ (out = v ∨ ∀ b, out.ownBlock = some b → w.heap.size ≤ b) ∧ Below w.heap.size w wr) (fun _ i _ => ys.length - (intOf i).toNat)
  case atStart => exact ⟨0, Nat.zero_le _, rfl, by simpa [uniL] using hv, Or.inl rfl, Below.refl _ _⟩
  case round =>
    obtain ⟨j, hj, rfl, hs, hf, hb⟩ := hrel
    clear hv
    by_cases hlt : j < ys.length
    · obtain ⟨x, hx⟩ : ∃ x, ys[j]? = some x := ⟨_, List.getElem?_eq_getElem hlt⟩
      obtain ⟨b, o, cap, e, _, hc⟩ := (h.below hb).at (i := j) (u := encI x) (by simp [hx])
      unfold encI at hc
      simp only [Value.slice.injEq] at e
      obtain ⟨rfl, -, rfl⟩ := e
      have hln : (uniL xs (ys.take j)).length ≤ 100000 := Nat.le_trans (uniL_len _ _) (by simp; omega)
      have hts := Lib.hid (take_snoc hx)
      have hadd := Lib.hid (radd_any (i := x) hs hln)
      replace hf := Lib.hid hf
      clear hx h hs
      go_wp2_with (go_at_call 20; refine hadd.out.mono ?_; rintro e w2 ⟨v2, rfl, hs2, hl2, hb2⟩)
      have hb3 := hb.trans (hb2.mono hb.size)
      rw [← uniL_snoc, ← hts.out] at hs2
      go_roundw
      case rel =>
        refine ⟨j + 1, by omega, by go_num, hs2, ?_, hb3⟩
        rcases hl2 with rfl | hl2
        · exact hf.out
        · exact Or.inr (fun b' hb' => Nat.le_trans hb.size (hl2 b' hb'))
      case measure => simp [intOf]; omega
    · have : j = ys.length := by omega
      subst this
      rw [List.take_length] at hs
      replace hs := Lib.hid hs
      replace hf := Lib.hid hf
      go_wp2
      go_ret
      exact ⟨_, rfl, hs.out, hf.out, hb⟩

end
end Go.Proofs.YtdpmpppafkefoaaDoor
