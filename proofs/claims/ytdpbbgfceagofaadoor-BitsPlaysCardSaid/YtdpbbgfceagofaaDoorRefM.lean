/- The document's own answers: lists out of lists. -/
import Derived.Test.YtdpbbgfceagofaaDoorRefL
namespace Go.Proofs.YtdpbbgfceagofaaDoor
open Go.RowKit Go.Maps

/-- The numbers of a list, rising. -/
def ofL (xs : List Int) : List Int := xs.foldl addL []
def uniL (xs ys : List Int) : List Int := ys.foldl addL xs
def pickL (xs ys : List Int) (inn : Bool) : List Int := xs.filter (fun x => decide (x ∈ ys) == inn)

theorem uniL_snoc (xs ys : List Int) (y : Int) : uniL xs (ys ++ [y]) = addL (uniL xs ys) y := by simp [uniL]
theorem ofL_uniL (xs : List Int) : ofL xs = uniL [] xs := rfl
theorem uniL_len (xs ys : List Int) : (uniL xs ys).length ≤ xs.length + ys.length := by
  refine snoc_ind (Q := fun ys => (uniL xs ys).length ≤ xs.length + ys.length) (by simp [uniL]) (fun l x ih => ?_) ys
  rw [uniL_snoc, List.length_append]
  have := (addL_len (uniL xs l) x).1
  simp only [List.length_singleton]
  omega
theorem rise_uniL {xs : List Int} (h : xs.Pairwise (· < ·)) (ys : List Int) : (uniL xs ys).Pairwise (· < ·) := by
  refine snoc_ind (Q := fun ys => (uniL xs ys).Pairwise (· < ·)) (by simpa [uniL] using h) (fun l x ih => ?_) ys
  rw [uniL_snoc]
  exact rise_addL ih
theorem mem_uniL {xs ys : List Int} {y : Int} : y ∈ uniL xs ys ↔ y ∈ xs ∨ (y ∈ ys ∧ 0 ≤ y) := by
  refine snoc_ind (Q := fun ys => y ∈ uniL xs ys ↔ y ∈ xs ∨ (y ∈ ys ∧ 0 ≤ y)) (by simp [uniL]) (fun l x ih => ?_) ys
  rw [uniL_snoc, mem_addL, ih, List.mem_append, List.mem_singleton]
  constructor
  · rintro ((h | h) | ⟨rfl, h⟩)
    · exact Or.inl h
    · exact Or.inr ⟨Or.inl h.1, h.2⟩
    · exact Or.inr ⟨Or.inr rfl, h⟩
  · rintro (h | ⟨h | rfl, h2⟩)
    · exact Or.inl (Or.inl h)
    · exact Or.inl (Or.inr ⟨h, h2⟩)
    · exact Or.inr ⟨rfl, h2⟩
theorem mem_pickL {xs ys : List Int} {inn : Bool} {y : Int} : y ∈ pickL xs ys inn ↔ y ∈ xs ∧ decide (y ∈ ys) = inn := by unfold pickL; rw [List.mem_filter]; simp
theorem rise_pickL {xs : List Int} (h : xs.Pairwise (· < ·)) (ys : List Int) (inn : Bool) : (pickL xs ys inn).Pairwise (· < ·) := h.sublist List.filter_sublist
theorem pickL_len (xs ys : List Int) (inn : Bool) : (pickL xs ys inn).length ≤ xs.length := List.length_filter_le _ _

section
variable {w : World} {v u : Value} {xs ys : List Int}

theorem rof_any (h : RdI w v xs) (hlen : xs.length ≤ 10000) : Calls Tryd.prog 22 #[v] w fun e w' => ∃ v', e = .returned v' ∧ Strip w' v' (ofL xs) ∧ (∀ b, v'.ownBlock = some b → w.heap.size ≤ b) ∧ Below w.heap.size w w' := by
  obtain ⟨a, c, rfl⟩ := h.form
  rw [List.length_map] at *
  go_enter Tryd.func22, Tryd.ntmps22
  go_wp2
  go_loopw [3, 4] (fun out i wr => ∃ j : Nat, j ≤ xs.length ∧ i = .int .i64 j ∧ Strip wr out (uniL [] (xs.take j)) ∧ (∀ b, out.ownBlock = some b → w.heap.size ≤ b) ∧ Below w.heap.size w wr) (fun _ i _ => xs.length - (intOf i).toNat)
  case atStart => exact ⟨0, Nat.zero_le _, rfl, strip_nil _, by simp [Value.ownBlock], Below.refl _ _⟩
  case round =>
    obtain ⟨j, hj, rfl, hs, hf, hb⟩ := hrel
    by_cases hlt : j < xs.length
    · obtain ⟨x, hx⟩ : ∃ x, xs[j]? = some x := ⟨_, List.getElem?_eq_getElem hlt⟩
      obtain ⟨b, o, cap, e, _, hc⟩ := (h.below hb).at (i := j) (u := encI x) (by simp [hx])
      unfold encI at hc
      simp only [Value.slice.injEq] at e
      obtain ⟨rfl, -, rfl⟩ := e
      have hln : (uniL [] (xs.take j)).length ≤ 100000 := Nat.le_trans (uniL_len _ _) (by simp; omega)
      have hts := Lib.hid (take_snoc hx)
      have hadd := Lib.hid (radd_any (i := x) hs hln)
      replace hf := Lib.hid hf
      clear hx h hs
      go_wp2_with (go_at_call 13; refine hadd.out.mono ?_; rintro e w2 ⟨v2, rfl, hs2, hl2, hb2⟩)
      have hb3 := hb.trans (hb2.mono hb.size)
      rw [← uniL_snoc, ← hts.out] at hs2
      go_roundw
      case rel =>
        refine ⟨j + 1, by omega, by go_num, hs2, fun b' hb' => ?_, hb3⟩
        rcases hl2 with rfl | hl2
        · exact hf.out b' hb'
        · exact Nat.le_trans hb.size (hl2 b' hb')
      case measure => simp [intOf]; omega
    · have : j = xs.length := by omega
      subst this
      rw [List.take_length] at hs
      replace hs := Lib.hid hs
      go_wp2
      go_ret
      exact ⟨_, rfl, hs.out, hf, hb⟩

theorem runion_any (hv : Strip w v xs) (h : RdI w u ys) (hx : xs.length ≤ 10000) (hlen : ys.length ≤ 10000) : Calls Tryd.prog 17 #[v, u] w fun e w' => ∃ v', e = .returned v' ∧ Strip w' v' (uniL xs ys) ∧ (v' = v ∨ ∀ b, v'.ownBlock = some b → w.heap.size ≤ b) ∧ Below w.heap.size w w' := by
  obtain ⟨a, c, rfl⟩ := h.form
  rw [List.length_map] at *
  go_enter Tryd.func17, Tryd.ntmps17
  go_wp2
  go_loopw [0, 5] (fun out i wr => ∃ j : Nat, j ≤ ys.length ∧ i = .int .i64 j ∧ Strip wr out (uniL xs (ys.take j)) ∧ (out = v ∨ ∀ b, out.ownBlock = some b → w.heap.size ≤ b) ∧ Below w.heap.size w wr) (fun _ i _ => ys.length - (intOf i).toNat)
  case atStart => exact ⟨0, Nat.zero_le _, rfl, by simpa [uniL] using hv, Or.inl rfl, Below.refl _ _⟩
  case round =>
    obtain ⟨j, hj, rfl, hs, hf, hb⟩ := hrel
    clear hv
    by_cases hlt : j < ys.length
    · obtain ⟨x, hx⟩ : ∃ x, ys[j]? = some x := ⟨_, List.getElem?_eq_getElem hlt⟩
      obtain ⟨b, o, cap, e, _, hc⟩ := (h.below hb).at (i := j) (u := encI x) (by simp [hx])
      unfold encI at hc
      simp only [Value.slice.injEq] at e
      obtain ⟨rfl, -, rfl⟩ := e
      have hln : (uniL xs (ys.take j)).length ≤ 100000 := Nat.le_trans (uniL_len _ _) (by simp; omega)
      have hts := Lib.hid (take_snoc hx)
      have hadd := Lib.hid (radd_any (i := x) hs hln)
      replace hf := Lib.hid hf
      clear hx h hs
      go_wp2_with (go_at_call 13; refine hadd.out.mono ?_; rintro e w2 ⟨v2, rfl, hs2, hl2, hb2⟩)
      have hb3 := hb.trans (hb2.mono hb.size)
      rw [← uniL_snoc, ← hts.out] at hs2
      go_roundw
      case rel =>
        refine ⟨j + 1, by omega, by go_num, hs2, ?_, hb3⟩
        rcases hl2 with rfl | hl2
        · exact hf.out
        · exact Or.inr (fun b' hb' => Nat.le_trans hb.size (hl2 b' hb'))
      case measure => simp [intOf]; omega
    · have : j = ys.length := by omega
      subst this
      rw [List.take_length] at hs
      replace hs := Lib.hid hs
      replace hf := Lib.hid hf
      go_wp2
      go_ret
      exact ⟨_, rfl, hs.out, hf.out, hb⟩

theorem rpick_any {inn : Bool} (hv : RdI w v xs) (h : RdI w u ys) (hx : xs.length ≤ 10000) (hlen : ys.length ≤ 10000) : Calls Tryd.prog 15 #[v, u, .bool inn] w fun e w' => ∃ v', e = .returned v' ∧ Strip w' v' (pickL xs ys inn) ∧ (∀ b, v'.ownBlock = some b → w.heap.size ≤ b) ∧ Below w.heap.size w w' := by
  obtain ⟨i0, hi0, hz0, hz1, hz2⟩ := info_parts infoL
  obtain ⟨a, c, rfl⟩ := hv.form
  rw [List.length_map] at *
  go_enter Tryd.func15, Tryd.ntmps15
  go_wp2
  go_loopw [7, 8] (fun out i wr => ∃ j n : Nat, j ≤ xs.length ∧ i = .int .i64 j ∧ wr.ownsRow w.heap.size 3 1 out n ((pickL (xs.take j) ys inn).map encI) ∧ Below w.heap.size w wr) (fun _ i _ => xs.length - (intOf i).toNat)
  case atStart => exact ⟨0, 0, Nat.zero_le _, rfl, World.ownsRow_nil _ _ _ _, Below.refl _ _⟩
  case round =>
    obtain ⟨j, n, hj, rfl, hs, hb⟩ := hrel
    obtain ⟨av, cv, rfl⟩ := own_form hs
    have hn : n = (pickL (xs.take j) ys inn).length := by have := hs.1; rw [List.length_map] at this; omega
    have hnl : n ≤ 10000 := by have := pickL_len (xs.take j) ys inn; have h2 : (xs.take j).length ≤ xs.length := by simp; omega
                               omega
    replace hn := Lib.hid hn
    by_cases hlt : j < xs.length
    · obtain ⟨x, hx⟩ : ∃ x, xs[j]? = some x := ⟨_, List.getElem?_eq_getElem hlt⟩
      obtain ⟨b, o, cap, e, _, hc⟩ := (hv.below hb).at (i := j) (u := encI x) (by simp [hx])
      unfold encI at hc
      simp only [Value.slice.injEq] at e
      obtain ⟨rfl, -, rfl⟩ := e
      have hts := Lib.hid (take_snoc hx)
      have hhas := rhas_any (i := x) (h.below hb) (by omega)
      by_cases hp : (decide (x ∈ ys) == inn) = true
      · have hpk : Hid (pickL (xs.take (j + 1)) ys inn = pickL (xs.take j) ys inn ++ [x]) := Lib.hid (by rw [hts.out]; unfold pickL; rw [List.filter_append]; simp [hp])
        have hdx : decide (x ∈ ys) = inn := by simpa using hp
        rw [hdx] at hhas
        replace hhas := Lib.hid hhas
        clear hx h hv hp hdx
        go_wp2_with (first | (go_at_call 31; refine hhas.out.mono ?_; rintro e w2 ⟨rfl, hw⟩; obtain rfl := hw.symm) | (at_builtin; refine wpList_append_rd _ rfl _ _ 31 rfl w.heap.size 3 i0 (.int .i64 0) 8 Tryd.underlying31 hi0 hz0 hz1 hz2 rfl _ _ _ rfl (hs.alloc _) _ ([x].map encI) rfl (Or.inr ⟨wr.heap.size, 0, 1, rfl, by simp, cell_new1 _ _ _⟩) (oneCells _) (by unfold maxLen; simp <;> omega) (by simp <;> omega) (by have := hb.size; simp <;> omega) ?_))
        intro v2 w2 hown2 hg2 _
        have hb2 : Below w.heap.size w w2 := (hb.alloc hb.size _).grown hg2 (by have := hb.size; simp; omega) (fun b hb => (hs.lt b hb).1)
        replace hown2 : w2.ownsRow w.heap.size 3 1 v2 (n + 1) ((pickL (xs.take j) ys inn).map encI ++ [x].map encI) := by first | exact hown2 | simpa using hown2
        rw [← List.map_append, ← hpk.out] at hown2
        go_wp2_with fail
        go_roundw
        case rel => exact ⟨j + 1, n + 1, by omega, by go_num, hown2, hb2⟩
        case measure => simp [intOf]; omega
      · have hpk : pickL (xs.take (j + 1)) ys inn = pickL (xs.take j) ys inn := by rw [hts.out]; unfold pickL; rw [List.filter_append]; simp [hp]
        have hdx : decide (x ∈ ys) = !inn := by
          rcases h1 : decide (x ∈ ys) with _ | _ <;> rcases h2 : inn with _ | _ <;> simp [h1, h2] at hp ⊢
        rw [hdx] at hhas
        replace hhas := Lib.hid hhas
        rw [← hpk] at hs
        clear hx h hv hp hdx hpk
        have hni : ((!inn) == inn) = false := by cases inn <;> rfl
        go_wp2_with (go_at_call 31; refine hhas.out.mono ?_; rintro e w2 ⟨rfl, hw⟩; obtain rfl := hw.symm)
        go_roundw
        case rel => exact ⟨j + 1, n, by omega, by go_num, hs, hb⟩
        case measure => simp [intOf]; omega
    · have : j = xs.length := by omega
      subst this
      rw [List.take_length] at hs
      replace hs := Lib.hid hs
      go_wp2
      go_ret
      have hn2 := hn.out
      rw [List.take_length] at hn2
      have hs2 := hs.out
      rw [hn2] at hs2 ⊢
      exact ⟨_, rfl, strip_down hs2, fun b hb => (hs2.lt b hb).1, hb⟩
end
end Go.Proofs.YtdpbbgfceagofaaDoor
