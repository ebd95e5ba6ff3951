/- great, and what the exits' rows are as what Call takes. -/
import Derived.Test.YtdpmpppafkefoaaDoorUpdW
import Derived.Test.YtdpmpppafkefoaaDoorReadI
import Derived.Test.YtdpmpppafkefoaaDoorReadE
namespace Go.Proofs.YtdpmpppafkefoaaDoor
open Go.RowKit Go.Maps

section
variable {w w1 w2 : World} {va vb vc v : Value} {xa xb xc : List Int} {ls : List Lx} {X : List Mx} {A : List Nat} {xs : List Ex}

def Long (x : Lx) : Prop := 300 < x.2.2.length

set_option maxRecDepth 20000 in
theorem great_no (ha : RdI w va xa) (hb : RdI w vb xb) (hc : RdI w vc xc) (hl : RowL w v ls) (na : xa.length ≤ 300) (nb : xb.length ≤ 300) (nc : xc.length ≤ 300) (nl : ls.length ≤ 60) (nx : ∀ x ∈ ls, x.2.2.length ≤ 300) :
    Calls Tryd.prog 4 #[va, vb, vc, v] w fun e w' => e = .returned (.bool false) ∧ w' = w := by
  obtain ⟨a, c, rfl⟩ := ha.form
  obtain ⟨a', c', rfl⟩ := hb.form
  obtain ⟨a'', c'', rfl⟩ := hc.form
  obtain ⟨a3, c3, rfl⟩ := hl.form
  rw [List.length_map, List.length_map, List.length_map]
  have d1 : decide ((xa.length : Int) > 300) = false := by simp; omega
  have d2 : decide ((xb.length : Int) > 300) = false := by simp; omega
  have d3 : decide ((xc.length : Int) > 300) = false := by simp; omega
  have d4 : decide ((ls.length : Int) > 60) = false := by simp; omega
  clear ha hb hc
  go_enter Tryd.func4, Tryd.ntmps4
  go_wp2_with fail
  go_loop [9] (fun i => ∃ j : Nat, j ≤ ls.length ∧ i = .int .i64 j) (fun i => ls.length - (intOf i).toNat)
  case atStart => exact ⟨0, Nat.zero_le _, rfl⟩
  case round =>
    obtain ⟨j, hj, rfl⟩ := hrel
    by_cases hlt : j < ls.length
    · obtain ⟨⟨m, p, l⟩, hxj⟩ : ∃ x, ls[j]? = some x := ⟨_, List.getElem?_eq_getElem hlt⟩
      obtain ⟨b, off, cap, e, hb, c0, c1⟩ := hl.at hxj
      simp only [Value.slice.injEq] at e
      obtain ⟨rfl, -, rfl⟩ := e
      have hm := List.mem_of_getElem? hxj
      have hn := nx _ hm
      obtain ⟨pa, pc, rfl⟩ := (hl.2 m p l hm).1.form
      rw [List.length_map] at c1
      have d5 : decide ((l.length : Int) > 300) = false := by simp at hn ⊢; omega
      clear hxj hm hl nx c0
      go_wp2_with fail
      go_round
      case rel => exact ⟨j + 1, by omega, by go_num⟩
      case measure => simp [intOf]; omega
    · clear hl nx
      go_wp2_with fail
      go_ret
      exact ⟨rfl, rfl⟩

set_option maxRecDepth 20000 in
theorem great_row (ha : RdI w va xa) (hb : RdI w vb xb) (hc : RdI w vc xc) (hl : RowL w v ls) (na : xa.length ≤ 300) (nb : xb.length ≤ 300) (nc : xc.length ≤ 300) (nl : ls.length ≤ 60) (nx : ∃ x ∈ ls, 300 < x.2.2.length) :
    Calls Tryd.prog 4 #[va, vb, vc, v] w fun e w' => e = .returned (.bool true) ∧ w' = w := by
  obtain ⟨a, c, rfl⟩ := ha.form
  obtain ⟨a', c', rfl⟩ := hb.form
  obtain ⟨a'', c'', rfl⟩ := hc.form
  obtain ⟨a3, c3, rfl⟩ := hl.form
  rw [List.length_map, List.length_map, List.length_map]
  have d1 : decide ((xa.length : Int) > 300) = false := by simp; omega
  have d2 : decide ((xb.length : Int) > 300) = false := by simp; omega
  have d3 : decide ((xc.length : Int) > 300) = false := by simp; omega
  have d4 : decide ((ls.length : Int) > 60) = false := by simp; omega
  replace nx := Lib.hid nx
  clear ha hb hc
  go_enter Tryd.func4, Tryd.ntmps4
  go_wp2_with fail
  go_loop [9] (fun i => ∃ j : Nat, j ≤ ls.length ∧ i = .int .i64 j ∧ Hid (∀ x ∈ ls.take j, ¬ 300 < x.2.2.length)) (fun i => ls.length - (intOf i).toNat)
  case atStart => exact ⟨0, Nat.zero_le _, rfl, Lib.hid (by simp)⟩
  case round =>
    obtain ⟨j, hj, rfl, hbef⟩ := hrel
    by_cases hlt : j < ls.length
    · obtain ⟨⟨m, p, l⟩, hxj⟩ : ∃ x, ls[j]? = some x := ⟨_, List.getElem?_eq_getElem hlt⟩
      obtain ⟨b, off, cap, e, hb, c0, c1⟩ := hl.at hxj
      simp only [Value.slice.injEq] at e
      obtain ⟨rfl, -, rfl⟩ := e
      have hm := List.mem_of_getElem? hxj
      obtain ⟨pa, pc, rfl⟩ := (hl.2 m p l hm).1.form
      rw [List.length_map] at c1
      have ht := Lib.hid (take_snoc hxj)
      clear hxj hm hl c0
      by_cases hn : 300 < l.length
      · have d5 : decide ((l.length : Int) > 300) = true := by simp; omega
        go_wp2_with fail
        go_ret
        exact ⟨rfl, rfl⟩
      · have d5 : decide ((l.length : Int) > 300) = false := by simp; omega
        go_wp2_with fail
        go_round
        case rel =>
          refine ⟨j + 1, by omega, by go_num, Lib.hid ?_⟩
          rw [ht.out]
          intro x hx
          rcases List.mem_append.1 hx with hx | hx
          · exact hbef.out x hx
          · rw [List.mem_singleton] at hx
            subst hx
            exact hn
        case measure => simp [intOf]; omega
    · exfalso
      obtain ⟨x, hx, hn⟩ := nx.out
      rw [show j = ls.length from by omega, List.take_length] at hbef
      exact hbef.out x hx hn

set_option maxRecDepth 20000 in
theorem great_len (ha : RdI w va xa) (hb : RdI w vb xb) (hc : RdI w vc xc) (hl : RowL w v ls) (h : 300 < xa.length ∨ 300 < xb.length ∨ 300 < xc.length ∨ 60 < ls.length) :
    Calls Tryd.prog 4 #[va, vb, vc, v] w fun e w' => e = .returned (.bool true) ∧ w' = w := by
  obtain ⟨a, c, rfl⟩ := ha.form
  obtain ⟨a', c', rfl⟩ := hb.form
  obtain ⟨a'', c'', rfl⟩ := hc.form
  obtain ⟨a3, c3, rfl⟩ := hl.form
  rw [List.length_map, List.length_map, List.length_map]
  clear ha hb hc hl
  by_cases h1 : 300 < xa.length
  · have d1 : decide ((xa.length : Int) > 300) = true := by simp; omega
    go_enter Tryd.func4, Tryd.ntmps4
    go_wp2_with fail
    go_ret
    exact ⟨rfl, rfl⟩
  · have d1 : decide ((xa.length : Int) > 300) = false := by simp; omega
    by_cases h2 : 300 < xb.length
    · have d2 : decide ((xb.length : Int) > 300) = true := by simp; omega
      go_enter Tryd.func4, Tryd.ntmps4
      go_wp2_with fail
      go_ret
      exact ⟨rfl, rfl⟩
    · have d2 : decide ((xb.length : Int) > 300) = false := by simp; omega
      by_cases h3 : 300 < xc.length
      · have d3 : decide ((xc.length : Int) > 300) = true := by simp; omega
        go_enter Tryd.func4, Tryd.ntmps4
        go_wp2_with fail
        go_ret
        exact ⟨rfl, rfl⟩
      · have d3 : decide ((xc.length : Int) > 300) = false := by simp; omega
        have d4 : decide ((ls.length : Int) > 60) = true := by simp; omega
        clear h h1 h2 h3
        go_enter Tryd.func4, Tryd.ntmps4
        go_wp2_with fail
        go_ret
        exact ⟨rfl, rfl⟩

def Great (xa xb xc : List Int) (ls : List Lx) : Prop := (300 < xa.length ∨ 300 < xb.length ∨ 300 < xc.length ∨ 60 < ls.length) ∨ ∃ x ∈ ls, 300 < x.2.2.length
theorem great_yes (ha : RdI w va xa) (hb : RdI w vb xb) (hc : RdI w vc xc) (hl : RowL w v ls) (h : Great xa xb xc ls) : Calls Tryd.prog 4 #[va, vb, vc, v] w fun e w' => e = .returned (.bool true) ∧ w' = w := by
  by_cases h0 : 300 < xa.length ∨ 300 < xb.length ∨ 300 < xc.length ∨ 60 < ls.length
  · exact great_len ha hb hc hl h0
  · exact great_row ha hb hc hl (by omega) (by omega) (by omega) (by omega) (h.resolve_left h0)
theorem great_not (h : ¬ Great xa xb xc ls) : xa.length ≤ 300 ∧ xb.length ≤ 300 ∧ xc.length ≤ 300 ∧ ls.length ≤ 60 ∧ ∀ x ∈ ls, x.2.2.length ≤ 300 := by
  unfold Great at h
  refine ⟨by omega, by omega, by omega, by omega, fun x hx => ?_⟩
  have : ¬ 300 < x.2.2.length := fun hn => h (Or.inr ⟨x, hx, hn⟩)
  omega
theorem great_no' (ha : RdI w va xa) (hb : RdI w vb xb) (hc : RdI w vc xc) (hl : RowL w v ls) (h : ¬ Great xa xb xc ls) : Calls Tryd.prog 4 #[va, vb, vc, v] w fun e w' => e = .returned (.bool false) ∧ w' = w := by
  obtain ⟨h1, h2, h3, h4, h5⟩ := great_not h
  exact great_no ha hb hc hl h1 h2 h3 h4 h5
theorem rdI_none (w : World) : RdI w (.slice none 0 0) [] := Or.inl ⟨rfl, Or.inl rfl⟩

/-! ### rows of exits -/
def cellsE (x : Ex) : List Value := [.bool x.1, .pointer x.2.1]
theorem cells_MX (X : List Mx) : X.flatMap cellsM = (X.map exOf).flatMap cellsE := by
  rw [List.flatMap_map]
  rfl
theorem flatE_at {i : Nat} {x : Ex} (h : xs[i]? = some x) : (xs.flatMap cellsE)[i * 2]? = some (.bool x.1) ∧ (xs.flatMap cellsE)[i * 2 + 1]? = some (.pointer x.2.1) := by
  induction xs generalizing i with
  | nil => simp at h
  | cons y xs ih =>
    rw [List.flatMap_cons]
    cases i with
    | zero =>
      simp at h
      subst h
      simp [cellsE]
    | succ i =>
      have h2 := ih (i := i) (by simpa using h)
      rw [show (i + 1) * 2 = i * 2 + 2 from by omega, show i * 2 + 2 + 1 = (i * 2 + 1) + 2 from by omega]
      unfold cellsE at h2 ⊢
      simpa using h2
theorem rowX_of_own {base n : Nat} (h : w.ownsRow base 44 2 v n (xs.flatMap cellsE)) (hn : n = xs.length) : RowX w v xs := by
  subst hn
  rcases h.2 with ⟨rfl, h0⟩ | ⟨g, cap, cur, rfl, h1, h2, h3⟩
  · have : xs = [] := List.length_eq_zero_iff.1 h0
    subst this
    exact Or.inl ⟨rfl, Or.inl rfl⟩
  · refine Or.inr ⟨g, 0, cap, rfl, (Array.getElem?_eq_some_iff.1 h2).1, fun i m p l hi => ?_⟩
    have hlt : i < xs.length := (List.getElem?_eq_some_iff.1 hi).1
    obtain ⟨e1, e2⟩ := flatE_at hi
    rw [← h3.2.2.2, List.getElem?_take_of_lt (by omega), Array.getElem?_toList] at e1 e2
    rw [Nat.zero_add, blk_cell h2, blk_cell h2]
    exact ⟨e1, e2⟩
theorem mem_callL {n : Nat} : n ∈ callL A xs ↔ ∃ x ∈ xs, n ∈ (if x.1 = true then x.2.2 else A) := by
  refine snoc_ind (Q := fun xs => n ∈ callL A xs ↔ ∃ x ∈ xs, n ∈ (if x.1 = true then x.2.2 else A)) (by simp [callL]) (fun l x ih => ?_) xs
  rw [callL_snoc]
  unfold oneL
  rw [mem_uni, ih]
  constructor
  · rintro (⟨y, hy, hn⟩ | hn)
    · exact ⟨y, List.mem_append_left _ hy, hn⟩
    · exact ⟨x, by simp, hn⟩
  · rintro ⟨y, hy, hn⟩
    rcases List.mem_append.1 hy with hy | hy
    · exact Or.inl ⟨y, hy, hn⟩
    · rw [List.mem_singleton] at hy
      subst hy
      exact Or.inr hn
end
end Go.Proofs.YtdpmpppafkefoaaDoor
