/- Graphs over lists of numbers: in form, turned round, ways. -/
import Derived.Test.YteipncggndefmaaGBase
import Derived.Lib.SlicesCompact
namespace Go.Proofs.Yteipncggndefmaa

theorem rise_ext : ∀ {a b : List Int}, a.Pairwise (· < ·) → b.Pairwise (· < ·) → (∀ x, x ∈ a ↔ x ∈ b) → a = b
  | [], [], _, _, _ => rfl
  | [], y :: b, _, _, h => by have := (h y).2 (List.Mem.head _); simp at this
  | x :: a, [], _, _, h => by have := (h x).1 (List.Mem.head _); simp at this
  | x :: a, y :: b, ha, hb, h => by
    rw [List.pairwise_cons] at ha hb
    have hx := (h x).1 (List.Mem.head _)
    have hy := (h y).2 (List.Mem.head _)
    have hxy : x = y := by
      rcases List.mem_cons.1 hx with e | hx
      · exact e
      · rcases List.mem_cons.1 hy with e | hy
        · exact e.symm
        · have := ha.1 y hy; have := hb.1 x hx; omega
    subst hxy
    rw [rise_ext ha.2 hb.2 (fun z => ?_)]
    constructor
    · intro hz
      rcases List.mem_cons.1 ((h z).1 (List.Mem.tail _ hz)) with e | hz'
      · have := ha.1 z hz; omega
      · exact hz'
    · intro hz
      rcases List.mem_cons.1 ((h z).2 (List.Mem.tail _ hz)) with e | hz'
      · have := hb.1 z hz; omega
      · exact hz'

/-- Runs of equal numbers, one of each: of a list that does not fall. -/
theorem compact_rise (zs : List Int) (hs : zs.Pairwise (· ≤ ·)) : (Lib.compact zs).Pairwise (· < ·) ∧ ∀ x, x ∈ Lib.compact zs ↔ x ∈ zs := by
  have hle : ∀ i j, i ≤ j → j < zs.length → zs.toArray[i]! ≤ zs.toArray[j]! := by
    intro i j hij hj
    rw [getElem!_pos zs.toArray i (by simpa using Nat.lt_of_le_of_lt hij hj), getElem!_pos zs.toArray j (by simpa using hj)]
    rcases Nat.lt_or_eq_of_le hij with h | rfl
    · simpa using List.pairwise_iff_getElem.1 hs i j (by omega) hj h
    · exact Int.le_refl _
  have key : ∀ m, m ≤ zs.length → (Lib.compactUpTo zs.toArray m).Pairwise (· < ·) ∧ ∀ x, x ∈ Lib.compactUpTo zs.toArray m ↔ ∃ j, j < m ∧ zs.toArray[j]! = x := by
    intro m
    induction m with
    | zero => intro _; simp [Lib.compactUpTo]
    | succ m ih =>
      intro hm
      obtain ⟨h1, h2⟩ := ih (by omega)
      rw [Lib.compactUpTo_succ]
      by_cases hk : Lib.keeps zs.toArray m = true
      · rw [if_pos hk]
        have hlt : ∀ x, x ∈ Lib.compactUpTo zs.toArray m → x < zs.toArray[m]! := by
          intro x hx
          obtain ⟨j, hj, rfl⟩ := (h2 x).1 hx
          have a1 := hle j (m - 1) (by omega) (by omega)
          have a2 := hle (m - 1) m (by omega) (by omega)
          have a3 : zs.toArray[m]! ≠ zs.toArray[m - 1]! := by
            intro e
            rw [Lib.keeps_neg (by omega) e] at hk
            cases hk
          omega
        refine ⟨?_, fun x => ?_⟩
        · rw [List.pairwise_append]
          refine ⟨h1, by simp, fun a ha b hb => ?_⟩
          rw [List.mem_singleton.1 hb]
          exact hlt a ha
        · rw [List.mem_append, h2, List.mem_singleton]
          constructor
          · rintro (⟨j, hj, e⟩ | e)
            · exact ⟨j, by omega, e⟩
            · exact ⟨m, by omega, e.symm⟩
          · rintro ⟨j, hj, e⟩
            rcases Nat.lt_or_ge j m with h | h
            · exact .inl ⟨j, h, e⟩
            · obtain rfl : j = m := by omega
              exact .inr e.symm
      · have hk' : Lib.keeps zs.toArray m = false := by simpa using hk
        rw [hk', if_neg (by simp), List.append_nil]
        refine ⟨h1, fun x => ?_⟩
        rw [h2]
        constructor
        · rintro ⟨j, hj, e⟩
          exact ⟨j, by omega, e⟩
        · rintro ⟨j, hj, e⟩
          rcases Nat.lt_or_ge j m with h | h
          · exact ⟨j, h, e⟩
          · obtain rfl : j = m := by omega
            have hpos : 0 < j := by
              rcases Nat.eq_zero_or_pos j with rfl | h
              · simp [Lib.keeps] at hk'
              · exact h
            have heq : zs.toArray[j]! = zs.toArray[j - 1]! := by
              by_cases he : zs.toArray[j]! = zs.toArray[j - 1]!
              · exact he
              · rw [Lib.keeps_pos he] at hk'; cases hk'
            exact ⟨j - 1, by omega, by rw [← heq]; exact e⟩
  obtain ⟨h1, h2⟩ := key zs.length (Nat.le_refl _)
  refine ⟨h1, fun x => ?_⟩
  show x ∈ Lib.compactUpTo zs.toArray zs.length ↔ _
  rw [h2, List.mem_iff_getElem]
  constructor
  · rintro ⟨j, hj, e⟩
    rw [getElem!_pos zs.toArray j (by simpa using hj)] at e
    exact ⟨j, hj, by simpa using e⟩
  · rintro ⟨j, hj, e⟩
    refine ⟨j, hj, ?_⟩
    rw [getElem!_pos zs.toArray j (by simpa using hj)]
    simpa using e

/-- A row in form: its nodes, rising. -/
def validI (n : Nat) (x : Int) : Bool := decide (0 ≤ x ∧ x < n)
def rowL (n : Nat) (r : List Int) : List Int := (r.filter (validI n)).foldl addL []
def normL (L : List (List Int)) : List (List Int) := L.map (rowL L.length)
theorem mem_fold : ∀ (ys xs : List Int) (y : Int), y ∈ ys.foldl addL xs ↔ y ∈ xs ∨ (y ∈ ys ∧ 0 ≤ y)
  | [], xs, y => by simp
  | z :: ys, xs, y => by
    rw [List.foldl_cons, mem_fold ys, mem_addL, List.mem_cons]
    constructor
    · rintro ((h | ⟨rfl, h⟩) | ⟨h, h'⟩)
      · exact .inl h
      · exact .inr ⟨.inl rfl, h⟩
      · exact .inr ⟨.inr h, h'⟩
    · rintro (h | ⟨rfl | h, h'⟩)
      · exact .inl (.inl h)
      · exact .inl (.inr ⟨rfl, h'⟩)
      · exact .inr ⟨h, h'⟩
theorem rise_fold : ∀ (ys xs : List Int), xs.Pairwise (· < ·) → (ys.foldl addL xs).Pairwise (· < ·)
  | [], _, h => h
  | z :: ys, xs, h => rise_fold ys _ (rise_addL h)
theorem mem_rowL {n : Nat} {r : List Int} {x : Int} : x ∈ rowL n r ↔ x ∈ r ∧ 0 ≤ x ∧ x < n := by
  unfold rowL
  rw [mem_fold, List.mem_filter]
  simp [validI]
  omega
theorem rise_rowL (n : Nat) (r : List Int) : (rowL n r).Pairwise (· < ·) := rise_fold _ _ List.Pairwise.nil
theorem rowL_len (n : Nat) (r : List Int) : (rowL n r).length ≤ r.length := by
  unfold rowL
  have key : ∀ (ys xs : List Int), (ys.foldl addL xs).length ≤ xs.length + ys.length := by
    intro ys
    induction ys with
    | nil => intro xs; simp
    | cons z ys ih => intro xs; rw [List.foldl_cons, List.length_cons]; have := ih (addL xs z); have := (addL_len xs z).1; omega
  have := key (r.filter (validI n)) []
  have := List.length_filter_le (validI n) r
  simp at *
  omega
theorem rowL_eq {n : Nat} {r s : List Int} (hs : s.Pairwise (· < ·)) (h : ∀ x, x ∈ s ↔ x ∈ r ∧ 0 ≤ x ∧ x < n) : rowL n r = s :=
  rise_ext (rise_rowL n r) hs (fun x => by rw [mem_rowL, h])
theorem rowL_form {n : Nat} {r : List Int} (hr : r.Pairwise (· < ·)) (hx : ∀ x ∈ r, 0 ≤ x ∧ x < n) : rowL n r = r := rowL_eq hr (fun x => ⟨fun h => ⟨h, hx x h⟩, fun h => h.1⟩)
theorem normL_len (L : List (List Int)) : (normL L).length = L.length := by simp [normL]
theorem normL_at {L : List (List Int)} {i : Nat} {r : List Int} (h : L[i]? = some r) : (normL L)[i]? = some (rowL L.length r) := by simp [normL, h]
theorem normL_norm (L : List (List Int)) : normL (normL L) = normL L := by
  show (normL L).map (rowL (normL L).length) = _
  rw [normL_len]
  unfold normL
  rw [List.map_map]
  apply List.map_congr_left
  intro r _
  exact rowL_form (rise_rowL _ _) (fun x hx => (mem_rowL.1 hx).2)
end Go.Proofs.Yteipncggndefmaa
