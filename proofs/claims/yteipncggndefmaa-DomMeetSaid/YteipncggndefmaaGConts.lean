/- What is left to do of a walk whose visits are open. -/
import Derived.Test.YteipncggndefmaaGPost
namespace Go.Proofs.Yteipncggndefmaa

inductive Conts (L : List (List Int)) : List (Nat × Nat) → List Nat → List Nat → List Nat → List Nat → Prop
  | nil {s o : List Nat} : Conts L [] s o s o
  | cons {x t : Nat} {r : List Int} {k : List (Nat × Nat)} {s o s1 o1 s' o' : List Nat} : L[x]? = some r → t ≤ r.length → Kids L (r.drop t) s o s1 o1 → Conts L k s1 (x :: o1) s' o' → Conts L ((x, t) :: k) s o s' o'

theorem Conts.pop {L : List (List Int)} {x t : Nat} {r : List Int} {k : List (Nat × Nat)} {s o s' o' : List Nat} (h : Conts L ((x, t) :: k) s o s' o') (hr : L[x]? = some r) (ht : t = r.length) : Conts L k s (x :: o) s' o' := by
  cases h with
  | cons hr' _ hk hc =>
    rw [hr] at hr'
    obtain rfl := Option.some.inj hr'
    rw [ht, List.drop_length] at hk
    cases hk
    exact hc
theorem Conts.skip {L : List (List Int)} {x t : Nat} {r : List Int} {y : Int} {k : List (Nat × Nat)} {s o s' o' : List Nat} (h : Conts L ((x, t) :: k) s o s' o') (hr : L[x]? = some r) (hy : r[t]? = some y) (hs : (0 ≤ y ∧ y < L.length) → y.toNat ∈ s) : Conts L ((x, t + 1) :: k) s o s' o' := by
  cases h with
  | cons hr' _ hk hc =>
    rw [hr] at hr'
    obtain rfl := Option.some.inj hr'
    have ht := (List.getElem?_eq_some_iff.1 hy).1
    rw [List.drop_eq_getElem_cons ht, (List.getElem?_eq_some_iff.1 hy).2] at hk
    refine .cons hr (by omega) ?_ hc
    generalize hl : (y :: List.drop (t + 1) r) = l at hk
    cases hk with
    | nil => cases hl
    | skip _ k => obtain ⟨rfl, rfl⟩ := List.cons.inj hl; exact k
    | go h1 h2 _ _ _ =>
      obtain ⟨rfl, rfl⟩ := List.cons.inj hl
      exact absurd (hs ⟨by omega, by omega⟩) (by simpa using h2)
theorem Conts.push {L : List (List Int)} {x t y : Nat} {r : List Int} {k : List (Nat × Nat)} {s o s' o' : List Nat} (h : Conts L ((x, t) :: k) s o s' o') (hr : L[x]? = some r) (hy : r[t]? = some (y : Int)) (hn : y < L.length) (hs : y ∉ s) : Conts L ((y, 0) :: (x, t + 1) :: k) (y :: s) o s' o' := by
  cases h with
  | cons hr' _ hk hc =>
    rw [hr] at hr'
    obtain rfl := Option.some.inj hr'
    have ht := (List.getElem?_eq_some_iff.1 hy).1
    rw [List.drop_eq_getElem_cons ht, (List.getElem?_eq_some_iff.1 hy).2] at hk
    generalize hl : ((y : Int) :: List.drop (t + 1) r) = l at hk
    cases hk with
    | nil => cases hl
    | skip h1 k => obtain ⟨rfl, rfl⟩ := List.cons.inj hl; exact absurd (by simpa using h1 ⟨by omega, by omega⟩) hs
    | go h1 h2 hry k1 k2 =>
      obtain ⟨e, rfl⟩ := List.cons.inj hl
      obtain rfl := Int.ofNat_inj.1 e
      exact .cons hry (Nat.zero_le _) (by rw [List.drop_zero]; exact k1) (.cons hr (by omega) k2 hc)
theorem Conts.done {L : List (List Int)} {s o s' o' : List Nat} (h : Conts L [] s o s' o') : s' = s ∧ o' = o := by cases h; exact ⟨rfl, rfl⟩
/-- The next to begin with: what its walk comes to, and what is left. -/
theorem Kids.next {L : List (List Int)} {y : Int} {l : List Int} {s o s' o' : List Nat} (h : Kids L (y :: l) s o s' o') :
    (((0 ≤ y ∧ y < L.length) → y.toNat ∈ s) → Kids L l s o s' o') ∧ ((0 ≤ y ∧ y < L.length) → y.toNat ∉ s → ∃ s1 o1, Conts L [(y.toNat, 0)] (y.toNat :: s) o s1 o1 ∧ Kids L l s1 o1 s' o') := by
  generalize hl : (y :: l) = m at h
  cases h with
  | nil => cases hl
  | skip h1 k =>
    obtain ⟨rfl, rfl⟩ := List.cons.inj hl
    exact ⟨fun _ => k, fun h2 h3 => absurd (h1 h2) h3⟩
  | go h1 h2 hr k1 k2 =>
    obtain ⟨rfl, rfl⟩ := List.cons.inj hl
    refine ⟨fun h3 => absurd (h3 ⟨by omega, by omega⟩) (by simpa using h2), fun _ _ => ?_⟩
    rw [Int.toNat_natCast]
    exact ⟨_, _, .cons hr (Nat.zero_le _) (by rw [List.drop_zero]; exact k1) .nil, k2⟩

/-- How much is left to do. -/
def degL (L : List (List Int)) (x : Nat) : Nat := (L[x]?.getD []).length
def stkM (L : List (List Int)) (k : List (Nat × Nat)) : Nat := (k.map (fun p => degL L p.1 - p.2 + 1)).sum
def unM (L : List (List Int)) (s : List Nat) : Nat := (((List.range L.length).filter (fun x => !decide (x ∈ s))).map (fun x => degL L x + 1)).sum
theorem unM_push {L : List (List Int)} {y : Nat} {s : List Nat} (hy : y < L.length) (hs : y ∉ s) : unM L (y :: s) + (degL L y + 1) ≤ unM L s := by
  have key : ∀ l : List Nat, ((l.filter (fun x => !decide (x ∈ y :: s))).map (fun x => degL L x + 1)).sum ≤ ((l.filter (fun x => !decide (x ∈ s))).map (fun x => degL L x + 1)).sum ∧
      (y ∈ l → ((l.filter (fun x => !decide (x ∈ y :: s))).map (fun x => degL L x + 1)).sum + (degL L y + 1) ≤ ((l.filter (fun x => !decide (x ∈ s))).map (fun x => degL L x + 1)).sum) := by
    intro l
    induction l with
    | nil => simp
    | cons x l ih =>
      obtain ⟨i1, i2⟩ := ih
      rw [List.filter_cons, List.filter_cons]
      by_cases hx : x = y
      · subst hx
        simp [hs]
        simp at i1
        omega
      · by_cases h1 : x ∈ s
        · simp [h1, hx]
          simp at i1 i2
          refine ⟨i1, fun h => ?_⟩
          rcases h with h | h
          · exact absurd h.symm hx
          · exact i2 h
        · simp [h1, hx]
          simp at i1 i2
          refine ⟨i1, fun h => ?_⟩
          rcases h with h | h
          · exact absurd h.symm hx
          · have := i2 h; omega
  exact (key (List.range L.length)).2 (List.mem_range.2 hy)
theorem unseen_all (n : Nat) (s : List Nat) : unseen n s ≤ n := by
  unfold unseen
  exact Nat.le_trans (List.length_filter_le _ _) (by simp)
end Go.Proofs.Yteipncggndefmaa
