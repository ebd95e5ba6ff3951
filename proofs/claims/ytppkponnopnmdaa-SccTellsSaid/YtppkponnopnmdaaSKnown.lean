/- What is known of the known graph. -/
import Derived.Test.YtppkponnopnmdaaSOrder
import Derived.Test.YtppkponnopnmdaaGLaw
namespace Go.Proofs.Ytppkponnopnmdaa
open Go.RowKit Go.Maps Go.Shelf Go.WideShapes Go.ChangeShapes Go.ChangeAt Go.Deep

def knownS : List (List Int) := [[1], [2], [1, 3], [3], [0]]
theorem edge_known {x y : Nat} : Edge knownS x y ↔ (x = 0 ∧ y = 1) ∨ (x = 1 ∧ y = 2) ∨ (x = 2 ∧ y = 1) ∨ (x = 2 ∧ y = 3) ∨ (x = 3 ∧ y = 3) ∨ (x = 4 ∧ y = 0) := by
  constructor
  · rintro ⟨hy, r, hr, hm⟩
    match x, hr with
    | 0, hr => simp [knownS] at hr; subst hr; simp at hm; omega
    | 1, hr => simp [knownS] at hr; subst hr; simp at hm; omega
    | 2, hr => simp [knownS] at hr; subst hr; simp at hm; omega
    | 3, hr => simp [knownS] at hr; subst hr; simp at hm; omega
    | 4, hr => simp [knownS] at hr; subst hr; simp at hm; omega
    | (k + 5), hr => simp [knownS] at hr
  · rintro (⟨rfl, rfl⟩ | ⟨rfl, rfl⟩ | ⟨rfl, rfl⟩ | ⟨rfl, rfl⟩ | ⟨rfl, rfl⟩ | ⟨rfl, rfl⟩)
    · exact ⟨by decide, _, rfl, by decide⟩
    · exact ⟨by decide, _, rfl, by decide⟩
    · exact ⟨by decide, _, rfl, by decide⟩
    · exact ⟨by decide, _, rfl, by decide⟩
    · exact ⟨by decide, _, rfl, by decide⟩
    · exact ⟨by decide, _, rfl, by decide⟩
/-- How far a node is along. -/
def rankK (x : Nat) : Int := if x = 4 then 0 else if x = 0 then 1 else if x = 1 then 2 else if x = 2 then 2 else 3
theorem rank_way {a b : Nat} (h : Way knownS a b) : rankK a ≤ rankK b := by
  induction h with
  | refl _ => exact Int.le_refl _
  | step _ e ih =>
    refine Int.le_trans ih ?_
    rcases edge_known.1 e with ⟨rfl, rfl⟩ | ⟨rfl, rfl⟩ | ⟨rfl, rfl⟩ | ⟨rfl, rfl⟩ | ⟨rfl, rfl⟩ | ⟨rfl, rfl⟩ <;> decide
theorem sc_12 : SC knownS 1 2 := ⟨.step (.refl (by decide)) (edge_known.2 (by omega)), .step (.refl (by decide)) (edge_known.2 (by omega))⟩
theorem marks_known : Marks knownS rankK := by
  intro x y hx hy
  have hx' : x < 5 := hx
  have hy' : y < 5 := hy
  constructor
  · intro h
    by_cases e : x = y
    · subst e; exact .refl hx
    · have : (x = 1 ∧ y = 2) ∨ (x = 2 ∧ y = 1) := by
        revert h e
        match x, hx', y, hy' with
        | 0, _, 0, _ => simp
        | 0, _, 1, _ => simp [rankK]
        | 0, _, 2, _ => simp [rankK]
        | 0, _, 3, _ => simp [rankK]
        | 0, _, 4, _ => simp [rankK]
        | 1, _, 0, _ => simp [rankK]
        | 1, _, 1, _ => simp
        | 1, _, 2, _ => simp [rankK]
        | 1, _, 3, _ => simp [rankK]
        | 1, _, 4, _ => simp [rankK]
        | 2, _, 0, _ => simp [rankK]
        | 2, _, 1, _ => simp [rankK]
        | 2, _, 2, _ => simp
        | 2, _, 3, _ => simp [rankK]
        | 2, _, 4, _ => simp [rankK]
        | 3, _, 0, _ => simp [rankK]
        | 3, _, 1, _ => simp [rankK]
        | 3, _, 2, _ => simp [rankK]
        | 3, _, 3, _ => simp
        | 3, _, 4, _ => simp [rankK]
        | 4, _, 0, _ => simp [rankK]
        | 4, _, 1, _ => simp [rankK]
        | 4, _, 2, _ => simp [rankK]
        | 4, _, 3, _ => simp [rankK]
        | 4, _, 4, _ => simp
      rcases this with ⟨rfl, rfl⟩ | ⟨rfl, rfl⟩
      · exact sc_12
      · exact sc_12.symm
  · rintro ⟨h1, h2⟩
    have := rank_way h1
    have := rank_way h2
    omega
theorem num_known : (List.range 5).map (numF 5 rankK) = [0, 1, 1, 2, 3] := by decide
def foldS : List (List Int) := [[1], [2], [], [0]]
theorem edge_fold {x y : Nat} : Edge foldS x y ↔ (x = 0 ∧ y = 1) ∨ (x = 1 ∧ y = 2) ∨ (x = 3 ∧ y = 0) := by
  constructor
  · rintro ⟨hy, r, hr, hm⟩
    match x, hr with
    | 0, hr => simp [foldS] at hr; subst hr; simp at hm; omega
    | 1, hr => simp [foldS] at hr; subst hr; simp at hm; omega
    | 2, hr => simp [foldS] at hr; subst hr; simp at hm
    | 3, hr => simp [foldS] at hr; subst hr; simp at hm; omega
    | (k + 4), hr => simp [foldS] at hr
  · rintro (⟨rfl, rfl⟩ | ⟨rfl, rfl⟩ | ⟨rfl, rfl⟩)
    · exact ⟨by decide, _, rfl, by decide⟩
    · exact ⟨by decide, _, rfl, by decide⟩
    · exact ⟨by decide, _, rfl, by decide⟩
theorem fold_known : FoldOf knownS rankK foldS := by
  refine ⟨by decide, ?_, fun a b => ?_⟩
  · intro r hr
    revert r
    decide
  · rw [edge_fold]
    have n0 : numF knownS.length rankK 0 = 0 := by decide
    have n1 : numF knownS.length rankK 1 = 1 := by decide
    have n2 : numF knownS.length rankK 2 = 1 := by decide
    have n3 : numF knownS.length rankK 3 = 2 := by decide
    have n4 : numF knownS.length rankK 4 = 3 := by decide
    constructor
    · rintro (⟨rfl, rfl⟩ | ⟨rfl, rfl⟩ | ⟨rfl, rfl⟩)
      · exact ⟨by decide, 0, 1, edge_known.2 (by omega), n0, n1⟩
      · exact ⟨by decide, 2, 3, edge_known.2 (by omega), n2, n3⟩
      · exact ⟨by decide, 4, 0, edge_known.2 (by omega), n4, n0⟩
    · rintro ⟨hne, i, x, e, h1, h2⟩
      rcases edge_known.1 e with ⟨rfl, rfl⟩ | ⟨rfl, rfl⟩ | ⟨rfl, rfl⟩ | ⟨rfl, rfl⟩ | ⟨rfl, rfl⟩ | ⟨rfl, rfl⟩
      · rw [n0] at h1; rw [n1] at h2; omega
      · rw [n1] at h1; rw [n2] at h2; omega
      · rw [n2] at h1; rw [n1] at h2; omega
      · rw [n2] at h1; rw [n3] at h2; omega
      · rw [n3] at h1; rw [n3] at h2; omega
      · rw [n4] at h1; rw [n0] at h2; omega
theorem ord_known : OrdOf foldS [3, 0, 1, 2] := by
  refine ⟨rfl, fun i c hi => ?_⟩
  have h1 : ∀ p, (3 : Nat) ∉ p → ¬ Free foldS p 0 := fun p hp h => hp (h.2.2 3 (edge_fold.2 (by omega)))
  have h2 : ∀ p, (0 : Nat) ∉ p → ¬ Free foldS p 1 := fun p hp h => hp (h.2.2 0 (edge_fold.2 (by omega)))
  have h3 : ∀ p, (1 : Nat) ∉ p → ¬ Free foldS p 2 := fun p hp h => hp (h.2.2 1 (edge_fold.2 (by omega)))
  match i, hi with
  | 0, hi =>
    obtain rfl : 3 = c := Option.some.inj hi
    refine ⟨⟨by decide, by decide, fun a e => ?_⟩, fun c' hc' => ?_⟩
    · rcases edge_fold.1 e with h | h | h <;> omega
    · match c', hc' with
      | 0, _ => exact h1 _ (by decide)
      | 1, _ => exact h2 _ (by decide)
      | 2, _ => exact h3 _ (by decide)
  | 1, hi =>
    obtain rfl : 0 = c := Option.some.inj hi
    refine ⟨⟨by decide, by decide, fun a e => ?_⟩, fun c' hc' => by omega⟩
    rcases edge_fold.1 e with h | h | h
    · omega
    · omega
    · rw [h.1]; decide
  | 2, hi =>
    obtain rfl : 1 = c := Option.some.inj hi
    refine ⟨⟨by decide, by decide, fun a e => ?_⟩, fun c' hc' => ?_⟩
    · rcases edge_fold.1 e with h | h | h
      · rw [h.1]; decide
      · omega
      · omega
    · obtain rfl : c' = 0 := by omega
      exact fun h => h.2.1 (by decide)
  | 3, hi =>
    obtain rfl : 2 = c := Option.some.inj hi
    refine ⟨⟨by decide, by decide, fun a e => ?_⟩, fun c' hc' => ?_⟩
    · rcases edge_fold.1 e with h | h | h
      · omega
      · rw [h.1]; decide
      · omega
    · match c', hc' with
      | 0, _ => exact fun h => h.2.1 (by decide)
      | 1, _ => exact fun h => h.2.1 (by decide)
  | (k + 4), hi => simp at hi
theorem cyc_known : ∀ x, x < 5 → cycB knownS x = decide (x = 1 ∨ x = 2 ∨ x = 3) := by
  intro x hx
  rw [Bool.eq_iff_iff, cycB_iff, decide_eq_true_iff]
  constructor
  · rintro (⟨y, hy, h⟩ | h)
    · have h1 := (marks_known x y h.1.lt.1 h.1.lt.2).2 h
      have hy5 : y < 5 := h.1.lt.2
      by_cases hx0 : x = 0
      · subst hx0
        have : y = 0 := by
          match y, hy5 with
          | 0, _ => rfl
          | 1, _ => simp [rankK] at h1
          | 2, _ => simp [rankK] at h1
          | 3, _ => simp [rankK] at h1
          | 4, _ => simp [rankK] at h1
        exact absurd this hy
      · by_cases hx4 : x = 4
        · subst hx4
          have : y = 4 := by
            match y, hy5 with
            | 0, _ => simp [rankK] at h1
            | 1, _ => simp [rankK] at h1
            | 2, _ => simp [rankK] at h1
            | 3, _ => simp [rankK] at h1
            | 4, _ => rfl
          exact absurd this hy
        · omega
    · have := edge_known.1 h; omega
  · rintro (rfl | rfl | rfl)
    · exact .inl ⟨2, by decide, sc_12⟩
    · exact .inl ⟨1, by decide, sc_12.symm⟩
    · exact .inr (edge_known.2 (by omega))
end Go.Proofs.Ytppkponnopnmdaa
