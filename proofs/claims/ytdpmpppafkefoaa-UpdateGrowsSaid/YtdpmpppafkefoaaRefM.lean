/- The document's own answers: lists out of lists. -/
import Derived.Test.YtdpmpppafkefoaaRefL
namespace Go.Proofs.Ytdpmpppafkefoaa
open Go.RowKit Go.Maps

/-- The numbers of a list, rising. -/
def ofL (xs : List Int) : List Int := xs.foldl addL []
def uniL (xs ys : List Int) : List Int := ys.foldl addL xs
def pickL (xs ys : List Int) (inn : Bool) : List Int := xs.filter (fun x => decide (x ∈ ys) == inn)

theorem uniL_snoc (xs ys : List Int) (y : Int) : uniL xs (ys ++ [y]) = addL (uniL xs ys) y := by simp [uniL]
theorem ofL_uniL (xs : List Int) : ofL xs = uniL [] xs := rfl
theorem uniL_len (xs ys : List Int) : (uniL xs ys).length ≤ xs.length + ys.length := by
  refine snoc_ind (Q := fun ys => (uniL xs ys).length ≤ xs.length + ys.length) (by simp [uniL]) (fun l x ih => ?_) ys
  rw [uniL_snoc, List.length_append]
  have := (addL_len (uniL xs l) x).1
  simp only [List.length_singleton]
  omega
theorem rise_uniL {xs : List Int} (h : xs.Pairwise (· < ·)) (ys : List Int) : (uniL xs ys).Pairwise (· < ·) := by
  refine snoc_ind (Q := fun ys => (uniL xs ys).Pairwise (· < ·)) (by simpa [uniL] using h) (fun l x ih => ?_) ys
  rw [uniL_snoc]
  exact rise_addL ih
theorem mem_uniL {xs ys : List Int} {y : Int} : y ∈ uniL xs ys ↔ y ∈ xs ∨ (y ∈ ys ∧ 0 ≤ y) := by
  refine snoc_ind (Q := fun ys => y ∈ uniL xs ys ↔ y ∈ xs ∨ (y ∈ ys ∧ 0 ≤ y)) (by simp [uniL]) (fun l x ih => ?_) ys
  rw [uniL_snoc, mem_addL, ih, List.mem_append, List.mem_singleton]
  constructor
  · rintro ((h | h) | ⟨rfl, h⟩)
    · exact Or.inl h
    · exact Or.inr ⟨Or.inl h.1, h.2⟩
    · exact Or.inr ⟨Or.inr rfl, h⟩
  · rintro (h | ⟨h | rfl, h2⟩)
    · exact Or.inl (Or.inl h)
    · exact Or.inl (Or.inr ⟨h, h2⟩)
    · exact Or.inr ⟨rfl, h2⟩
theorem mem_pickL {xs ys : List Int} {inn : Bool} {y : Int} : y ∈ pickL xs ys inn ↔ y ∈ xs ∧ decide (y ∈ ys) = inn := by unfold pickL; rw [List.mem_filter]; simp
theorem rise_pickL {xs : List Int} (h : xs.Pairwise (· < ·)) (ys : List Int) (inn : Bool) : (pickL xs ys inn).Pairwise (· < ·) := h.sublist List.filter_sublist
theorem pickL_len (xs ys : List Int) (inn : Bool) : (pickL xs ys inn).length ≤ xs.length := List.length_filter_le _ _

section
variable {w : World} {v u : Value} {xs ys : List Int}

end
end Go.Proofs.Ytdpmpppafkefoaa
