/- Minus, Both, Copy. -/
import Derived.Test.YtdpmpppafkefoaaDoorPick
namespace Go.Proofs.YtdpmpppafkefoaaDoor
open Go.RowKit Go.Maps

section
variable {w w' : World} {sb bm so bo : Nat} {D Do : DataW Unit} {l l' o : List Nat}

theorem cell_new0 (w : World) (ov : Value) : (w.alloc (.cells #[ov] 26)).cell? ⟨w.heap.size, 0, none⟩ = some ov := by
  have := cell_one_new w ov 26 0 ov rfl
  rwa [add0] at this

/-- A set in new blocks. -/
def NewSet (w w' : World) (e : Ending) (l : List Nat) : Prop := ∃ sb bm D, e = .returned (.pointer (some ⟨sb, 0, none⟩)) ∧ w.heap.size ≤ sb ∧ w.heap.size ≤ bm ∧ SetAt w' sb bm D l ∧ Below w.heap.size w w'

def less (l o : List Nat) : List Nat := l.filter (fun n => !decide (n ∈ o))
def both (l o : List Nat) : List Nat := l.filter (fun n => decide (n ∈ o))

theorem testBit_eq {c k : Nat} {l : List Nat} (h : Bit c k l) {j : Nat} (hj : j < 64) : c.testBit j = decide (64 * k + j ∈ l) := by
  rw [Bool.eq_iff_iff, decide_eq_true_iff]
  exact h.2 j hj

end
end Go.Proofs.YtdpmpppafkefoaaDoor
