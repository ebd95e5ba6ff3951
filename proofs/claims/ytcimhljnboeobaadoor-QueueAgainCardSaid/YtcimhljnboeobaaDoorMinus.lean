/- Minus, Both, Copy. -/
import Derived.Test.YtcimhljnboeobaaDoorPick
namespace Go.Proofs.YtcimhljnboeobaaDoor
open Go.RowKit Go.Maps

section
variable {w w' : World} {sb bm so bo : Nat} {D Do : DataW Unit} {l l' o : List Nat}

def less (l o : List Nat) : List Nat := l.filter (fun n => !decide (n ∈ o))
def both (l o : List Nat) : List Nat := l.filter (fun n => decide (n ∈ o))

theorem testBit_eq {c k : Nat} {l : List Nat} (h : Bit c k l) {j : Nat} (hj : j < 64) : c.testBit j = decide (64 * k + j ∈ l) := by
  rw [Bool.eq_iff_iff, decide_eq_true_iff]
  exact h.2 j hj

end
end Go.Proofs.YtcimhljnboeobaaDoor
