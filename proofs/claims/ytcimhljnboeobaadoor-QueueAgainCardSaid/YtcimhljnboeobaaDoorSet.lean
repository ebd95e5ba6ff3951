/- A set of numbers as it lies in memory; Len, word, Has. -/
import Derived.Test.YtcimhljnboeobaaDoorOnes
import Derived.Deep.QuietTactic
import Derived.BigQuiet
import Derived.Maps.OwnSet
namespace Go.Proofs.YtcimhljnboeobaaDoor
open Go.RowKit Go.Maps

theorem law : Keyed Tryd.prog 3 := int_keyed Tryd.underlying3
theorem zeroU (w : World) : (zeroValue 39).run Tryd.prog w = .ok (.int .u64 0) w := by kernel_rfl
noncomputable abbrev elemU := plainElem (H := Unit) Tryd.prog 39

/-- The blocks that a set has. -/
def Mine (sb bm : Nat) (k : Nat) : Prop := k = sb ∨ k = bm

section
variable {w w' : World} {sb bm : Nat} {D : DataW Unit} {l l' : List Nat}

theorem size_own {n : Nat} (h : w.ownsMap Tryd.prog 3 elemU bm n D) : w.ownsMap Tryd.prog 3 elemU bm (size D) D := by
  obtain ⟨es, clock, hb, F, hs, rfl⟩ := h
  refine ⟨es, clock, hb, F, ?_, rfl⟩
  rw [size_eq, length_sorted]
  simp

theorem own_of_block {n : Nat} (h : w.ownsMap Tryd.prog 3 elemU bm n D) (hb : w'.heap[bm]? = w.heap[bm]?) : w'.ownsMap Tryd.prog 3 elemU bm n D := by
  obtain ⟨es, clock, h1, h2⟩ := h
  exact ⟨es, clock, hb.trans h1, h2⟩

end
end Go.Proofs.YtcimhljnboeobaaDoor
