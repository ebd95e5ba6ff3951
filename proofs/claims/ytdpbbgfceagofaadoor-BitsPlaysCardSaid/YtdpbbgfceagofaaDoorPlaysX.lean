/- BitsPlays: what the switch leaves; a block of the body. -/
import Derived.Test.YtdpbbgfceagofaaDoorPlayC
import Derived.Test.YtdpbbgfceagofaaDoorFindB
import Derived.Deep.Cut
import Derived.Deep.CutRange
import Derived.Deep.CutBlock
import Derived.Deep.RegionHeld3
import Derived.BigQuiet
namespace Go.Proofs.YtdpbbgfceagofaaDoor
open Go.RowKit Go.Maps

theorem rd_made (w : World) (ys : List Int) (h : ys ≠ []) : RdI (w.alloc (.cells (ys.map encI).toArray 3 (0, 0))) (.slice (some ⟨w.heap.size, 0, none⟩) ys.length ys.length) ys := by
  refine Or.inr ⟨w.heap.size, 0, ys.length, by rw [List.length_map], by simp, fun i x hx => ?_⟩
  rw [blk_cell (heap_alloc_new w _), Nat.zero_add]
  simpa using hx

theorem set_self {α : Type} {l : List α} {a : Nat} {x y : α} (h : l[a]? = some x) : (l.set a y)[a]? = some y := List.getElem?_set_self (List.getElem?_eq_some_iff.1 h).1
theorem set_other {L : List (Nat × List Nat)} {a b sa sb : Nat} {la lb l' : List Nat} (ha : L[a]? = some (sa, la)) (hb : L[b]? = some (sb, lb)) : ∃ l2, (L.set a (sa, l'))[b]? = some (sb, l2) := by
  by_cases h : b = a
  · subst h
    rw [ha] at hb
    simp only [Option.some.injEq, Prod.mk.injEq] at hb
    obtain ⟨rfl, -⟩ := hb
    exact ⟨l', set_self ha⟩
  · exact ⟨lb, by rw [List.getElem?_set_ne (Ne.symm h)]; exact hb⟩

def Turned (w w' : World) (ps ws xb : Nat) (d A B n : Int) (m : Nat) : Prop := ∃ L' vs' rss' V', Play w w' ps ws L' vs' rss' [(xb, .cells #[.int .i64 d, .int .i64 A, .int .i64 B, .int .i64 n] 29)] V' ∧ Match L' rss' ∧ V'.length ≤ m
end Go.Proofs.YtdpbbgfceagofaaDoor
