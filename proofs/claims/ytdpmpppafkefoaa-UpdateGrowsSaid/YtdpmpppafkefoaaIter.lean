/- The iterator over a set's words, rising: its contract. -/
import Derived.Test.YtdpmpppafkefoaaRise
import Derived.RangeFuncNested
import Derived.RangeFuncBound
import Derived.RangeFuncCalls
import Derived.RangeFuncLeaves
import Derived.Shelf.RegionOpen
import Derived.OwnWalkIn
import Derived.TacticsInMore
import Derived.LoopNIn
import Derived.LoopIn
namespace Go.Proofs.Ytdpmpppafkefoaa
open Go.RowKit Go.Maps Go.Sort Go.Shelf

attribute [local go_sem] Oper.semAt_some

/-- The block in which the slice lies that the box Bo holds. -/
def rowOf (Bo : Nat) (W : World) : Option Nat := (W.cell? ⟨Bo, 0, none⟩).bind Value.ownBlock

/-- What a round keeps: all cells but the box Bo and its slice's; whatever lay below n1 but those. -/
structure Kp (Bo n1 : Nat) (W W' : World) : Prop where
  size : W.heap.size ≤ W'.heap.size
  same : ∀ k o, W.heap[k]? = some o → k ≠ Bo → rowOf Bo W ≠ some k → (o.isCells = true ∨ k < n1) → W'.heap[k]? = some o
  row : ∀ g, rowOf Bo W' = some g → rowOf Bo W = some g ∨ W.heap.size ≤ g

theorem Kp.refl (Bo n1 : Nat) (W : World) : Kp Bo n1 W W := ⟨Nat.le_refl _, fun _ _ h _ _ _ => h, fun _ h => Or.inl h⟩
theorem Kp.trans {Bo n1 : Nat} {A B C : World} (h : Kp Bo n1 A B) (g : Kp Bo n1 B C) : Kp Bo n1 A C := by
  refine ⟨Nat.le_trans h.size g.size, fun k o hk h1 h2 h3 => ?_, fun b hb => ?_⟩
  · refine g.same k o (h.same k o hk h1 h2 h3) h1 (fun e => ?_) h3
    rcases h.row k e with h4 | h4
    · exact h2 h4
    · have := (Array.getElem?_eq_some_iff.1 hk).1
      omega
  · rcases g.row b hb with h4 | h4
    · exact h.row b h4
    · exact Or.inr (Nat.le_trans h.size h4)
theorem Kp.put {Bo n1 : Nat} (hB : Bo < n1) (W : World) (l : Nat) (o o' : Obj) (hl : n1 ≤ l) (h : W.heap[l]? = some o) (hc : o.isCells = false) (_ : o.isWalk = false) : Kp Bo n1 W (W.putObj l o') := by
  have hg := grownBy_putObj' W l o'
  have hr : rowOf Bo (W.putObj l o') = rowOf Bo W := by
    unfold rowOf
    by_cases hlt : Bo < W.heap.size
    · rw [World.cell?_of_block (w := W) (hg.block Bo hlt (by simp; omega))]
    · have := (Array.getElem?_eq_some_iff.1 h).1; omega
  refine ⟨hg.size, fun k ob hk h1 h2 h3 => ?_, fun g hgr => Or.inl (hr ▸ hgr)⟩
  by_cases e : k = l
  · subst e
    rw [h] at hk
    cases hk
    rw [hc] at h3
    rcases h3 with h3 | h3
    · cases h3
    · omega
  · exact (hg.block k (Array.getElem?_eq_some_iff.1 hk).1 (by simp; exact e)).trans hk

/-- A word and its key, as they come (each within its kind). -/
def encP (x : Nat × Nat) : Array Value := #[.int .i64 ((x.1 % 144115188075855872 : Nat) : Int), .int .u64 ((x.2 % 18446744073709551616 : Nat) : Int)]

theorem row_same {W W' : World} {base : Nat} {v : Value} {n : Nat} {xs : List Value} (h : W.ownsRow base 3 1 v n xs) (hs : ∀ g o, v.ownBlock = some g → W.heap[g]? = some o → o.isCells = true → W'.heap[g]? = some o) : W'.ownsRow base 3 1 v n xs := by
  obtain ⟨h1, h2⟩ := h
  refine ⟨h1, or_map h2 id ?_⟩
  rintro ⟨g, cap, cur, rfl, h3, h4, h5⟩
  exact ⟨g, cap, cur, rfl, h3, hs g _ rfl h4 rfl, h5⟩

theorem own_form {W : World} {base e size : Nat} {v : Value} {n : Nat} {xs : List Value} (h : W.ownsRow base e size v n xs) : ∃ a cap, v = .slice a n cap := by
  rcases h.2 with ⟨rfl, h0⟩ | ⟨g, cap, cur, rfl, _⟩
  · exact ⟨none, 0, by rw [h0]⟩
  · exact ⟨_, cap, rfl⟩

section
variable {w : World} {sb bm Bs Bo n1 : Nat} {D : DataW Unit} {l : List Nat}

/-- What comes: the words of the keys ks, rising. -/
def Comes (D : DataW Unit) (l : List Nat) (xs : List (Nat × Nat)) : Prop := ∃ ks : List Nat, ks.Pairwise (· < ·) ∧ (∀ k, k ∈ ks ↔ has D (key k) = true) ∧ xs = ks.map (fun k => (k, wordOf l k))

end
end Go.Proofs.Ytdpmpppafkefoaa
