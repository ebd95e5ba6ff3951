/- graph.Reach and graph.Leads. -/
import Derived.Test.YtedleliddhhacaaGWalkW
namespace Go.Proofs.Ytedleliddhhacaa
open Go.RowKit Go.Maps Go.Shelf

theorem seenA_nil (n : Nat) : seenA n [] = Array.replicate n (.bool false) := by
  apply Array.ext'
  unfold seenA
  apply List.ext_getElem?
  intro i
  by_cases hi : i < n
  · simp [hi]
  · rw [List.getElem?_eq_none (by simp; omega), List.getElem?_eq_none (by simp; omega)]
theorem make_bools (n : Nat) (hn : n ≤ 100000) (w : World) : (Instr.makeSlice 40 (.int .i64 (n : Int)) (.int .i64 (n : Int))).run Try.prog w = .ok (.slice (some ⟨w.heap.size, 0, none⟩) n n) (w.alloc (.cells (seenA n []) 4)) := by
  obtain ⟨i0, hi0, hz0, hz1, hz2⟩ := info_parts infoB1
  have hb : (i0.bytes : Int) * (n : Int) ≤ 281474976710656 := by rw [hz2]; omega
  have hr := run_make (P := Try.prog) w 40 4 i0 _ Try.underlying40 hi0 hz0 .i64 .i64 n n (by omega) (by omega) hb (by omega)
  rw [hr, hz1, Nat.mul_one, Int.toNat_natCast, show (Value.bool false).cells = #[Value.bool false] from rfl, made_one, seenA_nil]
  simp

/-- Nothing is told. -/
def NoLv (_ : World) (own : Nat → Prop) (_ : List Nat) : Prop := ∀ b, ¬ own b
/-- Does a way lead from one to the other? -/
def leadsP (L : List (List Int)) (a b : Int) : Prop := 0 ≤ a ∧ 0 ≤ b ∧ Way L a.toNat b.toNat
theorem leads_lt {L : List (List Int)} {a b : Int} (h : leadsP L a b) : a < L.length ∧ b < L.length := by
  have := h.2.2.lt
  have := h.1
  have := h.2.1
  omega
end Go.Proofs.Ytedleliddhhacaa
