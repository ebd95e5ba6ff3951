/- names: the fields that an operation has; instructions whose fields may not be. -/
import Derived.Test.YtjblhiekccjdcaaRNTwice
namespace Go.Proofs.YtjblhiekccjdcaaR
open Go.RowKit Go.Maps

structure Shp where
  dst : Int
  a : Int
  b : Int
  fn : Int
  low : Int
  high : Int
  args : Int
  labels : Int
def shapeN (op : Int) : Option Shp :=
  if op = 1 ∨ op = 2 then some ⟨2, 0, 0, 0, 1, 64, 0, 0⟩ else if op = 3 then some ⟨2, 0, 0, 0, 0, 0, 0, 0⟩ else if op = 4 then some ⟨2, 0, 0, 2, 0, 0, 0, 0⟩
  else if op = 5 ∨ op = 8 then some ⟨2, 2, 0, 0, 0, 0, 0, 0⟩ else if op = 6 then some ⟨2, 0, 0, 0, 0, 0, -1, -1⟩ else if op = 7 then some ⟨2, 2, 0, 0, 0, 63, 0, 0⟩
  else if op = 9 then some ⟨0, 2, 2, 0, 0, 0, 0, 0⟩ else if op = 10 then some ⟨1, 0, 0, 2, 0, 0, -1, 0⟩ else if op = 11 then some ⟨1, 2, 0, 0, 0, 0, -1, 0⟩
  else if op = 12 then some ⟨0, 0, 0, 0, 0, 0, 0, 2⟩ else if op = 13 then some ⟨0, 0, 0, 0, 0, 0, 0, 1⟩ else if op = 14 then some ⟨0, 1, 0, 0, 0, 0, 0, 0⟩ else none
def shpA (s : Shp) : Array Value := #[.int .u8 s.dst, .int .u8 s.a, .int .u8 s.b, .int .u8 s.fn, .int .i64 s.low, .int .i64 s.high, .int .i64 s.args, .int .i64 s.labels]
theorem ops15 {op : Int} (h0 : 0 ≤ op) : (op = 1 ∨ op = 2 ∨ op = 3 ∨ op = 4 ∨ op = 5 ∨ op = 6 ∨ op = 7 ∨ op = 8 ∨ op = 9 ∨ op = 10 ∨ op = 11 ∨ op = 12 ∨ op = 13 ∨ op = 14) ∨ (op = 0 ∨ 14 < op) := by omega
set_option maxHeartbeats 2000000 in
theorem shapeOf_some (op : Int) (s : Shp) (hs : shapeN op = some s) (w : World) : Calls Try.prog 71 #[.int .u8 op] w fun e w' => e = .returned (.tuple #[.agg (shpA s), .bool true]) ∧ Below w.heap.size w w' := by
  have h : op = 1 ∨ op = 2 ∨ op = 3 ∨ op = 4 ∨ op = 5 ∨ op = 6 ∨ op = 7 ∨ op = 8 ∨ op = 9 ∨ op = 10 ∨ op = 11 ∨ op = 12 ∨ op = 13 ∨ op = 14 := by
    unfold shapeN at hs
    repeat' split at hs
    all_goals first | omega | cases hs
  rcases h with rfl | rfl | rfl | rfl | rfl | rfl | rfl | rfl | rfl | rfl | rfl | rfl | rfl | rfl <;> (
    simp only [shapeN] at hs
    simp at hs
    subst hs
    go_enter Try.func71, Try.ntmps71
    go_wp2_with fail
    refine bodyPost_ret (by simp [results, Try.results71, go_sem, shpA]) rfl ⟨rfl, ?_⟩
    exact (Below.refl _ _).alloc (Nat.le_refl _) _)
set_option maxHeartbeats 2000000 in
theorem shapeOf_none (op : Int) (h0 : 0 ≤ op) (hs : shapeN op = none) (w : World) : Calls Try.prog 71 #[.int .u8 op] w fun e w' => e = .returned (.tuple #[.agg #[.int .u8 0, .int .u8 0, .int .u8 0, .int .u8 0, .int .i64 0, .int .i64 0, .int .i64 0, .int .i64 0], .bool false]) ∧ Below w.heap.size w w' := by
  have h : op = 0 ∨ 14 < op := by
    rcases ops15 h0 with h | h
    · exfalso
      rcases h with rfl | rfl | rfl | rfl | rfl | rfl | rfl | rfl | rfl | rfl | rfl | rfl | rfl | rfl <;> simp [shapeN] at hs
    · exact h
  clear hs
  have j1 : (op == 1) = false := by simp; omega
  have j2 : (op == 2) = false := by simp; omega
  have j3 : (op == 3) = false := by simp; omega
  have j4 : (op == 4) = false := by simp; omega
  have j5 : (op == 5) = false := by simp; omega
  have j6 : (op == 6) = false := by simp; omega
  have j7 : (op == 7) = false := by simp; omega
  have j8 : (op == 8) = false := by simp; omega
  have j9 : (op == 9) = false := by simp; omega
  have j10 : (op == 10) = false := by simp; omega
  have j11 : (op == 11) = false := by simp; omega
  have j12 : (op == 12) = false := by simp; omega
  have j13 : (op == 13) = false := by simp; omega
  have j14 : (op == 14) = false := by simp; omega
  clear h
  go_enter Try.func71, Try.ntmps71
  go_wp2_with fail
  refine bodyPost_ret (by simp [results, Try.results71, go_sem]) rfl ⟨rfl, ?_⟩
  exact (Below.refl _ _).alloc (Nat.le_refl _) _

def missB (k : Int) (s : ByteArray) : Bool := (k == 0 && !s.toList.isEmpty) || (k == 2 && s.toList.isEmpty)
def misB (k n : Int) : Bool := (k != -1) && (k != n)
theorem misses_any (k : Int) (s : ByteArray) (w : World) : Calls Try.prog 74 #[.int .u8 k, .string s] w fun e w' => e = .returned (.bool (missB k s)) ∧ w' = w := by
  unfold missB
  generalize h1 : (k == 0) = p
  generalize h2 : (k == 2) = q
  generalize h3 : s.toList.isEmpty = r
  cases p <;> cases q <;> cases r <;> (go_enter Try.func74, Try.ntmps74; go_wp2; go_ret; exact ⟨rfl, rfl⟩)
theorem miscounts_any (k n : Int) (w : World) : Calls Try.prog 75 #[.int .i64 k, .int .i64 n] w fun e w' => e = .returned (.bool (misB k n)) ∧ w' = w := by
  unfold misB
  generalize h1 : (k != -1) = p
  generalize h2 : (k != n) = q
  cases p <;> cases q <;> (go_enter Try.func75, Try.ntmps75; go_wp2; go_ret; exact ⟨rfl, rfl⟩)
end Go.Proofs.YtjblhiekccjdcaaR
