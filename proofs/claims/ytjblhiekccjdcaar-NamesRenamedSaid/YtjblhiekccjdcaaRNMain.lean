/- names: the questions of the functions' number and of main. -/
import Derived.Test.YtjblhiekccjdcaaRNQuestF
namespace Go.Proofs.YtjblhiekccjdcaaR
open Go.RowKit Go.Maps Go.Shelf

/-- An answer: a point, if there is one. -/
def ansP (x : Option (Nat × Nat × Nat)) : Value := .tuple #[.agg (ptA (x.getD (0, 0, 0))), .bool x.isSome]
theorem ansP_of (x : Option Prt) : ansV x = ansP (x.map Prt.at) := by cases x <;> rfl
def manyP (P : List Fun) : Option (Nat × Nat × Nat) := if P.length = 0 ∨ P.length > 64 then some (0, 0, 0) else none
set_option maxHeartbeats 2000000 in
theorem q1_any {P : List Fun} (hl1 : P.length ≤ 1000000) {w : World} {v : Value} (h : RdE 3 RdFun w v P) : Calls Try.prog 24 #[.agg #[v]] w fun e w' => e = .returned (ansP (manyP P)) ∧ Below w.heap.size w w' := by
  obtain ⟨a0, c0, rfl⟩ := h.form
  have hE : ansP (manyP P) = .tuple #[.agg #[.int .i64 0, .int .i64 0, .int .i64 0], .bool (decide (P.length = 0) || decide (P.length > 64))] := by
    unfold manyP
    by_cases e1 : P.length = 0
    · simp [e1, ansP, ptA]
    · by_cases e2 : P.length > 64
      · simp [e1, e2, ansP, ptA]
      · simp [e1, e2, ansP, ptA]
  rw [hE]
  clear hE h
  generalize P.length = n at hl1 ⊢
  have j1 : decide ((n : Int) > 64) = decide (n > 64) := decide_eq_decide.2 (by omega)
  have j2 : ((n : Int) == 0) = decide (n = 0) := by by_cases e : n = 0 <;> simp [e]
  generalize decide (n > 64) = q at j1 ⊢
  generalize decide (n = 0) = u at j2 ⊢
  have hb0 : Below w.heap.size w ((w.alloc (.cells #[.slice a0 n c0] 56)).alloc (.cells #[.int .i64 0, .int .i64 0, .int .i64 0] 30)) := ((Below.refl _ _).alloc (Nat.le_refl _) _).alloc (by simp) _
  have hN : ((w.alloc (.cells #[.slice a0 n c0] 56)).alloc (.cells #[.int .i64 0, .int .i64 0, .int .i64 0] 30)).heap[w.heap.size + 1]? = some (.cells #[.int .i64 0, .int .i64 0, .int .i64 0] 30 (0, 0)) := at_newN (by simp)
  have hl : ((w.alloc (.cells #[.slice a0 n c0] 56)).alloc (.cells #[.int .i64 0, .int .i64 0, .int .i64 0] 30)).cell? ⟨w.heap.size, 0, none⟩ = some (.slice a0 n c0) := by rw [blk_cell (at_oldN (at_newN rfl))]; rfl
  go_enter Try.func24, Try.ntmps24
  go_upto_region 1 with fail
  generalize ((w.alloc (.cells #[.slice a0 n c0] 56)).alloc (.cells #[.int .i64 0, .int .i64 0, .int .i64 0] 30)) = wb at hb0 hN hl ⊢
  have hf := Lib.hid (show Below w.heap.size w (((wb.setCell ⟨w.heap.size + 1, 0, none⟩ (.int .i64 0)).setCell ⟨w.heap.size + 1, 1, none⟩ (.int .i64 0)).setCell ⟨w.heap.size + 1, 2, none⟩ (.int .i64 0)) from ((hb0.setCell (p := ⟨w.heap.size + 1, 0, none⟩) (Nat.le_succ _) _).setCell (p := ⟨w.heap.size + 1, 1, none⟩) (Nat.le_succ _) _).setCell (p := ⟨w.heap.size + 1, 2, none⟩) (Nat.le_succ _) _)
  have hN3 := Lib.hid (set_three (v0 := .int .i64 0) (v1 := .int .i64 0) (v2 := .int .i64 0) hN)
  have z0 : wb.cell? ⟨w.heap.size + 1, 0, none⟩ = some (.int .i64 0) := by rw [blk_cell hN]; rfl
  have z1 : wb.cell? ⟨w.heap.size + 1, 1, none⟩ = some (.int .i64 0) := by rw [blk_cell hN]; rfl
  have z2 : wb.cell? ⟨w.heap.size + 1, 2, none⟩ = some (.int .i64 0) := by rw [blk_cell hN]; rfl
  have y0 : wb.frozen? ⟨w.heap.size + 1, 0, none⟩ = false := by simp [World.frozen?, hN]
  have y1 : wb.frozen? ⟨w.heap.size + 1, 1, none⟩ = false := by simp [World.frozen?, hN]
  have y2 : wb.frozen? ⟨w.heap.size + 1, 2, none⟩ = false := by simp [World.frozen?, hN]
  clear hN hb0
  cases u <;> cases q <;> (
    go_wp2_with fail
    generalize (((wb.setCell ⟨w.heap.size + 1, 0, none⟩ (.int .i64 0)).setCell ⟨w.heap.size + 1, 1, none⟩ (.int .i64 0)).setCell ⟨w.heap.size + 1, 2, none⟩ (.int .i64 0)) = w3 at hf hN3 ⊢
    have c0 : w3.cell? ⟨w.heap.size + 1, 0, none⟩ = some (.int .i64 0) := by rw [blk_cell hN3.out]; rfl
    have c1 : w3.cell? ⟨w.heap.size + 1, 1, none⟩ = some (.int .i64 0) := by rw [blk_cell hN3.out]; rfl
    have c2 : w3.cell? ⟨w.heap.size + 1, 2, none⟩ = some (.int .i64 0) := by rw [blk_cell hN3.out]; rfl
    exact bodyPost_ret (by simp [results, Try.results24, go_sem, c0, c1, c2]) rfl ⟨rfl, hf.out⟩)
theorem set_away {W : World} {b g : Nat} {v0 v1 v2 : Value} (h : g ≠ b) : (((W.setCell ⟨b, 0, none⟩ v0).setCell ⟨b, 1, none⟩ v1).setCell ⟨b, 2, none⟩ v2).heap[g]? = W.heap[g]? :=
  (Below.heap_setCell _ _ _ _ h).trans ((Below.heap_setCell _ _ _ _ h).trans (Below.heap_setCell _ _ _ _ h))
set_option maxHeartbeats 2000000 in
/-- A point, if so. -/
theorem pointIf_yes {w : World} {p0 p1 p2 : Nat} : Calls Try.prog 48 #[.agg #[.int .i64 p0, .int .i64 p1, .int .i64 p2], .bool true] w fun e w' => e = .returned (.tuple #[.agg #[.int .i64 p0, .int .i64 p1, .int .i64 p2], .bool true]) ∧ Below w.heap.size w w' := by
  have hb : Below w.heap.size w ((w.alloc (.cells #[.int .i64 p0, .int .i64 p1, .int .i64 p2] 30)).alloc (.cells #[.int .i64 0, .int .i64 0, .int .i64 0] 30)) := ((Below.refl _ _).alloc (Nat.le_refl _) _).alloc (by simp) _
  have hN : ((w.alloc (.cells #[.int .i64 p0, .int .i64 p1, .int .i64 p2] 30)).alloc (.cells #[.int .i64 0, .int .i64 0, .int .i64 0] 30)).heap[w.heap.size + 1]? = some (.cells #[.int .i64 0, .int .i64 0, .int .i64 0] 30 (0, 0)) := at_newN (by simp)
  have hA : ((w.alloc (.cells #[.int .i64 p0, .int .i64 p1, .int .i64 p2] 30)).alloc (.cells #[.int .i64 0, .int .i64 0, .int .i64 0] 30)).heap[w.heap.size]? = some (.cells #[.int .i64 p0, .int .i64 p1, .int .i64 p2] 30 (0, 0)) := at_oldN (at_newN rfl)
  go_enter Try.func48, Try.ntmps48
  go_upto_region 1 with fail
  generalize ((w.alloc (.cells #[.int .i64 p0, .int .i64 p1, .int .i64 p2] 30)).alloc (.cells #[.int .i64 0, .int .i64 0, .int .i64 0] 30)) = wb at hb hN hA ⊢
  have hf := Lib.hid (show Below w.heap.size w (((wb.setCell ⟨w.heap.size + 1, 0, none⟩ (.int .i64 p0)).setCell ⟨w.heap.size + 1, 1, none⟩ (.int .i64 p1)).setCell ⟨w.heap.size + 1, 2, none⟩ (.int .i64 p2)) from ((hb.setCell (p := ⟨w.heap.size + 1, 0, none⟩) (by simp) _).setCell (p := ⟨w.heap.size + 1, 1, none⟩) (by simp) _).setCell (p := ⟨w.heap.size + 1, 2, none⟩) (by simp) _)
  have hN3 := Lib.hid (set_three (v0 := .int .i64 p0) (v1 := .int .i64 p1) (v2 := .int .i64 p2) hN)
  have z0 : wb.cell? ⟨w.heap.size + 1, 0, none⟩ = some (.int .i64 0) := by rw [blk_cell hN]; rfl
  have z1 : wb.cell? ⟨w.heap.size + 1, 1, none⟩ = some (.int .i64 0) := by rw [blk_cell hN]; rfl
  have z2 : wb.cell? ⟨w.heap.size + 1, 2, none⟩ = some (.int .i64 0) := by rw [blk_cell hN]; rfl
  have y0 : wb.frozen? ⟨w.heap.size + 1, 0, none⟩ = false := by simp [World.frozen?, hN]
  have y1 : wb.frozen? ⟨w.heap.size + 1, 1, none⟩ = false := by simp [World.frozen?, hN]
  have y2 : wb.frozen? ⟨w.heap.size + 1, 2, none⟩ = false := by simp [World.frozen?, hN]
  have xz0 : wb.cell? ⟨w.heap.size, 0, none⟩ = some (.int .i64 p0) := by rw [blk_cell hA]; rfl
  have xz1 : wb.cell? ⟨w.heap.size, 1, none⟩ = some (.int .i64 p1) := by rw [blk_cell hA]; rfl
  have xz2 : wb.cell? ⟨w.heap.size, 2, none⟩ = some (.int .i64 p2) := by rw [blk_cell hA]; rfl
  have xy0 : wb.frozen? ⟨w.heap.size, 0, none⟩ = false := by simp [World.frozen?, hA]
  have xy1 : wb.frozen? ⟨w.heap.size, 1, none⟩ = false := by simp [World.frozen?, hA]
  have xy2 : wb.frozen? ⟨w.heap.size, 2, none⟩ = false := by simp [World.frozen?, hA]
  clear hN hA hb
  go_wp2_with fail
  generalize (((wb.setCell ⟨w.heap.size + 1, 0, none⟩ (.int .i64 p0)).setCell ⟨w.heap.size + 1, 1, none⟩ (.int .i64 p1)).setCell ⟨w.heap.size + 1, 2, none⟩ (.int .i64 p2)) = w3 at hf hN3 ⊢
  have c0 : w3.cell? ⟨w.heap.size + 1, 0, none⟩ = some (.int .i64 p0) := by rw [blk_cell hN3.out]; rfl
  have c1 : w3.cell? ⟨w.heap.size + 1, 1, none⟩ = some (.int .i64 p1) := by rw [blk_cell hN3.out]; rfl
  have c2 : w3.cell? ⟨w.heap.size + 1, 2, none⟩ = some (.int .i64 p2) := by rw [blk_cell hN3.out]; rfl
  exact bodyPost_ret (by simp [results, Try.results48, go_sem, c0, c1, c2]) rfl ⟨rfl, hf.out⟩
set_option maxHeartbeats 2000000 in
theorem pointIf_no {w : World} {p0 p1 p2 : Nat} : Calls Try.prog 48 #[.agg #[.int .i64 p0, .int .i64 p1, .int .i64 p2], .bool false] w fun e w' => e = .returned (.tuple #[.agg #[.int .i64 0, .int .i64 0, .int .i64 0], .bool false]) ∧ Below w.heap.size w w' := by
  have hb : Below w.heap.size w ((w.alloc (.cells #[.int .i64 p0, .int .i64 p1, .int .i64 p2] 30)).alloc (.cells #[.int .i64 0, .int .i64 0, .int .i64 0] 30)) := ((Below.refl _ _).alloc (Nat.le_refl _) _).alloc (by simp) _
  have hN : ((w.alloc (.cells #[.int .i64 p0, .int .i64 p1, .int .i64 p2] 30)).alloc (.cells #[.int .i64 0, .int .i64 0, .int .i64 0] 30)).heap[w.heap.size + 1]? = some (.cells #[.int .i64 0, .int .i64 0, .int .i64 0] 30 (0, 0)) := at_newN (by simp)
  have hA : ((w.alloc (.cells #[.int .i64 p0, .int .i64 p1, .int .i64 p2] 30)).alloc (.cells #[.int .i64 0, .int .i64 0, .int .i64 0] 30)).heap[w.heap.size]? = some (.cells #[.int .i64 p0, .int .i64 p1, .int .i64 p2] 30 (0, 0)) := at_oldN (at_newN rfl)
  go_enter Try.func48, Try.ntmps48
  go_upto_region 1 with fail
  generalize ((w.alloc (.cells #[.int .i64 p0, .int .i64 p1, .int .i64 p2] 30)).alloc (.cells #[.int .i64 0, .int .i64 0, .int .i64 0] 30)) = wb at hb hN hA ⊢
  have z0 : wb.cell? ⟨w.heap.size, 0, none⟩ = some (.int .i64 p0) := by rw [blk_cell hA]; rfl
  have z1 : wb.cell? ⟨w.heap.size, 1, none⟩ = some (.int .i64 p1) := by rw [blk_cell hA]; rfl
  have z2 : wb.cell? ⟨w.heap.size, 2, none⟩ = some (.int .i64 p2) := by rw [blk_cell hA]; rfl
  have y0 : wb.frozen? ⟨w.heap.size, 0, none⟩ = false := by simp [World.frozen?, hA]
  have y1 : wb.frozen? ⟨w.heap.size, 1, none⟩ = false := by simp [World.frozen?, hA]
  have y2 : wb.frozen? ⟨w.heap.size, 2, none⟩ = false := by simp [World.frozen?, hA]
  go_upto_region 3 with fail
  replace hb : Below w.heap.size w (((wb.setCell ⟨w.heap.size, 0, none⟩ (.int .i64 0)).setCell ⟨w.heap.size, 1, none⟩ (.int .i64 0)).setCell ⟨w.heap.size, 2, none⟩ (.int .i64 0)) := ((hb.setCell (p := ⟨w.heap.size, 0, none⟩) (by simp) _).setCell (p := ⟨w.heap.size, 1, none⟩) (by simp) _).setCell (p := ⟨w.heap.size, 2, none⟩) (by simp) _
  replace hN := (set_away (W := wb) (v0 := .int .i64 0) (v1 := .int .i64 0) (v2 := .int .i64 0) (show w.heap.size + 1 ≠ w.heap.size by omega)).trans hN
  replace hA := set_three (W := wb) (v0 := .int .i64 0) (v1 := .int .i64 0) (v2 := .int .i64 0) hA
  clear z0 z1 z2 y0 y1 y2
  generalize (((wb.setCell ⟨w.heap.size, 0, none⟩ (.int .i64 0)).setCell ⟨w.heap.size, 1, none⟩ (.int .i64 0)).setCell ⟨w.heap.size, 2, none⟩ (.int .i64 0)) = w2 at hb hN hA ⊢
  have hf := Lib.hid (show Below w.heap.size w (((w2.setCell ⟨w.heap.size + 1, 0, none⟩ (.int .i64 0)).setCell ⟨w.heap.size + 1, 1, none⟩ (.int .i64 0)).setCell ⟨w.heap.size + 1, 2, none⟩ (.int .i64 0)) from ((hb.setCell (p := ⟨w.heap.size + 1, 0, none⟩) (by simp) _).setCell (p := ⟨w.heap.size + 1, 1, none⟩) (by simp) _).setCell (p := ⟨w.heap.size + 1, 2, none⟩) (by simp) _)
  have hN3 := Lib.hid (set_three (v0 := .int .i64 0) (v1 := .int .i64 0) (v2 := .int .i64 0) hN)
  have z0 : w2.cell? ⟨w.heap.size + 1, 0, none⟩ = some (.int .i64 0) := by rw [blk_cell hN]; rfl
  have z1 : w2.cell? ⟨w.heap.size + 1, 1, none⟩ = some (.int .i64 0) := by rw [blk_cell hN]; rfl
  have z2 : w2.cell? ⟨w.heap.size + 1, 2, none⟩ = some (.int .i64 0) := by rw [blk_cell hN]; rfl
  have y0 : w2.frozen? ⟨w.heap.size + 1, 0, none⟩ = false := by simp [World.frozen?, hN]
  have y1 : w2.frozen? ⟨w.heap.size + 1, 1, none⟩ = false := by simp [World.frozen?, hN]
  have y2 : w2.frozen? ⟨w.heap.size + 1, 2, none⟩ = false := by simp [World.frozen?, hN]
  have xz0 : w2.cell? ⟨w.heap.size, 0, none⟩ = some (.int .i64 0) := by rw [blk_cell hA]; rfl
  have xz1 : w2.cell? ⟨w.heap.size, 1, none⟩ = some (.int .i64 0) := by rw [blk_cell hA]; rfl
  have xz2 : w2.cell? ⟨w.heap.size, 2, none⟩ = some (.int .i64 0) := by rw [blk_cell hA]; rfl
  have xy0 : w2.frozen? ⟨w.heap.size, 0, none⟩ = false := by simp [World.frozen?, hA]
  have xy1 : w2.frozen? ⟨w.heap.size, 1, none⟩ = false := by simp [World.frozen?, hA]
  have xy2 : w2.frozen? ⟨w.heap.size, 2, none⟩ = false := by simp [World.frozen?, hA]
  clear hN hA hb
  go_wp2_with fail
  generalize (((w2.setCell ⟨w.heap.size + 1, 0, none⟩ (.int .i64 0)).setCell ⟨w.heap.size + 1, 1, none⟩ (.int .i64 0)).setCell ⟨w.heap.size + 1, 2, none⟩ (.int .i64 0)) = w3 at hf hN3 ⊢
  have c0 : w3.cell? ⟨w.heap.size + 1, 0, none⟩ = some (.int .i64 0) := by rw [blk_cell hN3.out]; rfl
  have c1 : w3.cell? ⟨w.heap.size + 1, 1, none⟩ = some (.int .i64 0) := by rw [blk_cell hN3.out]; rfl
  have c2 : w3.cell? ⟨w.heap.size + 1, 2, none⟩ = some (.int .i64 0) := by rw [blk_cell hN3.out]; rfl
  exact bodyPost_ret (by simp [results, Try.results48, go_sem, c0, c1, c2]) rfl ⟨rfl, hf.out⟩
end Go.Proofs.YtjblhiekccjdcaaR
