/- names: the questions of the rules that ask each part by itself. -/
import Derived.Test.YtjblhiekccjdcaaRNRuleA
namespace Go.Proofs.YtjblhiekccjdcaaR
open Go.RowKit Go.Maps Go.Shelf

theorem keeps_pure {P : List Fun} {m : Nat} {W0 : World} {K : Nat} {B : Prt → Bool} (hm : m = W0.heap.size) (h : ∀ x vs W, x ∈ partsL P → PrtV W x vs → Calls Try.prog K #[.agg vs] W fun e W' => e = .returned (.bool (B x)) ∧ Below W.heap.size W W') : Keeps P m W0 K #[] (fun (s : Unit) x => (B x, s)) () (fun _ U _ => ∀ k, ¬ U k) where
  calm := fun _ _ _ _ h _ => h
  call := fun s U x vs W ⟨pre, rest, e, _⟩ hx hbel hU => by
    have h1 := h x vs W (partsCalls_at e) (hx.below (by rw [← hm]; exact hbel))
    refine Calls.mono (by simpa using h1) ?_
    rintro e' W' ⟨rfl, hb⟩
    exact ⟨fun _ => False, rfl, fun _ h => h, Touch.of_below hb _, fun k hk => hk.elim⟩
/-- What a program is asked of: sizes that no walk is troubled by. -/
structure POk (P : List Fun) : Prop where
  fits : ∀ d ∈ P, d.Fits
  l1 : P.length ≤ 1000000
  l2 : ∀ d ∈ P, d.blocks.length ≤ 1000000
  l3 : ∀ d ∈ P, ∀ x ∈ d.blocks, x.code.length ≤ 1000000
  l4 : ∀ d ∈ P, d.params.length ≤ 1000000
def bad2 : Prt → Bool
  | .fn _ d => !isName d.name || !d.params.all isName
  | .blk _ _ _ x => !isName x.label
  | .ins _ _ _ _ _ c => badNamesB c
def bad5 : Prt → Bool
  | .fn _ d => decide (d.params.length > 8)
  | .blk _ _ _ _ => false
  | .ins _ _ _ _ _ c => isCallB c.op && decide (c.args.length > 8)
def bad6 : Prt → Bool
  | .fn _ d => decide (d.blocks.length = 0) || decide (d.blocks.length > 64)
  | .blk _ _ _ _ => false
  | .ins _ _ _ _ _ _ => false
def bad9 : Prt → Bool
  | .fn _ _ => false
  | .blk _ _ _ _ => false
  | .ins _ _ _ _ _ c => badFieldsB c
def bad10 : Prt → Bool
  | .fn _ _ => false
  | .blk _ _ _ x => decide (x.code.length = 0)
  | .ins _ _ i _ x c => (decide (i + 1 = x.code.length)) != endsB c.op
def bad11 : Prt → Bool
  | .fn _ _ => false
  | .blk _ _ _ _ => false
  | .ins _ k i _ x c => phiB k i x c
/-- The first part that is wrong by itself. -/
def firstP (B : Prt → Bool) (P : List Fun) : Option Prt := firstBad (fun (s : Unit) x => (B x, s)) () (partsL P)
/-- What a question's answer is as a value. -/
def ansV (x : Option Prt) : Value := .tuple #[.agg (ptA (resAt x)), .bool x.isSome]
theorem keeps2 {P : List Fun} (hP : POk P) {m : Nat} {W0 : World} (hm : m = W0.heap.size) : Keeps P m W0 41 #[] (fun (s : Unit) x => (bad2 x, s)) () (fun _ U _ => ∀ k, ¬ U k) :=
  keeps_pure hm (fun x vs W hx hv => by
    have hf := parts_fits hP.fits hx
    cases x with
    | fn f d => exact c2_fn hf hv
    | blk f k d x => exact c2_blk hf hv
    | ins f k i d x c => exact c2_ins hf hv)
set_option maxHeartbeats 1000000 in
theorem q2_any {P : List Fun} (hP : POk P) {w : World} {v : Value} (h : RdE 3 RdFun w v P) : Calls Try.prog 25 #[.agg #[v]] w fun e w' => e = .returned (ansV (firstP bad2 P)) ∧ Below w.heap.size w w' := by
  obtain ⟨a0, c0, rfl⟩ := h.form
  have hb0 : Below w.heap.size w ((w.alloc (.cells #[.slice a0 P.length c0] 56)).alloc (.cells #[.int .i64 0, .int .i64 0, .int .i64 0] 30)) := ((Below.refl _ _).alloc (Nat.le_refl _) _).alloc (by simp) _
  have hw := Lib.hid (where_any (W0 := ((w.alloc (.cells #[.slice a0 P.length c0] 56)).alloc (.cells #[.int .i64 0, .int .i64 0, .int .i64 0] 30))) (keeps2 hP rfl) (enters_of Try.func41 (by kernel_rfl) rfl) rfl (RdE.below (fun _ _ h => h.below hb0) h hb0) (Below.refl _ _) (U0 := fun _ => False) (fun _ h => h.elim) (fun _ h => h) hP.l1 hP.l2 hP.l3)
  have hN : ((w.alloc (.cells #[.slice a0 P.length c0] 56)).alloc (.cells #[.int .i64 0, .int .i64 0, .int .i64 0] 30)).heap[w.heap.size + 1]? = some (.cells #[.int .i64 0, .int .i64 0, .int .i64 0] 30 (0, 0)) := at_newN (by simp)
  have hl : ((w.alloc (.cells #[.slice a0 P.length c0] 56)).alloc (.cells #[.int .i64 0, .int .i64 0, .int .i64 0] 30)).cell? ⟨w.heap.size, 0, none⟩ = some (.slice a0 P.length c0) := by rw [blk_cell (at_oldN (at_newN rfl))]; rfl
  unfold ansV firstP
  unfold ptA at hw ⊢
  generalize firstBad (fun (s : Unit) x => (bad2 x, s)) () (partsL P) = fb at hw ⊢
  generalize P.length = p at h hw hb0 hN hl ⊢
  clear h
  replace hb0 := Lib.hid hb0
  replace hN := Lib.hid hN
  go_enter Try.func25, Try.ntmps25
  go_upto_region 1 with fail
  generalize ((w.alloc (.cells #[.slice a0 p c0] 56)).alloc (.cells #[.int .i64 0, .int .i64 0, .int .i64 0] 30)) = wb at hw hb0 hN hl ⊢
  go_wp2_with fail
  refine hw.out.mono ?_
  rintro e w2 ⟨rfl, hb2⟩
  have hN2 := (hb2.block _ (Array.getElem?_eq_some_iff.1 hN.out).1).trans hN.out
  have hf := Lib.hid (show Below w.heap.size w ((((w2.setCell ⟨w.heap.size + 1, 0, none⟩ (.int .i64 (resAt fb).1)).setCell ⟨w.heap.size + 1, 1, none⟩ (.int .i64 (resAt fb).2.1)).setCell ⟨w.heap.size + 1, 2, none⟩ (.int .i64 (resAt fb).2.2))) from (((hb0.out.trans (hb2.mono hb0.out.size)).setCell (p := ⟨w.heap.size + 1, 0, none⟩) (Nat.le_succ _) _).setCell (p := ⟨w.heap.size + 1, 1, none⟩) (Nat.le_succ _) _).setCell (p := ⟨w.heap.size + 1, 2, none⟩) (Nat.le_succ _) _)
  have hN3 := Lib.hid (set_three (v0 := .int .i64 (resAt fb).1) (v1 := .int .i64 (resAt fb).2.1) (v2 := .int .i64 (resAt fb).2.2) hN2)
  have z0 : w2.cell? ⟨w.heap.size + 1, 0, none⟩ = some (.int .i64 0) := by rw [blk_cell hN2]; rfl
  have z1 : w2.cell? ⟨w.heap.size + 1, 1, none⟩ = some (.int .i64 0) := by rw [blk_cell hN2]; rfl
  have z2 : w2.cell? ⟨w.heap.size + 1, 2, none⟩ = some (.int .i64 0) := by rw [blk_cell hN2]; rfl
  have y0 : w2.frozen? ⟨w.heap.size + 1, 0, none⟩ = false := by simp [World.frozen?, hN2]
  have y1 : w2.frozen? ⟨w.heap.size + 1, 1, none⟩ = false := by simp [World.frozen?, hN2]
  have y2 : w2.frozen? ⟨w.heap.size + 1, 2, none⟩ = false := by simp [World.frozen?, hN2]
  clear hb2 hN2 hw hl
  go_wp2_with fail
  generalize (((w2.setCell ⟨w.heap.size + 1, 0, none⟩ (.int .i64 (resAt fb).1)).setCell ⟨w.heap.size + 1, 1, none⟩ (.int .i64 (resAt fb).2.1)).setCell ⟨w.heap.size + 1, 2, none⟩ (.int .i64 (resAt fb).2.2)) = w3 at hf hN3 ⊢
  have c0 : w3.cell? ⟨w.heap.size + 1, 0, none⟩ = some (.int .i64 (resAt fb).1) := by rw [blk_cell hN3.out]; rfl
  have c1 : w3.cell? ⟨w.heap.size + 1, 1, none⟩ = some (.int .i64 (resAt fb).2.1) := by rw [blk_cell hN3.out]; rfl
  have c2 : w3.cell? ⟨w.heap.size + 1, 2, none⟩ = some (.int .i64 (resAt fb).2.2) := by rw [blk_cell hN3.out]; rfl
  exact bodyPost_ret (v := .tuple #[.agg #[.int .i64 (resAt fb).1, .int .i64 (resAt fb).2.1, .int .i64 (resAt fb).2.2], .bool fb.isSome]) (by simp [results, Try.results25, go_sem, c0, c1, c2]) rfl ⟨rfl, hf.out⟩
theorem keeps5 {P : List Fun} (hP : POk P) {m : Nat} {W0 : World} (hm : m = W0.heap.size) : Keeps P m W0 49 #[] (fun (s : Unit) x => (bad5 x, s)) () (fun _ U _ => ∀ k, ¬ U k) :=
  keeps_pure hm (fun x vs W hx hv => by
    have hf := parts_fits hP.fits hx
    cases x with
    | fn f d => exact c5_fn hf hv
    | blk f k d x => exact c5_blk hf hv
    | ins f k i d x c => exact c5_ins hf hv)
set_option maxHeartbeats 1000000 in
theorem q5_any {P : List Fun} (hP : POk P) {w : World} {v : Value} (h : RdE 3 RdFun w v P) : Calls Try.prog 28 #[.agg #[v]] w fun e w' => e = .returned (ansV (firstP bad5 P)) ∧ Below w.heap.size w w' := by
  obtain ⟨a0, c0, rfl⟩ := h.form
  have hb0 : Below w.heap.size w ((w.alloc (.cells #[.slice a0 P.length c0] 56)).alloc (.cells #[.int .i64 0, .int .i64 0, .int .i64 0] 30)) := ((Below.refl _ _).alloc (Nat.le_refl _) _).alloc (by simp) _
  have hw := Lib.hid (where_any (W0 := ((w.alloc (.cells #[.slice a0 P.length c0] 56)).alloc (.cells #[.int .i64 0, .int .i64 0, .int .i64 0] 30))) (keeps5 hP rfl) (enters_of Try.func49 (by kernel_rfl) rfl) rfl (RdE.below (fun _ _ h => h.below hb0) h hb0) (Below.refl _ _) (U0 := fun _ => False) (fun _ h => h.elim) (fun _ h => h) hP.l1 hP.l2 hP.l3)
  have hN : ((w.alloc (.cells #[.slice a0 P.length c0] 56)).alloc (.cells #[.int .i64 0, .int .i64 0, .int .i64 0] 30)).heap[w.heap.size + 1]? = some (.cells #[.int .i64 0, .int .i64 0, .int .i64 0] 30 (0, 0)) := at_newN (by simp)
  have hl : ((w.alloc (.cells #[.slice a0 P.length c0] 56)).alloc (.cells #[.int .i64 0, .int .i64 0, .int .i64 0] 30)).cell? ⟨w.heap.size, 0, none⟩ = some (.slice a0 P.length c0) := by rw [blk_cell (at_oldN (at_newN rfl))]; rfl
  unfold ansV firstP
  unfold ptA at hw ⊢
  generalize firstBad (fun (s : Unit) x => (bad5 x, s)) () (partsL P) = fb at hw ⊢
  generalize P.length = p at h hw hb0 hN hl ⊢
  clear h
  replace hb0 := Lib.hid hb0
  replace hN := Lib.hid hN
  go_enter Try.func28, Try.ntmps28
  go_upto_region 1 with fail
  generalize ((w.alloc (.cells #[.slice a0 p c0] 56)).alloc (.cells #[.int .i64 0, .int .i64 0, .int .i64 0] 30)) = wb at hw hb0 hN hl ⊢
  go_wp2_with fail
  refine hw.out.mono ?_
  rintro e w2 ⟨rfl, hb2⟩
  have hN2 := (hb2.block _ (Array.getElem?_eq_some_iff.1 hN.out).1).trans hN.out
  have hf := Lib.hid (show Below w.heap.size w ((((w2.setCell ⟨w.heap.size + 1, 0, none⟩ (.int .i64 (resAt fb).1)).setCell ⟨w.heap.size + 1, 1, none⟩ (.int .i64 (resAt fb).2.1)).setCell ⟨w.heap.size + 1, 2, none⟩ (.int .i64 (resAt fb).2.2))) from (((hb0.out.trans (hb2.mono hb0.out.size)).setCell (p := ⟨w.heap.size + 1, 0, none⟩) (Nat.le_succ _) _).setCell (p := ⟨w.heap.size + 1, 1, none⟩) (Nat.le_succ _) _).setCell (p := ⟨w.heap.size + 1, 2, none⟩) (Nat.le_succ _) _)
  have hN3 := Lib.hid (set_three (v0 := .int .i64 (resAt fb).1) (v1 := .int .i64 (resAt fb).2.1) (v2 := .int .i64 (resAt fb).2.2) hN2)
  have z0 : w2.cell? ⟨w.heap.size + 1, 0, none⟩ = some (.int .i64 0) := by rw [blk_cell hN2]; rfl
  have z1 : w2.cell? ⟨w.heap.size + 1, 1, none⟩ = some (.int .i64 0) := by rw [blk_cell hN2]; rfl
  have z2 : w2.cell? ⟨w.heap.size + 1, 2, none⟩ = some (.int .i64 0) := by rw [blk_cell hN2]; rfl
  have y0 : w2.frozen? ⟨w.heap.size + 1, 0, none⟩ = false := by simp [World.frozen?, hN2]
  have y1 : w2.frozen? ⟨w.heap.size + 1, 1, none⟩ = false := by simp [World.frozen?, hN2]
  have y2 : w2.frozen? ⟨w.heap.size + 1, 2, none⟩ = false := by simp [World.frozen?, hN2]
  clear hb2 hN2 hw hl
  go_wp2_with fail
  generalize (((w2.setCell ⟨w.heap.size + 1, 0, none⟩ (.int .i64 (resAt fb).1)).setCell ⟨w.heap.size + 1, 1, none⟩ (.int .i64 (resAt fb).2.1)).setCell ⟨w.heap.size + 1, 2, none⟩ (.int .i64 (resAt fb).2.2)) = w3 at hf hN3 ⊢
  have c0 : w3.cell? ⟨w.heap.size + 1, 0, none⟩ = some (.int .i64 (resAt fb).1) := by rw [blk_cell hN3.out]; rfl
  have c1 : w3.cell? ⟨w.heap.size + 1, 1, none⟩ = some (.int .i64 (resAt fb).2.1) := by rw [blk_cell hN3.out]; rfl
  have c2 : w3.cell? ⟨w.heap.size + 1, 2, none⟩ = some (.int .i64 (resAt fb).2.2) := by rw [blk_cell hN3.out]; rfl
  exact bodyPost_ret (v := .tuple #[.agg #[.int .i64 (resAt fb).1, .int .i64 (resAt fb).2.1, .int .i64 (resAt fb).2.2], .bool fb.isSome]) (by simp [results, Try.results28, go_sem, c0, c1, c2]) rfl ⟨rfl, hf.out⟩
theorem keeps6 {P : List Fun} (hP : POk P) {m : Nat} {W0 : World} (hm : m = W0.heap.size) : Keeps P m W0 52 #[] (fun (s : Unit) x => (bad6 x, s)) () (fun _ U _ => ∀ k, ¬ U k) :=
  keeps_pure hm (fun x vs W hx hv => by
    have hf := parts_fits hP.fits hx
    cases x with
    | fn f d => exact c6_fn hf hv
    | blk f k d x => exact c6_blk hf hv
    | ins f k i d x c => exact c6_ins hf hv)
set_option maxHeartbeats 1000000 in
theorem q6_any {P : List Fun} (hP : POk P) {w : World} {v : Value} (h : RdE 3 RdFun w v P) : Calls Try.prog 29 #[.agg #[v]] w fun e w' => e = .returned (ansV (firstP bad6 P)) ∧ Below w.heap.size w w' := by
  obtain ⟨a0, c0, rfl⟩ := h.form
  have hb0 : Below w.heap.size w ((w.alloc (.cells #[.slice a0 P.length c0] 56)).alloc (.cells #[.int .i64 0, .int .i64 0, .int .i64 0] 30)) := ((Below.refl _ _).alloc (Nat.le_refl _) _).alloc (by simp) _
  have hw := Lib.hid (where_any (W0 := ((w.alloc (.cells #[.slice a0 P.length c0] 56)).alloc (.cells #[.int .i64 0, .int .i64 0, .int .i64 0] 30))) (keeps6 hP rfl) (enters_of Try.func52 (by kernel_rfl) rfl) rfl (RdE.below (fun _ _ h => h.below hb0) h hb0) (Below.refl _ _) (U0 := fun _ => False) (fun _ h => h.elim) (fun _ h => h) hP.l1 hP.l2 hP.l3)
  have hN : ((w.alloc (.cells #[.slice a0 P.length c0] 56)).alloc (.cells #[.int .i64 0, .int .i64 0, .int .i64 0] 30)).heap[w.heap.size + 1]? = some (.cells #[.int .i64 0, .int .i64 0, .int .i64 0] 30 (0, 0)) := at_newN (by simp)
  have hl : ((w.alloc (.cells #[.slice a0 P.length c0] 56)).alloc (.cells #[.int .i64 0, .int .i64 0, .int .i64 0] 30)).cell? ⟨w.heap.size, 0, none⟩ = some (.slice a0 P.length c0) := by rw [blk_cell (at_oldN (at_newN rfl))]; rfl
  unfold ansV firstP
  unfold ptA at hw ⊢
  generalize firstBad (fun (s : Unit) x => (bad6 x, s)) () (partsL P) = fb at hw ⊢
  generalize P.length = p at h hw hb0 hN hl ⊢
  clear h
  replace hb0 := Lib.hid hb0
  replace hN := Lib.hid hN
  go_enter Try.func29, Try.ntmps29
  go_upto_region 1 with fail
  generalize ((w.alloc (.cells #[.slice a0 p c0] 56)).alloc (.cells #[.int .i64 0, .int .i64 0, .int .i64 0] 30)) = wb at hw hb0 hN hl ⊢
  go_wp2_with fail
  refine hw.out.mono ?_
  rintro e w2 ⟨rfl, hb2⟩
  have hN2 := (hb2.block _ (Array.getElem?_eq_some_iff.1 hN.out).1).trans hN.out
  have hf := Lib.hid (show Below w.heap.size w ((((w2.setCell ⟨w.heap.size + 1, 0, none⟩ (.int .i64 (resAt fb).1)).setCell ⟨w.heap.size + 1, 1, none⟩ (.int .i64 (resAt fb).2.1)).setCell ⟨w.heap.size + 1, 2, none⟩ (.int .i64 (resAt fb).2.2))) from (((hb0.out.trans (hb2.mono hb0.out.size)).setCell (p := ⟨w.heap.size + 1, 0, none⟩) (Nat.le_succ _) _).setCell (p := ⟨w.heap.size + 1, 1, none⟩) (Nat.le_succ _) _).setCell (p := ⟨w.heap.size + 1, 2, none⟩) (Nat.le_succ _) _)
  have hN3 := Lib.hid (set_three (v0 := .int .i64 (resAt fb).1) (v1 := .int .i64 (resAt fb).2.1) (v2 := .int .i64 (resAt fb).2.2) hN2)
  have z0 : w2.cell? ⟨w.heap.size + 1, 0, none⟩ = some (.int .i64 0) := by rw [blk_cell hN2]; rfl
  have z1 : w2.cell? ⟨w.heap.size + 1, 1, none⟩ = some (.int .i64 0) := by rw [blk_cell hN2]; rfl
  have z2 : w2.cell? ⟨w.heap.size + 1, 2, none⟩ = some (.int .i64 0) := by rw [blk_cell hN2]; rfl
  have y0 : w2.frozen? ⟨w.heap.size + 1, 0, none⟩ = false := by simp [World.frozen?, hN2]
  have y1 : w2.frozen? ⟨w.heap.size + 1, 1, none⟩ = false := by simp [World.frozen?, hN2]
  have y2 : w2.frozen? ⟨w.heap.size + 1, 2, none⟩ = false := by simp [World.frozen?, hN2]
  clear hb2 hN2 hw hl
  go_wp2_with fail
  generalize (((w2.setCell ⟨w.heap.size + 1, 0, none⟩ (.int .i64 (resAt fb).1)).setCell ⟨w.heap.size + 1, 1, none⟩ (.int .i64 (resAt fb).2.1)).setCell ⟨w.heap.size + 1, 2, none⟩ (.int .i64 (resAt fb).2.2)) = w3 at hf hN3 ⊢
  have c0 : w3.cell? ⟨w.heap.size + 1, 0, none⟩ = some (.int .i64 (resAt fb).1) := by rw [blk_cell hN3.out]; rfl
  have c1 : w3.cell? ⟨w.heap.size + 1, 1, none⟩ = some (.int .i64 (resAt fb).2.1) := by rw [blk_cell hN3.out]; rfl
  have c2 : w3.cell? ⟨w.heap.size + 1, 2, none⟩ = some (.int .i64 (resAt fb).2.2) := by rw [blk_cell hN3.out]; rfl
  exact bodyPost_ret (v := .tuple #[.agg #[.int .i64 (resAt fb).1, .int .i64 (resAt fb).2.1, .int .i64 (resAt fb).2.2], .bool fb.isSome]) (by simp [results, Try.results29, go_sem, c0, c1, c2]) rfl ⟨rfl, hf.out⟩
theorem keeps9 {P : List Fun} (hP : POk P) {m : Nat} {W0 : World} (hm : m = W0.heap.size) : Keeps P m W0 55 #[] (fun (s : Unit) x => (bad9 x, s)) () (fun _ U _ => ∀ k, ¬ U k) :=
  keeps_pure hm (fun x vs W hx hv => by
    have hf := parts_fits hP.fits hx
    cases x with
    | fn f d => exact c9_fn hf hv
    | blk f k d x => exact c9_blk hf hv
    | ins f k i d x c => exact c9_ins hf hv)
set_option maxHeartbeats 1000000 in
theorem q9_any {P : List Fun} (hP : POk P) {w : World} {v : Value} (h : RdE 3 RdFun w v P) : Calls Try.prog 32 #[.agg #[v]] w fun e w' => e = .returned (ansV (firstP bad9 P)) ∧ Below w.heap.size w w' := by
  obtain ⟨a0, c0, rfl⟩ := h.form
  have hb0 : Below w.heap.size w ((w.alloc (.cells #[.slice a0 P.length c0] 56)).alloc (.cells #[.int .i64 0, .int .i64 0, .int .i64 0] 30)) := ((Below.refl _ _).alloc (Nat.le_refl _) _).alloc (by simp) _
  have hw := Lib.hid (where_any (W0 := ((w.alloc (.cells #[.slice a0 P.length c0] 56)).alloc (.cells #[.int .i64 0, .int .i64 0, .int .i64 0] 30))) (keeps9 hP rfl) (enters_of Try.func55 (by kernel_rfl) rfl) rfl (RdE.below (fun _ _ h => h.below hb0) h hb0) (Below.refl _ _) (U0 := fun _ => False) (fun _ h => h.elim) (fun _ h => h) hP.l1 hP.l2 hP.l3)
  have hN : ((w.alloc (.cells #[.slice a0 P.length c0] 56)).alloc (.cells #[.int .i64 0, .int .i64 0, .int .i64 0] 30)).heap[w.heap.size + 1]? = some (.cells #[.int .i64 0, .int .i64 0, .int .i64 0] 30 (0, 0)) := at_newN (by simp)
  have hl : ((w.alloc (.cells #[.slice a0 P.length c0] 56)).alloc (.cells #[.int .i64 0, .int .i64 0, .int .i64 0] 30)).cell? ⟨w.heap.size, 0, none⟩ = some (.slice a0 P.length c0) := by rw [blk_cell (at_oldN (at_newN rfl))]; rfl
  unfold ansV firstP
  unfold ptA at hw ⊢
  generalize firstBad (fun (s : Unit) x => (bad9 x, s)) () (partsL P) = fb at hw ⊢
  generalize P.length = p at h hw hb0 hN hl ⊢
  clear h
  replace hb0 := Lib.hid hb0
  replace hN := Lib.hid hN
  go_enter Try.func32, Try.ntmps32
  go_upto_region 1 with fail
  generalize ((w.alloc (.cells #[.slice a0 p c0] 56)).alloc (.cells #[.int .i64 0, .int .i64 0, .int .i64 0] 30)) = wb at hw hb0 hN hl ⊢
  go_wp2_with fail
  refine hw.out.mono ?_
  rintro e w2 ⟨rfl, hb2⟩
  have hN2 := (hb2.block _ (Array.getElem?_eq_some_iff.1 hN.out).1).trans hN.out
  have hf := Lib.hid (show Below w.heap.size w ((((w2.setCell ⟨w.heap.size + 1, 0, none⟩ (.int .i64 (resAt fb).1)).setCell ⟨w.heap.size + 1, 1, none⟩ (.int .i64 (resAt fb).2.1)).setCell ⟨w.heap.size + 1, 2, none⟩ (.int .i64 (resAt fb).2.2))) from (((hb0.out.trans (hb2.mono hb0.out.size)).setCell (p := ⟨w.heap.size + 1, 0, none⟩) (Nat.le_succ _) _).setCell (p := ⟨w.heap.size + 1, 1, none⟩) (Nat.le_succ _) _).setCell (p := ⟨w.heap.size + 1, 2, none⟩) (Nat.le_succ _) _)
  have hN3 := Lib.hid (set_three (v0 := .int .i64 (resAt fb).1) (v1 := .int .i64 (resAt fb).2.1) (v2 := .int .i64 (resAt fb).2.2) hN2)
  have z0 : w2.cell? ⟨w.heap.size + 1, 0, none⟩ = some (.int .i64 0) := by rw [blk_cell hN2]; rfl
  have z1 : w2.cell? ⟨w.heap.size + 1, 1, none⟩ = some (.int .i64 0) := by rw [blk_cell hN2]; rfl
  have z2 : w2.cell? ⟨w.heap.size + 1, 2, none⟩ = some (.int .i64 0) := by rw [blk_cell hN2]; rfl
  have y0 : w2.frozen? ⟨w.heap.size + 1, 0, none⟩ = false := by simp [World.frozen?, hN2]
  have y1 : w2.frozen? ⟨w.heap.size + 1, 1, none⟩ = false := by simp [World.frozen?, hN2]
  have y2 : w2.frozen? ⟨w.heap.size + 1, 2, none⟩ = false := by simp [World.frozen?, hN2]
  clear hb2 hN2 hw hl
  go_wp2_with fail
  generalize (((w2.setCell ⟨w.heap.size + 1, 0, none⟩ (.int .i64 (resAt fb).1)).setCell ⟨w.heap.size + 1, 1, none⟩ (.int .i64 (resAt fb).2.1)).setCell ⟨w.heap.size + 1, 2, none⟩ (.int .i64 (resAt fb).2.2)) = w3 at hf hN3 ⊢
  have c0 : w3.cell? ⟨w.heap.size + 1, 0, none⟩ = some (.int .i64 (resAt fb).1) := by rw [blk_cell hN3.out]; rfl
  have c1 : w3.cell? ⟨w.heap.size + 1, 1, none⟩ = some (.int .i64 (resAt fb).2.1) := by rw [blk_cell hN3.out]; rfl
  have c2 : w3.cell? ⟨w.heap.size + 1, 2, none⟩ = some (.int .i64 (resAt fb).2.2) := by rw [blk_cell hN3.out]; rfl
  exact bodyPost_ret (v := .tuple #[.agg #[.int .i64 (resAt fb).1, .int .i64 (resAt fb).2.1, .int .i64 (resAt fb).2.2], .bool fb.isSome]) (by simp [results, Try.results32, go_sem, c0, c1, c2]) rfl ⟨rfl, hf.out⟩
theorem keeps10 {P : List Fun} (hP : POk P) {m : Nat} {W0 : World} (hm : m = W0.heap.size) : Keeps P m W0 57 #[] (fun (s : Unit) x => (bad10 x, s)) () (fun _ U _ => ∀ k, ¬ U k) :=
  keeps_pure hm (fun x vs W hx hv => by
    have hf := parts_fits hP.fits hx
    cases x with
    | fn f d => exact c10_fn hf hv
    | blk f k d x => exact c10_blk hf hv
    | ins f k i d x c => exact c10_ins hf hv)
set_option maxHeartbeats 1000000 in
theorem q10_any {P : List Fun} (hP : POk P) {w : World} {v : Value} (h : RdE 3 RdFun w v P) : Calls Try.prog 33 #[.agg #[v]] w fun e w' => e = .returned (ansV (firstP bad10 P)) ∧ Below w.heap.size w w' := by
  obtain ⟨a0, c0, rfl⟩ := h.form
  have hb0 : Below w.heap.size w ((w.alloc (.cells #[.slice a0 P.length c0] 56)).alloc (.cells #[.int .i64 0, .int .i64 0, .int .i64 0] 30)) := ((Below.refl _ _).alloc (Nat.le_refl _) _).alloc (by simp) _
  have hw := Lib.hid (where_any (W0 := ((w.alloc (.cells #[.slice a0 P.length c0] 56)).alloc (.cells #[.int .i64 0, .int .i64 0, .int .i64 0] 30))) (keeps10 hP rfl) (enters_of Try.func57 (by kernel_rfl) rfl) rfl (RdE.below (fun _ _ h => h.below hb0) h hb0) (Below.refl _ _) (U0 := fun _ => False) (fun _ h => h.elim) (fun _ h => h) hP.l1 hP.l2 hP.l3)
  have hN : ((w.alloc (.cells #[.slice a0 P.length c0] 56)).alloc (.cells #[.int .i64 0, .int .i64 0, .int .i64 0] 30)).heap[w.heap.size + 1]? = some (.cells #[.int .i64 0, .int .i64 0, .int .i64 0] 30 (0, 0)) := at_newN (by simp)
  have hl : ((w.alloc (.cells #[.slice a0 P.length c0] 56)).alloc (.cells #[.int .i64 0, .int .i64 0, .int .i64 0] 30)).cell? ⟨w.heap.size, 0, none⟩ = some (.slice a0 P.length c0) := by rw [blk_cell (at_oldN (at_newN rfl))]; rfl
  unfold ansV firstP
  unfold ptA at hw ⊢
  generalize firstBad (fun (s : Unit) x => (bad10 x, s)) () (partsL P) = fb at hw ⊢
  generalize P.length = p at h hw hb0 hN hl ⊢
  clear h
  replace hb0 := Lib.hid hb0
  replace hN := Lib.hid hN
  go_enter Try.func33, Try.ntmps33
  go_upto_region 1 with fail
  generalize ((w.alloc (.cells #[.slice a0 p c0] 56)).alloc (.cells #[.int .i64 0, .int .i64 0, .int .i64 0] 30)) = wb at hw hb0 hN hl ⊢
  go_wp2_with fail
  refine hw.out.mono ?_
  rintro e w2 ⟨rfl, hb2⟩
  have hN2 := (hb2.block _ (Array.getElem?_eq_some_iff.1 hN.out).1).trans hN.out
  have hf := Lib.hid (show Below w.heap.size w ((((w2.setCell ⟨w.heap.size + 1, 0, none⟩ (.int .i64 (resAt fb).1)).setCell ⟨w.heap.size + 1, 1, none⟩ (.int .i64 (resAt fb).2.1)).setCell ⟨w.heap.size + 1, 2, none⟩ (.int .i64 (resAt fb).2.2))) from (((hb0.out.trans (hb2.mono hb0.out.size)).setCell (p := ⟨w.heap.size + 1, 0, none⟩) (Nat.le_succ _) _).setCell (p := ⟨w.heap.size + 1, 1, none⟩) (Nat.le_succ _) _).setCell (p := ⟨w.heap.size + 1, 2, none⟩) (Nat.le_succ _) _)
  have hN3 := Lib.hid (set_three (v0 := .int .i64 (resAt fb).1) (v1 := .int .i64 (resAt fb).2.1) (v2 := .int .i64 (resAt fb).2.2) hN2)
  have z0 : w2.cell? ⟨w.heap.size + 1, 0, none⟩ = some (.int .i64 0) := by rw [blk_cell hN2]; rfl
  have z1 : w2.cell? ⟨w.heap.size + 1, 1, none⟩ = some (.int .i64 0) := by rw [blk_cell hN2]; rfl
  have z2 : w2.cell? ⟨w.heap.size + 1, 2, none⟩ = some (.int .i64 0) := by rw [blk_cell hN2]; rfl
  have y0 : w2.frozen? ⟨w.heap.size + 1, 0, none⟩ = false := by simp [World.frozen?, hN2]
  have y1 : w2.frozen? ⟨w.heap.size + 1, 1, none⟩ = false := by simp [World.frozen?, hN2]
  have y2 : w2.frozen? ⟨w.heap.size + 1, 2, none⟩ = false := by simp [World.frozen?, hN2]
  clear hb2 hN2 hw hl
  go_wp2_with fail
  generalize (((w2.setCell ⟨w.heap.size + 1, 0, none⟩ (.int .i64 (resAt fb).1)).setCell ⟨w.heap.size + 1, 1, none⟩ (.int .i64 (resAt fb).2.1)).setCell ⟨w.heap.size + 1, 2, none⟩ (.int .i64 (resAt fb).2.2)) = w3 at hf hN3 ⊢
  have c0 : w3.cell? ⟨w.heap.size + 1, 0, none⟩ = some (.int .i64 (resAt fb).1) := by rw [blk_cell hN3.out]; rfl
  have c1 : w3.cell? ⟨w.heap.size + 1, 1, none⟩ = some (.int .i64 (resAt fb).2.1) := by rw [blk_cell hN3.out]; rfl
  have c2 : w3.cell? ⟨w.heap.size + 1, 2, none⟩ = some (.int .i64 (resAt fb).2.2) := by rw [blk_cell hN3.out]; rfl
  exact bodyPost_ret (v := .tuple #[.agg #[.int .i64 (resAt fb).1, .int .i64 (resAt fb).2.1, .int .i64 (resAt fb).2.2], .bool fb.isSome]) (by simp [results, Try.results33, go_sem, c0, c1, c2]) rfl ⟨rfl, hf.out⟩
theorem keeps11 {P : List Fun} (hP : POk P) {m : Nat} {W0 : World} (hm : m = W0.heap.size) : Keeps P m W0 59 #[] (fun (s : Unit) x => (bad11 x, s)) () (fun _ U _ => ∀ k, ¬ U k) :=
  keeps_pure hm (fun x vs W hx hv => by
    have hf := parts_fits hP.fits hx
    cases x with
    | fn f d => exact c11_fn hf hv
    | blk f k d x => exact c11_blk hf hv
    | ins f k i d x c => exact c11_ins hf hv)
set_option maxHeartbeats 1000000 in
theorem q11_any {P : List Fun} (hP : POk P) {w : World} {v : Value} (h : RdE 3 RdFun w v P) : Calls Try.prog 34 #[.agg #[v]] w fun e w' => e = .returned (ansV (firstP bad11 P)) ∧ Below w.heap.size w w' := by
  obtain ⟨a0, c0, rfl⟩ := h.form
  have hb0 : Below w.heap.size w ((w.alloc (.cells #[.slice a0 P.length c0] 56)).alloc (.cells #[.int .i64 0, .int .i64 0, .int .i64 0] 30)) := ((Below.refl _ _).alloc (Nat.le_refl _) _).alloc (by simp) _
  have hw := Lib.hid (where_any (W0 := ((w.alloc (.cells #[.slice a0 P.length c0] 56)).alloc (.cells #[.int .i64 0, .int .i64 0, .int .i64 0] 30))) (keeps11 hP rfl) (enters_of Try.func59 (by kernel_rfl) rfl) rfl (RdE.below (fun _ _ h => h.below hb0) h hb0) (Below.refl _ _) (U0 := fun _ => False) (fun _ h => h.elim) (fun _ h => h) hP.l1 hP.l2 hP.l3)
  have hN : ((w.alloc (.cells #[.slice a0 P.length c0] 56)).alloc (.cells #[.int .i64 0, .int .i64 0, .int .i64 0] 30)).heap[w.heap.size + 1]? = some (.cells #[.int .i64 0, .int .i64 0, .int .i64 0] 30 (0, 0)) := at_newN (by simp)
  have hl : ((w.alloc (.cells #[.slice a0 P.length c0] 56)).alloc (.cells #[.int .i64 0, .int .i64 0, .int .i64 0] 30)).cell? ⟨w.heap.size, 0, none⟩ = some (.slice a0 P.length c0) := by rw [blk_cell (at_oldN (at_newN rfl))]; rfl
  unfold ansV firstP
  unfold ptA at hw ⊢
  generalize firstBad (fun (s : Unit) x => (bad11 x, s)) () (partsL P) = fb at hw ⊢
  generalize P.length = p at h hw hb0 hN hl ⊢
  clear h
  replace hb0 := Lib.hid hb0
  replace hN := Lib.hid hN
  go_enter Try.func34, Try.ntmps34
  go_upto_region 1 with fail
  generalize ((w.alloc (.cells #[.slice a0 p c0] 56)).alloc (.cells #[.int .i64 0, .int .i64 0, .int .i64 0] 30)) = wb at hw hb0 hN hl ⊢
  go_wp2_with fail
  refine hw.out.mono ?_
  rintro e w2 ⟨rfl, hb2⟩
  have hN2 := (hb2.block _ (Array.getElem?_eq_some_iff.1 hN.out).1).trans hN.out
  have hf := Lib.hid (show Below w.heap.size w ((((w2.setCell ⟨w.heap.size + 1, 0, none⟩ (.int .i64 (resAt fb).1)).setCell ⟨w.heap.size + 1, 1, none⟩ (.int .i64 (resAt fb).2.1)).setCell ⟨w.heap.size + 1, 2, none⟩ (.int .i64 (resAt fb).2.2))) from (((hb0.out.trans (hb2.mono hb0.out.size)).setCell (p := ⟨w.heap.size + 1, 0, none⟩) (Nat.le_succ _) _).setCell (p := ⟨w.heap.size + 1, 1, none⟩) (Nat.le_succ _) _).setCell (p := ⟨w.heap.size + 1, 2, none⟩) (Nat.le_succ _) _)
  have hN3 := Lib.hid (set_three (v0 := .int .i64 (resAt fb).1) (v1 := .int .i64 (resAt fb).2.1) (v2 := .int .i64 (resAt fb).2.2) hN2)
  have z0 : w2.cell? ⟨w.heap.size + 1, 0, none⟩ = some (.int .i64 0) := by rw [blk_cell hN2]; rfl
  have z1 : w2.cell? ⟨w.heap.size + 1, 1, none⟩ = some (.int .i64 0) := by rw [blk_cell hN2]; rfl
  have z2 : w2.cell? ⟨w.heap.size + 1, 2, none⟩ = some (.int .i64 0) := by rw [blk_cell hN2]; rfl
  have y0 : w2.frozen? ⟨w.heap.size + 1, 0, none⟩ = false := by simp [World.frozen?, hN2]
  have y1 : w2.frozen? ⟨w.heap.size + 1, 1, none⟩ = false := by simp [World.frozen?, hN2]
  have y2 : w2.frozen? ⟨w.heap.size + 1, 2, none⟩ = false := by simp [World.frozen?, hN2]
  clear hb2 hN2 hw hl
  go_wp2_with fail
  generalize (((w2.setCell ⟨w.heap.size + 1, 0, none⟩ (.int .i64 (resAt fb).1)).setCell ⟨w.heap.size + 1, 1, none⟩ (.int .i64 (resAt fb).2.1)).setCell ⟨w.heap.size + 1, 2, none⟩ (.int .i64 (resAt fb).2.2)) = w3 at hf hN3 ⊢
  have c0 : w3.cell? ⟨w.heap.size + 1, 0, none⟩ = some (.int .i64 (resAt fb).1) := by rw [blk_cell hN3.out]; rfl
  have c1 : w3.cell? ⟨w.heap.size + 1, 1, none⟩ = some (.int .i64 (resAt fb).2.1) := by rw [blk_cell hN3.out]; rfl
  have c2 : w3.cell? ⟨w.heap.size + 1, 2, none⟩ = some (.int .i64 (resAt fb).2.2) := by rw [blk_cell hN3.out]; rfl
  exact bodyPost_ret (v := .tuple #[.agg #[.int .i64 (resAt fb).1, .int .i64 (resAt fb).2.1, .int .i64 (resAt fb).2.2], .bool fb.isSome]) (by simp [results, Try.results34, go_sem, c0, c1, c2]) rfl ⟨rfl, hf.out⟩
end Go.Proofs.YtjblhiekccjdcaaR
