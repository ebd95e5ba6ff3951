/- names: the questions of functions that are not there and of arities. -/
import Derived.Test.YtjblhiekccjdcaaRNNoFunc
namespace Go.Proofs.YtjblhiekccjdcaaR
open Go.RowKit Go.Maps Go.Shelf

theorem keeps13 {P : List Fun} (hP : POk P) {m Bx : Nat} {W0 : World} (hm : m = W0.heap.size) : Keeps P m W0 63 #[.pointer (some ⟨Bx, 0, none⟩)] (fun (_ : Unit) x => (bad13 (arityF P) x, ())) () (fun _ U W => ∃ bm, NumBx Bx (arityF P) U bm P.length W) where
  calm := fun s U W W' ⟨bm, h⟩ hT => ⟨bm, h.calm hT⟩
  call := fun s U x vs W ⟨pre, rest, e, es, hok⟩ hx hbel ⟨bm, hU⟩ => by
    have hf := parts_fits hP.fits (partsCalls_at e)
    have hv : PrtV W x vs := hx.below (by rw [← hm]; exact hbel)
    have h1 : Calls Try.prog 63 #[.agg vs, .pointer (some ⟨Bx, 0, none⟩)] W fun e W' => e = .returned (.bool (bad13 (arityF P) x)) ∧ Below W.heap.size W W' := by
      cases x with
      | fn f d => exact c13_fn hv hU
      | blk f k d x => exact c13_blk hv hU
      | ins f k i d x c => exact c13_ins hf hv hU
    refine Calls.mono h1 ?_
    rintro e' W' ⟨rfl, hb⟩
    exact ⟨U, rfl, ⟨bm, hU.below hb⟩, Touch.of_below hb _, fun k hk => .inl hk⟩
set_option maxRecDepth 20000 in
set_option maxHeartbeats 2000000 in
theorem q13_any {P : List Fun} (hP : POk P) {w : World} {v : Value} (h : RdE 3 RdFun w v P) : Calls Try.prog 36 #[.agg #[v]] w fun e w' => e = .returned (ansV (firstBad (fun (_ : Unit) x => (bad13 (arityF P) x, ())) () (partsL P))) ∧ Below w.heap.size w w' := by
  obtain ⟨a0, c0, rfl⟩ := h.form
  have hb0 : Below w.heap.size w ((w.alloc (.cells #[.slice a0 P.length c0] 56)).alloc (.cells #[.int .i64 0, .int .i64 0, .int .i64 0] 30)) := ((Below.refl _ _).alloc (Nat.le_refl _) _).alloc (by simp) _
  have hsz : ((w.alloc (.cells #[.slice a0 P.length c0] 56)).alloc (.cells #[.int .i64 0, .int .i64 0, .int .i64 0] 30)).heap.size = w.heap.size + 2 := by simp
  have hN : ((w.alloc (.cells #[.slice a0 P.length c0] 56)).alloc (.cells #[.int .i64 0, .int .i64 0, .int .i64 0] 30)).heap[w.heap.size + 1]? = some (.cells #[.int .i64 0, .int .i64 0, .int .i64 0] 30 (0, 0)) := at_newN (by simp)
  have hl : ((w.alloc (.cells #[.slice a0 P.length c0] 56)).alloc (.cells #[.int .i64 0, .int .i64 0, .int .i64 0] 30)).cell? ⟨w.heap.size, 0, none⟩ = some (.slice a0 P.length c0) := by rw [blk_cell (at_oldN (at_newN rfl))]; rfl
  have hPb : RdE 3 RdFun ((w.alloc (.cells #[.slice a0 P.length c0] 56)).alloc (.cells #[.int .i64 0, .int .i64 0, .int .i64 0] 30)) (.slice a0 P.length c0) P := RdE.below (fun _ _ h => h.below hb0) h hb0
  have hmm := @run_makeMap Try.prog
  unfold ansV ptA
  generalize hfb : firstBad (fun (_ : Unit) x => (bad13 (arityF P) x, ())) () (partsL P) = fb
  go_enter Try.func36, Try.ntmps36
  go_upto_region 1 with fail
  generalize ((w.alloc (.cells #[.slice a0 P.length c0] 56)).alloc (.cells #[.int .i64 0, .int .i64 0, .int .i64 0] 30)) = wb at hb0 hsz hN hl hPb ⊢
  have har := Lib.hid (arities_any (fun d hd => (hP.fits d hd).1) hP.l1 hP.l4 hPb)
  replace hb0 := Lib.hid hb0
  replace hN := Lib.hid hN
  replace hPb := Lib.hid hPb
  replace hfb := Lib.hid hfb
  go_upto_region 2 with (go_at_call 62; refine Calls.mono har.out ?_; rintro e w1 ⟨bm, rfl, hge, hmp, hb1⟩; replace hmp := Lib.hid hmp; replace hb1 := Lib.hid hb1)
  replace hb0 := hb0.out
  replace hN := hN.out
  replace hPb := hPb.out
  replace hfb := hfb.out
  clear har
  obtain ⟨wc, hwc⟩ : ∃ wc, wc = w1.alloc (.cells #[.map (some bm)] 75) := ⟨_, rfl⟩
  have hbc : Below wb.heap.size wb wc := by rw [hwc]; exact hb1.out.alloc hb1.out.size _
  have hI : ∃ bz, NumBx w1.heap.size (arityF P) (fun j => j = w1.heap.size ∨ j = bm) bz P.length wc := ⟨bm, by rw [hwc]; exact at_newN rfl, by rw [hwc]; exact hmp.out.block (Below.heap_alloc _ _ _ hmp.out.lt), fun j => Iff.rfl⟩
  have hsb := hb1.out.size
  have hml := hmp.out.lt
  have hw := where_any (W0 := wb) (keeps13 (Bx := w1.heap.size) hP rfl) (enters_of Try.func63 (by kernel_rfl) rfl) rfl hPb hbc (U0 := fun j => j = w1.heap.size ∨ j = bm) (fun k hk => by rw [hwc]; simp; omega) hI hP.l1 hP.l2 hP.l3
  rw [hfb] at hw
  unfold ptA at hw
  have hlc := keepC hbc hl
  clear hl
  replace hb0 := Lib.hid hb0
  replace hN := Lib.hid hN
  replace hw := Lib.hid hw
  clear h hPb hfb hI hmp hb1
  replace hbc := Lib.hid hbc
  rw [← hwc]
  replace hwc := Lib.hid hwc
  go_wp2_with fail
  refine hw.out.mono ?_
  rintro e w2 ⟨rfl, hb2⟩
  have hN2 := (hb2.block _ (Array.getElem?_eq_some_iff.1 hN.out).1).trans hN.out
  have hf := Lib.hid (show Below w.heap.size w ((((w2.setCell ⟨w.heap.size + 1, 0, none⟩ (.int .i64 (resAt fb).1)).setCell ⟨w.heap.size + 1, 1, none⟩ (.int .i64 (resAt fb).2.1)).setCell ⟨w.heap.size + 1, 2, none⟩ (.int .i64 (resAt fb).2.2))) from (((hb0.out.trans (hb2.mono hb0.out.size)).setCell (p := ⟨w.heap.size + 1, 0, none⟩) (Nat.le_succ _) _).setCell (p := ⟨w.heap.size + 1, 1, none⟩) (Nat.le_succ _) _).setCell (p := ⟨w.heap.size + 1, 2, none⟩) (Nat.le_succ _) _)
  have hN3 := Lib.hid (set_three (v0 := .int .i64 (resAt fb).1) (v1 := .int .i64 (resAt fb).2.1) (v2 := .int .i64 (resAt fb).2.2) hN2)
  have z0 : w2.cell? ⟨w.heap.size + 1, 0, none⟩ = some (.int .i64 0) := by rw [blk_cell hN2]; rfl
  have z1 : w2.cell? ⟨w.heap.size + 1, 1, none⟩ = some (.int .i64 0) := by rw [blk_cell hN2]; rfl
  have z2 : w2.cell? ⟨w.heap.size + 1, 2, none⟩ = some (.int .i64 0) := by rw [blk_cell hN2]; rfl
  have y0 : w2.frozen? ⟨w.heap.size + 1, 0, none⟩ = false := by simp [World.frozen?, hN2]
  have y1 : w2.frozen? ⟨w.heap.size + 1, 1, none⟩ = false := by simp [World.frozen?, hN2]
  have y2 : w2.frozen? ⟨w.heap.size + 1, 2, none⟩ = false := by simp [World.frozen?, hN2]
  clear hb2 hN2 hw hlc
  go_wp2_with fail
  generalize (((w2.setCell ⟨w.heap.size + 1, 0, none⟩ (.int .i64 (resAt fb).1)).setCell ⟨w.heap.size + 1, 1, none⟩ (.int .i64 (resAt fb).2.1)).setCell ⟨w.heap.size + 1, 2, none⟩ (.int .i64 (resAt fb).2.2)) = w3 at hf hN3 ⊢
  have c0 : w3.cell? ⟨w.heap.size + 1, 0, none⟩ = some (.int .i64 (resAt fb).1) := by rw [blk_cell hN3.out]; rfl
  have c1 : w3.cell? ⟨w.heap.size + 1, 1, none⟩ = some (.int .i64 (resAt fb).2.1) := by rw [blk_cell hN3.out]; rfl
  have c2 : w3.cell? ⟨w.heap.size + 1, 2, none⟩ = some (.int .i64 (resAt fb).2.2) := by rw [blk_cell hN3.out]; rfl
  exact bodyPost_ret (v := .tuple #[.agg #[.int .i64 (resAt fb).1, .int .i64 (resAt fb).2.1, .int .i64 (resAt fb).2.2], .bool fb.isSome]) (by simp [results, Try.results36, go_sem, c0, c1, c2]) rfl ⟨rfl, hf.out⟩
theorem keeps14 {P : List Fun} (hP : POk P) {m Bx : Nat} {W0 : World} (hm : m = W0.heap.size) : Keeps P m W0 64 #[.pointer (some ⟨Bx, 0, none⟩)] (fun (_ : Unit) x => (bad14 (arityF P) x, ())) () (fun _ U W => ∃ bm, NumBx Bx (arityF P) U bm P.length W) where
  calm := fun s U W W' ⟨bm, h⟩ hT => ⟨bm, h.calm hT⟩
  call := fun s U x vs W ⟨pre, rest, e, es, hok⟩ hx hbel ⟨bm, hU⟩ => by
    have hf := parts_fits hP.fits (partsCalls_at e)
    have hv : PrtV W x vs := hx.below (by rw [← hm]; exact hbel)
    have h1 : Calls Try.prog 64 #[.agg vs, .pointer (some ⟨Bx, 0, none⟩)] W fun e W' => e = .returned (.bool (bad14 (arityF P) x)) ∧ Below W.heap.size W W' := by
      cases x with
      | fn f d => exact c14_fn hv hU
      | blk f k d x => exact c14_blk hv hU
      | ins f k i d x c => exact c14_ins hf hv hU
    refine Calls.mono h1 ?_
    rintro e' W' ⟨rfl, hb⟩
    exact ⟨U, rfl, ⟨bm, hU.below hb⟩, Touch.of_below hb _, fun k hk => .inl hk⟩
set_option maxRecDepth 20000 in
set_option maxHeartbeats 2000000 in
theorem q14_any {P : List Fun} (hP : POk P) {w : World} {v : Value} (h : RdE 3 RdFun w v P) : Calls Try.prog 37 #[.agg #[v]] w fun e w' => e = .returned (ansV (firstBad (fun (_ : Unit) x => (bad14 (arityF P) x, ())) () (partsL P))) ∧ Below w.heap.size w w' := by
  obtain ⟨a0, c0, rfl⟩ := h.form
  have hb0 : Below w.heap.size w ((w.alloc (.cells #[.slice a0 P.length c0] 56)).alloc (.cells #[.int .i64 0, .int .i64 0, .int .i64 0] 30)) := ((Below.refl _ _).alloc (Nat.le_refl _) _).alloc (by simp) _
  have hsz : ((w.alloc (.cells #[.slice a0 P.length c0] 56)).alloc (.cells #[.int .i64 0, .int .i64 0, .int .i64 0] 30)).heap.size = w.heap.size + 2 := by simp
  have hN : ((w.alloc (.cells #[.slice a0 P.length c0] 56)).alloc (.cells #[.int .i64 0, .int .i64 0, .int .i64 0] 30)).heap[w.heap.size + 1]? = some (.cells #[.int .i64 0, .int .i64 0, .int .i64 0] 30 (0, 0)) := at_newN (by simp)
  have hl : ((w.alloc (.cells #[.slice a0 P.length c0] 56)).alloc (.cells #[.int .i64 0, .int .i64 0, .int .i64 0] 30)).cell? ⟨w.heap.size, 0, none⟩ = some (.slice a0 P.length c0) := by rw [blk_cell (at_oldN (at_newN rfl))]; rfl
  have hPb : RdE 3 RdFun ((w.alloc (.cells #[.slice a0 P.length c0] 56)).alloc (.cells #[.int .i64 0, .int .i64 0, .int .i64 0] 30)) (.slice a0 P.length c0) P := RdE.below (fun _ _ h => h.below hb0) h hb0
  have hmm := @run_makeMap Try.prog
  unfold ansV ptA
  generalize hfb : firstBad (fun (_ : Unit) x => (bad14 (arityF P) x, ())) () (partsL P) = fb
  go_enter Try.func37, Try.ntmps37
  go_upto_region 1 with fail
  generalize ((w.alloc (.cells #[.slice a0 P.length c0] 56)).alloc (.cells #[.int .i64 0, .int .i64 0, .int .i64 0] 30)) = wb at hb0 hsz hN hl hPb ⊢
  have har := Lib.hid (arities_any (fun d hd => (hP.fits d hd).1) hP.l1 hP.l4 hPb)
  replace hb0 := Lib.hid hb0
  replace hN := Lib.hid hN
  replace hPb := Lib.hid hPb
  replace hfb := Lib.hid hfb
  go_upto_region 2 with (go_at_call 62; refine Calls.mono har.out ?_; rintro e w1 ⟨bm, rfl, hge, hmp, hb1⟩; replace hmp := Lib.hid hmp; replace hb1 := Lib.hid hb1)
  replace hb0 := hb0.out
  replace hN := hN.out
  replace hPb := hPb.out
  replace hfb := hfb.out
  clear har
  obtain ⟨wc, hwc⟩ : ∃ wc, wc = w1.alloc (.cells #[.map (some bm)] 75) := ⟨_, rfl⟩
  have hbc : Below wb.heap.size wb wc := by rw [hwc]; exact hb1.out.alloc hb1.out.size _
  have hI : ∃ bz, NumBx w1.heap.size (arityF P) (fun j => j = w1.heap.size ∨ j = bm) bz P.length wc := ⟨bm, by rw [hwc]; exact at_newN rfl, by rw [hwc]; exact hmp.out.block (Below.heap_alloc _ _ _ hmp.out.lt), fun j => Iff.rfl⟩
  have hsb := hb1.out.size
  have hml := hmp.out.lt
  have hw := where_any (W0 := wb) (keeps14 (Bx := w1.heap.size) hP rfl) (enters_of Try.func64 (by kernel_rfl) rfl) rfl hPb hbc (U0 := fun j => j = w1.heap.size ∨ j = bm) (fun k hk => by rw [hwc]; simp; omega) hI hP.l1 hP.l2 hP.l3
  rw [hfb] at hw
  unfold ptA at hw
  have hlc := keepC hbc hl
  clear hl
  replace hb0 := Lib.hid hb0
  replace hN := Lib.hid hN
  replace hw := Lib.hid hw
  clear h hPb hfb hI hmp hb1
  replace hbc := Lib.hid hbc
  rw [← hwc]
  replace hwc := Lib.hid hwc
  go_wp2_with fail
  refine hw.out.mono ?_
  rintro e w2 ⟨rfl, hb2⟩
  have hN2 := (hb2.block _ (Array.getElem?_eq_some_iff.1 hN.out).1).trans hN.out
  have hf := Lib.hid (show Below w.heap.size w ((((w2.setCell ⟨w.heap.size + 1, 0, none⟩ (.int .i64 (resAt fb).1)).setCell ⟨w.heap.size + 1, 1, none⟩ (.int .i64 (resAt fb).2.1)).setCell ⟨w.heap.size + 1, 2, none⟩ (.int .i64 (resAt fb).2.2))) from (((hb0.out.trans (hb2.mono hb0.out.size)).setCell (p := ⟨w.heap.size + 1, 0, none⟩) (Nat.le_succ _) _).setCell (p := ⟨w.heap.size + 1, 1, none⟩) (Nat.le_succ _) _).setCell (p := ⟨w.heap.size + 1, 2, none⟩) (Nat.le_succ _) _)
  have hN3 := Lib.hid (set_three (v0 := .int .i64 (resAt fb).1) (v1 := .int .i64 (resAt fb).2.1) (v2 := .int .i64 (resAt fb).2.2) hN2)
  have z0 : w2.cell? ⟨w.heap.size + 1, 0, none⟩ = some (.int .i64 0) := by rw [blk_cell hN2]; rfl
  have z1 : w2.cell? ⟨w.heap.size + 1, 1, none⟩ = some (.int .i64 0) := by rw [blk_cell hN2]; rfl
  have z2 : w2.cell? ⟨w.heap.size + 1, 2, none⟩ = some (.int .i64 0) := by rw [blk_cell hN2]; rfl
  have y0 : w2.frozen? ⟨w.heap.size + 1, 0, none⟩ = false := by simp [World.frozen?, hN2]
  have y1 : w2.frozen? ⟨w.heap.size + 1, 1, none⟩ = false := by simp [World.frozen?, hN2]
  have y2 : w2.frozen? ⟨w.heap.size + 1, 2, none⟩ = false := by simp [World.frozen?, hN2]
  clear hb2 hN2 hw hlc
  go_wp2_with fail
  generalize (((w2.setCell ⟨w.heap.size + 1, 0, none⟩ (.int .i64 (resAt fb).1)).setCell ⟨w.heap.size + 1, 1, none⟩ (.int .i64 (resAt fb).2.1)).setCell ⟨w.heap.size + 1, 2, none⟩ (.int .i64 (resAt fb).2.2)) = w3 at hf hN3 ⊢
  have c0 : w3.cell? ⟨w.heap.size + 1, 0, none⟩ = some (.int .i64 (resAt fb).1) := by rw [blk_cell hN3.out]; rfl
  have c1 : w3.cell? ⟨w.heap.size + 1, 1, none⟩ = some (.int .i64 (resAt fb).2.1) := by rw [blk_cell hN3.out]; rfl
  have c2 : w3.cell? ⟨w.heap.size + 1, 2, none⟩ = some (.int .i64 (resAt fb).2.2) := by rw [blk_cell hN3.out]; rfl
  exact bodyPost_ret (v := .tuple #[.agg #[.int .i64 (resAt fb).1, .int .i64 (resAt fb).2.1, .int .i64 (resAt fb).2.2], .bool fb.isSome]) (by simp [results, Try.results37, go_sem, c0, c1, c2]) rfl ⟨rfl, hf.out⟩
end Go.Proofs.YtjblhiekccjdcaaR
