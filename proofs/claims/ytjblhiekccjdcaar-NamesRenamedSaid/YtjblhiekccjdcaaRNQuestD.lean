/- names: the question of labels that no block has. -/
import Derived.Test.YtjblhiekccjdcaaRNLabel
namespace Go.Proofs.YtjblhiekccjdcaaR
open Go.RowKit Go.Maps Go.Shelf

/-- A state that a function's part begins: its blocks' labels. -/
def step12 (s : Option (List ByteArray)) (x : Prt) : Bool × Option (List ByteArray) := match x, s with
  | .fn _ d, _ => (false, some (labelsL d.blocks))
  | .blk _ _ _ _, s => (false, s)
  | .ins _ _ _ _ _ c, some l => (!c.labels.all fun s => decide (s ∈ l), some l)
  | .ins _ _ _ _ _ _, none => (false, none)
theorem step12_len {P : List Fun} (hP : POk P) : ∀ pre : List Prt, (∀ x ∈ pre, x ∈ partsL P) → olen (runSt step12 none pre) ≤ 1000000 := by
  refine snocP (by simp [runSt, olen]) (fun l x ih hm => ?_)
  rw [runSt_snoc]
  have ih := ih (fun y hy => hm y (List.mem_append_left _ hy))
  have hx := hm x (by simp)
  generalize runSt step12 none l = s at ih ⊢
  cases x with
  | fn f d =>
    have h1 := labels_len d.blocks
    have h2 := hP.l2 d (parts_fun hx)
    simp [step12, olen] at h1 ⊢
    omega
  | blk f k d x => simpa [step12] using ih
  | ins f k i d x c =>
    cases s with
    | none => simp [step12, olen]
    | some l2 => simpa [step12, olen] using ih
theorem keeps12 {P : List Fun} (hP : POk P) {m Bx : Nat} {W0 : World} (hm : m = W0.heap.size) : Keeps P m W0 60 #[.pointer (some ⟨Bx, 0, none⟩)] step12 none (OptBx Bx) where
  calm := fun s U W W' h hT => h.calm hT
  call := fun s U x vs W ⟨pre, rest, e, es, hok⟩ hx hbel hU => by
    have hl := step12_len hP pre (fun y hy => by rw [e]; exact List.mem_append_left _ hy)
    rw [← es] at hl
    have hp := pre_len hP e
    have hf := parts_fits hP.fits (partsCalls_at e)
    have hv : PrtV W x vs := hx.below (by rw [← hm]; exact hbel)
    have hnone : s = none → ∃ d, x = .fn 0 d := fun hs => none_fn (step := step12) (fun l x => by cases x <;> exact ⟨_, rfl⟩) (fun _ _ => ⟨_, rfl⟩) e (by rw [← es]; exact hs)
    cases x with
    | fn f d =>
      obtain ⟨hUB, ob, hb⟩ := hU.box
      have hd : Prt.fn f d ∈ partsL P := by rw [e]; simp
      refine Calls.mono (c12_fn hf (hP.l2 d (parts_fun hd)) hv hb) ?_
      rintro e' W' ⟨rfl, bm, hge, h2, h3⟩
      refine ⟨fun k => k = Bx ∨ k = bm, rfl, ⟨bm, h2⟩, h3.mono (fun k _ hk => by rw [hk]; exact hUB), fun k hk => ?_⟩
      rcases hk with rfl | rfl
      · exact .inl hUB
      · exact .inr ⟨hge, h2.set.lt⟩
    | blk f k d x =>
      cases s with
      | none => obtain ⟨d', e'⟩ := hnone rfl; cases e'
      | some l =>
        obtain ⟨bm, hU⟩ := hU
        refine Calls.mono (c12_blk hf hv hU (by simp [olen] at hl; omega)) ?_
        rintro e' W' ⟨rfl, h2, h3⟩
        exact ⟨U, rfl, ⟨bm, h2⟩, h3.mono (fun k _ hk => (hU.own k).2 (.inr hk)), fun k hk => .inl hk⟩
    | ins f k i d x c =>
      cases s with
      | none => obtain ⟨d', e'⟩ := hnone rfl; cases e'
      | some l =>
        obtain ⟨bm, hU⟩ := hU
        refine Calls.mono (c12_ins hf hv hU (by simp [olen] at hl; omega)) ?_
        rintro e' W' ⟨rfl, h2, h3⟩
        exact ⟨U, rfl, ⟨bm, h2⟩, h3.mono (fun k _ hk => (hU.own k).2 (.inr hk)), fun k hk => .inl hk⟩
set_option maxRecDepth 20000 in
set_option maxHeartbeats 2000000 in
theorem q12_any {P : List Fun} (hP : POk P) {w : World} {v : Value} (h : RdE 3 RdFun w v P) : Calls Try.prog 35 #[.agg #[v]] w fun e w' => e = .returned (ansV (firstBad step12 none (partsL P))) ∧ Below w.heap.size w w' := by
  obtain ⟨a0, c0, rfl⟩ := h.form
  have hb0 : Below w.heap.size w ((w.alloc (.cells #[.slice a0 P.length c0] 56)).alloc (.cells #[.int .i64 0, .int .i64 0, .int .i64 0] 30)) := ((Below.refl _ _).alloc (Nat.le_refl _) _).alloc (by simp) _
  have hsz : ((w.alloc (.cells #[.slice a0 P.length c0] 56)).alloc (.cells #[.int .i64 0, .int .i64 0, .int .i64 0] 30)).heap.size = w.heap.size + 2 := by simp
  have hN : ((w.alloc (.cells #[.slice a0 P.length c0] 56)).alloc (.cells #[.int .i64 0, .int .i64 0, .int .i64 0] 30)).heap[w.heap.size + 1]? = some (.cells #[.int .i64 0, .int .i64 0, .int .i64 0] 30 (0, 0)) := at_newN (by simp)
  have hl : ((w.alloc (.cells #[.slice a0 P.length c0] 56)).alloc (.cells #[.int .i64 0, .int .i64 0, .int .i64 0] 30)).cell? ⟨w.heap.size, 0, none⟩ = some (.slice a0 P.length c0) := by rw [blk_cell (at_oldN (at_newN rfl))]; rfl
  have hPb : RdE 3 RdFun ((w.alloc (.cells #[.slice a0 P.length c0] 56)).alloc (.cells #[.int .i64 0, .int .i64 0, .int .i64 0] 30)) (.slice a0 P.length c0) P := RdE.below (fun _ _ h => h.below hb0) h hb0
  have hmm := @run_makeMap Try.prog
  unfold ansV ptA
  generalize hfb : firstBad step12 none (partsL P) = fb
  go_enter Try.func35, Try.ntmps35
  go_upto_region 1 with fail
  generalize ((w.alloc (.cells #[.slice a0 P.length c0] 56)).alloc (.cells #[.int .i64 0, .int .i64 0, .int .i64 0] 30)) = wb at hb0 hsz hN hl hPb ⊢
  obtain ⟨wc, hwc⟩ : ∃ wc, wc = wb.alloc (.cells #[.map none] 69) := ⟨_, rfl⟩
  have hbc : Below wb.heap.size wb wc := by rw [hwc]; exact (Below.refl _ _).alloc (Nat.le_refl _) _
  have hI : OptBx (w.heap.size + 2) none (fun k => k = w.heap.size + 2) wc := ⟨by rw [hwc]; exact at_newN (by omega), fun k => Iff.rfl⟩
  have hw := where_any (W0 := wb) (keeps12 (Bx := w.heap.size + 2) hP rfl) (enters_of Try.func60 (by kernel_rfl) rfl) rfl hPb hbc (U0 := fun k => k = w.heap.size + 2) (fun k hk => by rw [hk, hwc]; simp; omega) hI hP.l1 hP.l2 hP.l3
  rw [hfb] at hw
  unfold ptA at hw
  have hlc := keepC hbc hl
  generalize P.length = p at h hw hPb hl hlc ⊢
  replace hb0 := Lib.hid hb0
  replace hN := Lib.hid hN
  replace hw := Lib.hid hw
  clear h hPb hfb hI
  replace hbc := Lib.hid hbc
  go_upto_region 2 with fail
  rw [← hwc]
  replace hwc := Lib.hid hwc
  go_wp2_with fail
  refine hw.out.mono ?_
  rintro e w2 ⟨rfl, hb2⟩
  have hN2 := (hb2.block _ (Array.getElem?_eq_some_iff.1 hN.out).1).trans hN.out
  have hf := Lib.hid (show Below w.heap.size w ((((w2.setCell ⟨w.heap.size + 1, 0, none⟩ (.int .i64 (resAt fb).1)).setCell ⟨w.heap.size + 1, 1, none⟩ (.int .i64 (resAt fb).2.1)).setCell ⟨w.heap.size + 1, 2, none⟩ (.int .i64 (resAt fb).2.2))) from (((hb0.out.trans (hb2.mono hb0.out.size)).setCell (p := ⟨w.heap.size + 1, 0, none⟩) (Nat.le_succ _) _).setCell (p := ⟨w.heap.size + 1, 1, none⟩) (Nat.le_succ _) _).setCell (p := ⟨w.heap.size + 1, 2, none⟩) (Nat.le_succ _) _)
  have hN3 := Lib.hid (set_three (v0 := .int .i64 (resAt fb).1) (v1 := .int .i64 (resAt fb).2.1) (v2 := .int .i64 (resAt fb).2.2) hN2)
  have z0 : w2.cell? ⟨w.heap.size + 1, 0, none⟩ = some (.int .i64 0) := by rw [blk_cell hN2]; rfl
  have z1 : w2.cell? ⟨w.heap.size + 1, 1, none⟩ = some (.int .i64 0) := by rw [blk_cell hN2]; rfl
  have z2 : w2.cell? ⟨w.heap.size + 1, 2, none⟩ = some (.int .i64 0) := by rw [blk_cell hN2]; rfl
  have y0 : w2.frozen? ⟨w.heap.size + 1, 0, none⟩ = false := by simp [World.frozen?, hN2]
  have y1 : w2.frozen? ⟨w.heap.size + 1, 1, none⟩ = false := by simp [World.frozen?, hN2]
  have y2 : w2.frozen? ⟨w.heap.size + 1, 2, none⟩ = false := by simp [World.frozen?, hN2]
  clear hb2 hN2 hw hl hlc
  go_wp2_with fail
  generalize (((w2.setCell ⟨w.heap.size + 1, 0, none⟩ (.int .i64 (resAt fb).1)).setCell ⟨w.heap.size + 1, 1, none⟩ (.int .i64 (resAt fb).2.1)).setCell ⟨w.heap.size + 1, 2, none⟩ (.int .i64 (resAt fb).2.2)) = w3 at hf hN3 ⊢
  have c0 : w3.cell? ⟨w.heap.size + 1, 0, none⟩ = some (.int .i64 (resAt fb).1) := by rw [blk_cell hN3.out]; rfl
  have c1 : w3.cell? ⟨w.heap.size + 1, 1, none⟩ = some (.int .i64 (resAt fb).2.1) := by rw [blk_cell hN3.out]; rfl
  have c2 : w3.cell? ⟨w.heap.size + 1, 2, none⟩ = some (.int .i64 (resAt fb).2.2) := by rw [blk_cell hN3.out]; rfl
  exact bodyPost_ret (v := .tuple #[.agg #[.int .i64 (resAt fb).1, .int .i64 (resAt fb).2.1, .int .i64 (resAt fb).2.2], .bool fb.isSome]) (by simp [results, Try.results35, go_sem, c0, c1, c2]) rfl ⟨rfl, hf.out⟩
end Go.Proofs.YtjblhiekccjdcaaR
