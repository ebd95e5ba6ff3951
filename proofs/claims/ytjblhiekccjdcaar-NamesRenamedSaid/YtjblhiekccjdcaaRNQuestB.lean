/- names: the questions of the rules that keep what they saw. -/
import Derived.Test.YtjblhiekccjdcaaRNStateA
namespace Go.Proofs.YtjblhiekccjdcaaR
open Go.RowKit Go.Maps Go.Shelf

def step3 (l : List ByteArray) (x : Prt) : Bool × List ByteArray := match x with
  | .fn _ d => twiceL l [d.name]
  | .blk _ _ _ _ => (false, l)
  | .ins _ _ _ _ _ _ => (false, l)
theorem step3_len : ∀ pre : List Prt, (runSt step3 [] pre).length ≤ pre.length := by
  refine snocP (by simp [runSt]) (fun l x ih => ?_)
  rw [runSt_snoc, List.length_append, List.length_singleton]
  cases x with
  | fn f d => have := twiceL_len [d.name] (runSt step3 [] l); simp [step3] at this ⊢; omega
  | blk f k d x => simp [step3]; omega
  | ins f k i d x c => simp [step3]; omega
theorem keeps3 {P : List Fun} (hP : POk P) {m Bx : Nat} {W0 : World} (hm : m = W0.heap.size) : Keeps P m W0 46 #[.pointer (some ⟨Bx, 0, none⟩)] step3 [] (fun l U W => ∃ bm, SetBx Bx l U bm W) where
  calm := fun s U W W' ⟨bm, h⟩ hT => ⟨bm, h.calm hT⟩
  call := fun s U x vs W ⟨pre, rest, e, es, hok⟩ hx hbel ⟨bm, hU⟩ => by
    have hl : s.length ≤ 2000000000000000000 := by rw [es]; have := step3_len pre; have := pre_len hP e; omega
    have hf := parts_fits hP.fits (partsCalls_at e)
    have hv : PrtV W x vs := hx.below (by rw [← hm]; exact hbel)
    have h1 : Calls Try.prog 46 #[.agg vs, .pointer (some ⟨Bx, 0, none⟩)] W fun e W' => e = .returned (.bool (step3 s x).1) ∧ SetBx Bx (step3 s x).2 U bm W' ∧ Touch W W' (fun k => k = bm) := by
      cases x with
      | fn f d => exact c3_fn hf hv hU hl
      | blk f k d x => exact c3_blk hf hv hU hl
      | ins f k i d x c => exact c3_ins hf hv hU hl
    refine Calls.mono h1 ?_
    rintro e' W' ⟨rfl, h2, h3⟩
    exact ⟨U, rfl, ⟨bm, h2⟩, h3.mono (fun k _ hk => (hU.own k).2 (.inr hk)), fun k hk => .inl hk⟩

/-- A state that a function's part begins. -/
def step7 (s : Option (List ByteArray)) (x : Prt) : Bool × Option (List ByteArray) := match x, s with
  | .fn _ _, _ => (false, some [])
  | .blk _ _ _ x, some l => ((twiceL l [x.label]).1, some (twiceL l [x.label]).2)
  | .blk _ _ _ _, none => (false, none)
  | .ins _ _ _ _ _ _, s => (false, s)
def olen (s : Option (List ByteArray)) : Nat := match s with | some l => l.length | none => 0
theorem step7_len : ∀ pre : List Prt, olen (runSt step7 none pre) ≤ pre.length := by
  refine snocP (by simp [runSt, olen]) (fun l x ih => ?_)
  rw [runSt_snoc, List.length_append, List.length_singleton]
  generalize runSt step7 none l = s at ih ⊢
  cases x with
  | fn f d => simp [step7, olen]
  | blk f k d x =>
    cases s with
    | none => simp [step7, olen]
    | some l2 => have := twiceL_len [x.label] l2; simp [step7, olen] at this ih ⊢; omega
  | ins f k i d x c => simp [step7]; omega
/-- The first part is a function's. -/
theorem parts_head {P : List Fun} {x : Prt} {r : List Prt} (h : partsL P = x :: r) : ∃ d, x = .fn 0 d := by
  cases P with
  | nil => cases h
  | cons d P =>
    refine ⟨d, ?_⟩
    have : partsL (d :: P) = .fn 0 d :: (cat (fun b x => blkL 0 b d x) d.blocks ++ (P.mapIdx (fun i => funL (i + 1))).flatten) := by
      unfold partsL
      show (List.mapIdx funL (d :: P)).flatten = _
      rw [List.mapIdx_cons]
      rfl
    rw [this] at h
    cases h
    rfl
theorem some_stays {σ : Type} {step : Option σ → Prt → Bool × Option σ} (hs : ∀ l x, ∃ l', (step (some l) x).2 = some l') : ∀ (pre : List Prt) (l : σ), ∃ l', runSt step (some l) pre = some l'
  | [], l => ⟨l, rfl⟩
  | x :: r, l => by
    obtain ⟨l', e⟩ := hs l x
    obtain ⟨l2, e2⟩ := some_stays hs r l'
    exact ⟨l2, by show runSt step (step (some l) x).2 r = _; rw [e, e2]⟩
/-- No state: a function's part. -/
theorem none_fn {σ : Type} {step : Option σ → Prt → Bool × Option σ} (hs : ∀ l x, ∃ l', (step (some l) x).2 = some l') (hf : ∀ f d, ∃ l', (step none (.fn f d)).2 = some l') {P : List Fun} {pre rest : List Prt} {x : Prt} (h : partsL P = pre ++ x :: rest) (hn : runSt step none pre = none) : ∃ d, x = .fn 0 d := by
  cases pre with
  | nil => exact parts_head h
  | cons y r =>
    obtain ⟨d, rfl⟩ := parts_head h
    exfalso
    obtain ⟨l', e⟩ := hf 0 d
    obtain ⟨l2, e2⟩ := some_stays hs r l'
    have : runSt step none (Prt.fn 0 d :: r) = runSt step (step none (Prt.fn 0 d)).2 r := rfl
    rw [this, e, e2] at hn
    cases hn
/-- The box, with a set or not yet. -/
def OptBx (Bx : Nat) (s : Option (List ByteArray)) (U : Nat → Prop) (W : World) : Prop := match s with
  | none => W.heap[Bx]? = some (.cells #[.map none] 69 (0, 0)) ∧ ∀ k, U k ↔ k = Bx
  | some l => ∃ bm, SetBx Bx l U bm W
theorem OptBx.calm {Bx : Nat} {s : Option (List ByteArray)} {U : Nat → Prop} {W W' : World} (h : OptBx Bx s U W) (hT : Touch W W' (fun k => ¬ U k)) : OptBx Bx s U W' := by
  cases s with
  | none => exact ⟨(hT.block _ (Array.getElem?_eq_some_iff.1 h.1).1 (fun hn => hn ((h.2 _).2 rfl))).trans h.1, h.2⟩
  | some l => obtain ⟨bm, h⟩ := h; exact ⟨bm, h.calm hT⟩
theorem OptBx.box {Bx : Nat} {s : Option (List ByteArray)} {U : Nat → Prop} {W : World} (h : OptBx Bx s U W) : U Bx ∧ ∃ ob, W.heap[Bx]? = some (.cells #[.map ob] 69 (0, 0)) := by
  cases s with
  | none => exact ⟨(h.2 _).2 rfl, _, h.1⟩
  | some l => obtain ⟨bm, h⟩ := h; exact ⟨(h.own _).2 (.inl rfl), _, h.box⟩
theorem keeps7 {P : List Fun} (hP : POk P) {m Bx : Nat} {W0 : World} (hm : m = W0.heap.size) : Keeps P m W0 53 #[.pointer (some ⟨Bx, 0, none⟩)] step7 none (OptBx Bx) where
  calm := fun s U W W' h hT => h.calm hT
  call := fun s U x vs W ⟨pre, rest, e, es, hok⟩ hx hbel hU => by
    have hl := step7_len pre
    rw [← es] at hl
    have hp := pre_len hP e
    have hf := parts_fits hP.fits (partsCalls_at e)
    have hv : PrtV W x vs := hx.below (by rw [← hm]; exact hbel)
    have hnone : s = none → ∃ d, x = .fn 0 d := fun hs => none_fn (step := step7) (fun l x => by cases x <;> exact ⟨_, rfl⟩) (fun _ _ => ⟨_, rfl⟩) e (by rw [← es]; exact hs)
    cases x with
    | fn f d =>
      obtain ⟨hUB, ob, hb⟩ := hU.box
      refine Calls.mono (c7_fn hv hb) ?_
      rintro e' W' ⟨rfl, bm, hge, h2, h3⟩
      refine ⟨fun k => k = Bx ∨ k = bm, rfl, ⟨bm, h2⟩, h3.mono (fun k _ hk => by rw [hk]; exact hUB), fun k hk => ?_⟩
      rcases hk with rfl | rfl
      · exact .inl hUB
      · exact .inr ⟨hge, h2.set.lt⟩
    | blk f k d x =>
      cases s with
      | none => obtain ⟨d', e'⟩ := hnone rfl; cases e'
      | some l =>
        obtain ⟨bm, hU⟩ := hU
        refine Calls.mono (c7_blk hf hv hU (by simp [olen] at hl; omega)) ?_
        rintro e' W' ⟨rfl, h2, h3⟩
        exact ⟨U, rfl, ⟨bm, h2⟩, h3.mono (fun k _ hk => (hU.own k).2 (.inr hk)), fun k hk => .inl hk⟩
    | ins f k i d x c =>
      cases s with
      | none => obtain ⟨d', e'⟩ := hnone rfl; cases e'
      | some l =>
        obtain ⟨bm, hU⟩ := hU
        refine Calls.mono (c7_ins hf hv hU (by simp [olen] at hl; omega)) ?_
        rintro e' W' ⟨rfl, h2, h3⟩
        exact ⟨U, rfl, ⟨bm, h2⟩, h3.mono (fun k _ hk => (hU.own k).2 (.inr hk)), fun k hk => .inl hk⟩
set_option maxRecDepth 20000 in
set_option maxHeartbeats 2000000 in
theorem q8_any {P : List Fun} (hP : POk P) {w : World} {v : Value} (h : RdE 3 RdFun w v P) : Calls Try.prog 31 #[.agg #[v]] w fun e w' => e = .returned (ansV (firstBad step8 0 (partsL P))) ∧ Below w.heap.size w w' := by
  obtain ⟨a0, c0, rfl⟩ := h.form
  have hb0 : Below w.heap.size w ((w.alloc (.cells #[.slice a0 P.length c0] 56)).alloc (.cells #[.int .i64 0, .int .i64 0, .int .i64 0] 30)) := ((Below.refl _ _).alloc (Nat.le_refl _) _).alloc (by simp) _
  have hsz : ((w.alloc (.cells #[.slice a0 P.length c0] 56)).alloc (.cells #[.int .i64 0, .int .i64 0, .int .i64 0] 30)).heap.size = w.heap.size + 2 := by simp
  have hN : ((w.alloc (.cells #[.slice a0 P.length c0] 56)).alloc (.cells #[.int .i64 0, .int .i64 0, .int .i64 0] 30)).heap[w.heap.size + 1]? = some (.cells #[.int .i64 0, .int .i64 0, .int .i64 0] 30 (0, 0)) := at_newN (by simp)
  have hl : ((w.alloc (.cells #[.slice a0 P.length c0] 56)).alloc (.cells #[.int .i64 0, .int .i64 0, .int .i64 0] 30)).cell? ⟨w.heap.size, 0, none⟩ = some (.slice a0 P.length c0) := by rw [blk_cell (at_oldN (at_newN rfl))]; rfl
  have hPb : RdE 3 RdFun ((w.alloc (.cells #[.slice a0 P.length c0] 56)).alloc (.cells #[.int .i64 0, .int .i64 0, .int .i64 0] 30)) (.slice a0 P.length c0) P := RdE.below (fun _ _ h => h.below hb0) h hb0
  have hmm := @run_makeMap Try.prog
  unfold ansV ptA
  generalize hfb : firstBad step8 0 (partsL P) = fb
  go_enter Try.func31, Try.ntmps31
  go_upto_region 1 with fail
  generalize ((w.alloc (.cells #[.slice a0 P.length c0] 56)).alloc (.cells #[.int .i64 0, .int .i64 0, .int .i64 0] 30)) = wb at hb0 hsz hN hl hPb ⊢
  obtain ⟨wc, hwc⟩ : ∃ wc, wc = wb.alloc (.cells #[.int .i64 0] 3) := ⟨_, rfl⟩
  have hbc : Below wb.heap.size wb wc := by rw [hwc]; exact (Below.refl _ _).alloc (Nat.le_refl _) _
  have hI : CntBx (w.heap.size + 2) 0 (fun k => k = w.heap.size + 2) wc := ⟨by rw [hwc]; exact at_newN (by omega), fun k => Iff.rfl⟩
  have hw := where_any (W0 := wb) (keeps8 (Bx := w.heap.size + 2) rfl) (enters_of Try.func54 (by kernel_rfl) rfl) rfl hPb hbc (U0 := fun k => k = w.heap.size + 2) (fun k hk => by rw [hk, hwc]; simp; omega) hI hP.l1 hP.l2 hP.l3
  rw [hfb] at hw
  unfold ptA at hw
  have hlc := keepC hbc hl
  generalize P.length = p at h hw hPb hl hlc ⊢
  replace hb0 := Lib.hid hb0
  replace hN := Lib.hid hN
  replace hw := Lib.hid hw
  clear h hPb hfb hI
  replace hbc := Lib.hid hbc
  go_upto_region 2 with fail
  rw [← hwc]
  replace hwc := Lib.hid hwc
  go_wp2_with fail
  refine hw.out.mono ?_
  rintro e w2 ⟨rfl, hb2⟩
  have hN2 := (hb2.block _ (Array.getElem?_eq_some_iff.1 hN.out).1).trans hN.out
  have hf := Lib.hid (show Below w.heap.size w ((((w2.setCell ⟨w.heap.size + 1, 0, none⟩ (.int .i64 (resAt fb).1)).setCell ⟨w.heap.size + 1, 1, none⟩ (.int .i64 (resAt fb).2.1)).setCell ⟨w.heap.size + 1, 2, none⟩ (.int .i64 (resAt fb).2.2))) from (((hb0.out.trans (hb2.mono hb0.out.size)).setCell (p := ⟨w.heap.size + 1, 0, none⟩) (Nat.le_succ _) _).setCell (p := ⟨w.heap.size + 1, 1, none⟩) (Nat.le_succ _) _).setCell (p := ⟨w.heap.size + 1, 2, none⟩) (Nat.le_succ _) _)
  have hN3 := Lib.hid (set_three (v0 := .int .i64 (resAt fb).1) (v1 := .int .i64 (resAt fb).2.1) (v2 := .int .i64 (resAt fb).2.2) hN2)
  have z0 : w2.cell? ⟨w.heap.size + 1, 0, none⟩ = some (.int .i64 0) := by rw [blk_cell hN2]; rfl
  have z1 : w2.cell? ⟨w.heap.size + 1, 1, none⟩ = some (.int .i64 0) := by rw [blk_cell hN2]; rfl
  have z2 : w2.cell? ⟨w.heap.size + 1, 2, none⟩ = some (.int .i64 0) := by rw [blk_cell hN2]; rfl
  have y0 : w2.frozen? ⟨w.heap.size + 1, 0, none⟩ = false := by simp [World.frozen?, hN2]
  have y1 : w2.frozen? ⟨w.heap.size + 1, 1, none⟩ = false := by simp [World.frozen?, hN2]
  have y2 : w2.frozen? ⟨w.heap.size + 1, 2, none⟩ = false := by simp [World.frozen?, hN2]
  clear hb2 hN2 hw hl hlc
  go_wp2_with fail
  generalize (((w2.setCell ⟨w.heap.size + 1, 0, none⟩ (.int .i64 (resAt fb).1)).setCell ⟨w.heap.size + 1, 1, none⟩ (.int .i64 (resAt fb).2.1)).setCell ⟨w.heap.size + 1, 2, none⟩ (.int .i64 (resAt fb).2.2)) = w3 at hf hN3 ⊢
  have c0 : w3.cell? ⟨w.heap.size + 1, 0, none⟩ = some (.int .i64 (resAt fb).1) := by rw [blk_cell hN3.out]; rfl
  have c1 : w3.cell? ⟨w.heap.size + 1, 1, none⟩ = some (.int .i64 (resAt fb).2.1) := by rw [blk_cell hN3.out]; rfl
  have c2 : w3.cell? ⟨w.heap.size + 1, 2, none⟩ = some (.int .i64 (resAt fb).2.2) := by rw [blk_cell hN3.out]; rfl
  exact bodyPost_ret (v := .tuple #[.agg #[.int .i64 (resAt fb).1, .int .i64 (resAt fb).2.1, .int .i64 (resAt fb).2.2], .bool fb.isSome]) (by simp [results, Try.results31, go_sem, c0, c1, c2]) rfl ⟨rfl, hf.out⟩
set_option maxRecDepth 20000 in
set_option maxHeartbeats 2000000 in
theorem q7_any {P : List Fun} (hP : POk P) {w : World} {v : Value} (h : RdE 3 RdFun w v P) : Calls Try.prog 30 #[.agg #[v]] w fun e w' => e = .returned (ansV (firstBad step7 none (partsL P))) ∧ Below w.heap.size w w' := by
  obtain ⟨a0, c0, rfl⟩ := h.form
  have hb0 : Below w.heap.size w ((w.alloc (.cells #[.slice a0 P.length c0] 56)).alloc (.cells #[.int .i64 0, .int .i64 0, .int .i64 0] 30)) := ((Below.refl _ _).alloc (Nat.le_refl _) _).alloc (by simp) _
  have hsz : ((w.alloc (.cells #[.slice a0 P.length c0] 56)).alloc (.cells #[.int .i64 0, .int .i64 0, .int .i64 0] 30)).heap.size = w.heap.size + 2 := by simp
  have hN : ((w.alloc (.cells #[.slice a0 P.length c0] 56)).alloc (.cells #[.int .i64 0, .int .i64 0, .int .i64 0] 30)).heap[w.heap.size + 1]? = some (.cells #[.int .i64 0, .int .i64 0, .int .i64 0] 30 (0, 0)) := at_newN (by simp)
  have hl : ((w.alloc (.cells #[.slice a0 P.length c0] 56)).alloc (.cells #[.int .i64 0, .int .i64 0, .int .i64 0] 30)).cell? ⟨w.heap.size, 0, none⟩ = some (.slice a0 P.length c0) := by rw [blk_cell (at_oldN (at_newN rfl))]; rfl
  have hPb : RdE 3 RdFun ((w.alloc (.cells #[.slice a0 P.length c0] 56)).alloc (.cells #[.int .i64 0, .int .i64 0, .int .i64 0] 30)) (.slice a0 P.length c0) P := RdE.below (fun _ _ h => h.below hb0) h hb0
  have hmm := @run_makeMap Try.prog
  unfold ansV ptA
  generalize hfb : firstBad step7 none (partsL P) = fb
  go_enter Try.func30, Try.ntmps30
  go_upto_region 1 with fail
  generalize ((w.alloc (.cells #[.slice a0 P.length c0] 56)).alloc (.cells #[.int .i64 0, .int .i64 0, .int .i64 0] 30)) = wb at hb0 hsz hN hl hPb ⊢
  obtain ⟨wc, hwc⟩ : ∃ wc, wc = wb.alloc (.cells #[.map none] 69) := ⟨_, rfl⟩
  have hbc : Below wb.heap.size wb wc := by rw [hwc]; exact (Below.refl _ _).alloc (Nat.le_refl _) _
  have hI : OptBx (w.heap.size + 2) none (fun k => k = w.heap.size + 2) wc := ⟨by rw [hwc]; exact at_newN (by omega), fun k => Iff.rfl⟩
  have hw := where_any (W0 := wb) (keeps7 (Bx := w.heap.size + 2) hP rfl) (enters_of Try.func53 (by kernel_rfl) rfl) rfl hPb hbc (U0 := fun k => k = w.heap.size + 2) (fun k hk => by rw [hk, hwc]; simp; omega) hI hP.l1 hP.l2 hP.l3
  rw [hfb] at hw
  unfold ptA at hw
  have hlc := keepC hbc hl
  generalize P.length = p at h hw hPb hl hlc ⊢
  replace hb0 := Lib.hid hb0
  replace hN := Lib.hid hN
  replace hw := Lib.hid hw
  clear h hPb hfb hI
  replace hbc := Lib.hid hbc
  go_upto_region 2 with fail
  rw [← hwc]
  replace hwc := Lib.hid hwc
  go_wp2_with fail
  refine hw.out.mono ?_
  rintro e w2 ⟨rfl, hb2⟩
  have hN2 := (hb2.block _ (Array.getElem?_eq_some_iff.1 hN.out).1).trans hN.out
  have hf := Lib.hid (show Below w.heap.size w ((((w2.setCell ⟨w.heap.size + 1, 0, none⟩ (.int .i64 (resAt fb).1)).setCell ⟨w.heap.size + 1, 1, none⟩ (.int .i64 (resAt fb).2.1)).setCell ⟨w.heap.size + 1, 2, none⟩ (.int .i64 (resAt fb).2.2))) from (((hb0.out.trans (hb2.mono hb0.out.size)).setCell (p := ⟨w.heap.size + 1, 0, none⟩) (Nat.le_succ _) _).setCell (p := ⟨w.heap.size + 1, 1, none⟩) (Nat.le_succ _) _).setCell (p := ⟨w.heap.size + 1, 2, none⟩) (Nat.le_succ _) _)
  have hN3 := Lib.hid (set_three (v0 := .int .i64 (resAt fb).1) (v1 := .int .i64 (resAt fb).2.1) (v2 := .int .i64 (resAt fb).2.2) hN2)
  have z0 : w2.cell? ⟨w.heap.size + 1, 0, none⟩ = some (.int .i64 0) := by rw [blk_cell hN2]; rfl
  have z1 : w2.cell? ⟨w.heap.size + 1, 1, none⟩ = some (.int .i64 0) := by rw [blk_cell hN2]; rfl
  have z2 : w2.cell? ⟨w.heap.size + 1, 2, none⟩ = some (.int .i64 0) := by rw [blk_cell hN2]; rfl
  have y0 : w2.frozen? ⟨w.heap.size + 1, 0, none⟩ = false := by simp [World.frozen?, hN2]
  have y1 : w2.frozen? ⟨w.heap.size + 1, 1, none⟩ = false := by simp [World.frozen?, hN2]
  have y2 : w2.frozen? ⟨w.heap.size + 1, 2, none⟩ = false := by simp [World.frozen?, hN2]
  clear hb2 hN2 hw hl hlc
  go_wp2_with fail
  generalize (((w2.setCell ⟨w.heap.size + 1, 0, none⟩ (.int .i64 (resAt fb).1)).setCell ⟨w.heap.size + 1, 1, none⟩ (.int .i64 (resAt fb).2.1)).setCell ⟨w.heap.size + 1, 2, none⟩ (.int .i64 (resAt fb).2.2)) = w3 at hf hN3 ⊢
  have c0 : w3.cell? ⟨w.heap.size + 1, 0, none⟩ = some (.int .i64 (resAt fb).1) := by rw [blk_cell hN3.out]; rfl
  have c1 : w3.cell? ⟨w.heap.size + 1, 1, none⟩ = some (.int .i64 (resAt fb).2.1) := by rw [blk_cell hN3.out]; rfl
  have c2 : w3.cell? ⟨w.heap.size + 1, 2, none⟩ = some (.int .i64 (resAt fb).2.2) := by rw [blk_cell hN3.out]; rfl
  exact bodyPost_ret (v := .tuple #[.agg #[.int .i64 (resAt fb).1, .int .i64 (resAt fb).2.1, .int .i64 (resAt fb).2.2], .bool fb.isSome]) (by simp [results, Try.results30, go_sem, c0, c1, c2]) rfl ⟨rfl, hf.out⟩
set_option maxRecDepth 20000 in
set_option maxHeartbeats 2000000 in
theorem q3_any {P : List Fun} (hP : POk P) {w : World} {v : Value} (h : RdE 3 RdFun w v P) : Calls Try.prog 26 #[.agg #[v]] w fun e w' => e = .returned (ansV (firstBad step3 [] (partsL P))) ∧ Below w.heap.size w w' := by
  obtain ⟨a0, c0, rfl⟩ := h.form
  have hb0 : Below w.heap.size w ((w.alloc (.cells #[.slice a0 P.length c0] 56)).alloc (.cells #[.int .i64 0, .int .i64 0, .int .i64 0] 30)) := ((Below.refl _ _).alloc (Nat.le_refl _) _).alloc (by simp) _
  have hsz : ((w.alloc (.cells #[.slice a0 P.length c0] 56)).alloc (.cells #[.int .i64 0, .int .i64 0, .int .i64 0] 30)).heap.size = w.heap.size + 2 := by simp
  have hN : ((w.alloc (.cells #[.slice a0 P.length c0] 56)).alloc (.cells #[.int .i64 0, .int .i64 0, .int .i64 0] 30)).heap[w.heap.size + 1]? = some (.cells #[.int .i64 0, .int .i64 0, .int .i64 0] 30 (0, 0)) := at_newN (by simp)
  have hl : ((w.alloc (.cells #[.slice a0 P.length c0] 56)).alloc (.cells #[.int .i64 0, .int .i64 0, .int .i64 0] 30)).cell? ⟨w.heap.size, 0, none⟩ = some (.slice a0 P.length c0) := by rw [blk_cell (at_oldN (at_newN rfl))]; rfl
  have hPb : RdE 3 RdFun ((w.alloc (.cells #[.slice a0 P.length c0] 56)).alloc (.cells #[.int .i64 0, .int .i64 0, .int .i64 0] 30)) (.slice a0 P.length c0) P := RdE.below (fun _ _ h => h.below hb0) h hb0
  have hmm := @run_makeMap Try.prog
  unfold ansV ptA
  generalize hfb : firstBad step3 [] (partsL P) = fb
  go_enter Try.func26, Try.ntmps26
  go_upto_region 1 with fail
  generalize ((w.alloc (.cells #[.slice a0 P.length c0] 56)).alloc (.cells #[.int .i64 0, .int .i64 0, .int .i64 0] 30)) = wb at hb0 hsz hN hl hPb ⊢
  obtain ⟨wc, hwc⟩ : ∃ wc, wc = (wb.alloc (.map #[] 0)).alloc (.cells #[.map (some (w.heap.size + 2))] 69) := ⟨_, rfl⟩
  have hbc : Below wb.heap.size wb wc := by rw [hwc]; exact ((Below.refl _ _).alloc (Nat.le_refl _) _).alloc (by simp) _
  have hI : ∃ bm, SetBx (w.heap.size + 3) [] (fun k => k = w.heap.size + 3 ∨ k = w.heap.size + 2) bm wc := ⟨w.heap.size + 2, by rw [hwc]; exact at_newN (by simp; omega), by rw [hwc]; exact (hsz ▸ SetS.new wb).block (by rw [at_oldN (at_newN (by omega)), at_newN (by omega)]), by omega, fun k => Iff.rfl⟩
  have hw := where_any (W0 := wb) (keeps3 (Bx := w.heap.size + 3) hP rfl) (enters_of Try.func46 (by kernel_rfl) rfl) rfl hPb hbc (U0 := fun k => k = w.heap.size + 3 ∨ k = w.heap.size + 2) (fun k hk => by rw [hwc]; simp; omega) hI hP.l1 hP.l2 hP.l3
  rw [hfb] at hw
  unfold ptA at hw
  have hlc := keepC hbc hl
  generalize P.length = p at h hw hPb hl hlc ⊢
  replace hb0 := Lib.hid hb0
  replace hN := Lib.hid hN
  replace hw := Lib.hid hw
  clear h hPb hfb hI
  replace hbc := Lib.hid hbc
  go_upto_region 2 with fail
  rw [← hwc]
  replace hwc := Lib.hid hwc
  go_wp2_with fail
  refine hw.out.mono ?_
  rintro e w2 ⟨rfl, hb2⟩
  have hN2 := (hb2.block _ (Array.getElem?_eq_some_iff.1 hN.out).1).trans hN.out
  have hf := Lib.hid (show Below w.heap.size w ((((w2.setCell ⟨w.heap.size + 1, 0, none⟩ (.int .i64 (resAt fb).1)).setCell ⟨w.heap.size + 1, 1, none⟩ (.int .i64 (resAt fb).2.1)).setCell ⟨w.heap.size + 1, 2, none⟩ (.int .i64 (resAt fb).2.2))) from (((hb0.out.trans (hb2.mono hb0.out.size)).setCell (p := ⟨w.heap.size + 1, 0, none⟩) (Nat.le_succ _) _).setCell (p := ⟨w.heap.size + 1, 1, none⟩) (Nat.le_succ _) _).setCell (p := ⟨w.heap.size + 1, 2, none⟩) (Nat.le_succ _) _)
  have hN3 := Lib.hid (set_three (v0 := .int .i64 (resAt fb).1) (v1 := .int .i64 (resAt fb).2.1) (v2 := .int .i64 (resAt fb).2.2) hN2)
  have z0 : w2.cell? ⟨w.heap.size + 1, 0, none⟩ = some (.int .i64 0) := by rw [blk_cell hN2]; rfl
  have z1 : w2.cell? ⟨w.heap.size + 1, 1, none⟩ = some (.int .i64 0) := by rw [blk_cell hN2]; rfl
  have z2 : w2.cell? ⟨w.heap.size + 1, 2, none⟩ = some (.int .i64 0) := by rw [blk_cell hN2]; rfl
  have y0 : w2.frozen? ⟨w.heap.size + 1, 0, none⟩ = false := by simp [World.frozen?, hN2]
  have y1 : w2.frozen? ⟨w.heap.size + 1, 1, none⟩ = false := by simp [World.frozen?, hN2]
  have y2 : w2.frozen? ⟨w.heap.size + 1, 2, none⟩ = false := by simp [World.frozen?, hN2]
  clear hb2 hN2 hw hl hlc
  go_wp2_with fail
  generalize (((w2.setCell ⟨w.heap.size + 1, 0, none⟩ (.int .i64 (resAt fb).1)).setCell ⟨w.heap.size + 1, 1, none⟩ (.int .i64 (resAt fb).2.1)).setCell ⟨w.heap.size + 1, 2, none⟩ (.int .i64 (resAt fb).2.2)) = w3 at hf hN3 ⊢
  have c0 : w3.cell? ⟨w.heap.size + 1, 0, none⟩ = some (.int .i64 (resAt fb).1) := by rw [blk_cell hN3.out]; rfl
  have c1 : w3.cell? ⟨w.heap.size + 1, 1, none⟩ = some (.int .i64 (resAt fb).2.1) := by rw [blk_cell hN3.out]; rfl
  have c2 : w3.cell? ⟨w.heap.size + 1, 2, none⟩ = some (.int .i64 (resAt fb).2.2) := by rw [blk_cell hN3.out]; rfl
  exact bodyPost_ret (v := .tuple #[.agg #[.int .i64 (resAt fb).1, .int .i64 (resAt fb).2.1, .int .i64 (resAt fb).2.2], .bool fb.isSome]) (by simp [results, Try.results26, go_sem, c0, c1, c2]) rfl ⟨rfl, hf.out⟩
end Go.Proofs.YtjblhiekccjdcaaR
