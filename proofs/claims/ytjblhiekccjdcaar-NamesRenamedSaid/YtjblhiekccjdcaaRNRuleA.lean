/- names: what the rules' functions tell of a part. -/
import Derived.Test.YtjblhiekccjdcaaRNRule
namespace Go.Proofs.YtjblhiekccjdcaaR
open Go.RowKit Go.Maps

theorem allN_one {u : Bool} {w : World} {s : ByteArray} (hs : s.size ≤ maxLen) (hu : isName s = u) : Calls Try.prog 43 #[.slice (some ⟨w.heap.size, 0, none⟩) 1 1] (w.alloc (.cells #[.string s] 9)) fun e w' => e = .returned (.bool u) ∧ (w.alloc (.cells #[.string s] 9)) = w' :=
  allN_eq (rds_one (at_newN rfl)) (by unfold maxLen; simp) (fun x hx => by rw [List.mem_singleton.1 hx]; exact hs) (by simpa using hu)
set_option maxRecDepth 20000 in
set_option maxHeartbeats 2000000 in
theorem c2_fn {w : World} {f : Nat} {d : Fun} {vs : Array Value} (hf : (Prt.fn f d).Fits) (h : PrtV w (Prt.fn f d) vs) : Calls Try.prog 41 #[.agg vs] w fun e w' => e = .returned (.bool (!isName d.name || !d.params.all isName)) ∧ Below w.heap.size w w' := by
  obtain ⟨b, o, pa, ba, pc, bc, rfl, hX⟩ := FnBox.mk' h
  have hB := Lib.hid (box_below w (.cells #[.int .i64 f, .int .i64 0, .int .i64 0, .pointer (some ⟨b, o, none⟩), .pointer none, .pointer none] 65))
  obtain ⟨z1, z2, z3, z4, z5⟩ := hf
  obtain ⟨u1, hu1⟩ : ∃ u, isName d.name = u := ⟨_, rfl⟩
  obtain ⟨u2, hu2⟩ : ∃ u, d.params.all isName = u := ⟨_, rfl⟩
  rw [hu1, hu2]
  have k1 := Lib.hid (fun w => allN_one (w := w) z1 hu1)
  have k2 := Lib.hid (fun w v (h : RdS w v d.params) => allN_eq h z4 z2 hu2)
  clear hu1 hu2 z1 z2 z3 z5
  clear h
  cases u1 <;> cases u2 <;> (
    go_enter Try.func41, Try.ntmps41
    go_upto_region 1 with fail
    generalize (w.alloc (.cells #[.int .i64 f, .int .i64 0, .int .i64 0, .pointer (some ⟨b, o, none⟩), .pointer none, .pointer none] 65)) = wb at hX hB ⊢
    replace hX := Lib.hid hX
    obtain ⟨s0, s1, s2, s3, s4, s5, f0, f1, f2, rp, rb⟩ := hX.out
    go_wp2_with (first
      | (go_at_call 42; with_reducible refine Calls.mono (isFunc_v) ?_; rintro e w2 ⟨rfl, hb⟩; replace hX := Lib.hid (hX.out.keep hb); replace hB := Lib.hid (hB.out.trans (hb.mono hB.out.size)); obtain ⟨s0, s1, s2, s3, s4, s5, f0, f1, f2, rp, rb⟩ := hX.out)
      | (go_at_call 43; with_reducible refine Calls.mono (k1.out _) ?_; rintro e w3 ⟨rfl, rfl⟩; replace hX := Lib.hid (hX.out.keep (box_below _ (.cells #[.string d.name] 9))); replace hB := Lib.hid (hB.out.trans ((box_below _ (.cells #[.string d.name] 9)).mono hB.out.size)); obtain ⟨s0, s1, s2, s3, s4, s5, f0, f1, f2, rp, rb⟩ := hX.out)
      | (go_at_call 43; refine Calls.mono (k2.out _ _ rp) ?_; rintro e w3 ⟨rfl, rfl⟩)
      | fail)
    go_ret
    exact ⟨rfl, hB.out⟩)
set_option maxRecDepth 20000 in
set_option maxHeartbeats 2000000 in
theorem c2_blk {w : World} {f k : Nat} {d : Fun} {x : Blk} {vs : Array Value} (hf : (Prt.blk f k d x).Fits) (h : PrtV w (Prt.blk f k d x) vs) : Calls Try.prog 41 #[.agg vs] w fun e w' => e = .returned (.bool (!isName x.label)) ∧ Below w.heap.size w w' := by
  obtain ⟨b, o, b2, o2, ca, cc, rfl, hX⟩ := BlkBox.mk' h
  have hB := Lib.hid (box_below w (.cells #[.int .i64 f, .int .i64 k, .int .i64 0, .pointer (some ⟨b, o, none⟩), .pointer (some ⟨b2, o2, none⟩), .pointer none] 65))
  obtain ⟨-, z1, z2, z3⟩ := hf
  obtain ⟨u1, hu1⟩ : ∃ u, isName x.label = u := ⟨_, rfl⟩
  rw [hu1]
  have k1 := Lib.hid (fun w => allN_one (w := w) z1 hu1)
  clear hu1 z1 z2 z3
  clear h
  cases u1 <;> (
    go_enter Try.func41, Try.ntmps41
    go_upto_region 1 with fail
    generalize (w.alloc (.cells #[.int .i64 f, .int .i64 k, .int .i64 0, .pointer (some ⟨b, o, none⟩), .pointer (some ⟨b2, o2, none⟩), .pointer none] 65)) = wb at hX hB ⊢
    replace hX := Lib.hid hX
    obtain ⟨s0, s1, s2, s3, s4, s5, f0, f1⟩ := hX.out
    go_wp2_with (first
      | (go_at_call 42; with_reducible refine Calls.mono (isFunc_v) ?_; rintro e w2 ⟨rfl, hb⟩; replace hX := Lib.hid (hX.out.keep hb); replace hB := Lib.hid (hB.out.trans (hb.mono hB.out.size)); obtain ⟨s0, s1, s2, s3, s4, s5, f0, f1⟩ := hX.out)
      | (go_at_call 44; with_reducible refine Calls.mono (isBlock_v) ?_; rintro e w2 ⟨rfl, hb⟩; replace hX := Lib.hid (hX.out.keep hb); replace hB := Lib.hid (hB.out.trans (hb.mono hB.out.size)); obtain ⟨s0, s1, s2, s3, s4, s5, f0, f1⟩ := hX.out)
      | (go_at_call 43; with_reducible refine Calls.mono (k1.out _) ?_; rintro e w3 ⟨rfl, rfl⟩; replace hB := Lib.hid (hB.out.trans ((box_below _ (.cells #[.string x.label] 9)).mono hB.out.size)))
      | fail)
    go_ret
    exact ⟨rfl, hB.out⟩)
set_option maxRecDepth 20000 in
set_option maxHeartbeats 2000000 in
theorem c2_ins {w : World} {f k i : Nat} {d : Fun} {x : Blk} {c : Ins} {vs : Array Value} (hf : (Prt.ins f k i d x c).Fits) (h : PrtV w (Prt.ins f k i d x c) vs) : Calls Try.prog 41 #[.agg vs] w fun e w' => e = .returned (.bool (badNamesB c)) ∧ Below w.heap.size w w' := by
  obtain ⟨b, o, b2, o2, b3, o3, ca, aa, la, cc, ac, lc, rfl, hX⟩ := InsBox.mk' h
  have hB := Lib.hid (box_below w (.cells #[.int .i64 f, .int .i64 k, .int .i64 i, .pointer (some ⟨b, o, none⟩), .pointer (some ⟨b2, o2, none⟩), .pointer (some ⟨b3, o3, none⟩)] 65))
  obtain ⟨-, ⟨-, -, z3⟩, z4, z5⟩ := hf
  have k1 := Lib.hid (fun w' (h : InsAt w' b3 o3 c) => badNames_any h z4)
  generalize badNamesB c = q at k1 ⊢
  clear z3 z4 z5
  clear h
  go_enter Try.func41, Try.ntmps41
  go_upto_region 1 with fail
  generalize (w.alloc (.cells #[.int .i64 f, .int .i64 k, .int .i64 i, .pointer (some ⟨b, o, none⟩), .pointer (some ⟨b2, o2, none⟩), .pointer (some ⟨b3, o3, none⟩)] 65)) = wb at hX hB ⊢
  replace hX := Lib.hid hX
  obtain ⟨s0, s1, s2, s3, s4, s5, f1, c0, c1, c5, c6, c7, hat, ra, rl, rc⟩ := hX.out
  go_wp2_with (first
    | (go_at_call 42; with_reducible refine Calls.mono (isFunc_v) ?_; rintro e w2 ⟨rfl, hb⟩; replace hX := Lib.hid (hX.out.keep hb); replace hB := Lib.hid (hB.out.trans (hb.mono hB.out.size)); obtain ⟨s0, s1, s2, s3, s4, s5, f1, c0, c1, c5, c6, c7, hat, ra, rl, rc⟩ := hX.out)
    | (go_at_call 44; with_reducible refine Calls.mono (isBlock_v) ?_; rintro e w2 ⟨rfl, hb⟩; replace hX := Lib.hid (hX.out.keep hb); replace hB := Lib.hid (hB.out.trans (hb.mono hB.out.size)); obtain ⟨s0, s1, s2, s3, s4, s5, f1, c0, c1, c5, c6, c7, hat, ra, rl, rc⟩ := hX.out)
    | (go_at_call 45; with_reducible refine Calls.mono (k1.out _ hat) ?_; rintro e w2 ⟨rfl, hb⟩; replace hX := Lib.hid (hX.out.keep hb); replace hB := Lib.hid (hB.out.trans (hb.mono hB.out.size)); obtain ⟨s0, s1, s2, s3, s4, s5, f1, c0, c1, c5, c6, c7, hat, ra, rl, rc⟩ := hX.out)
    | fail)
  go_ret
  exact ⟨rfl, hB.out⟩
set_option maxRecDepth 20000 in
set_option maxHeartbeats 2000000 in
theorem c5_fn {w : World} {f : Nat} {d : Fun} {vs : Array Value} (hf : (Prt.fn f d).Fits) (h : PrtV w (Prt.fn f d) vs) : Calls Try.prog 49 #[.agg vs] w fun e w' => e = .returned (.bool (decide (d.params.length > 8))) ∧ Below w.heap.size w w' := by
  obtain ⟨b, o, pa, ba, pc, bc, rfl, hX⟩ := FnBox.mk' h
  have hB := Lib.hid (box_below w (.cells #[.int .i64 f, .int .i64 0, .int .i64 0, .pointer (some ⟨b, o, none⟩), .pointer none, .pointer none] 65))
  obtain ⟨z1, z2, z3, z4, z5⟩ := hf
  obtain ⟨n, hn⟩ : ∃ n, n = d.params.length := ⟨_, rfl⟩
  rw [← hn] at z4 ⊢
  unfold maxLen at z4
  replace hn := Lib.hid hn
  have j1 : decide ((n : Int) > 8) = decide (n > 8) := decide_eq_decide.2 (by omega)
  generalize decide (n > 8) = q at j1 ⊢
  clear z1 z2 z3 z5
  clear h
  cases q <;> (
    go_enter Try.func49, Try.ntmps49
    go_upto_region 1 with fail
    generalize (w.alloc (.cells #[.int .i64 f, .int .i64 0, .int .i64 0, .pointer (some ⟨b, o, none⟩), .pointer none, .pointer none] 65)) = wb at hX hB ⊢
    replace hX := Lib.hid hX
    obtain ⟨s0, s1, s2, s3, s4, s5, f0, f1, f2, rp, rb⟩ := hX.out
    rw [← hn.out] at f1
    go_wp2_with (first
      | (go_at_call 42; with_reducible refine Calls.mono (isFunc_v) ?_; rintro e w2 ⟨rfl, hb⟩; replace hX := Lib.hid (hX.out.keep hb); replace hB := Lib.hid (hB.out.trans (hb.mono hB.out.size)); obtain ⟨s0, s1, s2, s3, s4, s5, f0, f1, f2, rp, rb⟩ := hX.out; rw [← hn.out] at f1)
      | fail)
    go_ret
    exact ⟨rfl, hB.out⟩)
set_option maxRecDepth 20000 in
set_option maxHeartbeats 2000000 in
theorem c5_blk {w : World} {f k : Nat} {d : Fun} {x : Blk} {vs : Array Value} (hf : (Prt.blk f k d x).Fits) (h : PrtV w (Prt.blk f k d x) vs) : Calls Try.prog 49 #[.agg vs] w fun e w' => e = .returned (.bool (false)) ∧ Below w.heap.size w w' := by
  obtain ⟨b, o, b2, o2, ca, cc, rfl, hX⟩ := BlkBox.mk' h
  have hB := Lib.hid (box_below w (.cells #[.int .i64 f, .int .i64 k, .int .i64 0, .pointer (some ⟨b, o, none⟩), .pointer (some ⟨b2, o2, none⟩), .pointer none] 65))
  obtain ⟨-, z1, z2, z3⟩ := hf
  have k1 := Lib.hid (fun w => isCall_any 0 w)
  clear z1 z2 z3
  clear h
  go_enter Try.func49, Try.ntmps49
  go_upto_region 1 with fail
  generalize (w.alloc (.cells #[.int .i64 f, .int .i64 k, .int .i64 0, .pointer (some ⟨b, o, none⟩), .pointer (some ⟨b2, o2, none⟩), .pointer none] 65)) = wb at hX hB ⊢
  replace hX := Lib.hid hX
  obtain ⟨s0, s1, s2, s3, s4, s5, f0, f1⟩ := hX.out
  go_wp2_with (first
    | (go_at_call 42; with_reducible refine Calls.mono (isFunc_v) ?_; rintro e w2 ⟨rfl, hb⟩; replace hX := Lib.hid (hX.out.keep hb); replace hB := Lib.hid (hB.out.trans (hb.mono hB.out.size)); obtain ⟨s0, s1, s2, s3, s4, s5, f0, f1⟩ := hX.out)
    | (go_at_call 51; with_reducible refine Calls.mono (op_none) ?_; rintro e w2 ⟨rfl, hb⟩; replace hX := Lib.hid (hX.out.keep hb); replace hB := Lib.hid (hB.out.trans (hb.mono hB.out.size)); obtain ⟨s0, s1, s2, s3, s4, s5, f0, f1⟩ := hX.out)
    | (go_at_call 50; with_reducible refine Calls.mono (k1.out _) ?_; rintro e w2 ⟨rfl, rfl⟩)
    | fail)
  go_ret
  exact ⟨rfl, hB.out⟩
set_option maxRecDepth 20000 in
set_option maxHeartbeats 2000000 in
theorem c5_ins {w : World} {f k i : Nat} {d : Fun} {x : Blk} {c : Ins} {vs : Array Value} (hf : (Prt.ins f k i d x c).Fits) (h : PrtV w (Prt.ins f k i d x c) vs) : Calls Try.prog 49 #[.agg vs] w fun e w' => e = .returned (.bool (isCallB c.op && decide (c.args.length > 8))) ∧ Below w.heap.size w w' := by
  obtain ⟨b, o, b2, o2, b3, o3, ca, aa, la, cc, ac, lc, rfl, hX⟩ := InsBox.mk' h
  have hB := Lib.hid (box_below w (.cells #[.int .i64 f, .int .i64 k, .int .i64 i, .pointer (some ⟨b, o, none⟩), .pointer (some ⟨b2, o2, none⟩), .pointer (some ⟨b3, o3, none⟩)] 65))
  obtain ⟨-, ⟨-, -, z3⟩, z4, z5⟩ := hf
  have za := z4.2.2.2.2.2.2.2.2.2.1
  obtain ⟨n, hn⟩ : ∃ n, n = c.args.length := ⟨_, rfl⟩
  rw [← hn] at za ⊢
  unfold maxLen at za
  replace hn := Lib.hid hn
  have j1 : decide ((n : Int) > 8) = decide (n > 8) := decide_eq_decide.2 (by omega)
  generalize decide (n > 8) = q at j1 ⊢
  have k1 := Lib.hid (fun w => isCall_any c.op w)
  generalize isCallB c.op = u at k1 ⊢
  clear z3 z4 z5
  clear h
  cases q <;> cases u <;> (
    go_enter Try.func49, Try.ntmps49
    go_upto_region 1 with fail
    generalize (w.alloc (.cells #[.int .i64 f, .int .i64 k, .int .i64 i, .pointer (some ⟨b, o, none⟩), .pointer (some ⟨b2, o2, none⟩), .pointer (some ⟨b3, o3, none⟩)] 65)) = wb at hX hB ⊢
    replace hX := Lib.hid hX
    obtain ⟨s0, s1, s2, s3, s4, s5, f1, c0, c1, c5, c6, c7, hat, ra, rl, rc⟩ := hX.out
    go_wp2_with (first
      | (go_at_call 42; with_reducible refine Calls.mono (isFunc_v) ?_; rintro e w2 ⟨rfl, hb⟩; replace hX := Lib.hid (hX.out.keep hb); replace hB := Lib.hid (hB.out.trans (hb.mono hB.out.size)); obtain ⟨s0, s1, s2, s3, s4, s5, f1, c0, c1, c5, c6, c7, hat, ra, rl, rc⟩ := hX.out; rw [← hn.out] at c6)
      | (go_at_call 51; with_reducible refine Calls.mono (op_some c0) ?_; rintro e w2 ⟨rfl, hb⟩; replace hX := Lib.hid (hX.out.keep hb); replace hB := Lib.hid (hB.out.trans (hb.mono hB.out.size)); obtain ⟨s0, s1, s2, s3, s4, s5, f1, c0, c1, c5, c6, c7, hat, ra, rl, rc⟩ := hX.out; rw [← hn.out] at c6)
      | (go_at_call 50; with_reducible refine Calls.mono (k1.out _) ?_; rintro e w2 ⟨rfl, rfl⟩)
      | fail)
    go_ret
    exact ⟨rfl, hB.out⟩)
set_option maxRecDepth 20000 in
set_option maxHeartbeats 2000000 in
theorem c6_fn {w : World} {f : Nat} {d : Fun} {vs : Array Value} (hf : (Prt.fn f d).Fits) (h : PrtV w (Prt.fn f d) vs) : Calls Try.prog 52 #[.agg vs] w fun e w' => e = .returned (.bool (decide (d.blocks.length = 0) || decide (d.blocks.length > 64))) ∧ Below w.heap.size w w' := by
  obtain ⟨b, o, pa, ba, pc, bc, rfl, hX⟩ := FnBox.mk' h
  have hB := Lib.hid (box_below w (.cells #[.int .i64 f, .int .i64 0, .int .i64 0, .pointer (some ⟨b, o, none⟩), .pointer none, .pointer none] 65))
  obtain ⟨z1, z2, z3, z4, z5⟩ := hf
  obtain ⟨n, hn⟩ : ∃ n, n = d.blocks.length := ⟨_, rfl⟩
  rw [← hn] at z5 ⊢
  unfold maxLen at z5
  replace hn := Lib.hid hn
  have j1 : decide ((n : Int) > 64) = decide (n > 64) := decide_eq_decide.2 (by omega)
  have j2 : ((n : Int) == 0) = decide (n = 0) := by by_cases e : n = 0 <;> simp [e]
  generalize decide (n > 64) = q at j1 ⊢
  generalize decide (n = 0) = u at j2 ⊢
  clear z1 z2 z3 z4
  clear h
  cases q <;> cases u <;> (
    go_enter Try.func52, Try.ntmps52
    go_upto_region 1 with fail
    generalize (w.alloc (.cells #[.int .i64 f, .int .i64 0, .int .i64 0, .pointer (some ⟨b, o, none⟩), .pointer none, .pointer none] 65)) = wb at hX hB ⊢
    replace hX := Lib.hid hX
    obtain ⟨s0, s1, s2, s3, s4, s5, f0, f1, f2, rp, rb⟩ := hX.out
    go_wp2_with (first
      | (go_at_call 42; with_reducible refine Calls.mono (isFunc_v) ?_; rintro e w2 ⟨rfl, hb⟩; replace hX := Lib.hid (hX.out.keep hb); replace hB := Lib.hid (hB.out.trans (hb.mono hB.out.size)); obtain ⟨s0, s1, s2, s3, s4, s5, f0, f1, f2, rp, rb⟩ := hX.out; rw [← hn.out] at f2)
      | fail)
    go_ret
    exact ⟨rfl, hB.out⟩)
set_option maxRecDepth 20000 in
set_option maxHeartbeats 2000000 in
theorem c6_blk {w : World} {f k : Nat} {d : Fun} {x : Blk} {vs : Array Value} (hf : (Prt.blk f k d x).Fits) (h : PrtV w (Prt.blk f k d x) vs) : Calls Try.prog 52 #[.agg vs] w fun e w' => e = .returned (.bool (false)) ∧ Below w.heap.size w w' := by
  obtain ⟨b, o, b2, o2, ca, cc, rfl, hX⟩ := BlkBox.mk' h
  have hB := Lib.hid (box_below w (.cells #[.int .i64 f, .int .i64 k, .int .i64 0, .pointer (some ⟨b, o, none⟩), .pointer (some ⟨b2, o2, none⟩), .pointer none] 65))
  obtain ⟨-, z1, z2, z3⟩ := hf
  clear z1 z2 z3
  clear h
  go_enter Try.func52, Try.ntmps52
  go_upto_region 1 with fail
  generalize (w.alloc (.cells #[.int .i64 f, .int .i64 k, .int .i64 0, .pointer (some ⟨b, o, none⟩), .pointer (some ⟨b2, o2, none⟩), .pointer none] 65)) = wb at hX hB ⊢
  replace hX := Lib.hid hX
  obtain ⟨s0, s1, s2, s3, s4, s5, f0, f1⟩ := hX.out
  go_wp2_with (first
    | (go_at_call 42; with_reducible refine Calls.mono (isFunc_v) ?_; rintro e w2 ⟨rfl, hb⟩; replace hX := Lib.hid (hX.out.keep hb); replace hB := Lib.hid (hB.out.trans (hb.mono hB.out.size)); obtain ⟨s0, s1, s2, s3, s4, s5, f0, f1⟩ := hX.out)
    | fail)
  go_ret
  exact ⟨rfl, hB.out⟩
set_option maxRecDepth 20000 in
set_option maxHeartbeats 2000000 in
theorem c6_ins {w : World} {f k i : Nat} {d : Fun} {x : Blk} {c : Ins} {vs : Array Value} (hf : (Prt.ins f k i d x c).Fits) (h : PrtV w (Prt.ins f k i d x c) vs) : Calls Try.prog 52 #[.agg vs] w fun e w' => e = .returned (.bool (false)) ∧ Below w.heap.size w w' := by
  obtain ⟨b, o, b2, o2, b3, o3, ca, aa, la, cc, ac, lc, rfl, hX⟩ := InsBox.mk' h
  have hB := Lib.hid (box_below w (.cells #[.int .i64 f, .int .i64 k, .int .i64 i, .pointer (some ⟨b, o, none⟩), .pointer (some ⟨b2, o2, none⟩), .pointer (some ⟨b3, o3, none⟩)] 65))
  obtain ⟨-, ⟨-, -, z3⟩, z4, z5⟩ := hf
  clear z3 z4 z5
  clear h
  go_enter Try.func52, Try.ntmps52
  go_upto_region 1 with fail
  generalize (w.alloc (.cells #[.int .i64 f, .int .i64 k, .int .i64 i, .pointer (some ⟨b, o, none⟩), .pointer (some ⟨b2, o2, none⟩), .pointer (some ⟨b3, o3, none⟩)] 65)) = wb at hX hB ⊢
  replace hX := Lib.hid hX
  obtain ⟨s0, s1, s2, s3, s4, s5, f1, c0, c1, c5, c6, c7, hat, ra, rl, rc⟩ := hX.out
  go_wp2_with (first
    | (go_at_call 42; with_reducible refine Calls.mono (isFunc_v) ?_; rintro e w2 ⟨rfl, hb⟩; replace hX := Lib.hid (hX.out.keep hb); replace hB := Lib.hid (hB.out.trans (hb.mono hB.out.size)); obtain ⟨s0, s1, s2, s3, s4, s5, f1, c0, c1, c5, c6, c7, hat, ra, rl, rc⟩ := hX.out)
    | fail)
  go_ret
  exact ⟨rfl, hB.out⟩
set_option maxRecDepth 20000 in
set_option maxHeartbeats 2000000 in
theorem c9_fn {w : World} {f : Nat} {d : Fun} {vs : Array Value} (hf : (Prt.fn f d).Fits) (h : PrtV w (Prt.fn f d) vs) : Calls Try.prog 55 #[.agg vs] w fun e w' => e = .returned (.bool (false)) ∧ Below w.heap.size w w' := by
  obtain ⟨b, o, pa, ba, pc, bc, rfl, hX⟩ := FnBox.mk' h
  have hB := Lib.hid (box_below w (.cells #[.int .i64 f, .int .i64 0, .int .i64 0, .pointer (some ⟨b, o, none⟩), .pointer none, .pointer none] 65))
  obtain ⟨z1, z2, z3, z4, z5⟩ := hf
  clear z1 z2 z3 z4 z5
  clear h
  go_enter Try.func55, Try.ntmps55
  go_upto_region 1 with fail
  generalize (w.alloc (.cells #[.int .i64 f, .int .i64 0, .int .i64 0, .pointer (some ⟨b, o, none⟩), .pointer none, .pointer none] 65)) = wb at hX hB ⊢
  replace hX := Lib.hid hX
  obtain ⟨s0, s1, s2, s3, s4, s5, f0, f1, f2, rp, rb⟩ := hX.out
  go_wp2_with (first
    | fail)
  go_ret
  exact ⟨rfl, hB.out⟩
set_option maxRecDepth 20000 in
set_option maxHeartbeats 2000000 in
theorem c9_blk {w : World} {f k : Nat} {d : Fun} {x : Blk} {vs : Array Value} (hf : (Prt.blk f k d x).Fits) (h : PrtV w (Prt.blk f k d x) vs) : Calls Try.prog 55 #[.agg vs] w fun e w' => e = .returned (.bool (false)) ∧ Below w.heap.size w w' := by
  obtain ⟨b, o, b2, o2, ca, cc, rfl, hX⟩ := BlkBox.mk' h
  have hB := Lib.hid (box_below w (.cells #[.int .i64 f, .int .i64 k, .int .i64 0, .pointer (some ⟨b, o, none⟩), .pointer (some ⟨b2, o2, none⟩), .pointer none] 65))
  obtain ⟨-, z1, z2, z3⟩ := hf
  clear z1 z2 z3
  clear h
  go_enter Try.func55, Try.ntmps55
  go_upto_region 1 with fail
  generalize (w.alloc (.cells #[.int .i64 f, .int .i64 k, .int .i64 0, .pointer (some ⟨b, o, none⟩), .pointer (some ⟨b2, o2, none⟩), .pointer none] 65)) = wb at hX hB ⊢
  replace hX := Lib.hid hX
  obtain ⟨s0, s1, s2, s3, s4, s5, f0, f1⟩ := hX.out
  go_wp2_with (first
    | fail)
  go_ret
  exact ⟨rfl, hB.out⟩
set_option maxRecDepth 20000 in
set_option maxHeartbeats 2000000 in
theorem c9_ins {w : World} {f k i : Nat} {d : Fun} {x : Blk} {c : Ins} {vs : Array Value} (hf : (Prt.ins f k i d x c).Fits) (h : PrtV w (Prt.ins f k i d x c) vs) : Calls Try.prog 55 #[.agg vs] w fun e w' => e = .returned (.bool (badFieldsB c)) ∧ Below w.heap.size w w' := by
  obtain ⟨b, o, b2, o2, b3, o3, ca, aa, la, cc, ac, lc, rfl, hX⟩ := InsBox.mk' h
  have hB := Lib.hid (box_below w (.cells #[.int .i64 f, .int .i64 k, .int .i64 i, .pointer (some ⟨b, o, none⟩), .pointer (some ⟨b2, o2, none⟩), .pointer (some ⟨b3, o3, none⟩)] 65))
  obtain ⟨-, ⟨-, -, z3⟩, z4, z5⟩ := hf
  have k1 := Lib.hid (fun w' (h : InsAt w' b3 o3 c) => badFields_any h z4.1 z4.2.2.2.2.2.2.2.2.2.1 z4.2.2.2.2.2.2.2.2.2.2)
  generalize badFieldsB c = q at k1 ⊢
  clear z3 z4 z5
  clear h
  go_enter Try.func55, Try.ntmps55
  go_upto_region 1 with fail
  generalize (w.alloc (.cells #[.int .i64 f, .int .i64 k, .int .i64 i, .pointer (some ⟨b, o, none⟩), .pointer (some ⟨b2, o2, none⟩), .pointer (some ⟨b3, o3, none⟩)] 65)) = wb at hX hB ⊢
  replace hX := Lib.hid hX
  obtain ⟨s0, s1, s2, s3, s4, s5, f1, c0, c1, c5, c6, c7, hat, ra, rl, rc⟩ := hX.out
  go_wp2_with (first
    | (go_at_call 56; with_reducible refine Calls.mono (k1.out _ hat) ?_; rintro e w2 ⟨rfl, hb⟩; replace hX := Lib.hid (hX.out.keep hb); replace hB := Lib.hid (hB.out.trans (hb.mono hB.out.size)); obtain ⟨s0, s1, s2, s3, s4, s5, f1, c0, c1, c5, c6, c7, hat, ra, rl, rc⟩ := hX.out)
    | fail)
  go_ret
  exact ⟨rfl, hB.out⟩
set_option maxRecDepth 20000 in
set_option maxHeartbeats 2000000 in
theorem c10_fn {w : World} {f : Nat} {d : Fun} {vs : Array Value} (hf : (Prt.fn f d).Fits) (h : PrtV w (Prt.fn f d) vs) : Calls Try.prog 57 #[.agg vs] w fun e w' => e = .returned (.bool (false)) ∧ Below w.heap.size w w' := by
  obtain ⟨b, o, pa, ba, pc, bc, rfl, hX⟩ := FnBox.mk' h
  have hB := Lib.hid (box_below w (.cells #[.int .i64 f, .int .i64 0, .int .i64 0, .pointer (some ⟨b, o, none⟩), .pointer none, .pointer none] 65))
  obtain ⟨z1, z2, z3, z4, z5⟩ := hf
  clear z1 z2 z3 z4 z5
  clear h
  go_enter Try.func57, Try.ntmps57
  go_upto_region 1 with fail
  generalize (w.alloc (.cells #[.int .i64 f, .int .i64 0, .int .i64 0, .pointer (some ⟨b, o, none⟩), .pointer none, .pointer none] 65)) = wb at hX hB ⊢
  replace hX := Lib.hid hX
  obtain ⟨s0, s1, s2, s3, s4, s5, f0, f1, f2, rp, rb⟩ := hX.out
  go_wp2_with (first
    | (go_at_call 44; with_reducible refine Calls.mono (isBlock_v) ?_; rintro e w2 ⟨rfl, hb⟩; replace hX := Lib.hid (hX.out.keep hb); replace hB := Lib.hid (hB.out.trans (hb.mono hB.out.size)); obtain ⟨s0, s1, s2, s3, s4, s5, f0, f1, f2, rp, rb⟩ := hX.out)
    | fail)
  go_ret
  exact ⟨rfl, hB.out⟩
set_option maxRecDepth 20000 in
set_option maxHeartbeats 2000000 in
theorem c10_blk {w : World} {f k : Nat} {d : Fun} {x : Blk} {vs : Array Value} (hf : (Prt.blk f k d x).Fits) (h : PrtV w (Prt.blk f k d x) vs) : Calls Try.prog 57 #[.agg vs] w fun e w' => e = .returned (.bool (decide (x.code.length = 0))) ∧ Below w.heap.size w w' := by
  obtain ⟨b, o, b2, o2, ca, cc, rfl, hX⟩ := BlkBox.mk' h
  have hB := Lib.hid (box_below w (.cells #[.int .i64 f, .int .i64 k, .int .i64 0, .pointer (some ⟨b, o, none⟩), .pointer (some ⟨b2, o2, none⟩), .pointer none] 65))
  obtain ⟨-, z1, z2, z3⟩ := hf
  obtain ⟨n, hn⟩ : ∃ n, n = x.code.length := ⟨_, rfl⟩
  rw [← hn] at z3 ⊢
  unfold maxLen at z3
  replace hn := Lib.hid hn
  have j2 : ((n : Int) == 0) = decide (n = 0) := by by_cases e : n = 0 <;> simp [e]
  generalize decide (n = 0) = u at j2 ⊢
  clear z1 z2
  clear h
  cases u <;> (
    go_enter Try.func57, Try.ntmps57
    go_upto_region 1 with fail
    generalize (w.alloc (.cells #[.int .i64 f, .int .i64 k, .int .i64 0, .pointer (some ⟨b, o, none⟩), .pointer (some ⟨b2, o2, none⟩), .pointer none] 65)) = wb at hX hB ⊢
    replace hX := Lib.hid hX
    obtain ⟨s0, s1, s2, s3, s4, s5, f0, f1⟩ := hX.out
    go_wp2_with (first
      | (go_at_call 44; with_reducible refine Calls.mono (isBlock_v) ?_; rintro e w2 ⟨rfl, hb⟩; replace hX := Lib.hid (hX.out.keep hb); replace hB := Lib.hid (hB.out.trans (hb.mono hB.out.size)); obtain ⟨s0, s1, s2, s3, s4, s5, f0, f1⟩ := hX.out; rw [← hn.out] at f1)
      | fail)
    go_ret
    exact ⟨rfl, hB.out⟩)
set_option maxRecDepth 20000 in
set_option maxHeartbeats 2000000 in
theorem c10_ins {w : World} {f k i : Nat} {d : Fun} {x : Blk} {c : Ins} {vs : Array Value} (hf : (Prt.ins f k i d x c).Fits) (h : PrtV w (Prt.ins f k i d x c) vs) : Calls Try.prog 57 #[.agg vs] w fun e w' => e = .returned (.bool ((decide (i + 1 = x.code.length)) != endsB c.op)) ∧ Below w.heap.size w w' := by
  obtain ⟨b, o, b2, o2, b3, o3, ca, aa, la, cc, ac, lc, rfl, hX⟩ := InsBox.mk' h
  have hB := Lib.hid (box_below w (.cells #[.int .i64 f, .int .i64 k, .int .i64 i, .pointer (some ⟨b, o, none⟩), .pointer (some ⟨b2, o2, none⟩), .pointer (some ⟨b3, o3, none⟩)] 65))
  obtain ⟨-, ⟨-, -, z3⟩, z4, z5⟩ := hf
  have hi := (List.getElem?_eq_some_iff.1 z5).1
  obtain ⟨n, hn⟩ : ∃ n, n = x.code.length := ⟨_, rfl⟩
  rw [← hn] at z3 hi ⊢
  unfold maxLen at z3
  replace hn := Lib.hid hn
  have j2 : ((i : Int) == (n : Int) - 1) = decide (i + 1 = n) := by
    rw [Bool.eq_iff_iff]; simp; omega
  have k1 := Lib.hid (fun w => ends_any c.op w)
  generalize decide (i + 1 = n) = u at j2 ⊢
  generalize endsB c.op = q at k1 ⊢
  clear z4 z5
  clear h
  cases u <;> cases q <;> (
    go_enter Try.func57, Try.ntmps57
    go_upto_region 1 with fail
    generalize (w.alloc (.cells #[.int .i64 f, .int .i64 k, .int .i64 i, .pointer (some ⟨b, o, none⟩), .pointer (some ⟨b2, o2, none⟩), .pointer (some ⟨b3, o3, none⟩)] 65)) = wb at hX hB ⊢
    replace hX := Lib.hid hX
    obtain ⟨s0, s1, s2, s3, s4, s5, f1, c0, c1, c5, c6, c7, hat, ra, rl, rc⟩ := hX.out
    rw [← hn.out] at f1
    go_wp2_with fail
    go_quiet (fail)
    replace hX := Lib.hid (hX.out.keep (below_drawn (Below.refl _ _) nq))
    replace hB := Lib.hid (below_drawn hB.out nq)
    clear s0 s1 s2 s3 s4 s5 f1 c0 c1 c5 c6 c7 hat ra rl rc
    generalize wb.drewN nq = wc at hX hB ⊢
    obtain ⟨s0, s1, s2, s3, s4, s5, f1, c0, c1, c5, c6, c7, hat, ra, rl, rc⟩ := hX.out
    go_wp2_with (first
      | (go_at_call 51; with_reducible refine Calls.mono (op_some c0) ?_; rintro e w2 ⟨rfl, hb⟩; replace hX := Lib.hid (hX.out.keep hb); replace hB := Lib.hid (hB.out.trans (hb.mono hB.out.size)); obtain ⟨s0, s1, s2, s3, s4, s5, f1, c0, c1, c5, c6, c7, hat, ra, rl, rc⟩ := hX.out)
      | (go_at_call 58; with_reducible refine Calls.mono (k1.out _) ?_; rintro e w2 ⟨rfl, rfl⟩))
    go_ret
    exact ⟨rfl, hB.out⟩)
set_option maxRecDepth 20000 in
set_option maxHeartbeats 2000000 in
theorem c11_fn {w : World} {f : Nat} {d : Fun} {vs : Array Value} (hf : (Prt.fn f d).Fits) (h : PrtV w (Prt.fn f d) vs) : Calls Try.prog 59 #[.agg vs] w fun e w' => e = .returned (.bool (false)) ∧ Below w.heap.size w w' := by
  obtain ⟨b, o, pa, ba, pc, bc, rfl, hX⟩ := FnBox.mk' h
  have hB := Lib.hid (box_below w (.cells #[.int .i64 f, .int .i64 0, .int .i64 0, .pointer (some ⟨b, o, none⟩), .pointer none, .pointer none] 65))
  obtain ⟨z1, z2, z3, z4, z5⟩ := hf
  clear z1 z2 z3 z4 z5
  clear h
  go_enter Try.func59, Try.ntmps59
  go_upto_region 1 with fail
  generalize (w.alloc (.cells #[.int .i64 f, .int .i64 0, .int .i64 0, .pointer (some ⟨b, o, none⟩), .pointer none, .pointer none] 65)) = wb at hX hB ⊢
  replace hX := Lib.hid hX
  obtain ⟨s0, s1, s2, s3, s4, s5, f0, f1, f2, rp, rb⟩ := hX.out
  go_wp2_with (first
    | (go_at_call 51; with_reducible refine Calls.mono (op_none) ?_; rintro e w2 ⟨rfl, hb⟩; replace hX := Lib.hid (hX.out.keep hb); replace hB := Lib.hid (hB.out.trans (hb.mono hB.out.size)); obtain ⟨s0, s1, s2, s3, s4, s5, f0, f1, f2, rp, rb⟩ := hX.out)
    | fail)
  go_ret
  exact ⟨rfl, hB.out⟩
set_option maxRecDepth 20000 in
set_option maxHeartbeats 2000000 in
theorem c11_blk {w : World} {f k : Nat} {d : Fun} {x : Blk} {vs : Array Value} (hf : (Prt.blk f k d x).Fits) (h : PrtV w (Prt.blk f k d x) vs) : Calls Try.prog 59 #[.agg vs] w fun e w' => e = .returned (.bool (false)) ∧ Below w.heap.size w w' := by
  obtain ⟨b, o, b2, o2, ca, cc, rfl, hX⟩ := BlkBox.mk' h
  have hB := Lib.hid (box_below w (.cells #[.int .i64 f, .int .i64 k, .int .i64 0, .pointer (some ⟨b, o, none⟩), .pointer (some ⟨b2, o2, none⟩), .pointer none] 65))
  obtain ⟨-, z1, z2, z3⟩ := hf
  clear z1 z2 z3
  clear h
  go_enter Try.func59, Try.ntmps59
  go_upto_region 1 with fail
  generalize (w.alloc (.cells #[.int .i64 f, .int .i64 k, .int .i64 0, .pointer (some ⟨b, o, none⟩), .pointer (some ⟨b2, o2, none⟩), .pointer none] 65)) = wb at hX hB ⊢
  replace hX := Lib.hid hX
  obtain ⟨s0, s1, s2, s3, s4, s5, f0, f1⟩ := hX.out
  go_wp2_with (first
    | (go_at_call 51; with_reducible refine Calls.mono (op_none) ?_; rintro e w2 ⟨rfl, hb⟩; replace hX := Lib.hid (hX.out.keep hb); replace hB := Lib.hid (hB.out.trans (hb.mono hB.out.size)); obtain ⟨s0, s1, s2, s3, s4, s5, f0, f1⟩ := hX.out)
    | fail)
  go_ret
  exact ⟨rfl, hB.out⟩

def prevB (x : Blk) (i : Nat) : Bool := match x.code[i - 1]? with
  | some y => y.op != 6
  | none => false
def phiB (k i : Nat) (x : Blk) (c : Ins) : Bool := (c.op == 6) && (decide (k = 0) || (decide (0 < i) && prevB x i))
set_option maxRecDepth 20000 in
set_option maxHeartbeats 2000000 in
theorem c11_ins {w : World} {f k i : Nat} {d : Fun} {x : Blk} {c : Ins} {vs : Array Value} (hf : (Prt.ins f k i d x c).Fits) (h : PrtV w (Prt.ins f k i d x c) vs) : Calls Try.prog 59 #[.agg vs] w fun e w' => e = .returned (.bool (phiB k i x c)) ∧ Below w.heap.size w w' := by
  obtain ⟨b, o, b2, o2, b3, o3, ca, aa, la, cc, ac, lc, rfl, hX⟩ := InsBox.mk' h
  have hB := Lib.hid (box_below w (.cells #[.int .i64 f, .int .i64 k, .int .i64 i, .pointer (some ⟨b, o, none⟩), .pointer (some ⟨b2, o2, none⟩), .pointer (some ⟨b3, o3, none⟩)] 65))
  obtain ⟨-, ⟨-, -, z3⟩, z4, z5⟩ := hf
  have hi := (List.getElem?_eq_some_iff.1 z5).1
  obtain ⟨n, hn⟩ : ∃ n, n = x.code.length := ⟨_, rfl⟩
  rw [← hn] at z3 hi
  unfold maxLen at z3
  replace hn := Lib.hid hn
  clear z4 z5
  clear h
  go_enter Try.func59, Try.ntmps59
  go_upto_region 1 with fail
  generalize (w.alloc (.cells #[.int .i64 f, .int .i64 k, .int .i64 i, .pointer (some ⟨b, o, none⟩), .pointer (some ⟨b2, o2, none⟩), .pointer (some ⟨b3, o3, none⟩)] 65)) = wb at hX hB ⊢
  replace hX := Lib.hid hX
  obtain ⟨s0, s1, s2, s3, s4, s5, f1, c0, c1, c5, c6, c7, hat, ra, rl, rc⟩ := hX.out
  by_cases e1 : c.op = 6
  case neg =>
    have j1 : (c.op != 6) = true := by simpa using e1
    have hE : Hid (phiB k i x c = false) := Lib.hid (by unfold phiB; simp [e1])
    clear e1
    go_wp2_with (first
      | (go_at_call 51; with_reducible refine Calls.mono (op_some c0) ?_; rintro e w2 ⟨rfl, hb⟩; replace hX := Lib.hid (hX.out.keep hb); replace hB := Lib.hid (hB.out.trans (hb.mono hB.out.size)); obtain ⟨s0, s1, s2, s3, s4, s5, f1, c0, c1, c5, c6, c7, hat, ra, rl, rc⟩ := hX.out)
      | fail)
    go_ret
    exact ⟨by rw [hE.out]; rfl, hB.out⟩
  case pos =>
    rw [e1] at c0
    have hE0 : Hid (phiB k i x c = (decide (k = 0) || (decide (0 < i) && prevB x i))) := Lib.hid (by unfold phiB; simp [e1])
    replace e1 := Lib.hid e1
    by_cases e2 : k = 0
    · subst e2
      have hE : Hid (phiB 0 i x c = true) := Lib.hid (by rw [hE0.out]; simp)
      clear hE0
      go_wp2_with (first
        | (go_at_call 51; with_reducible refine Calls.mono (op_some c0) ?_; rintro e w2 ⟨rfl, hb⟩; replace hX := Lib.hid (hX.out.keep hb); replace hB := Lib.hid (hB.out.trans (hb.mono hB.out.size)); obtain ⟨s0, s1, s2, s3, s4, s5, f1, c0, c1, c5, c6, c7, hat, ra, rl, rc⟩ := hX.out; rw [e1.out] at c0)
        | fail)
      go_quiet (fail)
      replace hB := Lib.hid (below_drawn hB.out nq)
      go_wp2_with fail
      go_ret
      exact ⟨by rw [hE.out]; rfl, hB.out⟩
    · have j2 : ((k : Int) == 0) = false := by simp [e2]
      replace e2 := Lib.hid e2
      by_cases e3 : i = 0
      · subst e3
        have hE : Hid (phiB k 0 x c = false) := Lib.hid (by rw [hE0.out, decide_eq_false e2.out]; simp)
        clear hE0
        go_wp2_with (first
          | (go_at_call 51; with_reducible refine Calls.mono (op_some c0) ?_; rintro e w2 ⟨rfl, hb⟩; replace hX := Lib.hid (hX.out.keep hb); replace hB := Lib.hid (hB.out.trans (hb.mono hB.out.size)); obtain ⟨s0, s1, s2, s3, s4, s5, f1, c0, c1, c5, c6, c7, hat, ra, rl, rc⟩ := hX.out; rw [e1.out] at c0)
          | fail)
        go_quiet (fail)
        replace hB := Lib.hid (below_drawn hB.out nq)
        go_wp2_with fail
        go_ret
        exact ⟨by rw [hE.out]; rfl, hB.out⟩
      · obtain ⟨i', rfl⟩ : ∃ i', i = i' + 1 := ⟨i - 1, by omega⟩
        obtain ⟨y, hy⟩ : ∃ y, x.code[i']? = some y := ⟨_, List.getElem?_eq_getElem (by rw [← hn.out]; omega)⟩
        have hE : Hid (phiB k (i' + 1) x c = (y.op != 6)) := Lib.hid (by rw [hE0.out, decide_eq_false e2.out]; unfold prevB; simp [hy])
        have j3 : decide (((i' : Int) + 1) > 0) = true := by simp
        have j4 : (i' : Int) + 1 < (n : Int) := by omega
        have j5 : (i' : Int) < (n : Int) := by omega
        have hpv := Lib.hid (fun (W : World) (h : RdE 8 RdIns W (.slice ca x.code.length cc) x.code) => (by
          obtain ⟨bi, oi, ci, e, hI⟩ := ins_at h hy
          obtain ⟨-, va, vl, -, -, hcs⟩ := hI
          exact ⟨bi, oi, ci, e, hcs 0 _ rfl⟩ : ∃ bi oi ci, Value.slice ca x.code.length cc = .slice (some ⟨bi, oi, none⟩) x.code.length ci ∧ W.cell? ⟨bi, oi + i' * 8 + 0, none⟩ = some (.int .u8 y.op)))
        obtain ⟨r, hr⟩ : ∃ r, (y.op != 6) = r := ⟨_, rfl⟩
        rw [hr] at hE
        clear hE0 e3
        cases r <;> (
          go_wp2_with (first
            | (go_at_call 51; with_reducible refine Calls.mono (op_some c0) ?_; rintro e w2 ⟨rfl, hb⟩; replace hX := Lib.hid (hX.out.keep hb); replace hB := Lib.hid (hB.out.trans (hb.mono hB.out.size)); obtain ⟨s0, s1, s2, s3, s4, s5, f1, c0, c1, c5, c6, c7, hat, ra, rl, rc⟩ := hX.out; rw [e1.out] at c0)
            | fail)
          obtain ⟨bi, oi, ci, e9, h9⟩ := hpv.out _ rc
          simp only [Value.slice.injEq] at e9
          obtain ⟨rfl, -, rfl⟩ := e9
          rw [← hn.out] at f1
          rw [Nat.add_zero] at h9
          go_quiet (fail)
          replace hB := Lib.hid (below_drawn hB.out nq)
          go_wp2_with fail
          go_ret
          exact ⟨by rw [hE.out]; rfl, hB.out⟩)
end Go.Proofs.YtjblhiekccjdcaaR
