/- names: the functions of the rules of functions that are not there, and of arities. -/
import Derived.Test.YtjblhiekccjdcaaRNArity
namespace Go.Proofs.YtjblhiekccjdcaaR
open Go.RowKit Go.Maps Go.Shelf Go.WideMaps

theorem run_num_look {w : World} {b k : Nat} {f : ByteArray → Option Nat} (h : MapN w b k f) {y : ByteArray} (hy : y.size ≤ maxLen) : (Instr.lookup 75 (.map (some b)) (.string y) true).run Try.prog w = .ok (.tuple #[.int .i64 ((f y).getD 0 : Nat), .bool (f y).isSome]) w := by
  obtain ⟨D, hown, hD⟩ := h
  obtain ⟨v, ps, hrun, hv⟩ := hown.look_ok lawS Try.underlying75 (zeroI w) (zd := .lit (.int .i64 0)) (zp := []) (plainElem_int Try.underlying3 (by decide)) (keyS y hy)
  obtain ⟨c, rfl, hc, hwc⟩ := plainElem_int_inv Try.underlying3 hv
  have hc := congrArg Prod.fst hc
  simp only at hc
  have hh := hD.has y
  rw [hrun, hh]
  have hcn : c = (((f y).getD 0 : Nat) : Int) := by
    cases hf : f y with
    | none =>
      rw [hf] at hh
      rw [atKey_of_not_has hh] at hc
      simpa using hc.symm
    | some n =>
      rw [hD.at_ y n hf] at hc
      simpa using hc.symm
  rw [hcn]
/-- A box that holds a map of numbers, and its blocks. -/
structure NumBx (Bx : Nat) (f : ByteArray → Option Nat) (U : Nat → Prop) (bm k : Nat) (W : World) : Prop where
  box : W.heap[Bx]? = some (.cells #[.map (some bm)] 75 (0, 0))
  map : MapN W bm k f
  own : ∀ j, U j ↔ j = Bx ∨ j = bm
theorem NumBx.calm {Bx k : Nat} {f : ByteArray → Option Nat} {U : Nat → Prop} {bm : Nat} {W W' : World} (h : NumBx Bx f U bm k W) (hT : Touch W W' (fun j => ¬ U j)) : NumBx Bx f U bm k W' :=
  ⟨(hT.block _ (Array.getElem?_eq_some_iff.1 h.box).1 (fun hn => hn ((h.own _).2 (.inl rfl)))).trans h.box, h.map.block (hT.block _ h.map.lt (fun hn => hn ((h.own _).2 (.inr rfl)))), h.own⟩
theorem NumBx.below {Bx k : Nat} {f : ByteArray → Option Nat} {U : Nat → Prop} {bm : Nat} {W W' : World} (h : NumBx Bx f U bm k W) (hb : Below W.heap.size W W') : NumBx Bx f U bm k W' := h.calm (Touch.of_below hb _)
def bad13 (f : ByteArray → Option Nat) : Prt → Bool
  | .fn _ _ => false
  | .blk _ _ _ _ => false
  | .ins _ _ _ _ _ c => (decide (c.op = 10) || decide (c.op = 4)) && !(f c.fn).isSome
def bad14 (f : ByteArray → Option Nat) : Prt → Bool
  | .fn _ _ => false
  | .blk _ _ _ _ => false
  | .ins _ _ _ _ _ c => decide (c.op = 10) && ((f c.fn).isSome && !decide ((f c.fn).getD 0 = c.args.length))
set_option maxRecDepth 20000 in
set_option maxHeartbeats 2000000 in
theorem c13_fn {W : World} {f : Nat} {d : Fun} {vs : Array Value} {Bx bm k9 : Nat} {F : ByteArray → Option Nat} {U : Nat → Prop} (h : PrtV W (Prt.fn f d) vs) (hN : NumBx Bx F U bm k9 W) : Calls Try.prog 63 #[.agg vs, .pointer (some ⟨Bx, 0, none⟩)] W fun e W' => e = .returned (.bool false) ∧ Below W.heap.size W W' := by
  obtain ⟨b, o, pa, ba, pc, bc, rfl, hX⟩ := FnBox.mk' h
  have hB := Lib.hid (box_below W (.cells #[.int .i64 f, .int .i64 0, .int .i64 0, .pointer (some ⟨b, o, none⟩), .pointer none, .pointer none] 65))
  have hM := Lib.hid (hN.below hB.out)
  clear h hN
  go_enter Try.func63, Try.ntmps63
  go_upto_region 1 with fail
  generalize (W.alloc (.cells #[.int .i64 f, .int .i64 0, .int .i64 0, .pointer (some ⟨b, o, none⟩), .pointer none, .pointer none] 65)) = wb at hX hB hM ⊢
  replace hX := Lib.hid hX
  obtain ⟨s0, s1, s2, s3, s4, s5, f0, f1, f2, rp, rb⟩ := hX.out
  go_wp2_with (first
    | (go_at_call 51; with_reducible refine Calls.mono (op_none) ?_; rintro e w2 ⟨rfl, hb⟩; replace hX := Lib.hid (hX.out.keep hb); replace hM := Lib.hid (hM.out.below hb); replace hB := Lib.hid (hB.out.trans (hb.mono hB.out.size)); obtain ⟨s0, s1, s2, s3, s4, s5, f0, f1, f2, rp, rb⟩ := hX.out)
    | fail)
  go_ret
  exact ⟨rfl, hB.out⟩
set_option maxRecDepth 20000 in
set_option maxHeartbeats 2000000 in
theorem c13_blk {W : World} {f k : Nat} {d : Fun} {x : Blk} {vs : Array Value} {Bx bm k9 : Nat} {F : ByteArray → Option Nat} {U : Nat → Prop} (h : PrtV W (Prt.blk f k d x) vs) (hN : NumBx Bx F U bm k9 W) : Calls Try.prog 63 #[.agg vs, .pointer (some ⟨Bx, 0, none⟩)] W fun e W' => e = .returned (.bool false) ∧ Below W.heap.size W W' := by
  obtain ⟨b, o, b2, o2, ca, cc, rfl, hX⟩ := BlkBox.mk' h
  have hB := Lib.hid (box_below W (.cells #[.int .i64 f, .int .i64 k, .int .i64 0, .pointer (some ⟨b, o, none⟩), .pointer (some ⟨b2, o2, none⟩), .pointer none] 65))
  have hM := Lib.hid (hN.below hB.out)
  clear h hN
  go_enter Try.func63, Try.ntmps63
  go_upto_region 1 with fail
  generalize (W.alloc (.cells #[.int .i64 f, .int .i64 k, .int .i64 0, .pointer (some ⟨b, o, none⟩), .pointer (some ⟨b2, o2, none⟩), .pointer none] 65)) = wb at hX hB hM ⊢
  replace hX := Lib.hid hX
  obtain ⟨s0, s1, s2, s3, s4, s5, f0, f1⟩ := hX.out
  go_wp2_with (first
    | (go_at_call 51; with_reducible refine Calls.mono (op_none) ?_; rintro e w2 ⟨rfl, hb⟩; replace hX := Lib.hid (hX.out.keep hb); replace hM := Lib.hid (hM.out.below hb); replace hB := Lib.hid (hB.out.trans (hb.mono hB.out.size)); obtain ⟨s0, s1, s2, s3, s4, s5, f0, f1⟩ := hX.out)
    | fail)
  go_ret
  exact ⟨rfl, hB.out⟩
set_option maxRecDepth 20000 in
set_option maxHeartbeats 2000000 in
theorem c14_fn {W : World} {f : Nat} {d : Fun} {vs : Array Value} {Bx bm k9 : Nat} {F : ByteArray → Option Nat} {U : Nat → Prop} (h : PrtV W (Prt.fn f d) vs) (hN : NumBx Bx F U bm k9 W) : Calls Try.prog 64 #[.agg vs, .pointer (some ⟨Bx, 0, none⟩)] W fun e W' => e = .returned (.bool false) ∧ Below W.heap.size W W' := by
  obtain ⟨b, o, pa, ba, pc, bc, rfl, hX⟩ := FnBox.mk' h
  have hB := Lib.hid (box_below W (.cells #[.int .i64 f, .int .i64 0, .int .i64 0, .pointer (some ⟨b, o, none⟩), .pointer none, .pointer none] 65))
  have hM := Lib.hid (hN.below hB.out)
  clear h hN
  go_enter Try.func64, Try.ntmps64
  go_upto_region 1 with fail
  generalize (W.alloc (.cells #[.int .i64 f, .int .i64 0, .int .i64 0, .pointer (some ⟨b, o, none⟩), .pointer none, .pointer none] 65)) = wb at hX hB hM ⊢
  replace hX := Lib.hid hX
  obtain ⟨s0, s1, s2, s3, s4, s5, f0, f1, f2, rp, rb⟩ := hX.out
  go_wp2_with (first
    | (go_at_call 51; with_reducible refine Calls.mono (op_none) ?_; rintro e w2 ⟨rfl, hb⟩; replace hX := Lib.hid (hX.out.keep hb); replace hM := Lib.hid (hM.out.below hb); replace hB := Lib.hid (hB.out.trans (hb.mono hB.out.size)); obtain ⟨s0, s1, s2, s3, s4, s5, f0, f1, f2, rp, rb⟩ := hX.out)
    | fail)
  go_ret
  exact ⟨rfl, hB.out⟩
set_option maxRecDepth 20000 in
set_option maxHeartbeats 2000000 in
theorem c14_blk {W : World} {f k : Nat} {d : Fun} {x : Blk} {vs : Array Value} {Bx bm k9 : Nat} {F : ByteArray → Option Nat} {U : Nat → Prop} (h : PrtV W (Prt.blk f k d x) vs) (hN : NumBx Bx F U bm k9 W) : Calls Try.prog 64 #[.agg vs, .pointer (some ⟨Bx, 0, none⟩)] W fun e W' => e = .returned (.bool false) ∧ Below W.heap.size W W' := by
  obtain ⟨b, o, b2, o2, ca, cc, rfl, hX⟩ := BlkBox.mk' h
  have hB := Lib.hid (box_below W (.cells #[.int .i64 f, .int .i64 k, .int .i64 0, .pointer (some ⟨b, o, none⟩), .pointer (some ⟨b2, o2, none⟩), .pointer none] 65))
  have hM := Lib.hid (hN.below hB.out)
  clear h hN
  go_enter Try.func64, Try.ntmps64
  go_upto_region 1 with fail
  generalize (W.alloc (.cells #[.int .i64 f, .int .i64 k, .int .i64 0, .pointer (some ⟨b, o, none⟩), .pointer (some ⟨b2, o2, none⟩), .pointer none] 65)) = wb at hX hB hM ⊢
  replace hX := Lib.hid hX
  obtain ⟨s0, s1, s2, s3, s4, s5, f0, f1⟩ := hX.out
  go_wp2_with (first
    | (go_at_call 51; with_reducible refine Calls.mono (op_none) ?_; rintro e w2 ⟨rfl, hb⟩; replace hX := Lib.hid (hX.out.keep hb); replace hM := Lib.hid (hM.out.below hb); replace hB := Lib.hid (hB.out.trans (hb.mono hB.out.size)); obtain ⟨s0, s1, s2, s3, s4, s5, f0, f1⟩ := hX.out)
    | fail)
  go_ret
  exact ⟨rfl, hB.out⟩
set_option maxRecDepth 20000 in
set_option maxHeartbeats 4000000 in
theorem c13_ins {W : World} {f k i : Nat} {d : Fun} {x : Blk} {c : Ins} {vs : Array Value} {Bx bm k9 : Nat} {F : ByteArray → Option Nat} {U : Nat → Prop} (hf : (Prt.ins f k i d x c).Fits) (h : PrtV W (Prt.ins f k i d x c) vs) (hN : NumBx Bx F U bm k9 W) : Calls Try.prog 63 #[.agg vs, .pointer (some ⟨Bx, 0, none⟩)] W fun e W' => e = .returned (.bool (bad13 F (Prt.ins f k i d x c))) ∧ Below W.heap.size W W' := by
  obtain ⟨b, o, b2, o2, b3, o3, ca, aa, la, cc, ac, lc, rfl, hX⟩ := InsBox.mk' h
  have hB := Lib.hid (box_below W (.cells #[.int .i64 f, .int .i64 k, .int .i64 i, .pointer (some ⟨b, o, none⟩), .pointer (some ⟨b2, o2, none⟩), .pointer (some ⟨b3, o3, none⟩)] 65))
  have hM := Lib.hid (hN.below hB.out)
  have hsz : c.fn.size ≤ maxLen := hf.2.2.1.2.2.2.2.2.2.1
  clear h hN hf
  show Calls _ _ _ _ fun e W' => e = .returned (.bool ((decide (c.op = 10) || decide (c.op = 4)) && !(F c.fn).isSome)) ∧ _
  generalize hu : (F c.fn).isSome = u
  generalize hv : (F c.fn).getD 0 = n
  replace hu := Lib.hid hu
  replace hv := Lib.hid hv
  by_cases e10 : c.op = 10
  · have d10 : decide (c.op = 10) = true := decide_eq_true e10
    rw [d10]
    go_enter Try.func63, Try.ntmps63
    go_upto_region 1 with fail
    generalize (W.alloc (.cells #[.int .i64 f, .int .i64 k, .int .i64 i, .pointer (some ⟨b, o, none⟩), .pointer (some ⟨b2, o2, none⟩), .pointer (some ⟨b3, o3, none⟩)] 65)) = wb at hX hB hM ⊢
    replace hX := Lib.hid hX
    obtain ⟨s0, s1, s2, s3, s4, s5, f1, c0, c1, c5, c6, c7, hat, ra, rl, rc⟩ := hX.out
    go_upto_region 3 with (first | (go_at_call 51; with_reducible refine Calls.mono (op_some c0) ?_; rintro e w2 ⟨rfl, hb⟩; replace hX := Lib.hid (hX.out.keep hb); replace hM := Lib.hid (hM.out.below hb); replace hB := Lib.hid (hB.out.trans (hb.mono hB.out.size)); obtain ⟨s0, s1, s2, s3, s4, s5, f1, c0, c1, c5, c6, c7, hat, ra, rl, rc⟩ := hX.out; try rw [e10] at c0) | fail)
    have hC : w2.drew.cell? ⟨W.heap.size, 5, none⟩ = some (.pointer (some ⟨b3, o3, none⟩)) ∧ w2.drew.cell? ⟨b3, o3 + 5, none⟩ = some (.string c.fn) ∧ w2.drew.cell? ⟨b3, o3 + 6, none⟩ = some (.slice aa c.args.length ac) ∧ w2.drew.cell? ⟨Bx, 0, none⟩ = some (.map (some bm)) := ⟨s5, c5, c6, (show w2.cell? ⟨Bx, 0, none⟩ = some (.map (some bm)) from by rw [blk_cell hM.out.box]; rfl)⟩
    replace hM := Lib.hid (hM.out.below (Below.refl _ _).drew)
    replace hB := Lib.hid hB.out.drew
    clear s0 s1 s2 s3 s4 s5 f1 c0 c1 c5 c6 c7 hat ra rl rc hX
    refine wp_region_held_drew (S := (fun w' => w'.cell? ⟨W.heap.size, 5, none⟩ = some (.pointer (some ⟨b3, o3, none⟩)) ∧ w'.cell? ⟨b3, o3 + 5, none⟩ = some (.string c.fn) ∧ w'.cell? ⟨b3, o3 + 6, none⟩ = some (.slice aa c.args.length ac) ∧ w'.cell? ⟨Bx, 0, none⟩ = some (.map (some bm)))) (by kernel_rfl) hC (fun hHeld => ?_)
    clear hHeld
    refine wpAnyH_take (i := 0) (oi := (Oper.mk (some 15) (Op.load 75 (Operand.tmp 1)) 75 "rules.go:177" #[] none)) (v := ?_) rfl (by kernel_rfl) (by kernel_rfl) (by kernel_rfl) (fun _ _ _ h => h) (Or.inl ⟨by rfl, ?_⟩) hC ?_
    rotate_left
    · (intro w hSw; (try dsimp only at hSw); go_simp; try with_reducible rfl)
    try simp only [Act.put, List.setIfInBounds_toArray, List.set_cons_zero, List.set_cons_succ]
    refine wpAnyH_take (i := 1) (oi := (Oper.mk (some 16) (Op.fieldAddr 65 (Operand.tmp 2) 3) 0 "rules.go:177" #[] none)) (v := ?_) rfl (by kernel_rfl) (by kernel_rfl) (by kernel_rfl) (fun _ _ _ h => h) (Or.inl ⟨by rfl, ?_⟩) hC ?_
    rotate_left
    · (intro w hSw; (try dsimp only at hSw); go_simp; try with_reducible rfl)
    try simp only [Act.put, List.setIfInBounds_toArray, List.set_cons_zero, List.set_cons_succ]
    refine wpAnyH_take (i := 2) (oi := (Oper.mk (some 17) (Op.load 63 (Operand.tmp 16)) 63 "rules.go:177" #[(Edge.mk 1 Ground.data)] none)) (v := ?_) rfl (by kernel_rfl) (by kernel_rfl) (by kernel_rfl) (fun _ _ _ h => h) (Or.inl ⟨by rfl, ?_⟩) hC ?_
    rotate_left
    · (intro w hSw; (try dsimp only at hSw); go_simp; try with_reducible rfl)
    try simp only [Act.put, List.setIfInBounds_toArray, List.set_cons_zero, List.set_cons_succ]
    refine wpAnyH_take (i := 3) (oi := (Oper.mk (some 18) (Op.nilCheck (Operand.tmp 17)) 0 "rules.go:177" #[(Edge.mk 2 Ground.data)] none)) (v := ?_) rfl (by kernel_rfl) (by kernel_rfl) (by kernel_rfl) (fun _ _ _ h => h) (Or.inl ⟨by rfl, ?_⟩) hC ?_
    rotate_left
    · (intro w hSw; (try dsimp only at hSw); go_simp; try with_reducible rfl)
    try simp only [Act.put, List.setIfInBounds_toArray, List.set_cons_zero, List.set_cons_succ]
    refine wpAnyH_take (i := 4) (oi := (Oper.mk (some 19) (Op.fieldAddr 47 (Operand.tmp 18) 5) 0 "rules.go:177" #[(Edge.mk 3 Ground.data)] none)) (v := ?_) rfl (by kernel_rfl) (by kernel_rfl) (by kernel_rfl) (fun _ _ _ h => h) (Or.inl ⟨by rfl, ?_⟩) hC ?_
    rotate_left
    · (intro w hSw; (try dsimp only at hSw); go_simp; try with_reducible rfl)
    try simp only [Act.put, List.setIfInBounds_toArray, List.set_cons_zero, List.set_cons_succ]
    refine wpAnyH_take (i := 5) (oi := (Oper.mk (some 20) (Op.load 9 (Operand.tmp 19)) 9 "rules.go:177" #[(Edge.mk 4 Ground.data)] none)) (v := ?_) rfl (by kernel_rfl) (by kernel_rfl) (by kernel_rfl) (fun _ _ _ h => h) (Or.inl ⟨by rfl, ?_⟩) hC ?_
    rotate_left
    · (intro w hSw; (try dsimp only at hSw); go_simp; try with_reducible rfl)
    try simp only [Act.put, List.setIfInBounds_toArray, List.set_cons_zero, List.set_cons_succ]
    refine wpAnyH_ready (rs := [6]) (by kernel_rfl) (by simp) (AllReadyH.cons (o := (Oper.mk (some 21) (Op.lookup 75 (Operand.tmp 15) (Operand.tmp 20) true) 77 "rules.go:177" #[(Edge.mk 0 Ground.data), (Edge.mk 5 Ground.data)] none)) rfl (fun K hK => ?_) AllReadyH.nil)
    go_simp
    (have hrun := run_num_look hM.out.map (y := c.fn) hsz; rw [hu.out, hv.out] at hrun; simp only [hrun, Result.andThen]; go_simp)
    refine hK.out _ _ hC (fun hHeld => ?_)
    clear hK K hHeld
    try simp only [Act.put, List.setIfInBounds_toArray, List.set_cons_zero, List.set_cons_succ]
    refine wpAnyH_take (i := 7) (oi := (Oper.mk (some 14) (Op.move (Operand.tmp 21)) 77 "rules.go:177" #[(Edge.mk 6 Ground.data)] none)) (v := ?_) rfl (by kernel_rfl) (by kernel_rfl) (by kernel_rfl) (fun _ _ _ h => h) (Or.inl ⟨by rfl, ?_⟩) hC ?_
    rotate_left
    · (intro w hSw; (try dsimp only at hSw); go_simp; try with_reducible rfl)
    try simp only [Act.put, List.setIfInBounds_toArray, List.set_cons_zero, List.set_cons_succ]
    refine wpAnyH_take (i := 8) (oi := (Oper.mk (some 22) (Op.extract (Operand.tmp 14) 0) 3 "rules.go:177" #[(Edge.mk 7 Ground.data)] none)) (v := ?_) rfl (by kernel_rfl) (by kernel_rfl) (by kernel_rfl) (fun _ _ _ h => h) (Or.inl ⟨by rfl, ?_⟩) hC ?_
    rotate_left
    · (intro w hSw; (try dsimp only at hSw); go_simp; try with_reducible rfl)
    try simp only [Act.put, List.setIfInBounds_toArray, List.set_cons_zero, List.set_cons_succ]
    refine wpAnyH_take (i := 9) (oi := (Oper.mk (some 23) (Op.extract (Operand.tmp 14) 1) 4 "rules.go:177" #[(Edge.mk 7 Ground.data), (Edge.mk 10 (Ground.gcOnly Departure.lateStores))] none)) (v := ?_) rfl (by kernel_rfl) (by kernel_rfl) (by kernel_rfl) (fun _ _ _ h => h) (Or.inl ⟨by rfl, ?_⟩) hC ?_
    rotate_left
    · (intro w hSw; (try dsimp only at hSw); go_simp; try with_reducible rfl)
    try simp only [Act.put, List.setIfInBounds_toArray, List.set_cons_zero, List.set_cons_succ]
    refine wpAnyH_take (i := 10) (oi := (Oper.mk (some 4) (Op.assign (Operand.tmp 22)) 3 "rules.go:177" #[(Edge.mk 8 Ground.data), (Edge.mk 0 Ground.phase), (Edge.mk 1 Ground.phase), (Edge.mk 2 Ground.phase), (Edge.mk 3 Ground.phase), (Edge.mk 4 Ground.phase), (Edge.mk 5 Ground.phase), (Edge.mk 6 Ground.phase), (Edge.mk 7 Ground.phase), (Edge.mk 8 Ground.phase), (Edge.mk 9 (Ground.textOnly Departure.lateStores))] none)) (v := ?_) rfl (by kernel_rfl) (by kernel_rfl) (by kernel_rfl) (fun _ _ _ h => h) (Or.inl ⟨by rfl, ?_⟩) hC ?_
    rotate_left
    · (intro w hSw; (try dsimp only at hSw); go_simp; try with_reducible rfl)
    try simp only [Act.put, List.setIfInBounds_toArray, List.set_cons_zero, List.set_cons_succ]
    refine wpAnyH_take (i := 11) (oi := (Oper.mk (some 5) (Op.assign (Operand.tmp 23)) 4 "rules.go:177" #[(Edge.mk 9 Ground.data), (Edge.mk 10 Ground.chain), (Edge.mk 0 Ground.phase), (Edge.mk 1 Ground.phase), (Edge.mk 2 Ground.phase), (Edge.mk 3 Ground.phase), (Edge.mk 4 Ground.phase), (Edge.mk 5 Ground.phase), (Edge.mk 6 Ground.phase), (Edge.mk 7 Ground.phase), (Edge.mk 8 Ground.phase), (Edge.mk 9 Ground.phase), (Edge.mk 10 Ground.phase)] none)) (v := ?_) rfl (by kernel_rfl) (by kernel_rfl) (by kernel_rfl) (fun _ _ _ h => h) (Or.inl ⟨by rfl, ?_⟩) hC ?_
    rotate_left
    · (intro w hSw; (try dsimp only at hSw); go_simp; try with_reducible rfl)
    try simp only [Act.put, List.setIfInBounds_toArray, List.set_cons_zero, List.set_cons_succ]
    refine wpAnyH_done (by kernel_rfl) ?_ _
    cases u <;> (go_wp2_with fail; go_ret; exact ⟨rfl, hB.out⟩)
  · have d10 : decide (c.op = 10) = false := decide_eq_false e10
    rw [d10]
    by_cases e4 : c.op = 4
    · have d4 : decide (c.op = 4) = true := decide_eq_true e4
      rw [d4]
      go_enter Try.func63, Try.ntmps63
      go_upto_region 1 with fail
      generalize (W.alloc (.cells #[.int .i64 f, .int .i64 k, .int .i64 i, .pointer (some ⟨b, o, none⟩), .pointer (some ⟨b2, o2, none⟩), .pointer (some ⟨b3, o3, none⟩)] 65)) = wb at hX hB hM ⊢
      replace hX := Lib.hid hX
      obtain ⟨s0, s1, s2, s3, s4, s5, f1, c0, c1, c5, c6, c7, hat, ra, rl, rc⟩ := hX.out
      go_upto_region 3 with (first | (go_at_call 51; with_reducible refine Calls.mono (op_some c0) ?_; rintro e w2 ⟨rfl, hb⟩; replace hX := Lib.hid (hX.out.keep hb); replace hM := Lib.hid (hM.out.below hb); replace hB := Lib.hid (hB.out.trans (hb.mono hB.out.size)); obtain ⟨s0, s1, s2, s3, s4, s5, f1, c0, c1, c5, c6, c7, hat, ra, rl, rc⟩ := hX.out; try rw [e4] at c0) | fail)
      have hC : w2.drew.cell? ⟨W.heap.size, 5, none⟩ = some (.pointer (some ⟨b3, o3, none⟩)) ∧ w2.drew.cell? ⟨b3, o3 + 5, none⟩ = some (.string c.fn) ∧ w2.drew.cell? ⟨b3, o3 + 6, none⟩ = some (.slice aa c.args.length ac) ∧ w2.drew.cell? ⟨Bx, 0, none⟩ = some (.map (some bm)) := ⟨s5, c5, c6, (show w2.cell? ⟨Bx, 0, none⟩ = some (.map (some bm)) from by rw [blk_cell hM.out.box]; rfl)⟩
      replace hM := Lib.hid (hM.out.below (Below.refl _ _).drew)
      replace hB := Lib.hid hB.out.drew
      clear s0 s1 s2 s3 s4 s5 f1 c0 c1 c5 c6 c7 hat ra rl rc hX
      refine wp_region_held_drew (S := (fun w' => w'.cell? ⟨W.heap.size, 5, none⟩ = some (.pointer (some ⟨b3, o3, none⟩)) ∧ w'.cell? ⟨b3, o3 + 5, none⟩ = some (.string c.fn) ∧ w'.cell? ⟨b3, o3 + 6, none⟩ = some (.slice aa c.args.length ac) ∧ w'.cell? ⟨Bx, 0, none⟩ = some (.map (some bm)))) (by kernel_rfl) hC (fun hHeld => ?_)
      clear hHeld
      refine wpAnyH_take (i := 0) (oi := (Oper.mk (some 15) (Op.load 75 (Operand.tmp 1)) 75 "rules.go:177" #[] none)) (v := ?_) rfl (by kernel_rfl) (by kernel_rfl) (by kernel_rfl) (fun _ _ _ h => h) (Or.inl ⟨by rfl, ?_⟩) hC ?_
      rotate_left
      · (intro w hSw; (try dsimp only at hSw); go_simp; try with_reducible rfl)
      try simp only [Act.put, List.setIfInBounds_toArray, List.set_cons_zero, List.set_cons_succ]
      refine wpAnyH_take (i := 1) (oi := (Oper.mk (some 16) (Op.fieldAddr 65 (Operand.tmp 2) 3) 0 "rules.go:177" #[] none)) (v := ?_) rfl (by kernel_rfl) (by kernel_rfl) (by kernel_rfl) (fun _ _ _ h => h) (Or.inl ⟨by rfl, ?_⟩) hC ?_
      rotate_left
      · (intro w hSw; (try dsimp only at hSw); go_simp; try with_reducible rfl)
      try simp only [Act.put, List.setIfInBounds_toArray, List.set_cons_zero, List.set_cons_succ]
      refine wpAnyH_take (i := 2) (oi := (Oper.mk (some 17) (Op.load 63 (Operand.tmp 16)) 63 "rules.go:177" #[(Edge.mk 1 Ground.data)] none)) (v := ?_) rfl (by kernel_rfl) (by kernel_rfl) (by kernel_rfl) (fun _ _ _ h => h) (Or.inl ⟨by rfl, ?_⟩) hC ?_
      rotate_left
      · (intro w hSw; (try dsimp only at hSw); go_simp; try with_reducible rfl)
      try simp only [Act.put, List.setIfInBounds_toArray, List.set_cons_zero, List.set_cons_succ]
      refine wpAnyH_take (i := 3) (oi := (Oper.mk (some 18) (Op.nilCheck (Operand.tmp 17)) 0 "rules.go:177" #[(Edge.mk 2 Ground.data)] none)) (v := ?_) rfl (by kernel_rfl) (by kernel_rfl) (by kernel_rfl) (fun _ _ _ h => h) (Or.inl ⟨by rfl, ?_⟩) hC ?_
      rotate_left
      · (intro w hSw; (try dsimp only at hSw); go_simp; try with_reducible rfl)
      try simp only [Act.put, List.setIfInBounds_toArray, List.set_cons_zero, List.set_cons_succ]
      refine wpAnyH_take (i := 4) (oi := (Oper.mk (some 19) (Op.fieldAddr 47 (Operand.tmp 18) 5) 0 "rules.go:177" #[(Edge.mk 3 Ground.data)] none)) (v := ?_) rfl (by kernel_rfl) (by kernel_rfl) (by kernel_rfl) (fun _ _ _ h => h) (Or.inl ⟨by rfl, ?_⟩) hC ?_
      rotate_left
      · (intro w hSw; (try dsimp only at hSw); go_simp; try with_reducible rfl)
      try simp only [Act.put, List.setIfInBounds_toArray, List.set_cons_zero, List.set_cons_succ]
      refine wpAnyH_take (i := 5) (oi := (Oper.mk (some 20) (Op.load 9 (Operand.tmp 19)) 9 "rules.go:177" #[(Edge.mk 4 Ground.data)] none)) (v := ?_) rfl (by kernel_rfl) (by kernel_rfl) (by kernel_rfl) (fun _ _ _ h => h) (Or.inl ⟨by rfl, ?_⟩) hC ?_
      rotate_left
      · (intro w hSw; (try dsimp only at hSw); go_simp; try with_reducible rfl)
      try simp only [Act.put, List.setIfInBounds_toArray, List.set_cons_zero, List.set_cons_succ]
      refine wpAnyH_ready (rs := [6]) (by kernel_rfl) (by simp) (AllReadyH.cons (o := (Oper.mk (some 21) (Op.lookup 75 (Operand.tmp 15) (Operand.tmp 20) true) 77 "rules.go:177" #[(Edge.mk 0 Ground.data), (Edge.mk 5 Ground.data)] none)) rfl (fun K hK => ?_) AllReadyH.nil)
      go_simp
      (have hrun := run_num_look hM.out.map (y := c.fn) hsz; rw [hu.out, hv.out] at hrun; simp only [hrun, Result.andThen]; go_simp)
      refine hK.out _ _ hC (fun hHeld => ?_)
      clear hK K hHeld
      try simp only [Act.put, List.setIfInBounds_toArray, List.set_cons_zero, List.set_cons_succ]
      refine wpAnyH_take (i := 7) (oi := (Oper.mk (some 14) (Op.move (Operand.tmp 21)) 77 "rules.go:177" #[(Edge.mk 6 Ground.data)] none)) (v := ?_) rfl (by kernel_rfl) (by kernel_rfl) (by kernel_rfl) (fun _ _ _ h => h) (Or.inl ⟨by rfl, ?_⟩) hC ?_
      rotate_left
      · (intro w hSw; (try dsimp only at hSw); go_simp; try with_reducible rfl)
      try simp only [Act.put, List.setIfInBounds_toArray, List.set_cons_zero, List.set_cons_succ]
      refine wpAnyH_take (i := 8) (oi := (Oper.mk (some 22) (Op.extract (Operand.tmp 14) 0) 3 "rules.go:177" #[(Edge.mk 7 Ground.data)] none)) (v := ?_) rfl (by kernel_rfl) (by kernel_rfl) (by kernel_rfl) (fun _ _ _ h => h) (Or.inl ⟨by rfl, ?_⟩) hC ?_
      rotate_left
      · (intro w hSw; (try dsimp only at hSw); go_simp; try with_reducible rfl)
      try simp only [Act.put, List.setIfInBounds_toArray, List.set_cons_zero, List.set_cons_succ]
      refine wpAnyH_take (i := 9) (oi := (Oper.mk (some 23) (Op.extract (Operand.tmp 14) 1) 4 "rules.go:177" #[(Edge.mk 7 Ground.data), (Edge.mk 10 (Ground.gcOnly Departure.lateStores))] none)) (v := ?_) rfl (by kernel_rfl) (by kernel_rfl) (by kernel_rfl) (fun _ _ _ h => h) (Or.inl ⟨by rfl, ?_⟩) hC ?_
      rotate_left
      · (intro w hSw; (try dsimp only at hSw); go_simp; try with_reducible rfl)
      try simp only [Act.put, List.setIfInBounds_toArray, List.set_cons_zero, List.set_cons_succ]
      refine wpAnyH_take (i := 10) (oi := (Oper.mk (some 4) (Op.assign (Operand.tmp 22)) 3 "rules.go:177" #[(Edge.mk 8 Ground.data), (Edge.mk 0 Ground.phase), (Edge.mk 1 Ground.phase), (Edge.mk 2 Ground.phase), (Edge.mk 3 Ground.phase), (Edge.mk 4 Ground.phase), (Edge.mk 5 Ground.phase), (Edge.mk 6 Ground.phase), (Edge.mk 7 Ground.phase), (Edge.mk 8 Ground.phase), (Edge.mk 9 (Ground.textOnly Departure.lateStores))] none)) (v := ?_) rfl (by kernel_rfl) (by kernel_rfl) (by kernel_rfl) (fun _ _ _ h => h) (Or.inl ⟨by rfl, ?_⟩) hC ?_
      rotate_left
      · (intro w hSw; (try dsimp only at hSw); go_simp; try with_reducible rfl)
      try simp only [Act.put, List.setIfInBounds_toArray, List.set_cons_zero, List.set_cons_succ]
      refine wpAnyH_take (i := 11) (oi := (Oper.mk (some 5) (Op.assign (Operand.tmp 23)) 4 "rules.go:177" #[(Edge.mk 9 Ground.data), (Edge.mk 10 Ground.chain), (Edge.mk 0 Ground.phase), (Edge.mk 1 Ground.phase), (Edge.mk 2 Ground.phase), (Edge.mk 3 Ground.phase), (Edge.mk 4 Ground.phase), (Edge.mk 5 Ground.phase), (Edge.mk 6 Ground.phase), (Edge.mk 7 Ground.phase), (Edge.mk 8 Ground.phase), (Edge.mk 9 Ground.phase), (Edge.mk 10 Ground.phase)] none)) (v := ?_) rfl (by kernel_rfl) (by kernel_rfl) (by kernel_rfl) (fun _ _ _ h => h) (Or.inl ⟨by rfl, ?_⟩) hC ?_
      rotate_left
      · (intro w hSw; (try dsimp only at hSw); go_simp; try with_reducible rfl)
      try simp only [Act.put, List.setIfInBounds_toArray, List.set_cons_zero, List.set_cons_succ]
      refine wpAnyH_done (by kernel_rfl) ?_ _
      cases u <;> (go_wp2_with fail; go_ret; exact ⟨rfl, hB.out⟩)
    · have d4 : decide (c.op = 4) = false := decide_eq_false e4
      rw [d4]
      have n10 : (c.op != 10) = true := by simpa using e10
      have n4 : (c.op != 4) = true := by simpa using e4
      go_enter Try.func63, Try.ntmps63
      go_upto_region 1 with fail
      generalize (W.alloc (.cells #[.int .i64 f, .int .i64 k, .int .i64 i, .pointer (some ⟨b, o, none⟩), .pointer (some ⟨b2, o2, none⟩), .pointer (some ⟨b3, o3, none⟩)] 65)) = wb at hX hB hM ⊢
      replace hX := Lib.hid hX
      obtain ⟨s0, s1, s2, s3, s4, s5, f1, c0, c1, c5, c6, c7, hat, ra, rl, rc⟩ := hX.out
      go_wp2_with (first | (go_at_call 51; with_reducible refine Calls.mono (op_some c0) ?_; rintro e w2 ⟨rfl, hb⟩; replace hX := Lib.hid (hX.out.keep hb); replace hM := Lib.hid (hM.out.below hb); replace hB := Lib.hid (hB.out.trans (hb.mono hB.out.size)); obtain ⟨s0, s1, s2, s3, s4, s5, f1, c0, c1, c5, c6, c7, hat, ra, rl, rc⟩ := hX.out) | fail)
      go_ret
      exact ⟨rfl, hB.out⟩
set_option maxRecDepth 20000 in
set_option maxHeartbeats 4000000 in
theorem c14_ins {W : World} {f k i : Nat} {d : Fun} {x : Blk} {c : Ins} {vs : Array Value} {Bx bm k9 : Nat} {F : ByteArray → Option Nat} {U : Nat → Prop} (hf : (Prt.ins f k i d x c).Fits) (h : PrtV W (Prt.ins f k i d x c) vs) (hN : NumBx Bx F U bm k9 W) : Calls Try.prog 64 #[.agg vs, .pointer (some ⟨Bx, 0, none⟩)] W fun e W' => e = .returned (.bool (bad14 F (Prt.ins f k i d x c))) ∧ Below W.heap.size W W' := by
  obtain ⟨b, o, b2, o2, b3, o3, ca, aa, la, cc, ac, lc, rfl, hX⟩ := InsBox.mk' h
  have hB := Lib.hid (box_below W (.cells #[.int .i64 f, .int .i64 k, .int .i64 i, .pointer (some ⟨b, o, none⟩), .pointer (some ⟨b2, o2, none⟩), .pointer (some ⟨b3, o3, none⟩)] 65))
  have hM := Lib.hid (hN.below hB.out)
  have hsz : c.fn.size ≤ maxLen := hf.2.2.1.2.2.2.2.2.2.1
  clear h hN hf
  show Calls _ _ _ _ fun e W' => e = .returned (.bool (decide (c.op = 10) && ((F c.fn).isSome && !decide ((F c.fn).getD 0 = c.args.length)))) ∧ _
  generalize hu : (F c.fn).isSome = u
  generalize hv : (F c.fn).getD 0 = n
  replace hu := Lib.hid hu
  replace hv := Lib.hid hv
  generalize hal : c.args.length = al
  replace hal := Lib.hid hal
  have n1 : ((n : Int) != (al : Int)) = !decide (n = al) := by
    by_cases e : n = al
    · simp [e]
    · simp [e]; omega
  generalize decide (n = al) = q at n1 ⊢
  by_cases e10 : c.op = 10
  · have d10 : decide (c.op = 10) = true := decide_eq_true e10
    rw [d10]
    go_enter Try.func64, Try.ntmps64
    go_upto_region 1 with fail
    generalize (W.alloc (.cells #[.int .i64 f, .int .i64 k, .int .i64 i, .pointer (some ⟨b, o, none⟩), .pointer (some ⟨b2, o2, none⟩), .pointer (some ⟨b3, o3, none⟩)] 65)) = wb at hX hB hM ⊢
    replace hX := Lib.hid hX
    obtain ⟨s0, s1, s2, s3, s4, s5, f1, c0, c1, c5, c6, c7, hat, ra, rl, rc⟩ := hX.out
    go_upto_region 3 with (first | (go_at_call 51; with_reducible refine Calls.mono (op_some c0) ?_; rintro e w2 ⟨rfl, hb⟩; replace hX := Lib.hid (hX.out.keep hb); replace hM := Lib.hid (hM.out.below hb); replace hB := Lib.hid (hB.out.trans (hb.mono hB.out.size)); obtain ⟨s0, s1, s2, s3, s4, s5, f1, c0, c1, c5, c6, c7, hat, ra, rl, rc⟩ := hX.out; try rw [e10] at c0) | fail)
    have hC : w2.drew.cell? ⟨W.heap.size, 5, none⟩ = some (.pointer (some ⟨b3, o3, none⟩)) ∧ w2.drew.cell? ⟨b3, o3 + 5, none⟩ = some (.string c.fn) ∧ w2.drew.cell? ⟨b3, o3 + 6, none⟩ = some (.slice aa c.args.length ac) ∧ w2.drew.cell? ⟨Bx, 0, none⟩ = some (.map (some bm)) := ⟨s5, c5, c6, (show w2.cell? ⟨Bx, 0, none⟩ = some (.map (some bm)) from by rw [blk_cell hM.out.box]; rfl)⟩
    replace hM := Lib.hid (hM.out.below (Below.refl _ _).drew)
    replace hB := Lib.hid hB.out.drew
    clear s0 s1 s2 s3 s4 s5 f1 c0 c1 c5 c6 c7 hat ra rl rc hX
    refine wp_region_held_drew (S := (fun w' => w'.cell? ⟨W.heap.size, 5, none⟩ = some (.pointer (some ⟨b3, o3, none⟩)) ∧ w'.cell? ⟨b3, o3 + 5, none⟩ = some (.string c.fn) ∧ w'.cell? ⟨b3, o3 + 6, none⟩ = some (.slice aa c.args.length ac) ∧ w'.cell? ⟨Bx, 0, none⟩ = some (.map (some bm)))) (by kernel_rfl) hC (fun hHeld => ?_)
    clear hHeld
    refine wpAnyH_take (i := 0) (oi := (Oper.mk (some 10) (Op.load 75 (Operand.tmp 1)) 75 "rules.go:188" #[] none)) (v := ?_) rfl (by kernel_rfl) (by kernel_rfl) (by kernel_rfl) (fun _ _ _ h => h) (Or.inl ⟨by rfl, ?_⟩) hC ?_
    rotate_left
    · (intro w hSw; (try dsimp only at hSw); go_simp; try with_reducible rfl)
    try simp only [Act.put, List.setIfInBounds_toArray, List.set_cons_zero, List.set_cons_succ]
    refine wpAnyH_take (i := 1) (oi := (Oper.mk (some 11) (Op.fieldAddr 65 (Operand.tmp 2) 3) 0 "rules.go:188" #[] none)) (v := ?_) rfl (by kernel_rfl) (by kernel_rfl) (by kernel_rfl) (fun _ _ _ h => h) (Or.inl ⟨by rfl, ?_⟩) hC ?_
    rotate_left
    · (intro w hSw; (try dsimp only at hSw); go_simp; try with_reducible rfl)
    try simp only [Act.put, List.setIfInBounds_toArray, List.set_cons_zero, List.set_cons_succ]
    refine wpAnyH_take (i := 2) (oi := (Oper.mk (some 12) (Op.load 63 (Operand.tmp 11)) 63 "rules.go:188" #[(Edge.mk 1 Ground.data)] none)) (v := ?_) rfl (by kernel_rfl) (by kernel_rfl) (by kernel_rfl) (fun _ _ _ h => h) (Or.inl ⟨by rfl, ?_⟩) hC ?_
    rotate_left
    · (intro w hSw; (try dsimp only at hSw); go_simp; try with_reducible rfl)
    try simp only [Act.put, List.setIfInBounds_toArray, List.set_cons_zero, List.set_cons_succ]
    refine wpAnyH_take (i := 3) (oi := (Oper.mk (some 13) (Op.nilCheck (Operand.tmp 12)) 0 "rules.go:188" #[(Edge.mk 2 Ground.data)] none)) (v := ?_) rfl (by kernel_rfl) (by kernel_rfl) (by kernel_rfl) (fun _ _ _ h => h) (Or.inl ⟨by rfl, ?_⟩) hC ?_
    rotate_left
    · (intro w hSw; (try dsimp only at hSw); go_simp; try with_reducible rfl)
    try simp only [Act.put, List.setIfInBounds_toArray, List.set_cons_zero, List.set_cons_succ]
    refine wpAnyH_take (i := 4) (oi := (Oper.mk (some 14) (Op.fieldAddr 47 (Operand.tmp 13) 5) 0 "rules.go:188" #[(Edge.mk 3 Ground.data)] none)) (v := ?_) rfl (by kernel_rfl) (by kernel_rfl) (by kernel_rfl) (fun _ _ _ h => h) (Or.inl ⟨by rfl, ?_⟩) hC ?_
    rotate_left
    · (intro w hSw; (try dsimp only at hSw); go_simp; try with_reducible rfl)
    try simp only [Act.put, List.setIfInBounds_toArray, List.set_cons_zero, List.set_cons_succ]
    refine wpAnyH_take (i := 5) (oi := (Oper.mk (some 15) (Op.load 9 (Operand.tmp 14)) 9 "rules.go:188" #[(Edge.mk 4 Ground.data)] none)) (v := ?_) rfl (by kernel_rfl) (by kernel_rfl) (by kernel_rfl) (fun _ _ _ h => h) (Or.inl ⟨by rfl, ?_⟩) hC ?_
    rotate_left
    · (intro w hSw; (try dsimp only at hSw); go_simp; try with_reducible rfl)
    try simp only [Act.put, List.setIfInBounds_toArray, List.set_cons_zero, List.set_cons_succ]
    refine wpAnyH_ready (rs := [6]) (by kernel_rfl) (by simp) (AllReadyH.cons (o := (Oper.mk (some 16) (Op.lookup 75 (Operand.tmp 10) (Operand.tmp 15) true) 77 "rules.go:188" #[(Edge.mk 0 Ground.data), (Edge.mk 5 Ground.data)] none)) rfl (fun K hK => ?_) AllReadyH.nil)
    go_simp
    (have hrun := run_num_look hM.out.map (y := c.fn) hsz; rw [hu.out, hv.out] at hrun; simp only [hrun, Result.andThen]; go_simp)
    refine hK.out _ _ hC (fun hHeld => ?_)
    clear hK K hHeld
    try simp only [Act.put, List.setIfInBounds_toArray, List.set_cons_zero, List.set_cons_succ]
    refine wpAnyH_take (i := 7) (oi := (Oper.mk (some 9) (Op.move (Operand.tmp 16)) 77 "rules.go:188" #[(Edge.mk 6 Ground.data)] none)) (v := ?_) rfl (by kernel_rfl) (by kernel_rfl) (by kernel_rfl) (fun _ _ _ h => h) (Or.inl ⟨by rfl, ?_⟩) hC ?_
    rotate_left
    · (intro w hSw; (try dsimp only at hSw); go_simp; try with_reducible rfl)
    try simp only [Act.put, List.setIfInBounds_toArray, List.set_cons_zero, List.set_cons_succ]
    refine wpAnyH_take (i := 8) (oi := (Oper.mk (some 17) (Op.extract (Operand.tmp 9) 0) 3 "rules.go:188" #[(Edge.mk 7 Ground.data)] none)) (v := ?_) rfl (by kernel_rfl) (by kernel_rfl) (by kernel_rfl) (fun _ _ _ h => h) (Or.inl ⟨by rfl, ?_⟩) hC ?_
    rotate_left
    · (intro w hSw; (try dsimp only at hSw); go_simp; try with_reducible rfl)
    try simp only [Act.put, List.setIfInBounds_toArray, List.set_cons_zero, List.set_cons_succ]
    refine wpAnyH_take (i := 9) (oi := (Oper.mk (some 18) (Op.extract (Operand.tmp 9) 1) 4 "rules.go:188" #[(Edge.mk 7 Ground.data), (Edge.mk 10 (Ground.gcOnly Departure.lateStores))] none)) (v := ?_) rfl (by kernel_rfl) (by kernel_rfl) (by kernel_rfl) (fun _ _ _ h => h) (Or.inl ⟨by rfl, ?_⟩) hC ?_
    rotate_left
    · (intro w hSw; (try dsimp only at hSw); go_simp; try with_reducible rfl)
    try simp only [Act.put, List.setIfInBounds_toArray, List.set_cons_zero, List.set_cons_succ]
    refine wpAnyH_take (i := 10) (oi := (Oper.mk (some 4) (Op.assign (Operand.tmp 17)) 3 "rules.go:188" #[(Edge.mk 8 Ground.data), (Edge.mk 0 Ground.phase), (Edge.mk 1 Ground.phase), (Edge.mk 2 Ground.phase), (Edge.mk 3 Ground.phase), (Edge.mk 4 Ground.phase), (Edge.mk 5 Ground.phase), (Edge.mk 6 Ground.phase), (Edge.mk 7 Ground.phase), (Edge.mk 8 Ground.phase), (Edge.mk 9 (Ground.textOnly Departure.lateStores))] none)) (v := ?_) rfl (by kernel_rfl) (by kernel_rfl) (by kernel_rfl) (fun _ _ _ h => h) (Or.inl ⟨by rfl, ?_⟩) hC ?_
    rotate_left
    · (intro w hSw; (try dsimp only at hSw); go_simp; try with_reducible rfl)
    try simp only [Act.put, List.setIfInBounds_toArray, List.set_cons_zero, List.set_cons_succ]
    refine wpAnyH_take (i := 11) (oi := (Oper.mk (some 5) (Op.assign (Operand.tmp 18)) 4 "rules.go:188" #[(Edge.mk 9 Ground.data), (Edge.mk 10 Ground.chain), (Edge.mk 0 Ground.phase), (Edge.mk 1 Ground.phase), (Edge.mk 2 Ground.phase), (Edge.mk 3 Ground.phase), (Edge.mk 4 Ground.phase), (Edge.mk 5 Ground.phase), (Edge.mk 6 Ground.phase), (Edge.mk 7 Ground.phase), (Edge.mk 8 Ground.phase), (Edge.mk 9 Ground.phase), (Edge.mk 10 Ground.phase)] none)) (v := ?_) rfl (by kernel_rfl) (by kernel_rfl) (by kernel_rfl) (fun _ _ _ h => h) (Or.inl ⟨by rfl, ?_⟩) hC ?_
    rotate_left
    · (intro w hSw; (try dsimp only at hSw); go_simp; try with_reducible rfl)
    try simp only [Act.put, List.setIfInBounds_toArray, List.set_cons_zero, List.set_cons_succ]
    refine wpAnyH_done (by kernel_rfl) ?_ _
    obtain ⟨s5, c5, c6, c9⟩ := hC
    rw [hal.out] at c6
    cases u <;> cases q <;> (
      simp only [Bool.not_true, Bool.not_false] at n1
      go_wp2_with fail
      go_ret
      exact ⟨rfl, hB.out⟩)
  · have d10 : decide (c.op = 10) = false := decide_eq_false e10
    rw [d10]
    have n10 : (c.op != 10) = true := by simpa using e10
    go_enter Try.func64, Try.ntmps64
    go_upto_region 1 with fail
    generalize (W.alloc (.cells #[.int .i64 f, .int .i64 k, .int .i64 i, .pointer (some ⟨b, o, none⟩), .pointer (some ⟨b2, o2, none⟩), .pointer (some ⟨b3, o3, none⟩)] 65)) = wb at hX hB hM ⊢
    replace hX := Lib.hid hX
    obtain ⟨s0, s1, s2, s3, s4, s5, f1, c0, c1, c5, c6, c7, hat, ra, rl, rc⟩ := hX.out
    go_wp2_with (first | (go_at_call 51; with_reducible refine Calls.mono (op_some c0) ?_; rintro e w2 ⟨rfl, hb⟩; replace hX := Lib.hid (hX.out.keep hb); replace hM := Lib.hid (hM.out.below hb); replace hB := Lib.hid (hB.out.trans (hb.mono hB.out.size)); obtain ⟨s0, s1, s2, s3, s4, s5, f1, c0, c1, c5, c6, c7, hat, ra, rl, rc⟩ := hX.out) | fail)
    go_ret
    exact ⟨rfl, hB.out⟩
end Go.Proofs.YtjblhiekccjdcaaR
