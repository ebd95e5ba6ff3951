/- NNoFunc, NQuestE. -/
import Derived.Test.YtknkiaedgeejiaaGreatDoorSP8
namespace Go.Proofs.YtknkiaedgeejiaaGreatDoor
set_option linter.unusedVariables false
set_option linter.unusedSimpArgs false
section
open Go.RowKit Go.Maps Go.Shelf Go.WideMaps
theorem run_num_look {w:World}{b k:Nat}{f:ByteArray→Option Nat}(h:MapN w b k f){y:ByteArray}(hy:y.size≤maxLen):(Instr.lookup 153 (.map (some b)) (.string y) true).run Tryz.prog w=.ok (.tuple #[.int .i64 ((f y).getD 0:Nat),.bool (f y).isSome]) w:=by
 obtain⟨D,hown,hD⟩:=h
 obtain⟨v,ps,hrun,hv⟩:=hown.look_ok lawS Tryz.underlying153 (zeroI w) (zd:=.lit (.int .i64 0)) (zp:=[]) (plainElem_int Tryz.underlying3 (by decide)) (keyS y hy)
 obtain⟨c,rfl,hc,hwc⟩:=plainElem_int_inv Tryz.underlying3 hv
 have hc:=congrArg Prod.fst hc
 simp only at hc
 have hh:=hD.has y
 rw [hrun,hh]
 have hcn:c=(((f y).getD 0:Nat):Int):=by
  cases hf:f y with
  | none=>
   rw [hf] at hh
   rw [atKey_of_not_has hh] at hc
   simpa using hc.symm
  | some n=>
   rw [hD.at_ y n hf] at hc
   simpa using hc.symm
 rw [hcn]
structure NumBx (Bx:Nat) (f:ByteArray→Option Nat) (U:Nat→Prop) (bm k:Nat) (W:World):Prop where
 box:W.heap[Bx]?=some (.cells #[.map (some bm)] 153 (0,0))
 map:MapN W bm k f
 own:∀j,U j↔j=Bx∨j=bm
theorem NumBx.calm {Bx k:Nat}{f:ByteArray→Option Nat}{U:Nat→Prop}{bm:Nat}{W W':World}(h:NumBx Bx f U bm k W)(hT:Touch W W' (fun j=>¬U j)):NumBx Bx f U bm k W':=
 ⟨(hT.block _ (Array.getElem?_eq_some_iff.1 h.box).1 (fun hn=>hn ((h.own _).2 (.inl rfl)))).trans h.box,h.map.block (hT.block _ h.map.lt (fun hn=>hn ((h.own _).2 (.inr rfl)))),h.own⟩
theorem NumBx.below {Bx k:Nat}{f:ByteArray→Option Nat}{U:Nat→Prop}{bm:Nat}{W W':World}(h:NumBx Bx f U bm k W)(hb:Below W.heap.size W W'):NumBx Bx f U bm k W':=h.calm (Touch.of_below hb _)
def bad13 (f:ByteArray→Option Nat):Prt→Bool
 | .fn _ _=>false
 | .blk _ _ _ _=>false
 | .ins _ _ _ _ _ c=>(decide (c.op=10) || decide (c.op=4))&&!(f c.fn).isSome
def bad14 (f:ByteArray→Option Nat):Prt→Bool
 | .fn _ _=>false
 | .blk _ _ _ _=>false
 | .ins _ _ _ _ _ c=>decide (c.op=10)&&((f c.fn).isSome&&!decide ((f c.fn).getD 0=c.args.length))
set_option maxRecDepth 20000 in
set_option maxHeartbeats 2000000 in
theorem c13_fn {W:World}{f:Nat}{d:Fun}{vs:Array Value}{Bx bm k9:Nat}{F:ByteArray→Option Nat}{U:Nat→Prop}(h:PrtV W (Prt.fn f d) vs)(hN:NumBx Bx F U bm k9 W):Calls Tryz.prog 147 #[.agg vs,.pointer (some ⟨Bx,0,none⟩)] W fun e W'=>e=.returned (.bool false)∧Below W.heap.size W W':=by
 obtain⟨b,o,pa,ba,pc,bc,rfl,hX⟩:=FnBox.mk' h
 have hB:=Lib.hid (box_below W (.cells #[.int .i64 f,.int .i64 0,.int .i64 0,.pointer (some ⟨b,o,none⟩),.pointer none,.pointer none] 144))
 have hM:=Lib.hid (hN.below hB.out)
 clear h hN
 go_enter Tryz.func147,Tryz.ntmps147
 go_upto_region 1 with fail
 generalize (W.alloc (.cells #[.int .i64 f,.int .i64 0,.int .i64 0,.pointer (some ⟨b,o,none⟩),.pointer none,.pointer none] 144))=wb at hX hB hM ⊢
 replace hX:=Lib.hid hX
 obtain⟨s0,s1,s2,s3,s4,s5,f0,f1,f2,rp,rb⟩:=hX.out
 go_wp2_with (first
  | (go_at_call 135;with_reducible refine Calls.mono (op_none) ?_;rintro e w2 ⟨rfl,hb⟩;replace hX:=Lib.hid (hX.out.keep hb);replace hM:=Lib.hid (hM.out.below hb);replace hB:=Lib.hid (hB.out.trans (hb.mono hB.out.size));obtain⟨s0,s1,s2,s3,s4,s5,f0,f1,f2,rp,rb⟩:=hX.out)
  | fail)
 go_ret
 exact⟨rfl,hB.out⟩
set_option maxRecDepth 20000 in
set_option maxHeartbeats 2000000 in
theorem c13_blk {W:World}{f k:Nat}{d:Fun}{x:Blk}{vs:Array Value}{Bx bm k9:Nat}{F:ByteArray→Option Nat}{U:Nat→Prop}(h:PrtV W (Prt.blk f k d x) vs)(hN:NumBx Bx F U bm k9 W):Calls Tryz.prog 147 #[.agg vs,.pointer (some ⟨Bx,0,none⟩)] W fun e W'=>e=.returned (.bool false)∧Below W.heap.size W W':=by
 obtain⟨b,o,b2,o2,ca,cc,rfl,hX⟩:=BlkBox.mk' h
 have hB:=Lib.hid (box_below W (.cells #[.int .i64 f,.int .i64 k,.int .i64 0,.pointer (some ⟨b,o,none⟩),.pointer (some ⟨b2,o2,none⟩),.pointer none] 144))
 have hM:=Lib.hid (hN.below hB.out)
 clear h hN
 go_enter Tryz.func147,Tryz.ntmps147
 go_upto_region 1 with fail
 generalize (W.alloc (.cells #[.int .i64 f,.int .i64 k,.int .i64 0,.pointer (some ⟨b,o,none⟩),.pointer (some ⟨b2,o2,none⟩),.pointer none] 144))=wb at hX hB hM ⊢
 replace hX:=Lib.hid hX
 obtain⟨s0,s1,s2,s3,s4,s5,f0,f1⟩:=hX.out
 go_wp2_with (first
  | (go_at_call 135;with_reducible refine Calls.mono (op_none) ?_;rintro e w2 ⟨rfl,hb⟩;replace hX:=Lib.hid (hX.out.keep hb);replace hM:=Lib.hid (hM.out.below hb);replace hB:=Lib.hid (hB.out.trans (hb.mono hB.out.size));obtain⟨s0,s1,s2,s3,s4,s5,f0,f1⟩:=hX.out)
  | fail)
 go_ret
 exact⟨rfl,hB.out⟩
set_option maxRecDepth 20000 in
set_option maxHeartbeats 2000000 in
theorem c14_fn {W:World}{f:Nat}{d:Fun}{vs:Array Value}{Bx bm k9:Nat}{F:ByteArray→Option Nat}{U:Nat→Prop}(h:PrtV W (Prt.fn f d) vs)(hN:NumBx Bx F U bm k9 W):Calls Tryz.prog 148 #[.agg vs,.pointer (some ⟨Bx,0,none⟩)] W fun e W'=>e=.returned (.bool false)∧Below W.heap.size W W':=by
 obtain⟨b,o,pa,ba,pc,bc,rfl,hX⟩:=FnBox.mk' h
 have hB:=Lib.hid (box_below W (.cells #[.int .i64 f,.int .i64 0,.int .i64 0,.pointer (some ⟨b,o,none⟩),.pointer none,.pointer none] 144))
 have hM:=Lib.hid (hN.below hB.out)
 clear h hN
 go_enter Tryz.func148,Tryz.ntmps148
 go_upto_region 1 with fail
 generalize (W.alloc (.cells #[.int .i64 f,.int .i64 0,.int .i64 0,.pointer (some ⟨b,o,none⟩),.pointer none,.pointer none] 144))=wb at hX hB hM ⊢
 replace hX:=Lib.hid hX
 obtain⟨s0,s1,s2,s3,s4,s5,f0,f1,f2,rp,rb⟩:=hX.out
 go_wp2_with (first
  | (go_at_call 135;with_reducible refine Calls.mono (op_none) ?_;rintro e w2 ⟨rfl,hb⟩;replace hX:=Lib.hid (hX.out.keep hb);replace hM:=Lib.hid (hM.out.below hb);replace hB:=Lib.hid (hB.out.trans (hb.mono hB.out.size));obtain⟨s0,s1,s2,s3,s4,s5,f0,f1,f2,rp,rb⟩:=hX.out)
  | fail)
 go_ret
 exact⟨rfl,hB.out⟩
set_option maxRecDepth 20000 in
set_option maxHeartbeats 2000000 in
theorem c14_blk {W:World}{f k:Nat}{d:Fun}{x:Blk}{vs:Array Value}{Bx bm k9:Nat}{F:ByteArray→Option Nat}{U:Nat→Prop}(h:PrtV W (Prt.blk f k d x) vs)(hN:NumBx Bx F U bm k9 W):Calls Tryz.prog 148 #[.agg vs,.pointer (some ⟨Bx,0,none⟩)] W fun e W'=>e=.returned (.bool false)∧Below W.heap.size W W':=by
 obtain⟨b,o,b2,o2,ca,cc,rfl,hX⟩:=BlkBox.mk' h
 have hB:=Lib.hid (box_below W (.cells #[.int .i64 f,.int .i64 k,.int .i64 0,.pointer (some ⟨b,o,none⟩),.pointer (some ⟨b2,o2,none⟩),.pointer none] 144))
 have hM:=Lib.hid (hN.below hB.out)
 clear h hN
 go_enter Tryz.func148,Tryz.ntmps148
 go_upto_region 1 with fail
 generalize (W.alloc (.cells #[.int .i64 f,.int .i64 k,.int .i64 0,.pointer (some ⟨b,o,none⟩),.pointer (some ⟨b2,o2,none⟩),.pointer none] 144))=wb at hX hB hM ⊢
 replace hX:=Lib.hid hX
 obtain⟨s0,s1,s2,s3,s4,s5,f0,f1⟩:=hX.out
 go_wp2_with (first
  | (go_at_call 135;with_reducible refine Calls.mono (op_none) ?_;rintro e w2 ⟨rfl,hb⟩;replace hX:=Lib.hid (hX.out.keep hb);replace hM:=Lib.hid (hM.out.below hb);replace hB:=Lib.hid (hB.out.trans (hb.mono hB.out.size));obtain⟨s0,s1,s2,s3,s4,s5,f0,f1⟩:=hX.out)
  | fail)
 go_ret
 exact⟨rfl,hB.out⟩
set_option maxRecDepth 20000 in
set_option maxHeartbeats 4000000 in
theorem c13_ins {W:World}{f k i:Nat}{d:Fun}{x:Blk}{c:Ins}{vs:Array Value}{Bx bm k9:Nat}{F:ByteArray→Option Nat}{U:Nat→Prop}(hf:(Prt.ins f k i d x c).Fits)(h:PrtV W (Prt.ins f k i d x c) vs)(hN:NumBx Bx F U bm k9 W):Calls Tryz.prog 147 #[.agg vs,.pointer (some ⟨Bx,0,none⟩)] W fun e W'=>e=.returned (.bool (bad13 F (Prt.ins f k i d x c)))∧Below W.heap.size W W':=by
 obtain⟨b,o,b2,o2,b3,o3,ca,aa,la,cc,ac,lc,rfl,hX⟩:=InsBox.mk' h
 have hB:=Lib.hid (box_below W (.cells #[.int .i64 f,.int .i64 k,.int .i64 i,.pointer (some ⟨b,o,none⟩),.pointer (some ⟨b2,o2,none⟩),.pointer (some ⟨b3,o3,none⟩)] 144))
 have hM:=Lib.hid (hN.below hB.out)
 have hsz:c.fn.size≤maxLen:=hf.2.2.1.2.2.2.2.2.2.1
 clear h hN hf
 show Calls _ _ _ _ fun e W'=>e=.returned (.bool ((decide (c.op=10) || decide (c.op=4))&&!(F c.fn).isSome))∧_
 generalize hu:(F c.fn).isSome=u
 generalize hv:(F c.fn).getD 0=n
 replace hu:=Lib.hid hu
 replace hv:=Lib.hid hv
 by_cases e10:c.op=10
 ·have d10:decide (c.op=10)=true:=decide_eq_true e10
  rw [d10]
  go_enter Tryz.func147,Tryz.ntmps147
  go_upto_region 1 with fail
  generalize (W.alloc (.cells #[.int .i64 f,.int .i64 k,.int .i64 i,.pointer (some ⟨b,o,none⟩),.pointer (some ⟨b2,o2,none⟩),.pointer (some ⟨b3,o3,none⟩)] 144))=wb at hX hB hM ⊢
  replace hX:=Lib.hid hX
  obtain⟨s0,s1,s2,s3,s4,s5,f1,c0,c1,c5,c6,c7,hat,ra,rl,rc⟩:=hX.out
  go_upto_region 3 with (first | (go_at_call 135;with_reducible refine Calls.mono (op_some c0) ?_;rintro e w2 ⟨rfl,hb⟩;replace hX:=Lib.hid (hX.out.keep hb);replace hM:=Lib.hid (hM.out.below hb);replace hB:=Lib.hid (hB.out.trans (hb.mono hB.out.size));obtain⟨s0,s1,s2,s3,s4,s5,f1,c0,c1,c5,c6,c7,hat,ra,rl,rc⟩:=hX.out;try rw [e10] at c0) | fail)
  have hC:w2.drew.cell? ⟨W.heap.size,5,none⟩=some (.pointer (some ⟨b3,o3,none⟩))∧w2.drew.cell? ⟨b3,o3+5,none⟩=some (.string c.fn)∧w2.drew.cell? ⟨b3,o3+6,none⟩=some (.slice aa c.args.length ac)∧w2.drew.cell? ⟨Bx,0,none⟩=some (.map (some bm)):=⟨s5,c5,c6,(show w2.cell? ⟨Bx,0,none⟩=some (.map (some bm)) from by rw [blk_cell hM.out.box];rfl)⟩
  replace hM:=Lib.hid (hM.out.below (Below.refl _ _).drew)
  replace hB:=Lib.hid hB.out.drew
  clear s0 s1 s2 s3 s4 s5 f1 c0 c1 c5 c6 c7 hat ra rl rc hX
  refine wp_region_held_drew (S:=(fun w'=>w'.cell? ⟨W.heap.size,5,none⟩=some (.pointer (some ⟨b3,o3,none⟩))∧w'.cell? ⟨b3,o3+5,none⟩=some (.string c.fn)∧w'.cell? ⟨b3,o3+6,none⟩=some (.slice aa c.args.length ac)∧w'.cell? ⟨Bx,0,none⟩=some (.map (some bm)))) (by kernel_rfl) hC (fun hHeld=>?_)
  clear hHeld
  refine wpAnyH_take (i:=0) (oi:=(.mk (some 15) (.load 153 (.tmp 1)) 153 "rules.go:177" #[] none)) (v:=?_) rfl (by kernel_rfl) (by kernel_rfl) (by kernel_rfl) (fun _ _ _ h=>h) (Or.inl ⟨by rfl,?_⟩) hC ?_
  rotate_left
  ·(intro w hSw;(try dsimp only at hSw);go_simp;try with_reducible rfl)
  try simp only [Act.put,List.setIfInBounds_toArray,List.set_cons_zero,List.set_cons_succ]
  refine wpAnyH_take (i:=1) (oi:=(.mk (some 16) (.fieldAddr 144 (.tmp 2) 3) 0 "rules.go:177" #[] none)) (v:=?_) rfl (by kernel_rfl) (by kernel_rfl) (by kernel_rfl) (fun _ _ _ h=>h) (Or.inl ⟨by rfl,?_⟩) hC ?_
  rotate_left
  ·(intro w hSw;(try dsimp only at hSw);go_simp;try with_reducible rfl)
  try simp only [Act.put,List.setIfInBounds_toArray,List.set_cons_zero,List.set_cons_succ]
  refine wpAnyH_take (i:=2) (oi:=(.mk (some 17) (.load 135 (.tmp 16)) 135 "rules.go:177" #[.mk 1 .data] none)) (v:=?_) rfl (by kernel_rfl) (by kernel_rfl) (by kernel_rfl) (fun _ _ _ h=>h) (Or.inl ⟨by rfl,?_⟩) hC ?_
  rotate_left
  ·(intro w hSw;(try dsimp only at hSw);go_simp;try with_reducible rfl)
  try simp only [Act.put,List.setIfInBounds_toArray,List.set_cons_zero,List.set_cons_succ]
  refine wpAnyH_take (i:=3) (oi:=(.mk (some 18) (.nilCheck (.tmp 17)) 0 "rules.go:177" #[.mk 2 .data] none)) (v:=?_) rfl (by kernel_rfl) (by kernel_rfl) (by kernel_rfl) (fun _ _ _ h=>h) (Or.inl ⟨by rfl,?_⟩) hC ?_
  rotate_left
  ·(intro w hSw;(try dsimp only at hSw);go_simp;try with_reducible rfl)
  try simp only [Act.put,List.setIfInBounds_toArray,List.set_cons_zero,List.set_cons_succ]
  refine wpAnyH_take (i:=4) (oi:=(.mk (some 19) (.fieldAddr 46 (.tmp 18) 5) 0 "rules.go:177" #[.mk 3 .data] none)) (v:=?_) rfl (by kernel_rfl) (by kernel_rfl) (by kernel_rfl) (fun _ _ _ h=>h) (Or.inl ⟨by rfl,?_⟩) hC ?_
  rotate_left
  ·(intro w hSw;(try dsimp only at hSw);go_simp;try with_reducible rfl)
  try simp only [Act.put,List.setIfInBounds_toArray,List.set_cons_zero,List.set_cons_succ]
  refine wpAnyH_take (i:=5) (oi:=(.mk (some 20) (.load 9 (.tmp 19)) 9 "rules.go:177" #[.mk 4 .data] none)) (v:=?_) rfl (by kernel_rfl) (by kernel_rfl) (by kernel_rfl) (fun _ _ _ h=>h) (Or.inl ⟨by rfl,?_⟩) hC ?_
  rotate_left
  ·(intro w hSw;(try dsimp only at hSw);go_simp;try with_reducible rfl)
  try simp only [Act.put,List.setIfInBounds_toArray,List.set_cons_zero,List.set_cons_succ]
  refine wpAnyH_ready (rs:=[6]) (by kernel_rfl) (by simp) (AllReadyH.cons (o:=(.mk (some 21) (.lookup 153 (.tmp 15) (.tmp 20) true) 155 "rules.go:177" #[.mk 0 .data,.mk 5 .data] none)) rfl (fun K hK=>?_) AllReadyH.nil)
  go_simp
  (have hrun:=run_num_look hM.out.map (y:=c.fn) hsz;rw [hu.out,hv.out] at hrun;simp only [hrun,Result.andThen];go_simp)
  refine hK.out _ _ hC (fun hHeld=>?_)
  clear hK K hHeld
  try simp only [Act.put,List.setIfInBounds_toArray,List.set_cons_zero,List.set_cons_succ]
  refine wpAnyH_take (i:=7) (oi:=(.mk (some 14) (.move (.tmp 21)) 155 "rules.go:177" #[.mk 6 .data] none)) (v:=?_) rfl (by kernel_rfl) (by kernel_rfl) (by kernel_rfl) (fun _ _ _ h=>h) (Or.inl ⟨by rfl,?_⟩) hC ?_
  rotate_left
  ·(intro w hSw;(try dsimp only at hSw);go_simp;try with_reducible rfl)
  try simp only [Act.put,List.setIfInBounds_toArray,List.set_cons_zero,List.set_cons_succ]
  refine wpAnyH_take (i:=8) (oi:=(.mk (some 22) (.extract (.tmp 14) 0) 3 "rules.go:177" #[.mk 7 .data] none)) (v:=?_) rfl (by kernel_rfl) (by kernel_rfl) (by kernel_rfl) (fun _ _ _ h=>h) (Or.inl ⟨by rfl,?_⟩) hC ?_
  rotate_left
  ·(intro w hSw;(try dsimp only at hSw);go_simp;try with_reducible rfl)
  try simp only [Act.put,List.setIfInBounds_toArray,List.set_cons_zero,List.set_cons_succ]
  refine wpAnyH_take (i:=9) (oi:=(.mk (some 23) (.extract (.tmp 14) 1) 4 "rules.go:177" #[.mk 7 .data,.mk 10 (.gcOnly .lateStores)] none)) (v:=?_) rfl (by kernel_rfl) (by kernel_rfl) (by kernel_rfl) (fun _ _ _ h=>h) (Or.inl ⟨by rfl,?_⟩) hC ?_
  rotate_left
  ·(intro w hSw;(try dsimp only at hSw);go_simp;try with_reducible rfl)
  try simp only [Act.put,List.setIfInBounds_toArray,List.set_cons_zero,List.set_cons_succ]
  refine wpAnyH_take (i:=10) (oi:=(.mk (some 4) (.assign (.tmp 22)) 3 "rules.go:177" #[.mk 8 .data,.mk 0 .phase,.mk 1 .phase,.mk 2 .phase,.mk 3 .phase,.mk 4 .phase,.mk 5 .phase,.mk 6 .phase,.mk 7 .phase,.mk 8 .phase,.mk 9 (.textOnly .lateStores)] none)) (v:=?_) rfl (by kernel_rfl) (by kernel_rfl) (by kernel_rfl) (fun _ _ _ h=>h) (Or.inl ⟨by rfl,?_⟩) hC ?_
  rotate_left
  ·(intro w hSw;(try dsimp only at hSw);go_simp;try with_reducible rfl)
  try simp only [Act.put,List.setIfInBounds_toArray,List.set_cons_zero,List.set_cons_succ]
  refine wpAnyH_take (i:=11) (oi:=(.mk (some 5) (.assign (.tmp 23)) 4 "rules.go:177" #[.mk 9 .data,.mk 10 .chain,.mk 0 .phase,.mk 1 .phase,.mk 2 .phase,.mk 3 .phase,.mk 4 .phase,.mk 5 .phase,.mk 6 .phase,.mk 7 .phase,.mk 8 .phase,.mk 9 .phase,.mk 10 .phase] none)) (v:=?_) rfl (by kernel_rfl) (by kernel_rfl) (by kernel_rfl) (fun _ _ _ h=>h) (Or.inl ⟨by rfl,?_⟩) hC ?_
  rotate_left
  ·(intro w hSw;(try dsimp only at hSw);go_simp;try with_reducible rfl)
  try simp only [Act.put,List.setIfInBounds_toArray,List.set_cons_zero,List.set_cons_succ]
  refine wpAnyH_done (by kernel_rfl) ?_ _
  cases u<;>(go_wp2_with fail;go_ret;exact⟨rfl,hB.out⟩)
 ·have d10:decide (c.op=10)=false:=decide_eq_false e10
  rw [d10]
  by_cases e4:c.op=4
  ·have d4:decide (c.op=4)=true:=decide_eq_true e4
   rw [d4]
   go_enter Tryz.func147,Tryz.ntmps147
   go_upto_region 1 with fail
   generalize (W.alloc (.cells #[.int .i64 f,.int .i64 k,.int .i64 i,.pointer (some ⟨b,o,none⟩),.pointer (some ⟨b2,o2,none⟩),.pointer (some ⟨b3,o3,none⟩)] 144))=wb at hX hB hM ⊢
   replace hX:=Lib.hid hX
   obtain⟨s0,s1,s2,s3,s4,s5,f1,c0,c1,c5,c6,c7,hat,ra,rl,rc⟩:=hX.out
   go_upto_region 3 with (first | (go_at_call 135;with_reducible refine Calls.mono (op_some c0) ?_;rintro e w2 ⟨rfl,hb⟩;replace hX:=Lib.hid (hX.out.keep hb);replace hM:=Lib.hid (hM.out.below hb);replace hB:=Lib.hid (hB.out.trans (hb.mono hB.out.size));obtain⟨s0,s1,s2,s3,s4,s5,f1,c0,c1,c5,c6,c7,hat,ra,rl,rc⟩:=hX.out;try rw [e4] at c0) | fail)
   have hC:w2.drew.cell? ⟨W.heap.size,5,none⟩=some (.pointer (some ⟨b3,o3,none⟩))∧w2.drew.cell? ⟨b3,o3+5,none⟩=some (.string c.fn)∧w2.drew.cell? ⟨b3,o3+6,none⟩=some (.slice aa c.args.length ac)∧w2.drew.cell? ⟨Bx,0,none⟩=some (.map (some bm)):=⟨s5,c5,c6,(show w2.cell? ⟨Bx,0,none⟩=some (.map (some bm)) from by rw [blk_cell hM.out.box];rfl)⟩
   replace hM:=Lib.hid (hM.out.below (Below.refl _ _).drew)
   replace hB:=Lib.hid hB.out.drew
   clear s0 s1 s2 s3 s4 s5 f1 c0 c1 c5 c6 c7 hat ra rl rc hX
   refine wp_region_held_drew (S:=(fun w'=>w'.cell? ⟨W.heap.size,5,none⟩=some (.pointer (some ⟨b3,o3,none⟩))∧w'.cell? ⟨b3,o3+5,none⟩=some (.string c.fn)∧w'.cell? ⟨b3,o3+6,none⟩=some (.slice aa c.args.length ac)∧w'.cell? ⟨Bx,0,none⟩=some (.map (some bm)))) (by kernel_rfl) hC (fun hHeld=>?_)
   clear hHeld
   refine wpAnyH_take (i:=0) (oi:=(.mk (some 15) (.load 153 (.tmp 1)) 153 "rules.go:177" #[] none)) (v:=?_) rfl (by kernel_rfl) (by kernel_rfl) (by kernel_rfl) (fun _ _ _ h=>h) (Or.inl ⟨by rfl,?_⟩) hC ?_
   rotate_left
   ·(intro w hSw;(try dsimp only at hSw);go_simp;try with_reducible rfl)
   try simp only [Act.put,List.setIfInBounds_toArray,List.set_cons_zero,List.set_cons_succ]
   refine wpAnyH_take (i:=1) (oi:=(.mk (some 16) (.fieldAddr 144 (.tmp 2) 3) 0 "rules.go:177" #[] none)) (v:=?_) rfl (by kernel_rfl) (by kernel_rfl) (by kernel_rfl) (fun _ _ _ h=>h) (Or.inl ⟨by rfl,?_⟩) hC ?_
   rotate_left
   ·(intro w hSw;(try dsimp only at hSw);go_simp;try with_reducible rfl)
   try simp only [Act.put,List.setIfInBounds_toArray,List.set_cons_zero,List.set_cons_succ]
   refine wpAnyH_take (i:=2) (oi:=(.mk (some 17) (.load 135 (.tmp 16)) 135 "rules.go:177" #[.mk 1 .data] none)) (v:=?_) rfl (by kernel_rfl) (by kernel_rfl) (by kernel_rfl) (fun _ _ _ h=>h) (Or.inl ⟨by rfl,?_⟩) hC ?_
   rotate_left
   ·(intro w hSw;(try dsimp only at hSw);go_simp;try with_reducible rfl)
   try simp only [Act.put,List.setIfInBounds_toArray,List.set_cons_zero,List.set_cons_succ]
   refine wpAnyH_take (i:=3) (oi:=(.mk (some 18) (.nilCheck (.tmp 17)) 0 "rules.go:177" #[.mk 2 .data] none)) (v:=?_) rfl (by kernel_rfl) (by kernel_rfl) (by kernel_rfl) (fun _ _ _ h=>h) (Or.inl ⟨by rfl,?_⟩) hC ?_
   rotate_left
   ·(intro w hSw;(try dsimp only at hSw);go_simp;try with_reducible rfl)
   try simp only [Act.put,List.setIfInBounds_toArray,List.set_cons_zero,List.set_cons_succ]
   refine wpAnyH_take (i:=4) (oi:=(.mk (some 19) (.fieldAddr 46 (.tmp 18) 5) 0 "rules.go:177" #[.mk 3 .data] none)) (v:=?_) rfl (by kernel_rfl) (by kernel_rfl) (by kernel_rfl) (fun _ _ _ h=>h) (Or.inl ⟨by rfl,?_⟩) hC ?_
   rotate_left
   ·(intro w hSw;(try dsimp only at hSw);go_simp;try with_reducible rfl)
   try simp only [Act.put,List.setIfInBounds_toArray,List.set_cons_zero,List.set_cons_succ]
   refine wpAnyH_take (i:=5) (oi:=(.mk (some 20) (.load 9 (.tmp 19)) 9 "rules.go:177" #[.mk 4 .data] none)) (v:=?_) rfl (by kernel_rfl) (by kernel_rfl) (by kernel_rfl) (fun _ _ _ h=>h) (Or.inl ⟨by rfl,?_⟩) hC ?_
   rotate_left
   ·(intro w hSw;(try dsimp only at hSw);go_simp;try with_reducible rfl)
   try simp only [Act.put,List.setIfInBounds_toArray,List.set_cons_zero,List.set_cons_succ]
   refine wpAnyH_ready (rs:=[6]) (by kernel_rfl) (by simp) (AllReadyH.cons (o:=(.mk (some 21) (.lookup 153 (.tmp 15) (.tmp 20) true) 155 "rules.go:177" #[.mk 0 .data,.mk 5 .data] none)) rfl (fun K hK=>?_) AllReadyH.nil)
   go_simp
   (have hrun:=run_num_look hM.out.map (y:=c.fn) hsz;rw [hu.out,hv.out] at hrun;simp only [hrun,Result.andThen];go_simp)
   refine hK.out _ _ hC (fun hHeld=>?_)
   clear hK K hHeld
   try simp only [Act.put,List.setIfInBounds_toArray,List.set_cons_zero,List.set_cons_succ]
   refine wpAnyH_take (i:=7) (oi:=(.mk (some 14) (.move (.tmp 21)) 155 "rules.go:177" #[.mk 6 .data] none)) (v:=?_) rfl (by kernel_rfl) (by kernel_rfl) (by kernel_rfl) (fun _ _ _ h=>h) (Or.inl ⟨by rfl,?_⟩) hC ?_
   rotate_left
   ·(intro w hSw;(try dsimp only at hSw);go_simp;try with_reducible rfl)
   try simp only [Act.put,List.setIfInBounds_toArray,List.set_cons_zero,List.set_cons_succ]
   refine wpAnyH_take (i:=8) (oi:=(.mk (some 22) (.extract (.tmp 14) 0) 3 "rules.go:177" #[.mk 7 .data] none)) (v:=?_) rfl (by kernel_rfl) (by kernel_rfl) (by kernel_rfl) (fun _ _ _ h=>h) (Or.inl ⟨by rfl,?_⟩) hC ?_
   rotate_left
   ·(intro w hSw;(try dsimp only at hSw);go_simp;try with_reducible rfl)
   try simp only [Act.put,List.setIfInBounds_toArray,List.set_cons_zero,List.set_cons_succ]
   refine wpAnyH_take (i:=9) (oi:=(.mk (some 23) (.extract (.tmp 14) 1) 4 "rules.go:177" #[.mk 7 .data,.mk 10 (.gcOnly .lateStores)] none)) (v:=?_) rfl (by kernel_rfl) (by kernel_rfl) (by kernel_rfl) (fun _ _ _ h=>h) (Or.inl ⟨by rfl,?_⟩) hC ?_
   rotate_left
   ·(intro w hSw;(try dsimp only at hSw);go_simp;try with_reducible rfl)
   try simp only [Act.put,List.setIfInBounds_toArray,List.set_cons_zero,List.set_cons_succ]
   refine wpAnyH_take (i:=10) (oi:=(.mk (some 4) (.assign (.tmp 22)) 3 "rules.go:177" #[.mk 8 .data,.mk 0 .phase,.mk 1 .phase,.mk 2 .phase,.mk 3 .phase,.mk 4 .phase,.mk 5 .phase,.mk 6 .phase,.mk 7 .phase,.mk 8 .phase,.mk 9 (.textOnly .lateStores)] none)) (v:=?_) rfl (by kernel_rfl) (by kernel_rfl) (by kernel_rfl) (fun _ _ _ h=>h) (Or.inl ⟨by rfl,?_⟩) hC ?_
   rotate_left
   ·(intro w hSw;(try dsimp only at hSw);go_simp;try with_reducible rfl)
   try simp only [Act.put,List.setIfInBounds_toArray,List.set_cons_zero,List.set_cons_succ]
   refine wpAnyH_take (i:=11) (oi:=(.mk (some 5) (.assign (.tmp 23)) 4 "rules.go:177" #[.mk 9 .data,.mk 10 .chain,.mk 0 .phase,.mk 1 .phase,.mk 2 .phase,.mk 3 .phase,.mk 4 .phase,.mk 5 .phase,.mk 6 .phase,.mk 7 .phase,.mk 8 .phase,.mk 9 .phase,.mk 10 .phase] none)) (v:=?_) rfl (by kernel_rfl) (by kernel_rfl) (by kernel_rfl) (fun _ _ _ h=>h) (Or.inl ⟨by rfl,?_⟩) hC ?_
   rotate_left
   ·(intro w hSw;(try dsimp only at hSw);go_simp;try with_reducible rfl)
   try simp only [Act.put,List.setIfInBounds_toArray,List.set_cons_zero,List.set_cons_succ]
   refine wpAnyH_done (by kernel_rfl) ?_ _
   cases u<;>(go_wp2_with fail;go_ret;exact⟨rfl,hB.out⟩)
  ·have d4:decide (c.op=4)=false:=decide_eq_false e4
   rw [d4]
   have n10:(c.op != 10)=true:=by simpa using e10
   have n4:(c.op != 4)=true:=by simpa using e4
   go_enter Tryz.func147,Tryz.ntmps147
   go_upto_region 1 with fail
   generalize (W.alloc (.cells #[.int .i64 f,.int .i64 k,.int .i64 i,.pointer (some ⟨b,o,none⟩),.pointer (some ⟨b2,o2,none⟩),.pointer (some ⟨b3,o3,none⟩)] 144))=wb at hX hB hM ⊢
   replace hX:=Lib.hid hX
   obtain⟨s0,s1,s2,s3,s4,s5,f1,c0,c1,c5,c6,c7,hat,ra,rl,rc⟩:=hX.out
   go_wp2_with (first | (go_at_call 135;with_reducible refine Calls.mono (op_some c0) ?_;rintro e w2 ⟨rfl,hb⟩;replace hX:=Lib.hid (hX.out.keep hb);replace hM:=Lib.hid (hM.out.below hb);replace hB:=Lib.hid (hB.out.trans (hb.mono hB.out.size));obtain⟨s0,s1,s2,s3,s4,s5,f1,c0,c1,c5,c6,c7,hat,ra,rl,rc⟩:=hX.out) | fail)
   go_ret
   exact⟨rfl,hB.out⟩
set_option maxRecDepth 20000 in
set_option maxHeartbeats 4000000 in
theorem c14_ins {W:World}{f k i:Nat}{d:Fun}{x:Blk}{c:Ins}{vs:Array Value}{Bx bm k9:Nat}{F:ByteArray→Option Nat}{U:Nat→Prop}(hf:(Prt.ins f k i d x c).Fits)(h:PrtV W (Prt.ins f k i d x c) vs)(hN:NumBx Bx F U bm k9 W):Calls Tryz.prog 148 #[.agg vs,.pointer (some ⟨Bx,0,none⟩)] W fun e W'=>e=.returned (.bool (bad14 F (Prt.ins f k i d x c)))∧Below W.heap.size W W':=by
 obtain⟨b,o,b2,o2,b3,o3,ca,aa,la,cc,ac,lc,rfl,hX⟩:=InsBox.mk' h
 have hB:=Lib.hid (box_below W (.cells #[.int .i64 f,.int .i64 k,.int .i64 i,.pointer (some ⟨b,o,none⟩),.pointer (some ⟨b2,o2,none⟩),.pointer (some ⟨b3,o3,none⟩)] 144))
 have hM:=Lib.hid (hN.below hB.out)
 have hsz:c.fn.size≤maxLen:=hf.2.2.1.2.2.2.2.2.2.1
 clear h hN hf
 show Calls _ _ _ _ fun e W'=>e=.returned (.bool (decide (c.op=10)&&((F c.fn).isSome&&!decide ((F c.fn).getD 0=c.args.length))))∧_
 generalize hu:(F c.fn).isSome=u
 generalize hv:(F c.fn).getD 0=n
 replace hu:=Lib.hid hu
 replace hv:=Lib.hid hv
 generalize hal:c.args.length=al
 replace hal:=Lib.hid hal
 have n1:((n:Int) != (al:Int))=!decide (n=al):=by
  by_cases e:n=al
  ·simp [e]
  ·simp [e];omega
 generalize decide (n=al)=q at n1 ⊢
 by_cases e10:c.op=10
 ·have d10:decide (c.op=10)=true:=decide_eq_true e10
  rw [d10]
  go_enter Tryz.func148,Tryz.ntmps148
  go_upto_region 1 with fail
  generalize (W.alloc (.cells #[.int .i64 f,.int .i64 k,.int .i64 i,.pointer (some ⟨b,o,none⟩),.pointer (some ⟨b2,o2,none⟩),.pointer (some ⟨b3,o3,none⟩)] 144))=wb at hX hB hM ⊢
  replace hX:=Lib.hid hX
  obtain⟨s0,s1,s2,s3,s4,s5,f1,c0,c1,c5,c6,c7,hat,ra,rl,rc⟩:=hX.out
  go_upto_region 3 with (first | (go_at_call 135;with_reducible refine Calls.mono (op_some c0) ?_;rintro e w2 ⟨rfl,hb⟩;replace hX:=Lib.hid (hX.out.keep hb);replace hM:=Lib.hid (hM.out.below hb);replace hB:=Lib.hid (hB.out.trans (hb.mono hB.out.size));obtain⟨s0,s1,s2,s3,s4,s5,f1,c0,c1,c5,c6,c7,hat,ra,rl,rc⟩:=hX.out;try rw [e10] at c0) | fail)
  have hC:w2.drew.cell? ⟨W.heap.size,5,none⟩=some (.pointer (some ⟨b3,o3,none⟩))∧w2.drew.cell? ⟨b3,o3+5,none⟩=some (.string c.fn)∧w2.drew.cell? ⟨b3,o3+6,none⟩=some (.slice aa c.args.length ac)∧w2.drew.cell? ⟨Bx,0,none⟩=some (.map (some bm)):=⟨s5,c5,c6,(show w2.cell? ⟨Bx,0,none⟩=some (.map (some bm)) from by rw [blk_cell hM.out.box];rfl)⟩
  replace hM:=Lib.hid (hM.out.below (Below.refl _ _).drew)
  replace hB:=Lib.hid hB.out.drew
  clear s0 s1 s2 s3 s4 s5 f1 c0 c1 c5 c6 c7 hat ra rl rc hX
  refine wp_region_held_drew (S:=(fun w'=>w'.cell? ⟨W.heap.size,5,none⟩=some (.pointer (some ⟨b3,o3,none⟩))∧w'.cell? ⟨b3,o3+5,none⟩=some (.string c.fn)∧w'.cell? ⟨b3,o3+6,none⟩=some (.slice aa c.args.length ac)∧w'.cell? ⟨Bx,0,none⟩=some (.map (some bm)))) (by kernel_rfl) hC (fun hHeld=>?_)
  clear hHeld
  refine wpAnyH_take (i:=0) (oi:=(.mk (some 10) (.load 153 (.tmp 1)) 153 "rules.go:188" #[] none)) (v:=?_) rfl (by kernel_rfl) (by kernel_rfl) (by kernel_rfl) (fun _ _ _ h=>h) (Or.inl ⟨by rfl,?_⟩) hC ?_
  rotate_left
  ·(intro w hSw;(try dsimp only at hSw);go_simp;try with_reducible rfl)
  try simp only [Act.put,List.setIfInBounds_toArray,List.set_cons_zero,List.set_cons_succ]
  refine wpAnyH_take (i:=1) (oi:=(.mk (some 11) (.fieldAddr 144 (.tmp 2) 3) 0 "rules.go:188" #[] none)) (v:=?_) rfl (by kernel_rfl) (by kernel_rfl) (by kernel_rfl) (fun _ _ _ h=>h) (Or.inl ⟨by rfl,?_⟩) hC ?_
  rotate_left
  ·(intro w hSw;(try dsimp only at hSw);go_simp;try with_reducible rfl)
  try simp only [Act.put,List.setIfInBounds_toArray,List.set_cons_zero,List.set_cons_succ]
  refine wpAnyH_take (i:=2) (oi:=(.mk (some 12) (.load 135 (.tmp 11)) 135 "rules.go:188" #[.mk 1 .data] none)) (v:=?_) rfl (by kernel_rfl) (by kernel_rfl) (by kernel_rfl) (fun _ _ _ h=>h) (Or.inl ⟨by rfl,?_⟩) hC ?_
  rotate_left
  ·(intro w hSw;(try dsimp only at hSw);go_simp;try with_reducible rfl)
  try simp only [Act.put,List.setIfInBounds_toArray,List.set_cons_zero,List.set_cons_succ]
  refine wpAnyH_take (i:=3) (oi:=(.mk (some 13) (.nilCheck (.tmp 12)) 0 "rules.go:188" #[.mk 2 .data] none)) (v:=?_) rfl (by kernel_rfl) (by kernel_rfl) (by kernel_rfl) (fun _ _ _ h=>h) (Or.inl ⟨by rfl,?_⟩) hC ?_
  rotate_left
  ·(intro w hSw;(try dsimp only at hSw);go_simp;try with_reducible rfl)
  try simp only [Act.put,List.setIfInBounds_toArray,List.set_cons_zero,List.set_cons_succ]
  refine wpAnyH_take (i:=4) (oi:=(.mk (some 14) (.fieldAddr 46 (.tmp 13) 5) 0 "rules.go:188" #[.mk 3 .data] none)) (v:=?_) rfl (by kernel_rfl) (by kernel_rfl) (by kernel_rfl) (fun _ _ _ h=>h) (Or.inl ⟨by rfl,?_⟩) hC ?_
  rotate_left
  ·(intro w hSw;(try dsimp only at hSw);go_simp;try with_reducible rfl)
  try simp only [Act.put,List.setIfInBounds_toArray,List.set_cons_zero,List.set_cons_succ]
  refine wpAnyH_take (i:=5) (oi:=(.mk (some 15) (.load 9 (.tmp 14)) 9 "rules.go:188" #[.mk 4 .data] none)) (v:=?_) rfl (by kernel_rfl) (by kernel_rfl) (by kernel_rfl) (fun _ _ _ h=>h) (Or.inl ⟨by rfl,?_⟩) hC ?_
  rotate_left
  ·(intro w hSw;(try dsimp only at hSw);go_simp;try with_reducible rfl)
  try simp only [Act.put,List.setIfInBounds_toArray,List.set_cons_zero,List.set_cons_succ]
  refine wpAnyH_ready (rs:=[6]) (by kernel_rfl) (by simp) (AllReadyH.cons (o:=(.mk (some 16) (.lookup 153 (.tmp 10) (.tmp 15) true) 155 "rules.go:188" #[.mk 0 .data,.mk 5 .data] none)) rfl (fun K hK=>?_) AllReadyH.nil)
  go_simp
  (have hrun:=run_num_look hM.out.map (y:=c.fn) hsz;rw [hu.out,hv.out] at hrun;simp only [hrun,Result.andThen];go_simp)
  refine hK.out _ _ hC (fun hHeld=>?_)
  clear hK K hHeld
  try simp only [Act.put,List.setIfInBounds_toArray,List.set_cons_zero,List.set_cons_succ]
  refine wpAnyH_take (i:=7) (oi:=(.mk (some 9) (.move (.tmp 16)) 155 "rules.go:188" #[.mk 6 .data] none)) (v:=?_) rfl (by kernel_rfl) (by kernel_rfl) (by kernel_rfl) (fun _ _ _ h=>h) (Or.inl ⟨by rfl,?_⟩) hC ?_
  rotate_left
  ·(intro w hSw;(try dsimp only at hSw);go_simp;try with_reducible rfl)
  try simp only [Act.put,List.setIfInBounds_toArray,List.set_cons_zero,List.set_cons_succ]
  refine wpAnyH_take (i:=8) (oi:=(.mk (some 17) (.extract (.tmp 9) 0) 3 "rules.go:188" #[.mk 7 .data] none)) (v:=?_) rfl (by kernel_rfl) (by kernel_rfl) (by kernel_rfl) (fun _ _ _ h=>h) (Or.inl ⟨by rfl,?_⟩) hC ?_
  rotate_left
  ·(intro w hSw;(try dsimp only at hSw);go_simp;try with_reducible rfl)
  try simp only [Act.put,List.setIfInBounds_toArray,List.set_cons_zero,List.set_cons_succ]
  refine wpAnyH_take (i:=9) (oi:=(.mk (some 18) (.extract (.tmp 9) 1) 4 "rules.go:188" #[.mk 7 .data,.mk 10 (.gcOnly .lateStores)] none)) (v:=?_) rfl (by kernel_rfl) (by kernel_rfl) (by kernel_rfl) (fun _ _ _ h=>h) (Or.inl ⟨by rfl,?_⟩) hC ?_
  rotate_left
  ·(intro w hSw;(try dsimp only at hSw);go_simp;try with_reducible rfl)
  try simp only [Act.put,List.setIfInBounds_toArray,List.set_cons_zero,List.set_cons_succ]
  refine wpAnyH_take (i:=10) (oi:=(.mk (some 4) (.assign (.tmp 17)) 3 "rules.go:188" #[.mk 8 .data,.mk 0 .phase,.mk 1 .phase,.mk 2 .phase,.mk 3 .phase,.mk 4 .phase,.mk 5 .phase,.mk 6 .phase,.mk 7 .phase,.mk 8 .phase,.mk 9 (.textOnly .lateStores)] none)) (v:=?_) rfl (by kernel_rfl) (by kernel_rfl) (by kernel_rfl) (fun _ _ _ h=>h) (Or.inl ⟨by rfl,?_⟩) hC ?_
  rotate_left
  ·(intro w hSw;(try dsimp only at hSw);go_simp;try with_reducible rfl)
  try simp only [Act.put,List.setIfInBounds_toArray,List.set_cons_zero,List.set_cons_succ]
  refine wpAnyH_take (i:=11) (oi:=(.mk (some 5) (.assign (.tmp 18)) 4 "rules.go:188" #[.mk 9 .data,.mk 10 .chain,.mk 0 .phase,.mk 1 .phase,.mk 2 .phase,.mk 3 .phase,.mk 4 .phase,.mk 5 .phase,.mk 6 .phase,.mk 7 .phase,.mk 8 .phase,.mk 9 .phase,.mk 10 .phase] none)) (v:=?_) rfl (by kernel_rfl) (by kernel_rfl) (by kernel_rfl) (fun _ _ _ h=>h) (Or.inl ⟨by rfl,?_⟩) hC ?_
  rotate_left
  ·(intro w hSw;(try dsimp only at hSw);go_simp;try with_reducible rfl)
  try simp only [Act.put,List.setIfInBounds_toArray,List.set_cons_zero,List.set_cons_succ]
  refine wpAnyH_done (by kernel_rfl) ?_ _
  obtain⟨s5,c5,c6,c9⟩:=hC
  rw [hal.out] at c6
  cases u<;>cases q<;>(
   simp only [Bool.not_true,Bool.not_false] at n1
   go_wp2_with fail
   go_ret
   exact⟨rfl,hB.out⟩)
 ·have d10:decide (c.op=10)=false:=decide_eq_false e10
  rw [d10]
  have n10:(c.op != 10)=true:=by simpa using e10
  go_enter Tryz.func148,Tryz.ntmps148
  go_upto_region 1 with fail
  generalize (W.alloc (.cells #[.int .i64 f,.int .i64 k,.int .i64 i,.pointer (some ⟨b,o,none⟩),.pointer (some ⟨b2,o2,none⟩),.pointer (some ⟨b3,o3,none⟩)] 144))=wb at hX hB hM ⊢
  replace hX:=Lib.hid hX
  obtain⟨s0,s1,s2,s3,s4,s5,f1,c0,c1,c5,c6,c7,hat,ra,rl,rc⟩:=hX.out
  go_wp2_with (first | (go_at_call 135;with_reducible refine Calls.mono (op_some c0) ?_;rintro e w2 ⟨rfl,hb⟩;replace hX:=Lib.hid (hX.out.keep hb);replace hM:=Lib.hid (hM.out.below hb);replace hB:=Lib.hid (hB.out.trans (hb.mono hB.out.size));obtain⟨s0,s1,s2,s3,s4,s5,f1,c0,c1,c5,c6,c7,hat,ra,rl,rc⟩:=hX.out) | fail)
  go_ret
  exact⟨rfl,hB.out⟩
end
section
open Go.RowKit Go.Maps Go.Shelf
theorem keeps13 {P:List Fun}(hP:POk P){m Bx:Nat}{W0:World}(hm:m=W0.heap.size):Keeps P m W0 147 #[.pointer (some ⟨Bx,0,none⟩)] (fun (_:Unit) x=>(bad13 (arityF P) x,())) () (fun _ U W=>∃bm,NumBx Bx (arityF P) U bm P.length W) where
 calm:=fun s U W W' ⟨bm,h⟩ hT=>⟨bm,h.calm hT⟩
 call:=fun s U x vs W ⟨pre,rest,e,es,hok⟩ hx hbel ⟨bm,hU⟩=>by
  have hf:=parts_fits hP.fits (partsCalls_at e)
  have hv:PrtV W x vs:=hx.below (by rw [←hm];exact hbel)
  have h1:Calls Tryz.prog 147 #[.agg vs,.pointer (some ⟨Bx,0,none⟩)] W fun e W'=>e=.returned (.bool (bad13 (arityF P) x))∧Below W.heap.size W W':=by
   cases x with
   | fn f d=>exact c13_fn hv hU
   | blk f k d x=>exact c13_blk hv hU
   | ins f k i d x c=>exact c13_ins hf hv hU
  refine Calls.mono h1 ?_
  rintro e' W' ⟨rfl,hb⟩
  exact⟨U,rfl,⟨bm,hU.below hb⟩,Touch.of_below hb _,fun k hk=>.inl hk⟩
set_option maxRecDepth 20000 in
set_option maxHeartbeats 2000000 in
theorem q13_any {P:List Fun}(hP:POk P){w:World}{v:Value}(h:RdE 3 RdFun w v P):Calls Tryz.prog 93 #[.agg #[v]] w fun e w'=>e=.returned (ansV (firstBad (fun (_:Unit) x=>(bad13 (arityF P) x,())) () (partsL P)))∧Below w.heap.size w w':=by
 obtain⟨a0,c0,rfl⟩:=h.form
 have hb0:Below w.heap.size w ((w.alloc (.cells #[.slice a0 P.length c0] 91)).alloc (.cells #[.int .i64 0,.int .i64 0,.int .i64 0] 53)):=((Below.refl _ _).alloc (Nat.le_refl _) _).alloc (by simp) _
 have hsz:((w.alloc (.cells #[.slice a0 P.length c0] 91)).alloc (.cells #[.int .i64 0,.int .i64 0,.int .i64 0] 53)).heap.size=w.heap.size+2:=by simp
 have hN:((w.alloc (.cells #[.slice a0 P.length c0] 91)).alloc (.cells #[.int .i64 0,.int .i64 0,.int .i64 0] 53)).heap[w.heap.size+1]?=some (.cells #[.int .i64 0,.int .i64 0,.int .i64 0] 53 (0,0)):=at_newN (by simp)
 have hl:((w.alloc (.cells #[.slice a0 P.length c0] 91)).alloc (.cells #[.int .i64 0,.int .i64 0,.int .i64 0] 53)).cell? ⟨w.heap.size,0,none⟩=some (.slice a0 P.length c0):=by rw [blk_cell (at_oldN (at_newN rfl))];rfl
 have hPb:RdE 3 RdFun ((w.alloc (.cells #[.slice a0 P.length c0] 91)).alloc (.cells #[.int .i64 0,.int .i64 0,.int .i64 0] 53)) (.slice a0 P.length c0) P:=RdE.below (fun _ _ h=>h.below hb0) h hb0
 have hmm:=@run_makeMap Tryz.prog
 unfold ansV ptA
 generalize hfb:firstBad (fun (_:Unit) x=>(bad13 (arityF P) x,())) () (partsL P)=fb
 go_enter Tryz.func93,Tryz.ntmps93
 go_upto_region 1 with fail
 generalize ((w.alloc (.cells #[.slice a0 P.length c0] 91)).alloc (.cells #[.int .i64 0,.int .i64 0,.int .i64 0] 53))=wb at hb0 hsz hN hl hPb ⊢
 have har:=Lib.hid (arities_any (fun d hd=>(hP.fits d hd).1) hP.l1 hP.l4 hPb)
 replace hb0:=Lib.hid hb0
 replace hN:=Lib.hid hN
 replace hPb:=Lib.hid hPb
 replace hfb:=Lib.hid hfb
 go_upto_region 2 with (go_at_call 146;refine Calls.mono har.out ?_;rintro e w1 ⟨bm,rfl,hge,hmp,hb1⟩;replace hmp:=Lib.hid hmp;replace hb1:=Lib.hid hb1)
 replace hb0:=hb0.out
 replace hN:=hN.out
 replace hPb:=hPb.out
 replace hfb:=hfb.out
 clear har
 obtain⟨wc,hwc⟩:∃wc,wc=w1.alloc (.cells #[.map (some bm)] 153):=⟨_,rfl⟩
 have hbc:Below wb.heap.size wb wc:=by rw [hwc];exact hb1.out.alloc hb1.out.size _
 have hI:∃bz,NumBx w1.heap.size (arityF P) (fun j=>j=w1.heap.size∨j=bm) bz P.length wc:=⟨bm,by rw [hwc];exact at_newN rfl,by rw [hwc];exact hmp.out.block (Below.heap_alloc _ _ _ hmp.out.lt),fun j=>Iff.rfl⟩
 have hsb:=hb1.out.size
 have hml:=hmp.out.lt
 have hw:=where_any (W0:=wb) (keeps13 (Bx:=w1.heap.size) hP rfl) (enters_of Tryz.func147 (by kernel_rfl) rfl) rfl hPb hbc (U0:=fun j=>j=w1.heap.size∨j=bm) (fun k hk=>by rw [hwc];simp;omega) hI hP.l1 hP.l2 hP.l3
 rw [hfb] at hw
 unfold ptA at hw
 have hlc:=keepC hbc hl
 clear hl
 replace hb0:=Lib.hid hb0
 replace hN:=Lib.hid hN
 replace hw:=Lib.hid hw
 clear h hPb hfb hI hmp hb1
 replace hbc:=Lib.hid hbc
 rw [←hwc]
 replace hwc:=Lib.hid hwc
 go_wp2_with fail
 refine hw.out.mono ?_
 rintro e w2 ⟨rfl,hb2⟩
 have hN2:=(hb2.block _ (Array.getElem?_eq_some_iff.1 hN.out).1).trans hN.out
 have hf:=Lib.hid (show Below w.heap.size w ((((w2.setCell ⟨w.heap.size+1,0,none⟩ (.int .i64 (resAt fb).1)).setCell ⟨w.heap.size+1,1,none⟩ (.int .i64 (resAt fb).2.1)).setCell ⟨w.heap.size+1,2,none⟩ (.int .i64 (resAt fb).2.2))) from (((hb0.out.trans (hb2.mono hb0.out.size)).setCell (p:=⟨w.heap.size+1,0,none⟩) (Nat.le_succ _) _).setCell (p:=⟨w.heap.size+1,1,none⟩) (Nat.le_succ _) _).setCell (p:=⟨w.heap.size+1,2,none⟩) (Nat.le_succ _) _)
 have hN3:=Lib.hid (set_three (v0:=.int .i64 (resAt fb).1) (v1:=.int .i64 (resAt fb).2.1) (v2:=.int .i64 (resAt fb).2.2) hN2)
 have z0:w2.cell? ⟨w.heap.size+1,0,none⟩=some (.int .i64 0):=by rw [blk_cell hN2];rfl
 have z1:w2.cell? ⟨w.heap.size+1,1,none⟩=some (.int .i64 0):=by rw [blk_cell hN2];rfl
 have z2:w2.cell? ⟨w.heap.size+1,2,none⟩=some (.int .i64 0):=by rw [blk_cell hN2];rfl
 have y0:w2.frozen? ⟨w.heap.size+1,0,none⟩=false:=by simp [World.frozen?,hN2]
 have y1:w2.frozen? ⟨w.heap.size+1,1,none⟩=false:=by simp [World.frozen?,hN2]
 have y2:w2.frozen? ⟨w.heap.size+1,2,none⟩=false:=by simp [World.frozen?,hN2]
 clear hb2 hN2 hw hlc
 go_wp2_with fail
 generalize (((w2.setCell ⟨w.heap.size+1,0,none⟩ (.int .i64 (resAt fb).1)).setCell ⟨w.heap.size+1,1,none⟩ (.int .i64 (resAt fb).2.1)).setCell ⟨w.heap.size+1,2,none⟩ (.int .i64 (resAt fb).2.2))=w3 at hf hN3 ⊢
 have c0:w3.cell? ⟨w.heap.size+1,0,none⟩=some (.int .i64 (resAt fb).1):=by rw [blk_cell hN3.out];rfl
 have c1:w3.cell? ⟨w.heap.size+1,1,none⟩=some (.int .i64 (resAt fb).2.1):=by rw [blk_cell hN3.out];rfl
 have c2:w3.cell? ⟨w.heap.size+1,2,none⟩=some (.int .i64 (resAt fb).2.2):=by rw [blk_cell hN3.out];rfl
 exact bodyPost_ret (v:=.tuple #[.agg #[.int .i64 (resAt fb).1,.int .i64 (resAt fb).2.1,.int .i64 (resAt fb).2.2],.bool fb.isSome]) (by simp [results,Tryz.results93,go_sem,c0,c1,c2]) rfl ⟨rfl,hf.out⟩
theorem keeps14 {P:List Fun}(hP:POk P){m Bx:Nat}{W0:World}(hm:m=W0.heap.size):Keeps P m W0 148 #[.pointer (some ⟨Bx,0,none⟩)] (fun (_:Unit) x=>(bad14 (arityF P) x,())) () (fun _ U W=>∃bm,NumBx Bx (arityF P) U bm P.length W) where
 calm:=fun s U W W' ⟨bm,h⟩ hT=>⟨bm,h.calm hT⟩
 call:=fun s U x vs W ⟨pre,rest,e,es,hok⟩ hx hbel ⟨bm,hU⟩=>by
  have hf:=parts_fits hP.fits (partsCalls_at e)
  have hv:PrtV W x vs:=hx.below (by rw [←hm];exact hbel)
  have h1:Calls Tryz.prog 148 #[.agg vs,.pointer (some ⟨Bx,0,none⟩)] W fun e W'=>e=.returned (.bool (bad14 (arityF P) x))∧Below W.heap.size W W':=by
   cases x with
   | fn f d=>exact c14_fn hv hU
   | blk f k d x=>exact c14_blk hv hU
   | ins f k i d x c=>exact c14_ins hf hv hU
  refine Calls.mono h1 ?_
  rintro e' W' ⟨rfl,hb⟩
  exact⟨U,rfl,⟨bm,hU.below hb⟩,Touch.of_below hb _,fun k hk=>.inl hk⟩
set_option maxRecDepth 20000 in
set_option maxHeartbeats 2000000 in
theorem q14_any {P:List Fun}(hP:POk P){w:World}{v:Value}(h:RdE 3 RdFun w v P):Calls Tryz.prog 94 #[.agg #[v]] w fun e w'=>e=.returned (ansV (firstBad (fun (_:Unit) x=>(bad14 (arityF P) x,())) () (partsL P)))∧Below w.heap.size w w':=by
 obtain⟨a0,c0,rfl⟩:=h.form
 have hb0:Below w.heap.size w ((w.alloc (.cells #[.slice a0 P.length c0] 91)).alloc (.cells #[.int .i64 0,.int .i64 0,.int .i64 0] 53)):=((Below.refl _ _).alloc (Nat.le_refl _) _).alloc (by simp) _
 have hsz:((w.alloc (.cells #[.slice a0 P.length c0] 91)).alloc (.cells #[.int .i64 0,.int .i64 0,.int .i64 0] 53)).heap.size=w.heap.size+2:=by simp
 have hN:((w.alloc (.cells #[.slice a0 P.length c0] 91)).alloc (.cells #[.int .i64 0,.int .i64 0,.int .i64 0] 53)).heap[w.heap.size+1]?=some (.cells #[.int .i64 0,.int .i64 0,.int .i64 0] 53 (0,0)):=at_newN (by simp)
 have hl:((w.alloc (.cells #[.slice a0 P.length c0] 91)).alloc (.cells #[.int .i64 0,.int .i64 0,.int .i64 0] 53)).cell? ⟨w.heap.size,0,none⟩=some (.slice a0 P.length c0):=by rw [blk_cell (at_oldN (at_newN rfl))];rfl
 have hPb:RdE 3 RdFun ((w.alloc (.cells #[.slice a0 P.length c0] 91)).alloc (.cells #[.int .i64 0,.int .i64 0,.int .i64 0] 53)) (.slice a0 P.length c0) P:=RdE.below (fun _ _ h=>h.below hb0) h hb0
 have hmm:=@run_makeMap Tryz.prog
 unfold ansV ptA
 generalize hfb:firstBad (fun (_:Unit) x=>(bad14 (arityF P) x,())) () (partsL P)=fb
 go_enter Tryz.func94,Tryz.ntmps94
 go_upto_region 1 with fail
 generalize ((w.alloc (.cells #[.slice a0 P.length c0] 91)).alloc (.cells #[.int .i64 0,.int .i64 0,.int .i64 0] 53))=wb at hb0 hsz hN hl hPb ⊢
 have har:=Lib.hid (arities_any (fun d hd=>(hP.fits d hd).1) hP.l1 hP.l4 hPb)
 replace hb0:=Lib.hid hb0
 replace hN:=Lib.hid hN
 replace hPb:=Lib.hid hPb
 replace hfb:=Lib.hid hfb
 go_upto_region 2 with (go_at_call 146;refine Calls.mono har.out ?_;rintro e w1 ⟨bm,rfl,hge,hmp,hb1⟩;replace hmp:=Lib.hid hmp;replace hb1:=Lib.hid hb1)
 replace hb0:=hb0.out
 replace hN:=hN.out
 replace hPb:=hPb.out
 replace hfb:=hfb.out
 clear har
 obtain⟨wc,hwc⟩:∃wc,wc=w1.alloc (.cells #[.map (some bm)] 153):=⟨_,rfl⟩
 have hbc:Below wb.heap.size wb wc:=by rw [hwc];exact hb1.out.alloc hb1.out.size _
 have hI:∃bz,NumBx w1.heap.size (arityF P) (fun j=>j=w1.heap.size∨j=bm) bz P.length wc:=⟨bm,by rw [hwc];exact at_newN rfl,by rw [hwc];exact hmp.out.block (Below.heap_alloc _ _ _ hmp.out.lt),fun j=>Iff.rfl⟩
 have hsb:=hb1.out.size
 have hml:=hmp.out.lt
 have hw:=where_any (W0:=wb) (keeps14 (Bx:=w1.heap.size) hP rfl) (enters_of Tryz.func148 (by kernel_rfl) rfl) rfl hPb hbc (U0:=fun j=>j=w1.heap.size∨j=bm) (fun k hk=>by rw [hwc];simp;omega) hI hP.l1 hP.l2 hP.l3
 rw [hfb] at hw
 unfold ptA at hw
 have hlc:=keepC hbc hl
 clear hl
 replace hb0:=Lib.hid hb0
 replace hN:=Lib.hid hN
 replace hw:=Lib.hid hw
 clear h hPb hfb hI hmp hb1
 replace hbc:=Lib.hid hbc
 rw [←hwc]
 replace hwc:=Lib.hid hwc
 go_wp2_with fail
 refine hw.out.mono ?_
 rintro e w2 ⟨rfl,hb2⟩
 have hN2:=(hb2.block _ (Array.getElem?_eq_some_iff.1 hN.out).1).trans hN.out
 have hf:=Lib.hid (show Below w.heap.size w ((((w2.setCell ⟨w.heap.size+1,0,none⟩ (.int .i64 (resAt fb).1)).setCell ⟨w.heap.size+1,1,none⟩ (.int .i64 (resAt fb).2.1)).setCell ⟨w.heap.size+1,2,none⟩ (.int .i64 (resAt fb).2.2))) from (((hb0.out.trans (hb2.mono hb0.out.size)).setCell (p:=⟨w.heap.size+1,0,none⟩) (Nat.le_succ _) _).setCell (p:=⟨w.heap.size+1,1,none⟩) (Nat.le_succ _) _).setCell (p:=⟨w.heap.size+1,2,none⟩) (Nat.le_succ _) _)
 have hN3:=Lib.hid (set_three (v0:=.int .i64 (resAt fb).1) (v1:=.int .i64 (resAt fb).2.1) (v2:=.int .i64 (resAt fb).2.2) hN2)
 have z0:w2.cell? ⟨w.heap.size+1,0,none⟩=some (.int .i64 0):=by rw [blk_cell hN2];rfl
 have z1:w2.cell? ⟨w.heap.size+1,1,none⟩=some (.int .i64 0):=by rw [blk_cell hN2];rfl
 have z2:w2.cell? ⟨w.heap.size+1,2,none⟩=some (.int .i64 0):=by rw [blk_cell hN2];rfl
 have y0:w2.frozen? ⟨w.heap.size+1,0,none⟩=false:=by simp [World.frozen?,hN2]
 have y1:w2.frozen? ⟨w.heap.size+1,1,none⟩=false:=by simp [World.frozen?,hN2]
 have y2:w2.frozen? ⟨w.heap.size+1,2,none⟩=false:=by simp [World.frozen?,hN2]
 clear hb2 hN2 hw hlc
 go_wp2_with fail
 generalize (((w2.setCell ⟨w.heap.size+1,0,none⟩ (.int .i64 (resAt fb).1)).setCell ⟨w.heap.size+1,1,none⟩ (.int .i64 (resAt fb).2.1)).setCell ⟨w.heap.size+1,2,none⟩ (.int .i64 (resAt fb).2.2))=w3 at hf hN3 ⊢
 have c0:w3.cell? ⟨w.heap.size+1,0,none⟩=some (.int .i64 (resAt fb).1):=by rw [blk_cell hN3.out];rfl
 have c1:w3.cell? ⟨w.heap.size+1,1,none⟩=some (.int .i64 (resAt fb).2.1):=by rw [blk_cell hN3.out];rfl
 have c2:w3.cell? ⟨w.heap.size+1,2,none⟩=some (.int .i64 (resAt fb).2.2):=by rw [blk_cell hN3.out];rfl
 exact bodyPost_ret (v:=.tuple #[.agg #[.int .i64 (resAt fb).1,.int .i64 (resAt fb).2.1,.int .i64 (resAt fb).2.2],.bool fb.isSome]) (by simp [results,Tryz.results94,go_sem,c0,c1,c2]) rfl ⟨rfl,hf.out⟩
end
end Go.Proofs.YtknkiaedgeejiaaGreatDoor
