/- NRuleA, NQuest, NState. -/
import Derived.Test.YtknkiaedgeejiaaGreatDoorSP4
namespace Go.Proofs.YtknkiaedgeejiaaGreatDoor
set_option linter.unusedVariables false
set_option linter.unusedSimpArgs false
section
open Go.RowKit Go.Maps
theorem allN_one {u:Bool}{w:World}{s:ByteArray}(hs:s.size≤maxLen)(hu:isName s=u):Calls Tryz.prog 127 #[.slice (some ⟨w.heap.size,0,none⟩) 1 1] (w.alloc (.cells #[.string s] 9)) fun e w'=>e=.returned (.bool u)∧(w.alloc (.cells #[.string s] 9))=w':=
 allN_eq (rds_one (at_newN rfl)) (by unfold maxLen;simp) (fun x hx=>by rw [List.mem_singleton.1 hx];exact hs) (by simpa using hu)
set_option maxRecDepth 20000 in
set_option maxHeartbeats 2000000 in
theorem c2_fn {w:World}{f:Nat}{d:Fun}{vs:Array Value}(hf:(Prt.fn f d).Fits)(h:PrtV w (Prt.fn f d) vs):Calls Tryz.prog 125 #[.agg vs] w fun e w'=>e=.returned (.bool (!isName d.name || !d.params.all isName))∧Below w.heap.size w w':=by
 obtain⟨b,o,pa,ba,pc,bc,rfl,hX⟩:=FnBox.mk' h
 have hB:=Lib.hid (box_below w (.cells #[.int .i64 f,.int .i64 0,.int .i64 0,.pointer (some ⟨b,o,none⟩),.pointer none,.pointer none] 144))
 obtain⟨z1,z2,z3,z4,z5⟩:=hf
 obtain⟨u1,hu1⟩:∃u,isName d.name=u:=⟨_,rfl⟩
 obtain⟨u2,hu2⟩:∃u,d.params.all isName=u:=⟨_,rfl⟩
 rw [hu1,hu2]
 have k1:=Lib.hid (fun w=>allN_one (w:=w) z1 hu1)
 have k2:=Lib.hid (fun w v (h:RdS w v d.params)=>allN_eq h z4 z2 hu2)
 clear hu1 hu2 z1 z2 z3 z5
 clear h
 cases u1<;>cases u2<;>(
  go_enter Tryz.func125,Tryz.ntmps125
  go_upto_region 1 with fail
  generalize (w.alloc (.cells #[.int .i64 f,.int .i64 0,.int .i64 0,.pointer (some ⟨b,o,none⟩),.pointer none,.pointer none] 144))=wb at hX hB ⊢
  replace hX:=Lib.hid hX
  obtain⟨s0,s1,s2,s3,s4,s5,f0,f1,f2,rp,rb⟩:=hX.out
  go_wp2_with (first
   | (go_at_call 126;with_reducible refine Calls.mono (isFunc_v) ?_;rintro e w2 ⟨rfl,hb⟩;replace hX:=Lib.hid (hX.out.keep hb);replace hB:=Lib.hid (hB.out.trans (hb.mono hB.out.size));obtain⟨s0,s1,s2,s3,s4,s5,f0,f1,f2,rp,rb⟩:=hX.out)
   | (go_at_call 127;with_reducible refine Calls.mono (k1.out _) ?_;rintro e w3 ⟨rfl,rfl⟩;replace hX:=Lib.hid (hX.out.keep (box_below _ (.cells #[.string d.name] 9)));replace hB:=Lib.hid (hB.out.trans ((box_below _ (.cells #[.string d.name] 9)).mono hB.out.size));obtain⟨s0,s1,s2,s3,s4,s5,f0,f1,f2,rp,rb⟩:=hX.out)
   | (go_at_call 127;refine Calls.mono (k2.out _ _ rp) ?_;rintro e w3 ⟨rfl,rfl⟩)
   | fail)
  go_ret
  exact⟨rfl,hB.out⟩)
set_option maxRecDepth 20000 in
set_option maxHeartbeats 2000000 in
theorem c2_blk {w:World}{f k:Nat}{d:Fun}{x:Blk}{vs:Array Value}(hf:(Prt.blk f k d x).Fits)(h:PrtV w (Prt.blk f k d x) vs):Calls Tryz.prog 125 #[.agg vs] w fun e w'=>e=.returned (.bool (!isName x.label))∧Below w.heap.size w w':=by
 obtain⟨b,o,b2,o2,ca,cc,rfl,hX⟩:=BlkBox.mk' h
 have hB:=Lib.hid (box_below w (.cells #[.int .i64 f,.int .i64 k,.int .i64 0,.pointer (some ⟨b,o,none⟩),.pointer (some ⟨b2,o2,none⟩),.pointer none] 144))
 obtain⟨-,z1,z2,z3⟩:=hf
 obtain⟨u1,hu1⟩:∃u,isName x.label=u:=⟨_,rfl⟩
 rw [hu1]
 have k1:=Lib.hid (fun w=>allN_one (w:=w) z1 hu1)
 clear hu1 z1 z2 z3
 clear h
 cases u1<;>(
  go_enter Tryz.func125,Tryz.ntmps125
  go_upto_region 1 with fail
  generalize (w.alloc (.cells #[.int .i64 f,.int .i64 k,.int .i64 0,.pointer (some ⟨b,o,none⟩),.pointer (some ⟨b2,o2,none⟩),.pointer none] 144))=wb at hX hB ⊢
  replace hX:=Lib.hid hX
  obtain⟨s0,s1,s2,s3,s4,s5,f0,f1⟩:=hX.out
  go_wp2_with (first
   | (go_at_call 126;with_reducible refine Calls.mono (isFunc_v) ?_;rintro e w2 ⟨rfl,hb⟩;replace hX:=Lib.hid (hX.out.keep hb);replace hB:=Lib.hid (hB.out.trans (hb.mono hB.out.size));obtain⟨s0,s1,s2,s3,s4,s5,f0,f1⟩:=hX.out)
   | (go_at_call 128;with_reducible refine Calls.mono (isBlock_v) ?_;rintro e w2 ⟨rfl,hb⟩;replace hX:=Lib.hid (hX.out.keep hb);replace hB:=Lib.hid (hB.out.trans (hb.mono hB.out.size));obtain⟨s0,s1,s2,s3,s4,s5,f0,f1⟩:=hX.out)
   | (go_at_call 127;with_reducible refine Calls.mono (k1.out _) ?_;rintro e w3 ⟨rfl,rfl⟩;replace hB:=Lib.hid (hB.out.trans ((box_below _ (.cells #[.string x.label] 9)).mono hB.out.size)))
   | fail)
  go_ret
  exact⟨rfl,hB.out⟩)
set_option maxRecDepth 20000 in
set_option maxHeartbeats 2000000 in
theorem c2_ins {w:World}{f k i:Nat}{d:Fun}{x:Blk}{c:Ins}{vs:Array Value}(hf:(Prt.ins f k i d x c).Fits)(h:PrtV w (Prt.ins f k i d x c) vs):Calls Tryz.prog 125 #[.agg vs] w fun e w'=>e=.returned (.bool (badNamesB c))∧Below w.heap.size w w':=by
 obtain⟨b,o,b2,o2,b3,o3,ca,aa,la,cc,ac,lc,rfl,hX⟩:=InsBox.mk' h
 have hB:=Lib.hid (box_below w (.cells #[.int .i64 f,.int .i64 k,.int .i64 i,.pointer (some ⟨b,o,none⟩),.pointer (some ⟨b2,o2,none⟩),.pointer (some ⟨b3,o3,none⟩)] 144))
 obtain⟨-,⟨-,-,z3⟩,z4,z5⟩:=hf
 have k1:=Lib.hid (fun w' (h:InsAt w' b3 o3 c)=>badNames_any h z4)
 generalize badNamesB c=q at k1 ⊢
 clear z3 z4 z5
 clear h
 go_enter Tryz.func125,Tryz.ntmps125
 go_upto_region 1 with fail
 generalize (w.alloc (.cells #[.int .i64 f,.int .i64 k,.int .i64 i,.pointer (some ⟨b,o,none⟩),.pointer (some ⟨b2,o2,none⟩),.pointer (some ⟨b3,o3,none⟩)] 144))=wb at hX hB ⊢
 replace hX:=Lib.hid hX
 obtain⟨s0,s1,s2,s3,s4,s5,f1,c0,c1,c5,c6,c7,hat,ra,rl,rc⟩:=hX.out
 go_wp2_with (first
  | (go_at_call 126;with_reducible refine Calls.mono (isFunc_v) ?_;rintro e w2 ⟨rfl,hb⟩;replace hX:=Lib.hid (hX.out.keep hb);replace hB:=Lib.hid (hB.out.trans (hb.mono hB.out.size));obtain⟨s0,s1,s2,s3,s4,s5,f1,c0,c1,c5,c6,c7,hat,ra,rl,rc⟩:=hX.out)
  | (go_at_call 128;with_reducible refine Calls.mono (isBlock_v) ?_;rintro e w2 ⟨rfl,hb⟩;replace hX:=Lib.hid (hX.out.keep hb);replace hB:=Lib.hid (hB.out.trans (hb.mono hB.out.size));obtain⟨s0,s1,s2,s3,s4,s5,f1,c0,c1,c5,c6,c7,hat,ra,rl,rc⟩:=hX.out)
  | (go_at_call 129;with_reducible refine Calls.mono (k1.out _ hat) ?_;rintro e w2 ⟨rfl,hb⟩;replace hX:=Lib.hid (hX.out.keep hb);replace hB:=Lib.hid (hB.out.trans (hb.mono hB.out.size));obtain⟨s0,s1,s2,s3,s4,s5,f1,c0,c1,c5,c6,c7,hat,ra,rl,rc⟩:=hX.out)
  | fail)
 go_ret
 exact⟨rfl,hB.out⟩
set_option maxRecDepth 20000 in
set_option maxHeartbeats 2000000 in
theorem c5_fn {w:World}{f:Nat}{d:Fun}{vs:Array Value}(hf:(Prt.fn f d).Fits)(h:PrtV w (Prt.fn f d) vs):Calls Tryz.prog 133 #[.agg vs] w fun e w'=>e=.returned (.bool (decide (d.params.length > 8)))∧Below w.heap.size w w':=by
 obtain⟨b,o,pa,ba,pc,bc,rfl,hX⟩:=FnBox.mk' h
 have hB:=Lib.hid (box_below w (.cells #[.int .i64 f,.int .i64 0,.int .i64 0,.pointer (some ⟨b,o,none⟩),.pointer none,.pointer none] 144))
 obtain⟨z1,z2,z3,z4,z5⟩:=hf
 obtain⟨n,hn⟩:∃n,n=d.params.length:=⟨_,rfl⟩
 rw [←hn] at z4 ⊢
 unfold maxLen at z4
 replace hn:=Lib.hid hn
 have j1:decide ((n:Int) > 8)=decide (n > 8):=decide_eq_decide.2 (by omega)
 generalize decide (n > 8)=q at j1 ⊢
 clear z1 z2 z3 z5
 clear h
 cases q<;>(
  go_enter Tryz.func133,Tryz.ntmps133
  go_upto_region 1 with fail
  generalize (w.alloc (.cells #[.int .i64 f,.int .i64 0,.int .i64 0,.pointer (some ⟨b,o,none⟩),.pointer none,.pointer none] 144))=wb at hX hB ⊢
  replace hX:=Lib.hid hX
  obtain⟨s0,s1,s2,s3,s4,s5,f0,f1,f2,rp,rb⟩:=hX.out
  rw [←hn.out] at f1
  go_wp2_with (first
   | (go_at_call 126;with_reducible refine Calls.mono (isFunc_v) ?_;rintro e w2 ⟨rfl,hb⟩;replace hX:=Lib.hid (hX.out.keep hb);replace hB:=Lib.hid (hB.out.trans (hb.mono hB.out.size));obtain⟨s0,s1,s2,s3,s4,s5,f0,f1,f2,rp,rb⟩:=hX.out;rw [←hn.out] at f1)
   | fail)
  go_ret
  exact⟨rfl,hB.out⟩)
set_option maxRecDepth 20000 in
set_option maxHeartbeats 2000000 in
theorem c5_blk {w:World}{f k:Nat}{d:Fun}{x:Blk}{vs:Array Value}(hf:(Prt.blk f k d x).Fits)(h:PrtV w (Prt.blk f k d x) vs):Calls Tryz.prog 133 #[.agg vs] w fun e w'=>e=.returned (.bool (false))∧Below w.heap.size w w':=by
 obtain⟨b,o,b2,o2,ca,cc,rfl,hX⟩:=BlkBox.mk' h
 have hB:=Lib.hid (box_below w (.cells #[.int .i64 f,.int .i64 k,.int .i64 0,.pointer (some ⟨b,o,none⟩),.pointer (some ⟨b2,o2,none⟩),.pointer none] 144))
 obtain⟨-,z1,z2,z3⟩:=hf
 have k1:=Lib.hid (fun w=>isCall_any 0 w)
 clear z1 z2 z3
 clear h
 go_enter Tryz.func133,Tryz.ntmps133
 go_upto_region 1 with fail
 generalize (w.alloc (.cells #[.int .i64 f,.int .i64 k,.int .i64 0,.pointer (some ⟨b,o,none⟩),.pointer (some ⟨b2,o2,none⟩),.pointer none] 144))=wb at hX hB ⊢
 replace hX:=Lib.hid hX
 obtain⟨s0,s1,s2,s3,s4,s5,f0,f1⟩:=hX.out
 go_wp2_with (first
  | (go_at_call 126;with_reducible refine Calls.mono (isFunc_v) ?_;rintro e w2 ⟨rfl,hb⟩;replace hX:=Lib.hid (hX.out.keep hb);replace hB:=Lib.hid (hB.out.trans (hb.mono hB.out.size));obtain⟨s0,s1,s2,s3,s4,s5,f0,f1⟩:=hX.out)
  | (go_at_call 135;with_reducible refine Calls.mono (op_none) ?_;rintro e w2 ⟨rfl,hb⟩;replace hX:=Lib.hid (hX.out.keep hb);replace hB:=Lib.hid (hB.out.trans (hb.mono hB.out.size));obtain⟨s0,s1,s2,s3,s4,s5,f0,f1⟩:=hX.out)
  | (go_at_call 134;with_reducible refine Calls.mono (k1.out _) ?_;rintro e w2 ⟨rfl,rfl⟩)
  | fail)
 go_ret
 exact⟨rfl,hB.out⟩
set_option maxRecDepth 20000 in
set_option maxHeartbeats 2000000 in
theorem c5_ins {w:World}{f k i:Nat}{d:Fun}{x:Blk}{c:Ins}{vs:Array Value}(hf:(Prt.ins f k i d x c).Fits)(h:PrtV w (Prt.ins f k i d x c) vs):Calls Tryz.prog 133 #[.agg vs] w fun e w'=>e=.returned (.bool (isCallB c.op&&decide (c.args.length > 8)))∧Below w.heap.size w w':=by
 obtain⟨b,o,b2,o2,b3,o3,ca,aa,la,cc,ac,lc,rfl,hX⟩:=InsBox.mk' h
 have hB:=Lib.hid (box_below w (.cells #[.int .i64 f,.int .i64 k,.int .i64 i,.pointer (some ⟨b,o,none⟩),.pointer (some ⟨b2,o2,none⟩),.pointer (some ⟨b3,o3,none⟩)] 144))
 obtain⟨-,⟨-,-,z3⟩,z4,z5⟩:=hf
 have za:=z4.2.2.2.2.2.2.2.2.2.1
 obtain⟨n,hn⟩:∃n,n=c.args.length:=⟨_,rfl⟩
 rw [←hn] at za ⊢
 unfold maxLen at za
 replace hn:=Lib.hid hn
 have j1:decide ((n:Int) > 8)=decide (n > 8):=decide_eq_decide.2 (by omega)
 generalize decide (n > 8)=q at j1 ⊢
 have k1:=Lib.hid (fun w=>isCall_any c.op w)
 generalize isCallB c.op=u at k1 ⊢
 clear z3 z4 z5
 clear h
 cases q<;>cases u<;>(
  go_enter Tryz.func133,Tryz.ntmps133
  go_upto_region 1 with fail
  generalize (w.alloc (.cells #[.int .i64 f,.int .i64 k,.int .i64 i,.pointer (some ⟨b,o,none⟩),.pointer (some ⟨b2,o2,none⟩),.pointer (some ⟨b3,o3,none⟩)] 144))=wb at hX hB ⊢
  replace hX:=Lib.hid hX
  obtain⟨s0,s1,s2,s3,s4,s5,f1,c0,c1,c5,c6,c7,hat,ra,rl,rc⟩:=hX.out
  go_wp2_with (first
   | (go_at_call 126;with_reducible refine Calls.mono (isFunc_v) ?_;rintro e w2 ⟨rfl,hb⟩;replace hX:=Lib.hid (hX.out.keep hb);replace hB:=Lib.hid (hB.out.trans (hb.mono hB.out.size));obtain⟨s0,s1,s2,s3,s4,s5,f1,c0,c1,c5,c6,c7,hat,ra,rl,rc⟩:=hX.out;rw [←hn.out] at c6)
   | (go_at_call 135;with_reducible refine Calls.mono (op_some c0) ?_;rintro e w2 ⟨rfl,hb⟩;replace hX:=Lib.hid (hX.out.keep hb);replace hB:=Lib.hid (hB.out.trans (hb.mono hB.out.size));obtain⟨s0,s1,s2,s3,s4,s5,f1,c0,c1,c5,c6,c7,hat,ra,rl,rc⟩:=hX.out;rw [←hn.out] at c6)
   | (go_at_call 134;with_reducible refine Calls.mono (k1.out _) ?_;rintro e w2 ⟨rfl,rfl⟩)
   | fail)
  go_ret
  exact⟨rfl,hB.out⟩)
set_option maxRecDepth 20000 in
set_option maxHeartbeats 2000000 in
theorem c6_fn {w:World}{f:Nat}{d:Fun}{vs:Array Value}(hf:(Prt.fn f d).Fits)(h:PrtV w (Prt.fn f d) vs):Calls Tryz.prog 136 #[.agg vs] w fun e w'=>e=.returned (.bool (decide (d.blocks.length=0) || decide (d.blocks.length > 64)))∧Below w.heap.size w w':=by
 obtain⟨b,o,pa,ba,pc,bc,rfl,hX⟩:=FnBox.mk' h
 have hB:=Lib.hid (box_below w (.cells #[.int .i64 f,.int .i64 0,.int .i64 0,.pointer (some ⟨b,o,none⟩),.pointer none,.pointer none] 144))
 obtain⟨z1,z2,z3,z4,z5⟩:=hf
 obtain⟨n,hn⟩:∃n,n=d.blocks.length:=⟨_,rfl⟩
 rw [←hn] at z5 ⊢
 unfold maxLen at z5
 replace hn:=Lib.hid hn
 have j1:decide ((n:Int) > 64)=decide (n > 64):=decide_eq_decide.2 (by omega)
 have j2:((n:Int)==0)=decide (n=0):=by by_cases e:n=0<;>simp [e]
 generalize decide (n > 64)=q at j1 ⊢
 generalize decide (n=0)=u at j2 ⊢
 clear z1 z2 z3 z4
 clear h
 cases q<;>cases u<;>(
  go_enter Tryz.func136,Tryz.ntmps136
  go_upto_region 1 with fail
  generalize (w.alloc (.cells #[.int .i64 f,.int .i64 0,.int .i64 0,.pointer (some ⟨b,o,none⟩),.pointer none,.pointer none] 144))=wb at hX hB ⊢
  replace hX:=Lib.hid hX
  obtain⟨s0,s1,s2,s3,s4,s5,f0,f1,f2,rp,rb⟩:=hX.out
  go_wp2_with (first
   | (go_at_call 126;with_reducible refine Calls.mono (isFunc_v) ?_;rintro e w2 ⟨rfl,hb⟩;replace hX:=Lib.hid (hX.out.keep hb);replace hB:=Lib.hid (hB.out.trans (hb.mono hB.out.size));obtain⟨s0,s1,s2,s3,s4,s5,f0,f1,f2,rp,rb⟩:=hX.out;rw [←hn.out] at f2)
   | fail)
  go_ret
  exact⟨rfl,hB.out⟩)
set_option maxRecDepth 20000 in
set_option maxHeartbeats 2000000 in
theorem c6_blk {w:World}{f k:Nat}{d:Fun}{x:Blk}{vs:Array Value}(hf:(Prt.blk f k d x).Fits)(h:PrtV w (Prt.blk f k d x) vs):Calls Tryz.prog 136 #[.agg vs] w fun e w'=>e=.returned (.bool (false))∧Below w.heap.size w w':=by
 obtain⟨b,o,b2,o2,ca,cc,rfl,hX⟩:=BlkBox.mk' h
 have hB:=Lib.hid (box_below w (.cells #[.int .i64 f,.int .i64 k,.int .i64 0,.pointer (some ⟨b,o,none⟩),.pointer (some ⟨b2,o2,none⟩),.pointer none] 144))
 obtain⟨-,z1,z2,z3⟩:=hf
 clear z1 z2 z3
 clear h
 go_enter Tryz.func136,Tryz.ntmps136
 go_upto_region 1 with fail
 generalize (w.alloc (.cells #[.int .i64 f,.int .i64 k,.int .i64 0,.pointer (some ⟨b,o,none⟩),.pointer (some ⟨b2,o2,none⟩),.pointer none] 144))=wb at hX hB ⊢
 replace hX:=Lib.hid hX
 obtain⟨s0,s1,s2,s3,s4,s5,f0,f1⟩:=hX.out
 go_wp2_with (first
  | (go_at_call 126;with_reducible refine Calls.mono (isFunc_v) ?_;rintro e w2 ⟨rfl,hb⟩;replace hX:=Lib.hid (hX.out.keep hb);replace hB:=Lib.hid (hB.out.trans (hb.mono hB.out.size));obtain⟨s0,s1,s2,s3,s4,s5,f0,f1⟩:=hX.out)
  | fail)
 go_ret
 exact⟨rfl,hB.out⟩
set_option maxRecDepth 20000 in
set_option maxHeartbeats 2000000 in
theorem c6_ins {w:World}{f k i:Nat}{d:Fun}{x:Blk}{c:Ins}{vs:Array Value}(hf:(Prt.ins f k i d x c).Fits)(h:PrtV w (Prt.ins f k i d x c) vs):Calls Tryz.prog 136 #[.agg vs] w fun e w'=>e=.returned (.bool (false))∧Below w.heap.size w w':=by
 obtain⟨b,o,b2,o2,b3,o3,ca,aa,la,cc,ac,lc,rfl,hX⟩:=InsBox.mk' h
 have hB:=Lib.hid (box_below w (.cells #[.int .i64 f,.int .i64 k,.int .i64 i,.pointer (some ⟨b,o,none⟩),.pointer (some ⟨b2,o2,none⟩),.pointer (some ⟨b3,o3,none⟩)] 144))
 obtain⟨-,⟨-,-,z3⟩,z4,z5⟩:=hf
 clear z3 z4 z5
 clear h
 go_enter Tryz.func136,Tryz.ntmps136
 go_upto_region 1 with fail
 generalize (w.alloc (.cells #[.int .i64 f,.int .i64 k,.int .i64 i,.pointer (some ⟨b,o,none⟩),.pointer (some ⟨b2,o2,none⟩),.pointer (some ⟨b3,o3,none⟩)] 144))=wb at hX hB ⊢
 replace hX:=Lib.hid hX
 obtain⟨s0,s1,s2,s3,s4,s5,f1,c0,c1,c5,c6,c7,hat,ra,rl,rc⟩:=hX.out
 go_wp2_with (first
  | (go_at_call 126;with_reducible refine Calls.mono (isFunc_v) ?_;rintro e w2 ⟨rfl,hb⟩;replace hX:=Lib.hid (hX.out.keep hb);replace hB:=Lib.hid (hB.out.trans (hb.mono hB.out.size));obtain⟨s0,s1,s2,s3,s4,s5,f1,c0,c1,c5,c6,c7,hat,ra,rl,rc⟩:=hX.out)
  | fail)
 go_ret
 exact⟨rfl,hB.out⟩
set_option maxRecDepth 20000 in
set_option maxHeartbeats 2000000 in
theorem c9_fn {w:World}{f:Nat}{d:Fun}{vs:Array Value}(hf:(Prt.fn f d).Fits)(h:PrtV w (Prt.fn f d) vs):Calls Tryz.prog 139 #[.agg vs] w fun e w'=>e=.returned (.bool (false))∧Below w.heap.size w w':=by
 obtain⟨b,o,pa,ba,pc,bc,rfl,hX⟩:=FnBox.mk' h
 have hB:=Lib.hid (box_below w (.cells #[.int .i64 f,.int .i64 0,.int .i64 0,.pointer (some ⟨b,o,none⟩),.pointer none,.pointer none] 144))
 obtain⟨z1,z2,z3,z4,z5⟩:=hf
 clear z1 z2 z3 z4 z5
 clear h
 go_enter Tryz.func139,Tryz.ntmps139
 go_upto_region 1 with fail
 generalize (w.alloc (.cells #[.int .i64 f,.int .i64 0,.int .i64 0,.pointer (some ⟨b,o,none⟩),.pointer none,.pointer none] 144))=wb at hX hB ⊢
 replace hX:=Lib.hid hX
 obtain⟨s0,s1,s2,s3,s4,s5,f0,f1,f2,rp,rb⟩:=hX.out
 go_wp2_with (first
  | fail)
 go_ret
 exact⟨rfl,hB.out⟩
set_option maxRecDepth 20000 in
set_option maxHeartbeats 2000000 in
theorem c9_blk {w:World}{f k:Nat}{d:Fun}{x:Blk}{vs:Array Value}(hf:(Prt.blk f k d x).Fits)(h:PrtV w (Prt.blk f k d x) vs):Calls Tryz.prog 139 #[.agg vs] w fun e w'=>e=.returned (.bool (false))∧Below w.heap.size w w':=by
 obtain⟨b,o,b2,o2,ca,cc,rfl,hX⟩:=BlkBox.mk' h
 have hB:=Lib.hid (box_below w (.cells #[.int .i64 f,.int .i64 k,.int .i64 0,.pointer (some ⟨b,o,none⟩),.pointer (some ⟨b2,o2,none⟩),.pointer none] 144))
 obtain⟨-,z1,z2,z3⟩:=hf
 clear z1 z2 z3
 clear h
 go_enter Tryz.func139,Tryz.ntmps139
 go_upto_region 1 with fail
 generalize (w.alloc (.cells #[.int .i64 f,.int .i64 k,.int .i64 0,.pointer (some ⟨b,o,none⟩),.pointer (some ⟨b2,o2,none⟩),.pointer none] 144))=wb at hX hB ⊢
 replace hX:=Lib.hid hX
 obtain⟨s0,s1,s2,s3,s4,s5,f0,f1⟩:=hX.out
 go_wp2_with (first
  | fail)
 go_ret
 exact⟨rfl,hB.out⟩
set_option maxRecDepth 20000 in
set_option maxHeartbeats 2000000 in
theorem c9_ins {w:World}{f k i:Nat}{d:Fun}{x:Blk}{c:Ins}{vs:Array Value}(hf:(Prt.ins f k i d x c).Fits)(h:PrtV w (Prt.ins f k i d x c) vs):Calls Tryz.prog 139 #[.agg vs] w fun e w'=>e=.returned (.bool (badFieldsB c))∧Below w.heap.size w w':=by
 obtain⟨b,o,b2,o2,b3,o3,ca,aa,la,cc,ac,lc,rfl,hX⟩:=InsBox.mk' h
 have hB:=Lib.hid (box_below w (.cells #[.int .i64 f,.int .i64 k,.int .i64 i,.pointer (some ⟨b,o,none⟩),.pointer (some ⟨b2,o2,none⟩),.pointer (some ⟨b3,o3,none⟩)] 144))
 obtain⟨-,⟨-,-,z3⟩,z4,z5⟩:=hf
 have k1:=Lib.hid (fun w' (h:InsAt w' b3 o3 c)=>badFields_any h z4.1 z4.2.2.2.2.2.2.2.2.2.1 z4.2.2.2.2.2.2.2.2.2.2)
 generalize badFieldsB c=q at k1 ⊢
 clear z3 z4 z5
 clear h
 go_enter Tryz.func139,Tryz.ntmps139
 go_upto_region 1 with fail
 generalize (w.alloc (.cells #[.int .i64 f,.int .i64 k,.int .i64 i,.pointer (some ⟨b,o,none⟩),.pointer (some ⟨b2,o2,none⟩),.pointer (some ⟨b3,o3,none⟩)] 144))=wb at hX hB ⊢
 replace hX:=Lib.hid hX
 obtain⟨s0,s1,s2,s3,s4,s5,f1,c0,c1,c5,c6,c7,hat,ra,rl,rc⟩:=hX.out
 go_wp2_with (first
  | (go_at_call 140;with_reducible refine Calls.mono (k1.out _ hat) ?_;rintro e w2 ⟨rfl,hb⟩;replace hX:=Lib.hid (hX.out.keep hb);replace hB:=Lib.hid (hB.out.trans (hb.mono hB.out.size));obtain⟨s0,s1,s2,s3,s4,s5,f1,c0,c1,c5,c6,c7,hat,ra,rl,rc⟩:=hX.out)
  | fail)
 go_ret
 exact⟨rfl,hB.out⟩
set_option maxRecDepth 20000 in
set_option maxHeartbeats 2000000 in
theorem c10_fn {w:World}{f:Nat}{d:Fun}{vs:Array Value}(hf:(Prt.fn f d).Fits)(h:PrtV w (Prt.fn f d) vs):Calls Tryz.prog 141 #[.agg vs] w fun e w'=>e=.returned (.bool (false))∧Below w.heap.size w w':=by
 obtain⟨b,o,pa,ba,pc,bc,rfl,hX⟩:=FnBox.mk' h
 have hB:=Lib.hid (box_below w (.cells #[.int .i64 f,.int .i64 0,.int .i64 0,.pointer (some ⟨b,o,none⟩),.pointer none,.pointer none] 144))
 obtain⟨z1,z2,z3,z4,z5⟩:=hf
 clear z1 z2 z3 z4 z5
 clear h
 go_enter Tryz.func141,Tryz.ntmps141
 go_upto_region 1 with fail
 generalize (w.alloc (.cells #[.int .i64 f,.int .i64 0,.int .i64 0,.pointer (some ⟨b,o,none⟩),.pointer none,.pointer none] 144))=wb at hX hB ⊢
 replace hX:=Lib.hid hX
 obtain⟨s0,s1,s2,s3,s4,s5,f0,f1,f2,rp,rb⟩:=hX.out
 go_wp2_with (first
  | (go_at_call 128;with_reducible refine Calls.mono (isBlock_v) ?_;rintro e w2 ⟨rfl,hb⟩;replace hX:=Lib.hid (hX.out.keep hb);replace hB:=Lib.hid (hB.out.trans (hb.mono hB.out.size));obtain⟨s0,s1,s2,s3,s4,s5,f0,f1,f2,rp,rb⟩:=hX.out)
  | fail)
 go_ret
 exact⟨rfl,hB.out⟩
set_option maxRecDepth 20000 in
set_option maxHeartbeats 2000000 in
theorem c10_blk {w:World}{f k:Nat}{d:Fun}{x:Blk}{vs:Array Value}(hf:(Prt.blk f k d x).Fits)(h:PrtV w (Prt.blk f k d x) vs):Calls Tryz.prog 141 #[.agg vs] w fun e w'=>e=.returned (.bool (decide (x.code.length=0)))∧Below w.heap.size w w':=by
 obtain⟨b,o,b2,o2,ca,cc,rfl,hX⟩:=BlkBox.mk' h
 have hB:=Lib.hid (box_below w (.cells #[.int .i64 f,.int .i64 k,.int .i64 0,.pointer (some ⟨b,o,none⟩),.pointer (some ⟨b2,o2,none⟩),.pointer none] 144))
 obtain⟨-,z1,z2,z3⟩:=hf
 obtain⟨n,hn⟩:∃n,n=x.code.length:=⟨_,rfl⟩
 rw [←hn] at z3 ⊢
 unfold maxLen at z3
 replace hn:=Lib.hid hn
 have j2:((n:Int)==0)=decide (n=0):=by by_cases e:n=0<;>simp [e]
 generalize decide (n=0)=u at j2 ⊢
 clear z1 z2
 clear h
 cases u<;>(
  go_enter Tryz.func141,Tryz.ntmps141
  go_upto_region 1 with fail
  generalize (w.alloc (.cells #[.int .i64 f,.int .i64 k,.int .i64 0,.pointer (some ⟨b,o,none⟩),.pointer (some ⟨b2,o2,none⟩),.pointer none] 144))=wb at hX hB ⊢
  replace hX:=Lib.hid hX
  obtain⟨s0,s1,s2,s3,s4,s5,f0,f1⟩:=hX.out
  go_wp2_with (first
   | (go_at_call 128;with_reducible refine Calls.mono (isBlock_v) ?_;rintro e w2 ⟨rfl,hb⟩;replace hX:=Lib.hid (hX.out.keep hb);replace hB:=Lib.hid (hB.out.trans (hb.mono hB.out.size));obtain⟨s0,s1,s2,s3,s4,s5,f0,f1⟩:=hX.out;rw [←hn.out] at f1)
   | fail)
  go_ret
  exact⟨rfl,hB.out⟩)
set_option maxRecDepth 20000 in
set_option maxHeartbeats 2000000 in
theorem c10_ins {w:World}{f k i:Nat}{d:Fun}{x:Blk}{c:Ins}{vs:Array Value}(hf:(Prt.ins f k i d x c).Fits)(h:PrtV w (Prt.ins f k i d x c) vs):Calls Tryz.prog 141 #[.agg vs] w fun e w'=>e=.returned (.bool ((decide (i+1=x.code.length)) != endsB c.op))∧Below w.heap.size w w':=by
 obtain⟨b,o,b2,o2,b3,o3,ca,aa,la,cc,ac,lc,rfl,hX⟩:=InsBox.mk' h
 have hB:=Lib.hid (box_below w (.cells #[.int .i64 f,.int .i64 k,.int .i64 i,.pointer (some ⟨b,o,none⟩),.pointer (some ⟨b2,o2,none⟩),.pointer (some ⟨b3,o3,none⟩)] 144))
 obtain⟨-,⟨-,-,z3⟩,z4,z5⟩:=hf
 have hi:=(List.getElem?_eq_some_iff.1 z5).1
 obtain⟨n,hn⟩:∃n,n=x.code.length:=⟨_,rfl⟩
 rw [←hn] at z3 hi ⊢
 unfold maxLen at z3
 replace hn:=Lib.hid hn
 have j2:((i:Int)==(n:Int)-1)=decide (i+1=n):=by
  rw [Bool.eq_iff_iff];simp;omega
 have k1:=Lib.hid (fun w=>ends_any c.op w)
 generalize decide (i+1=n)=u at j2 ⊢
 generalize endsB c.op=q at k1 ⊢
 clear z4 z5
 clear h
 cases u<;>cases q<;>(
  go_enter Tryz.func141,Tryz.ntmps141
  go_upto_region 1 with fail
  generalize (w.alloc (.cells #[.int .i64 f,.int .i64 k,.int .i64 i,.pointer (some ⟨b,o,none⟩),.pointer (some ⟨b2,o2,none⟩),.pointer (some ⟨b3,o3,none⟩)] 144))=wb at hX hB ⊢
  replace hX:=Lib.hid hX
  obtain⟨s0,s1,s2,s3,s4,s5,f1,c0,c1,c5,c6,c7,hat,ra,rl,rc⟩:=hX.out
  rw [←hn.out] at f1
  go_wp2_with fail
  go_quiet (fail)
  replace hX:=Lib.hid (hX.out.keep (below_drawn (Below.refl _ _) nq))
  replace hB:=Lib.hid (below_drawn hB.out nq)
  clear s0 s1 s2 s3 s4 s5 f1 c0 c1 c5 c6 c7 hat ra rl rc
  generalize wb.drewN nq=wc at hX hB ⊢
  obtain⟨s0,s1,s2,s3,s4,s5,f1,c0,c1,c5,c6,c7,hat,ra,rl,rc⟩:=hX.out
  go_wp2_with (first
   | (go_at_call 135;with_reducible refine Calls.mono (op_some c0) ?_;rintro e w2 ⟨rfl,hb⟩;replace hX:=Lib.hid (hX.out.keep hb);replace hB:=Lib.hid (hB.out.trans (hb.mono hB.out.size));obtain⟨s0,s1,s2,s3,s4,s5,f1,c0,c1,c5,c6,c7,hat,ra,rl,rc⟩:=hX.out)
   | (go_at_call 142;with_reducible refine Calls.mono (k1.out _) ?_;rintro e w2 ⟨rfl,rfl⟩))
  go_ret
  exact⟨rfl,hB.out⟩)
set_option maxRecDepth 20000 in
set_option maxHeartbeats 2000000 in
theorem c11_fn {w:World}{f:Nat}{d:Fun}{vs:Array Value}(hf:(Prt.fn f d).Fits)(h:PrtV w (Prt.fn f d) vs):Calls Tryz.prog 143 #[.agg vs] w fun e w'=>e=.returned (.bool (false))∧Below w.heap.size w w':=by
 obtain⟨b,o,pa,ba,pc,bc,rfl,hX⟩:=FnBox.mk' h
 have hB:=Lib.hid (box_below w (.cells #[.int .i64 f,.int .i64 0,.int .i64 0,.pointer (some ⟨b,o,none⟩),.pointer none,.pointer none] 144))
 obtain⟨z1,z2,z3,z4,z5⟩:=hf
 clear z1 z2 z3 z4 z5
 clear h
 go_enter Tryz.func143,Tryz.ntmps143
 go_upto_region 1 with fail
 generalize (w.alloc (.cells #[.int .i64 f,.int .i64 0,.int .i64 0,.pointer (some ⟨b,o,none⟩),.pointer none,.pointer none] 144))=wb at hX hB ⊢
 replace hX:=Lib.hid hX
 obtain⟨s0,s1,s2,s3,s4,s5,f0,f1,f2,rp,rb⟩:=hX.out
 go_wp2_with (first
  | (go_at_call 135;with_reducible refine Calls.mono (op_none) ?_;rintro e w2 ⟨rfl,hb⟩;replace hX:=Lib.hid (hX.out.keep hb);replace hB:=Lib.hid (hB.out.trans (hb.mono hB.out.size));obtain⟨s0,s1,s2,s3,s4,s5,f0,f1,f2,rp,rb⟩:=hX.out)
  | fail)
 go_ret
 exact⟨rfl,hB.out⟩
set_option maxRecDepth 20000 in
set_option maxHeartbeats 2000000 in
theorem c11_blk {w:World}{f k:Nat}{d:Fun}{x:Blk}{vs:Array Value}(hf:(Prt.blk f k d x).Fits)(h:PrtV w (Prt.blk f k d x) vs):Calls Tryz.prog 143 #[.agg vs] w fun e w'=>e=.returned (.bool (false))∧Below w.heap.size w w':=by
 obtain⟨b,o,b2,o2,ca,cc,rfl,hX⟩:=BlkBox.mk' h
 have hB:=Lib.hid (box_below w (.cells #[.int .i64 f,.int .i64 k,.int .i64 0,.pointer (some ⟨b,o,none⟩),.pointer (some ⟨b2,o2,none⟩),.pointer none] 144))
 obtain⟨-,z1,z2,z3⟩:=hf
 clear z1 z2 z3
 clear h
 go_enter Tryz.func143,Tryz.ntmps143
 go_upto_region 1 with fail
 generalize (w.alloc (.cells #[.int .i64 f,.int .i64 k,.int .i64 0,.pointer (some ⟨b,o,none⟩),.pointer (some ⟨b2,o2,none⟩),.pointer none] 144))=wb at hX hB ⊢
 replace hX:=Lib.hid hX
 obtain⟨s0,s1,s2,s3,s4,s5,f0,f1⟩:=hX.out
 go_wp2_with (first
  | (go_at_call 135;with_reducible refine Calls.mono (op_none) ?_;rintro e w2 ⟨rfl,hb⟩;replace hX:=Lib.hid (hX.out.keep hb);replace hB:=Lib.hid (hB.out.trans (hb.mono hB.out.size));obtain⟨s0,s1,s2,s3,s4,s5,f0,f1⟩:=hX.out)
  | fail)
 go_ret
 exact⟨rfl,hB.out⟩
def prevB (x:Blk)(i:Nat):Bool:=match x.code[i-1]? with
 | some y=>y.op != 6
 | none=>false
def phiB (k i:Nat)(x:Blk)(c:Ins):Bool:=(c.op==6)&&(decide (k=0) || (decide (0<i)&&prevB x i))
set_option maxRecDepth 20000 in
set_option maxHeartbeats 2000000 in
theorem c11_ins {w:World}{f k i:Nat}{d:Fun}{x:Blk}{c:Ins}{vs:Array Value}(hf:(Prt.ins f k i d x c).Fits)(h:PrtV w (Prt.ins f k i d x c) vs):Calls Tryz.prog 143 #[.agg vs] w fun e w'=>e=.returned (.bool (phiB k i x c))∧Below w.heap.size w w':=by
 obtain⟨b,o,b2,o2,b3,o3,ca,aa,la,cc,ac,lc,rfl,hX⟩:=InsBox.mk' h
 have hB:=Lib.hid (box_below w (.cells #[.int .i64 f,.int .i64 k,.int .i64 i,.pointer (some ⟨b,o,none⟩),.pointer (some ⟨b2,o2,none⟩),.pointer (some ⟨b3,o3,none⟩)] 144))
 obtain⟨-,⟨-,-,z3⟩,z4,z5⟩:=hf
 have hi:=(List.getElem?_eq_some_iff.1 z5).1
 obtain⟨n,hn⟩:∃n,n=x.code.length:=⟨_,rfl⟩
 rw [←hn] at z3 hi
 unfold maxLen at z3
 replace hn:=Lib.hid hn
 clear z4 z5
 clear h
 go_enter Tryz.func143,Tryz.ntmps143
 go_upto_region 1 with fail
 generalize (w.alloc (.cells #[.int .i64 f,.int .i64 k,.int .i64 i,.pointer (some ⟨b,o,none⟩),.pointer (some ⟨b2,o2,none⟩),.pointer (some ⟨b3,o3,none⟩)] 144))=wb at hX hB ⊢
 replace hX:=Lib.hid hX
 obtain⟨s0,s1,s2,s3,s4,s5,f1,c0,c1,c5,c6,c7,hat,ra,rl,rc⟩:=hX.out
 by_cases e1:c.op=6
 case neg=>
  have j1:(c.op != 6)=true:=by simpa using e1
  have hE:Hid (phiB k i x c=false):=Lib.hid (by unfold phiB;simp [e1])
  clear e1
  go_wp2_with (first
   | (go_at_call 135;with_reducible refine Calls.mono (op_some c0) ?_;rintro e w2 ⟨rfl,hb⟩;replace hX:=Lib.hid (hX.out.keep hb);replace hB:=Lib.hid (hB.out.trans (hb.mono hB.out.size));obtain⟨s0,s1,s2,s3,s4,s5,f1,c0,c1,c5,c6,c7,hat,ra,rl,rc⟩:=hX.out)
   | fail)
  go_ret
  exact⟨by rw [hE.out];rfl,hB.out⟩
 case pos=>
  rw [e1] at c0
  have hE0:Hid (phiB k i x c=(decide (k=0) || (decide (0<i)&&prevB x i))):=Lib.hid (by unfold phiB;simp [e1])
  replace e1:=Lib.hid e1
  by_cases e2:k=0
  ·subst e2
   have hE:Hid (phiB 0 i x c=true):=Lib.hid (by rw [hE0.out];simp)
   clear hE0
   go_wp2_with (first
    | (go_at_call 135;with_reducible refine Calls.mono (op_some c0) ?_;rintro e w2 ⟨rfl,hb⟩;replace hX:=Lib.hid (hX.out.keep hb);replace hB:=Lib.hid (hB.out.trans (hb.mono hB.out.size));obtain⟨s0,s1,s2,s3,s4,s5,f1,c0,c1,c5,c6,c7,hat,ra,rl,rc⟩:=hX.out;rw [e1.out] at c0)
    | fail)
   go_quiet (fail)
   replace hB:=Lib.hid (below_drawn hB.out nq)
   go_wp2_with fail
   go_ret
   exact⟨by rw [hE.out];rfl,hB.out⟩
  ·have j2:((k:Int)==0)=false:=by simp [e2]
   replace e2:=Lib.hid e2
   by_cases e3:i=0
   ·subst e3
    have hE:Hid (phiB k 0 x c=false):=Lib.hid (by rw [hE0.out,decide_eq_false e2.out];simp)
    clear hE0
    go_wp2_with (first
     | (go_at_call 135;with_reducible refine Calls.mono (op_some c0) ?_;rintro e w2 ⟨rfl,hb⟩;replace hX:=Lib.hid (hX.out.keep hb);replace hB:=Lib.hid (hB.out.trans (hb.mono hB.out.size));obtain⟨s0,s1,s2,s3,s4,s5,f1,c0,c1,c5,c6,c7,hat,ra,rl,rc⟩:=hX.out;rw [e1.out] at c0)
     | fail)
    go_quiet (fail)
    replace hB:=Lib.hid (below_drawn hB.out nq)
    go_wp2_with fail
    go_ret
    exact⟨by rw [hE.out];rfl,hB.out⟩
   ·obtain⟨i',rfl⟩:∃i',i=i'+1:=⟨i-1,by omega⟩
    obtain⟨y,hy⟩:∃y,x.code[i']?=some y:=⟨_,List.getElem?_eq_getElem (by rw [←hn.out];omega)⟩
    have hE:Hid (phiB k (i'+1) x c=(y.op != 6)):=Lib.hid (by rw [hE0.out,decide_eq_false e2.out];unfold prevB;simp [hy])
    have j3:decide (((i':Int)+1) > 0)=true:=by simp
    have j4:(i':Int)+1<(n:Int):=by omega
    have j5:(i':Int)<(n:Int):=by omega
    have hpv:=Lib.hid (fun (W:World) (h:RdE 8 RdIns W (.slice ca x.code.length cc) x.code)=>(by
     obtain⟨bi,oi,ci,e,hI⟩:=ins_at h hy
     obtain⟨-,va,vl,-,-,hcs⟩:=hI
     exact⟨bi,oi,ci,e,hcs 0 _ rfl⟩:∃bi oi ci,Value.slice ca x.code.length cc=.slice (some ⟨bi,oi,none⟩) x.code.length ci∧W.cell? ⟨bi,oi+i'*8+0,none⟩=some (.int .u8 y.op)))
    obtain⟨r,hr⟩:∃r,(y.op != 6)=r:=⟨_,rfl⟩
    rw [hr] at hE
    clear hE0 e3
    cases r<;>(
     go_wp2_with (first
      | (go_at_call 135;with_reducible refine Calls.mono (op_some c0) ?_;rintro e w2 ⟨rfl,hb⟩;replace hX:=Lib.hid (hX.out.keep hb);replace hB:=Lib.hid (hB.out.trans (hb.mono hB.out.size));obtain⟨s0,s1,s2,s3,s4,s5,f1,c0,c1,c5,c6,c7,hat,ra,rl,rc⟩:=hX.out;rw [e1.out] at c0)
      | fail)
     obtain⟨bi,oi,ci,e9,h9⟩:=hpv.out _ rc
     simp only [Value.slice.injEq] at e9
     obtain⟨rfl,-,rfl⟩:=e9
     rw [←hn.out] at f1
     rw [Nat.add_zero] at h9
     go_quiet (fail)
     replace hB:=Lib.hid (below_drawn hB.out nq)
     go_wp2_with fail
     go_ret
     exact⟨by rw [hE.out];rfl,hB.out⟩)
end
section
open Go.RowKit Go.Maps Go.Shelf
theorem keeps_pure {P:List Fun}{m:Nat}{W0:World}{K:Nat}{B:Prt→Bool}(hm:m=W0.heap.size)(h:∀x vs W,x∈partsL P→PrtV W x vs→Calls Tryz.prog K #[.agg vs] W fun e W'=>e=.returned (.bool (B x))∧Below W.heap.size W W'):Keeps P m W0 K #[] (fun (s:Unit) x=>(B x,s)) () (fun _ U _=>∀k,¬U k) where
 calm:=fun _ _ _ _ h _=>h
 call:=fun s U x vs W ⟨pre,rest,e,_⟩ hx hbel hU=>by
  have h1:=h x vs W (partsCalls_at e) (hx.below (by rw [←hm];exact hbel))
  refine Calls.mono (by simpa using h1) ?_
  rintro e' W' ⟨rfl,hb⟩
  exact⟨fun _=>False,rfl,fun _ h=>h,Touch.of_below hb _,fun k hk=>hk.elim⟩
structure POk (P:List Fun):Prop where
 fits:∀d∈P,d.Fits
 l1:P.length≤1000000
 l2:∀d∈P,d.blocks.length≤1000000
 l3:∀d∈P,∀x∈d.blocks,x.code.length≤1000000
 l4:∀d∈P,d.params.length≤1000000
def bad2:Prt→Bool
 | .fn _ d=>!isName d.name || !d.params.all isName
 | .blk _ _ _ x=>!isName x.label
 | .ins _ _ _ _ _ c=>badNamesB c
def bad5:Prt→Bool
 | .fn _ d=>decide (d.params.length > 8)
 | .blk _ _ _ _=>false
 | .ins _ _ _ _ _ c=>isCallB c.op&&decide (c.args.length > 8)
def bad6:Prt→Bool
 | .fn _ d=>decide (d.blocks.length=0) || decide (d.blocks.length > 64)
 | .blk _ _ _ _=>false
 | .ins _ _ _ _ _ _=>false
def bad9:Prt→Bool
 | .fn _ _=>false
 | .blk _ _ _ _=>false
 | .ins _ _ _ _ _ c=>badFieldsB c
def bad10:Prt→Bool
 | .fn _ _=>false
 | .blk _ _ _ x=>decide (x.code.length=0)
 | .ins _ _ i _ x c=>(decide (i+1=x.code.length)) != endsB c.op
def bad11:Prt→Bool
 | .fn _ _=>false
 | .blk _ _ _ _=>false
 | .ins _ k i _ x c=>phiB k i x c
def firstP (B:Prt→Bool)(P:List Fun):Option Prt:=firstBad (fun (s:Unit) x=>(B x,s)) () (partsL P)
def ansV (x:Option Prt):Value:=.tuple #[.agg (ptA (resAt x)),.bool x.isSome]
theorem keeps2 {P:List Fun}(hP:POk P){m:Nat}{W0:World}(hm:m=W0.heap.size):Keeps P m W0 125 #[] (fun (s:Unit) x=>(bad2 x,s)) () (fun _ U _=>∀k,¬U k):=
 keeps_pure hm (fun x vs W hx hv=>by
  have hf:=parts_fits hP.fits hx
  cases x with
  | fn f d=>exact c2_fn hf hv
  | blk f k d x=>exact c2_blk hf hv
  | ins f k i d x c=>exact c2_ins hf hv)
set_option maxHeartbeats 1000000 in
theorem q2_any {P:List Fun}(hP:POk P){w:World}{v:Value}(h:RdE 3 RdFun w v P):Calls Tryz.prog 82 #[.agg #[v]] w fun e w'=>e=.returned (ansV (firstP bad2 P))∧Below w.heap.size w w':=by
 obtain⟨a0,c0,rfl⟩:=h.form
 have hb0:Below w.heap.size w ((w.alloc (.cells #[.slice a0 P.length c0] 91)).alloc (.cells #[.int .i64 0,.int .i64 0,.int .i64 0] 53)):=((Below.refl _ _).alloc (Nat.le_refl _) _).alloc (by simp) _
 have hw:=Lib.hid (where_any (W0:=((w.alloc (.cells #[.slice a0 P.length c0] 91)).alloc (.cells #[.int .i64 0,.int .i64 0,.int .i64 0] 53))) (keeps2 hP rfl) (enters_of Tryz.func125 (by kernel_rfl) rfl) rfl (RdE.below (fun _ _ h=>h.below hb0) h hb0) (Below.refl _ _) (U0:=fun _=>False) (fun _ h=>h.elim) (fun _ h=>h) hP.l1 hP.l2 hP.l3)
 have hN:((w.alloc (.cells #[.slice a0 P.length c0] 91)).alloc (.cells #[.int .i64 0,.int .i64 0,.int .i64 0] 53)).heap[w.heap.size+1]?=some (.cells #[.int .i64 0,.int .i64 0,.int .i64 0] 53 (0,0)):=at_newN (by simp)
 have hl:((w.alloc (.cells #[.slice a0 P.length c0] 91)).alloc (.cells #[.int .i64 0,.int .i64 0,.int .i64 0] 53)).cell? ⟨w.heap.size,0,none⟩=some (.slice a0 P.length c0):=by rw [blk_cell (at_oldN (at_newN rfl))];rfl
 unfold ansV firstP
 unfold ptA at hw ⊢
 generalize firstBad (fun (s:Unit) x=>(bad2 x,s)) () (partsL P)=fb at hw ⊢
 generalize P.length=p at h hw hb0 hN hl ⊢
 clear h
 replace hb0:=Lib.hid hb0
 replace hN:=Lib.hid hN
 go_enter Tryz.func82,Tryz.ntmps82
 go_upto_region 1 with fail
 generalize ((w.alloc (.cells #[.slice a0 p c0] 91)).alloc (.cells #[.int .i64 0,.int .i64 0,.int .i64 0] 53))=wb at hw hb0 hN hl ⊢
 go_wp2_with fail
 refine hw.out.mono ?_
 rintro e w2 ⟨rfl,hb2⟩
 have hN2:=(hb2.block _ (Array.getElem?_eq_some_iff.1 hN.out).1).trans hN.out
 have hf:=Lib.hid (show Below w.heap.size w ((((w2.setCell ⟨w.heap.size+1,0,none⟩ (.int .i64 (resAt fb).1)).setCell ⟨w.heap.size+1,1,none⟩ (.int .i64 (resAt fb).2.1)).setCell ⟨w.heap.size+1,2,none⟩ (.int .i64 (resAt fb).2.2))) from (((hb0.out.trans (hb2.mono hb0.out.size)).setCell (p:=⟨w.heap.size+1,0,none⟩) (Nat.le_succ _) _).setCell (p:=⟨w.heap.size+1,1,none⟩) (Nat.le_succ _) _).setCell (p:=⟨w.heap.size+1,2,none⟩) (Nat.le_succ _) _)
 have hN3:=Lib.hid (set_three (v0:=.int .i64 (resAt fb).1) (v1:=.int .i64 (resAt fb).2.1) (v2:=.int .i64 (resAt fb).2.2) hN2)
 have z0:w2.cell? ⟨w.heap.size+1,0,none⟩=some (.int .i64 0):=by rw [blk_cell hN2];rfl
 have z1:w2.cell? ⟨w.heap.size+1,1,none⟩=some (.int .i64 0):=by rw [blk_cell hN2];rfl
 have z2:w2.cell? ⟨w.heap.size+1,2,none⟩=some (.int .i64 0):=by rw [blk_cell hN2];rfl
 have y0:w2.frozen? ⟨w.heap.size+1,0,none⟩=false:=by simp [World.frozen?,hN2]
 have y1:w2.frozen? ⟨w.heap.size+1,1,none⟩=false:=by simp [World.frozen?,hN2]
 have y2:w2.frozen? ⟨w.heap.size+1,2,none⟩=false:=by simp [World.frozen?,hN2]
 clear hb2 hN2 hw hl
 go_wp2_with fail
 generalize (((w2.setCell ⟨w.heap.size+1,0,none⟩ (.int .i64 (resAt fb).1)).setCell ⟨w.heap.size+1,1,none⟩ (.int .i64 (resAt fb).2.1)).setCell ⟨w.heap.size+1,2,none⟩ (.int .i64 (resAt fb).2.2))=w3 at hf hN3 ⊢
 have c0:w3.cell? ⟨w.heap.size+1,0,none⟩=some (.int .i64 (resAt fb).1):=by rw [blk_cell hN3.out];rfl
 have c1:w3.cell? ⟨w.heap.size+1,1,none⟩=some (.int .i64 (resAt fb).2.1):=by rw [blk_cell hN3.out];rfl
 have c2:w3.cell? ⟨w.heap.size+1,2,none⟩=some (.int .i64 (resAt fb).2.2):=by rw [blk_cell hN3.out];rfl
 exact bodyPost_ret (v:=.tuple #[.agg #[.int .i64 (resAt fb).1,.int .i64 (resAt fb).2.1,.int .i64 (resAt fb).2.2],.bool fb.isSome]) (by simp [results,Tryz.results82,go_sem,c0,c1,c2]) rfl ⟨rfl,hf.out⟩
theorem keeps5 {P:List Fun}(hP:POk P){m:Nat}{W0:World}(hm:m=W0.heap.size):Keeps P m W0 133 #[] (fun (s:Unit) x=>(bad5 x,s)) () (fun _ U _=>∀k,¬U k):=
 keeps_pure hm (fun x vs W hx hv=>by
  have hf:=parts_fits hP.fits hx
  cases x with
  | fn f d=>exact c5_fn hf hv
  | blk f k d x=>exact c5_blk hf hv
  | ins f k i d x c=>exact c5_ins hf hv)
set_option maxHeartbeats 1000000 in
theorem q5_any {P:List Fun}(hP:POk P){w:World}{v:Value}(h:RdE 3 RdFun w v P):Calls Tryz.prog 85 #[.agg #[v]] w fun e w'=>e=.returned (ansV (firstP bad5 P))∧Below w.heap.size w w':=by
 obtain⟨a0,c0,rfl⟩:=h.form
 have hb0:Below w.heap.size w ((w.alloc (.cells #[.slice a0 P.length c0] 91)).alloc (.cells #[.int .i64 0,.int .i64 0,.int .i64 0] 53)):=((Below.refl _ _).alloc (Nat.le_refl _) _).alloc (by simp) _
 have hw:=Lib.hid (where_any (W0:=((w.alloc (.cells #[.slice a0 P.length c0] 91)).alloc (.cells #[.int .i64 0,.int .i64 0,.int .i64 0] 53))) (keeps5 hP rfl) (enters_of Tryz.func133 (by kernel_rfl) rfl) rfl (RdE.below (fun _ _ h=>h.below hb0) h hb0) (Below.refl _ _) (U0:=fun _=>False) (fun _ h=>h.elim) (fun _ h=>h) hP.l1 hP.l2 hP.l3)
 have hN:((w.alloc (.cells #[.slice a0 P.length c0] 91)).alloc (.cells #[.int .i64 0,.int .i64 0,.int .i64 0] 53)).heap[w.heap.size+1]?=some (.cells #[.int .i64 0,.int .i64 0,.int .i64 0] 53 (0,0)):=at_newN (by simp)
 have hl:((w.alloc (.cells #[.slice a0 P.length c0] 91)).alloc (.cells #[.int .i64 0,.int .i64 0,.int .i64 0] 53)).cell? ⟨w.heap.size,0,none⟩=some (.slice a0 P.length c0):=by rw [blk_cell (at_oldN (at_newN rfl))];rfl
 unfold ansV firstP
 unfold ptA at hw ⊢
 generalize firstBad (fun (s:Unit) x=>(bad5 x,s)) () (partsL P)=fb at hw ⊢
 generalize P.length=p at h hw hb0 hN hl ⊢
 clear h
 replace hb0:=Lib.hid hb0
 replace hN:=Lib.hid hN
 go_enter Tryz.func85,Tryz.ntmps85
 go_upto_region 1 with fail
 generalize ((w.alloc (.cells #[.slice a0 p c0] 91)).alloc (.cells #[.int .i64 0,.int .i64 0,.int .i64 0] 53))=wb at hw hb0 hN hl ⊢
 go_wp2_with fail
 refine hw.out.mono ?_
 rintro e w2 ⟨rfl,hb2⟩
 have hN2:=(hb2.block _ (Array.getElem?_eq_some_iff.1 hN.out).1).trans hN.out
 have hf:=Lib.hid (show Below w.heap.size w ((((w2.setCell ⟨w.heap.size+1,0,none⟩ (.int .i64 (resAt fb).1)).setCell ⟨w.heap.size+1,1,none⟩ (.int .i64 (resAt fb).2.1)).setCell ⟨w.heap.size+1,2,none⟩ (.int .i64 (resAt fb).2.2))) from (((hb0.out.trans (hb2.mono hb0.out.size)).setCell (p:=⟨w.heap.size+1,0,none⟩) (Nat.le_succ _) _).setCell (p:=⟨w.heap.size+1,1,none⟩) (Nat.le_succ _) _).setCell (p:=⟨w.heap.size+1,2,none⟩) (Nat.le_succ _) _)
 have hN3:=Lib.hid (set_three (v0:=.int .i64 (resAt fb).1) (v1:=.int .i64 (resAt fb).2.1) (v2:=.int .i64 (resAt fb).2.2) hN2)
 have z0:w2.cell? ⟨w.heap.size+1,0,none⟩=some (.int .i64 0):=by rw [blk_cell hN2];rfl
 have z1:w2.cell? ⟨w.heap.size+1,1,none⟩=some (.int .i64 0):=by rw [blk_cell hN2];rfl
 have z2:w2.cell? ⟨w.heap.size+1,2,none⟩=some (.int .i64 0):=by rw [blk_cell hN2];rfl
 have y0:w2.frozen? ⟨w.heap.size+1,0,none⟩=false:=by simp [World.frozen?,hN2]
 have y1:w2.frozen? ⟨w.heap.size+1,1,none⟩=false:=by simp [World.frozen?,hN2]
 have y2:w2.frozen? ⟨w.heap.size+1,2,none⟩=false:=by simp [World.frozen?,hN2]
 clear hb2 hN2 hw hl
 go_wp2_with fail
 generalize (((w2.setCell ⟨w.heap.size+1,0,none⟩ (.int .i64 (resAt fb).1)).setCell ⟨w.heap.size+1,1,none⟩ (.int .i64 (resAt fb).2.1)).setCell ⟨w.heap.size+1,2,none⟩ (.int .i64 (resAt fb).2.2))=w3 at hf hN3 ⊢
 have c0:w3.cell? ⟨w.heap.size+1,0,none⟩=some (.int .i64 (resAt fb).1):=by rw [blk_cell hN3.out];rfl
 have c1:w3.cell? ⟨w.heap.size+1,1,none⟩=some (.int .i64 (resAt fb).2.1):=by rw [blk_cell hN3.out];rfl
 have c2:w3.cell? ⟨w.heap.size+1,2,none⟩=some (.int .i64 (resAt fb).2.2):=by rw [blk_cell hN3.out];rfl
 exact bodyPost_ret (v:=.tuple #[.agg #[.int .i64 (resAt fb).1,.int .i64 (resAt fb).2.1,.int .i64 (resAt fb).2.2],.bool fb.isSome]) (by simp [results,Tryz.results85,go_sem,c0,c1,c2]) rfl ⟨rfl,hf.out⟩
theorem keeps6 {P:List Fun}(hP:POk P){m:Nat}{W0:World}(hm:m=W0.heap.size):Keeps P m W0 136 #[] (fun (s:Unit) x=>(bad6 x,s)) () (fun _ U _=>∀k,¬U k):=
 keeps_pure hm (fun x vs W hx hv=>by
  have hf:=parts_fits hP.fits hx
  cases x with
  | fn f d=>exact c6_fn hf hv
  | blk f k d x=>exact c6_blk hf hv
  | ins f k i d x c=>exact c6_ins hf hv)
set_option maxHeartbeats 1000000 in
theorem q6_any {P:List Fun}(hP:POk P){w:World}{v:Value}(h:RdE 3 RdFun w v P):Calls Tryz.prog 86 #[.agg #[v]] w fun e w'=>e=.returned (ansV (firstP bad6 P))∧Below w.heap.size w w':=by
 obtain⟨a0,c0,rfl⟩:=h.form
 have hb0:Below w.heap.size w ((w.alloc (.cells #[.slice a0 P.length c0] 91)).alloc (.cells #[.int .i64 0,.int .i64 0,.int .i64 0] 53)):=((Below.refl _ _).alloc (Nat.le_refl _) _).alloc (by simp) _
 have hw:=Lib.hid (where_any (W0:=((w.alloc (.cells #[.slice a0 P.length c0] 91)).alloc (.cells #[.int .i64 0,.int .i64 0,.int .i64 0] 53))) (keeps6 hP rfl) (enters_of Tryz.func136 (by kernel_rfl) rfl) rfl (RdE.below (fun _ _ h=>h.below hb0) h hb0) (Below.refl _ _) (U0:=fun _=>False) (fun _ h=>h.elim) (fun _ h=>h) hP.l1 hP.l2 hP.l3)
 have hN:((w.alloc (.cells #[.slice a0 P.length c0] 91)).alloc (.cells #[.int .i64 0,.int .i64 0,.int .i64 0] 53)).heap[w.heap.size+1]?=some (.cells #[.int .i64 0,.int .i64 0,.int .i64 0] 53 (0,0)):=at_newN (by simp)
 have hl:((w.alloc (.cells #[.slice a0 P.length c0] 91)).alloc (.cells #[.int .i64 0,.int .i64 0,.int .i64 0] 53)).cell? ⟨w.heap.size,0,none⟩=some (.slice a0 P.length c0):=by rw [blk_cell (at_oldN (at_newN rfl))];rfl
 unfold ansV firstP
 unfold ptA at hw ⊢
 generalize firstBad (fun (s:Unit) x=>(bad6 x,s)) () (partsL P)=fb at hw ⊢
 generalize P.length=p at h hw hb0 hN hl ⊢
 clear h
 replace hb0:=Lib.hid hb0
 replace hN:=Lib.hid hN
 go_enter Tryz.func86,Tryz.ntmps86
 go_upto_region 1 with fail
 generalize ((w.alloc (.cells #[.slice a0 p c0] 91)).alloc (.cells #[.int .i64 0,.int .i64 0,.int .i64 0] 53))=wb at hw hb0 hN hl ⊢
 go_wp2_with fail
 refine hw.out.mono ?_
 rintro e w2 ⟨rfl,hb2⟩
 have hN2:=(hb2.block _ (Array.getElem?_eq_some_iff.1 hN.out).1).trans hN.out
 have hf:=Lib.hid (show Below w.heap.size w ((((w2.setCell ⟨w.heap.size+1,0,none⟩ (.int .i64 (resAt fb).1)).setCell ⟨w.heap.size+1,1,none⟩ (.int .i64 (resAt fb).2.1)).setCell ⟨w.heap.size+1,2,none⟩ (.int .i64 (resAt fb).2.2))) from (((hb0.out.trans (hb2.mono hb0.out.size)).setCell (p:=⟨w.heap.size+1,0,none⟩) (Nat.le_succ _) _).setCell (p:=⟨w.heap.size+1,1,none⟩) (Nat.le_succ _) _).setCell (p:=⟨w.heap.size+1,2,none⟩) (Nat.le_succ _) _)
 have hN3:=Lib.hid (set_three (v0:=.int .i64 (resAt fb).1) (v1:=.int .i64 (resAt fb).2.1) (v2:=.int .i64 (resAt fb).2.2) hN2)
 have z0:w2.cell? ⟨w.heap.size+1,0,none⟩=some (.int .i64 0):=by rw [blk_cell hN2];rfl
 have z1:w2.cell? ⟨w.heap.size+1,1,none⟩=some (.int .i64 0):=by rw [blk_cell hN2];rfl
 have z2:w2.cell? ⟨w.heap.size+1,2,none⟩=some (.int .i64 0):=by rw [blk_cell hN2];rfl
 have y0:w2.frozen? ⟨w.heap.size+1,0,none⟩=false:=by simp [World.frozen?,hN2]
 have y1:w2.frozen? ⟨w.heap.size+1,1,none⟩=false:=by simp [World.frozen?,hN2]
 have y2:w2.frozen? ⟨w.heap.size+1,2,none⟩=false:=by simp [World.frozen?,hN2]
 clear hb2 hN2 hw hl
 go_wp2_with fail
 generalize (((w2.setCell ⟨w.heap.size+1,0,none⟩ (.int .i64 (resAt fb).1)).setCell ⟨w.heap.size+1,1,none⟩ (.int .i64 (resAt fb).2.1)).setCell ⟨w.heap.size+1,2,none⟩ (.int .i64 (resAt fb).2.2))=w3 at hf hN3 ⊢
 have c0:w3.cell? ⟨w.heap.size+1,0,none⟩=some (.int .i64 (resAt fb).1):=by rw [blk_cell hN3.out];rfl
 have c1:w3.cell? ⟨w.heap.size+1,1,none⟩=some (.int .i64 (resAt fb).2.1):=by rw [blk_cell hN3.out];rfl
 have c2:w3.cell? ⟨w.heap.size+1,2,none⟩=some (.int .i64 (resAt fb).2.2):=by rw [blk_cell hN3.out];rfl
 exact bodyPost_ret (v:=.tuple #[.agg #[.int .i64 (resAt fb).1,.int .i64 (resAt fb).2.1,.int .i64 (resAt fb).2.2],.bool fb.isSome]) (by simp [results,Tryz.results86,go_sem,c0,c1,c2]) rfl ⟨rfl,hf.out⟩
theorem keeps9 {P:List Fun}(hP:POk P){m:Nat}{W0:World}(hm:m=W0.heap.size):Keeps P m W0 139 #[] (fun (s:Unit) x=>(bad9 x,s)) () (fun _ U _=>∀k,¬U k):=
 keeps_pure hm (fun x vs W hx hv=>by
  have hf:=parts_fits hP.fits hx
  cases x with
  | fn f d=>exact c9_fn hf hv
  | blk f k d x=>exact c9_blk hf hv
  | ins f k i d x c=>exact c9_ins hf hv)
set_option maxHeartbeats 1000000 in
theorem q9_any {P:List Fun}(hP:POk P){w:World}{v:Value}(h:RdE 3 RdFun w v P):Calls Tryz.prog 89 #[.agg #[v]] w fun e w'=>e=.returned (ansV (firstP bad9 P))∧Below w.heap.size w w':=by
 obtain⟨a0,c0,rfl⟩:=h.form
 have hb0:Below w.heap.size w ((w.alloc (.cells #[.slice a0 P.length c0] 91)).alloc (.cells #[.int .i64 0,.int .i64 0,.int .i64 0] 53)):=((Below.refl _ _).alloc (Nat.le_refl _) _).alloc (by simp) _
 have hw:=Lib.hid (where_any (W0:=((w.alloc (.cells #[.slice a0 P.length c0] 91)).alloc (.cells #[.int .i64 0,.int .i64 0,.int .i64 0] 53))) (keeps9 hP rfl) (enters_of Tryz.func139 (by kernel_rfl) rfl) rfl (RdE.below (fun _ _ h=>h.below hb0) h hb0) (Below.refl _ _) (U0:=fun _=>False) (fun _ h=>h.elim) (fun _ h=>h) hP.l1 hP.l2 hP.l3)
 have hN:((w.alloc (.cells #[.slice a0 P.length c0] 91)).alloc (.cells #[.int .i64 0,.int .i64 0,.int .i64 0] 53)).heap[w.heap.size+1]?=some (.cells #[.int .i64 0,.int .i64 0,.int .i64 0] 53 (0,0)):=at_newN (by simp)
 have hl:((w.alloc (.cells #[.slice a0 P.length c0] 91)).alloc (.cells #[.int .i64 0,.int .i64 0,.int .i64 0] 53)).cell? ⟨w.heap.size,0,none⟩=some (.slice a0 P.length c0):=by rw [blk_cell (at_oldN (at_newN rfl))];rfl
 unfold ansV firstP
 unfold ptA at hw ⊢
 generalize firstBad (fun (s:Unit) x=>(bad9 x,s)) () (partsL P)=fb at hw ⊢
 generalize P.length=p at h hw hb0 hN hl ⊢
 clear h
 replace hb0:=Lib.hid hb0
 replace hN:=Lib.hid hN
 go_enter Tryz.func89,Tryz.ntmps89
 go_upto_region 1 with fail
 generalize ((w.alloc (.cells #[.slice a0 p c0] 91)).alloc (.cells #[.int .i64 0,.int .i64 0,.int .i64 0] 53))=wb at hw hb0 hN hl ⊢
 go_wp2_with fail
 refine hw.out.mono ?_
 rintro e w2 ⟨rfl,hb2⟩
 have hN2:=(hb2.block _ (Array.getElem?_eq_some_iff.1 hN.out).1).trans hN.out
 have hf:=Lib.hid (show Below w.heap.size w ((((w2.setCell ⟨w.heap.size+1,0,none⟩ (.int .i64 (resAt fb).1)).setCell ⟨w.heap.size+1,1,none⟩ (.int .i64 (resAt fb).2.1)).setCell ⟨w.heap.size+1,2,none⟩ (.int .i64 (resAt fb).2.2))) from (((hb0.out.trans (hb2.mono hb0.out.size)).setCell (p:=⟨w.heap.size+1,0,none⟩) (Nat.le_succ _) _).setCell (p:=⟨w.heap.size+1,1,none⟩) (Nat.le_succ _) _).setCell (p:=⟨w.heap.size+1,2,none⟩) (Nat.le_succ _) _)
 have hN3:=Lib.hid (set_three (v0:=.int .i64 (resAt fb).1) (v1:=.int .i64 (resAt fb).2.1) (v2:=.int .i64 (resAt fb).2.2) hN2)
 have z0:w2.cell? ⟨w.heap.size+1,0,none⟩=some (.int .i64 0):=by rw [blk_cell hN2];rfl
 have z1:w2.cell? ⟨w.heap.size+1,1,none⟩=some (.int .i64 0):=by rw [blk_cell hN2];rfl
 have z2:w2.cell? ⟨w.heap.size+1,2,none⟩=some (.int .i64 0):=by rw [blk_cell hN2];rfl
 have y0:w2.frozen? ⟨w.heap.size+1,0,none⟩=false:=by simp [World.frozen?,hN2]
 have y1:w2.frozen? ⟨w.heap.size+1,1,none⟩=false:=by simp [World.frozen?,hN2]
 have y2:w2.frozen? ⟨w.heap.size+1,2,none⟩=false:=by simp [World.frozen?,hN2]
 clear hb2 hN2 hw hl
 go_wp2_with fail
 generalize (((w2.setCell ⟨w.heap.size+1,0,none⟩ (.int .i64 (resAt fb).1)).setCell ⟨w.heap.size+1,1,none⟩ (.int .i64 (resAt fb).2.1)).setCell ⟨w.heap.size+1,2,none⟩ (.int .i64 (resAt fb).2.2))=w3 at hf hN3 ⊢
 have c0:w3.cell? ⟨w.heap.size+1,0,none⟩=some (.int .i64 (resAt fb).1):=by rw [blk_cell hN3.out];rfl
 have c1:w3.cell? ⟨w.heap.size+1,1,none⟩=some (.int .i64 (resAt fb).2.1):=by rw [blk_cell hN3.out];rfl
 have c2:w3.cell? ⟨w.heap.size+1,2,none⟩=some (.int .i64 (resAt fb).2.2):=by rw [blk_cell hN3.out];rfl
 exact bodyPost_ret (v:=.tuple #[.agg #[.int .i64 (resAt fb).1,.int .i64 (resAt fb).2.1,.int .i64 (resAt fb).2.2],.bool fb.isSome]) (by simp [results,Tryz.results89,go_sem,c0,c1,c2]) rfl ⟨rfl,hf.out⟩
theorem keeps10 {P:List Fun}(hP:POk P){m:Nat}{W0:World}(hm:m=W0.heap.size):Keeps P m W0 141 #[] (fun (s:Unit) x=>(bad10 x,s)) () (fun _ U _=>∀k,¬U k):=
 keeps_pure hm (fun x vs W hx hv=>by
  have hf:=parts_fits hP.fits hx
  cases x with
  | fn f d=>exact c10_fn hf hv
  | blk f k d x=>exact c10_blk hf hv
  | ins f k i d x c=>exact c10_ins hf hv)
set_option maxHeartbeats 1000000 in
theorem q10_any {P:List Fun}(hP:POk P){w:World}{v:Value}(h:RdE 3 RdFun w v P):Calls Tryz.prog 90 #[.agg #[v]] w fun e w'=>e=.returned (ansV (firstP bad10 P))∧Below w.heap.size w w':=by
 obtain⟨a0,c0,rfl⟩:=h.form
 have hb0:Below w.heap.size w ((w.alloc (.cells #[.slice a0 P.length c0] 91)).alloc (.cells #[.int .i64 0,.int .i64 0,.int .i64 0] 53)):=((Below.refl _ _).alloc (Nat.le_refl _) _).alloc (by simp) _
 have hw:=Lib.hid (where_any (W0:=((w.alloc (.cells #[.slice a0 P.length c0] 91)).alloc (.cells #[.int .i64 0,.int .i64 0,.int .i64 0] 53))) (keeps10 hP rfl) (enters_of Tryz.func141 (by kernel_rfl) rfl) rfl (RdE.below (fun _ _ h=>h.below hb0) h hb0) (Below.refl _ _) (U0:=fun _=>False) (fun _ h=>h.elim) (fun _ h=>h) hP.l1 hP.l2 hP.l3)
 have hN:((w.alloc (.cells #[.slice a0 P.length c0] 91)).alloc (.cells #[.int .i64 0,.int .i64 0,.int .i64 0] 53)).heap[w.heap.size+1]?=some (.cells #[.int .i64 0,.int .i64 0,.int .i64 0] 53 (0,0)):=at_newN (by simp)
 have hl:((w.alloc (.cells #[.slice a0 P.length c0] 91)).alloc (.cells #[.int .i64 0,.int .i64 0,.int .i64 0] 53)).cell? ⟨w.heap.size,0,none⟩=some (.slice a0 P.length c0):=by rw [blk_cell (at_oldN (at_newN rfl))];rfl
 unfold ansV firstP
 unfold ptA at hw ⊢
 generalize firstBad (fun (s:Unit) x=>(bad10 x,s)) () (partsL P)=fb at hw ⊢
 generalize P.length=p at h hw hb0 hN hl ⊢
 clear h
 replace hb0:=Lib.hid hb0
 replace hN:=Lib.hid hN
 go_enter Tryz.func90,Tryz.ntmps90
 go_upto_region 1 with fail
 generalize ((w.alloc (.cells #[.slice a0 p c0] 91)).alloc (.cells #[.int .i64 0,.int .i64 0,.int .i64 0] 53))=wb at hw hb0 hN hl ⊢
 go_wp2_with fail
 refine hw.out.mono ?_
 rintro e w2 ⟨rfl,hb2⟩
 have hN2:=(hb2.block _ (Array.getElem?_eq_some_iff.1 hN.out).1).trans hN.out
 have hf:=Lib.hid (show Below w.heap.size w ((((w2.setCell ⟨w.heap.size+1,0,none⟩ (.int .i64 (resAt fb).1)).setCell ⟨w.heap.size+1,1,none⟩ (.int .i64 (resAt fb).2.1)).setCell ⟨w.heap.size+1,2,none⟩ (.int .i64 (resAt fb).2.2))) from (((hb0.out.trans (hb2.mono hb0.out.size)).setCell (p:=⟨w.heap.size+1,0,none⟩) (Nat.le_succ _) _).setCell (p:=⟨w.heap.size+1,1,none⟩) (Nat.le_succ _) _).setCell (p:=⟨w.heap.size+1,2,none⟩) (Nat.le_succ _) _)
 have hN3:=Lib.hid (set_three (v0:=.int .i64 (resAt fb).1) (v1:=.int .i64 (resAt fb).2.1) (v2:=.int .i64 (resAt fb).2.2) hN2)
 have z0:w2.cell? ⟨w.heap.size+1,0,none⟩=some (.int .i64 0):=by rw [blk_cell hN2];rfl
 have z1:w2.cell? ⟨w.heap.size+1,1,none⟩=some (.int .i64 0):=by rw [blk_cell hN2];rfl
 have z2:w2.cell? ⟨w.heap.size+1,2,none⟩=some (.int .i64 0):=by rw [blk_cell hN2];rfl
 have y0:w2.frozen? ⟨w.heap.size+1,0,none⟩=false:=by simp [World.frozen?,hN2]
 have y1:w2.frozen? ⟨w.heap.size+1,1,none⟩=false:=by simp [World.frozen?,hN2]
 have y2:w2.frozen? ⟨w.heap.size+1,2,none⟩=false:=by simp [World.frozen?,hN2]
 clear hb2 hN2 hw hl
 go_wp2_with fail
 generalize (((w2.setCell ⟨w.heap.size+1,0,none⟩ (.int .i64 (resAt fb).1)).setCell ⟨w.heap.size+1,1,none⟩ (.int .i64 (resAt fb).2.1)).setCell ⟨w.heap.size+1,2,none⟩ (.int .i64 (resAt fb).2.2))=w3 at hf hN3 ⊢
 have c0:w3.cell? ⟨w.heap.size+1,0,none⟩=some (.int .i64 (resAt fb).1):=by rw [blk_cell hN3.out];rfl
 have c1:w3.cell? ⟨w.heap.size+1,1,none⟩=some (.int .i64 (resAt fb).2.1):=by rw [blk_cell hN3.out];rfl
 have c2:w3.cell? ⟨w.heap.size+1,2,none⟩=some (.int .i64 (resAt fb).2.2):=by rw [blk_cell hN3.out];rfl
 exact bodyPost_ret (v:=.tuple #[.agg #[.int .i64 (resAt fb).1,.int .i64 (resAt fb).2.1,.int .i64 (resAt fb).2.2],.bool fb.isSome]) (by simp [results,Tryz.results90,go_sem,c0,c1,c2]) rfl ⟨rfl,hf.out⟩
theorem keeps11 {P:List Fun}(hP:POk P){m:Nat}{W0:World}(hm:m=W0.heap.size):Keeps P m W0 143 #[] (fun (s:Unit) x=>(bad11 x,s)) () (fun _ U _=>∀k,¬U k):=
 keeps_pure hm (fun x vs W hx hv=>by
  have hf:=parts_fits hP.fits hx
  cases x with
  | fn f d=>exact c11_fn hf hv
  | blk f k d x=>exact c11_blk hf hv
  | ins f k i d x c=>exact c11_ins hf hv)
set_option maxHeartbeats 1000000 in
theorem q11_any {P:List Fun}(hP:POk P){w:World}{v:Value}(h:RdE 3 RdFun w v P):Calls Tryz.prog 91 #[.agg #[v]] w fun e w'=>e=.returned (ansV (firstP bad11 P))∧Below w.heap.size w w':=by
 obtain⟨a0,c0,rfl⟩:=h.form
 have hb0:Below w.heap.size w ((w.alloc (.cells #[.slice a0 P.length c0] 91)).alloc (.cells #[.int .i64 0,.int .i64 0,.int .i64 0] 53)):=((Below.refl _ _).alloc (Nat.le_refl _) _).alloc (by simp) _
 have hw:=Lib.hid (where_any (W0:=((w.alloc (.cells #[.slice a0 P.length c0] 91)).alloc (.cells #[.int .i64 0,.int .i64 0,.int .i64 0] 53))) (keeps11 hP rfl) (enters_of Tryz.func143 (by kernel_rfl) rfl) rfl (RdE.below (fun _ _ h=>h.below hb0) h hb0) (Below.refl _ _) (U0:=fun _=>False) (fun _ h=>h.elim) (fun _ h=>h) hP.l1 hP.l2 hP.l3)
 have hN:((w.alloc (.cells #[.slice a0 P.length c0] 91)).alloc (.cells #[.int .i64 0,.int .i64 0,.int .i64 0] 53)).heap[w.heap.size+1]?=some (.cells #[.int .i64 0,.int .i64 0,.int .i64 0] 53 (0,0)):=at_newN (by simp)
 have hl:((w.alloc (.cells #[.slice a0 P.length c0] 91)).alloc (.cells #[.int .i64 0,.int .i64 0,.int .i64 0] 53)).cell? ⟨w.heap.size,0,none⟩=some (.slice a0 P.length c0):=by rw [blk_cell (at_oldN (at_newN rfl))];rfl
 unfold ansV firstP
 unfold ptA at hw ⊢
 generalize firstBad (fun (s:Unit) x=>(bad11 x,s)) () (partsL P)=fb at hw ⊢
 generalize P.length=p at h hw hb0 hN hl ⊢
 clear h
 replace hb0:=Lib.hid hb0
 replace hN:=Lib.hid hN
 go_enter Tryz.func91,Tryz.ntmps91
 go_upto_region 1 with fail
 generalize ((w.alloc (.cells #[.slice a0 p c0] 91)).alloc (.cells #[.int .i64 0,.int .i64 0,.int .i64 0] 53))=wb at hw hb0 hN hl ⊢
 go_wp2_with fail
 refine hw.out.mono ?_
 rintro e w2 ⟨rfl,hb2⟩
 have hN2:=(hb2.block _ (Array.getElem?_eq_some_iff.1 hN.out).1).trans hN.out
 have hf:=Lib.hid (show Below w.heap.size w ((((w2.setCell ⟨w.heap.size+1,0,none⟩ (.int .i64 (resAt fb).1)).setCell ⟨w.heap.size+1,1,none⟩ (.int .i64 (resAt fb).2.1)).setCell ⟨w.heap.size+1,2,none⟩ (.int .i64 (resAt fb).2.2))) from (((hb0.out.trans (hb2.mono hb0.out.size)).setCell (p:=⟨w.heap.size+1,0,none⟩) (Nat.le_succ _) _).setCell (p:=⟨w.heap.size+1,1,none⟩) (Nat.le_succ _) _).setCell (p:=⟨w.heap.size+1,2,none⟩) (Nat.le_succ _) _)
 have hN3:=Lib.hid (set_three (v0:=.int .i64 (resAt fb).1) (v1:=.int .i64 (resAt fb).2.1) (v2:=.int .i64 (resAt fb).2.2) hN2)
 have z0:w2.cell? ⟨w.heap.size+1,0,none⟩=some (.int .i64 0):=by rw [blk_cell hN2];rfl
 have z1:w2.cell? ⟨w.heap.size+1,1,none⟩=some (.int .i64 0):=by rw [blk_cell hN2];rfl
 have z2:w2.cell? ⟨w.heap.size+1,2,none⟩=some (.int .i64 0):=by rw [blk_cell hN2];rfl
 have y0:w2.frozen? ⟨w.heap.size+1,0,none⟩=false:=by simp [World.frozen?,hN2]
 have y1:w2.frozen? ⟨w.heap.size+1,1,none⟩=false:=by simp [World.frozen?,hN2]
 have y2:w2.frozen? ⟨w.heap.size+1,2,none⟩=false:=by simp [World.frozen?,hN2]
 clear hb2 hN2 hw hl
 go_wp2_with fail
 generalize (((w2.setCell ⟨w.heap.size+1,0,none⟩ (.int .i64 (resAt fb).1)).setCell ⟨w.heap.size+1,1,none⟩ (.int .i64 (resAt fb).2.1)).setCell ⟨w.heap.size+1,2,none⟩ (.int .i64 (resAt fb).2.2))=w3 at hf hN3 ⊢
 have c0:w3.cell? ⟨w.heap.size+1,0,none⟩=some (.int .i64 (resAt fb).1):=by rw [blk_cell hN3.out];rfl
 have c1:w3.cell? ⟨w.heap.size+1,1,none⟩=some (.int .i64 (resAt fb).2.1):=by rw [blk_cell hN3.out];rfl
 have c2:w3.cell? ⟨w.heap.size+1,2,none⟩=some (.int .i64 (resAt fb).2.2):=by rw [blk_cell hN3.out];rfl
 exact bodyPost_ret (v:=.tuple #[.agg #[.int .i64 (resAt fb).1,.int .i64 (resAt fb).2.1,.int .i64 (resAt fb).2.2],.bool fb.isSome]) (by simp [results,Tryz.results91,go_sem,c0,c1,c2]) rfl ⟨rfl,hf.out⟩
end
section
open Go.RowKit Go.Maps Go.Shelf
theorem cat_len {α β:Type}{g:Nat→α→List β}{l:List α}{k:Nat}(h:∀i z,l[i]?=some z→(g i z).length≤k):(cat g l).length≤l.length*k:=by
 have key:∀n,n≤l.length→(cat g (l.take n)).length≤n*k:=by
  intro n
  induction n with
  | zero=>intro _;simp [cat]
  | succ n ih=>
   intro hn
   obtain⟨z,hz⟩:∃z,l[n]?=some z:=⟨_,List.getElem?_eq_getElem (by omega)⟩
   rw [cat_succ hz,List.length_append]
   have:=ih (by omega)
   have:=h n z hz
   rw [Nat.succ_mul]
   omega
 have:=key l.length (Nat.le_refl _)
 rwa [List.take_length] at this
theorem parts_len {P:List Fun}(hP:POk P):(partsL P).length≤1100000000000000000:=by
 have h1:(partsL P).length≤P.length*1000001000001:=by
  refine cat_len (fun f d hd=>?_)
  have hdm:=List.mem_of_getElem? hd
  unfold funL
  rw [List.length_cons]
  have h2:(cat (fun b x=>blkL f b d x) d.blocks).length≤d.blocks.length*1000001:=by
   refine cat_len (fun b x hx=>?_)
   have hxm:=List.mem_of_getElem? hx
   unfold blkL
   rw [List.length_cons]
   have h3:(cat (fun i c=>[Prt.ins f b i d x c]) x.code).length≤x.code.length*1:=cat_len (fun _ _ _=>by simp)
   have:=hP.l3 d hdm x hxm
   omega
  have:=hP.l2 d hdm
  omega
 have:=hP.l1
 omega
theorem pre_len {P:List Fun}(hP:POk P){pre rest:List Prt}{x:Prt}(h:partsL P=pre++x::rest):pre.length≤1100000000000000000:=by
 have h1:=parts_len hP
 rw [h,List.length_append] at h1
 omega
theorem snocP {Q:List Prt→Prop}(h0:Q [])(hs:∀l x,Q l→Q (l++[x]))(l:List Prt):Q l:=by
 have:∀r:List Prt,Q r.reverse:=by
  intro r
  induction r with
  | nil=>exact h0
  | cons x r ih=>rw [List.reverse_cons];exact hs _ _ ih
 have:=this l.reverse
 rwa [List.reverse_reverse] at this
theorem cell_apart {w w':World}{b:Nat}{l:List ByteArray}(hM:SetS w b l)(hT:Touch w w' (fun k=>k=b)){p:Addr}{v:Value}(h:w.cell? p=some v):w'.cell? p=some v:=by
 have hg:p.block≠b:=by
  intro e
  obtain⟨D,⟨es,clock,hb,-⟩,-⟩:=hM
  simp [World.cell?,e,hb] at h
 rw [←h]
 unfold World.cell?
 rw [hT.block p.block (cell_size h) hg]
structure SetBx (Bx:Nat) (l:List ByteArray) (U:Nat→Prop) (bm:Nat) (W:World):Prop where
 box:W.heap[Bx]?=some (.cells #[.map (some bm)] 148 (0,0))
 set:SetS W bm l
 ne:bm≠Bx
 own:∀k,U k↔k=Bx∨k=bm
theorem SetBx.calm {Bx:Nat}{l:List ByteArray}{U:Nat→Prop}{bm:Nat}{W W':World}(h:SetBx Bx l U bm W)(hT:Touch W W' (fun k=>¬U k)):SetBx Bx l U bm W':=
 ⟨(hT.block _ (Array.getElem?_eq_some_iff.1 h.box).1 (fun hn=>hn ((h.own _).2 (.inl rfl)))).trans h.box,h.set.block (hT.block _ h.set.lt (fun hn=>hn ((h.own _).2 (.inr rfl)))),h.ne,h.own⟩
theorem SetBx.below {Bx:Nat}{l:List ByteArray}{U:Nat→Prop}{bm:Nat}{W W':World}(h:SetBx Bx l U bm W)(hb:Below W.heap.size W W'):SetBx Bx l U bm W':=h.calm (Touch.of_below hb _)
theorem SetBx.turned {Bx:Nat}{l l2:List ByteArray}{U:Nat→Prop}{bm:Nat}{W W':World}(h:SetBx Bx l U bm W)(hM:SetS W' bm l2)(hT:Touch W W' (fun k=>k=bm)):SetBx Bx l2 U bm W':=
 ⟨(hT.block _ (Array.getElem?_eq_some_iff.1 h.box).1 (fun e=>h.ne e.symm)).trans h.box,hM,h.ne,h.own⟩
end
end Go.Proofs.YtknkiaedgeejiaaGreatDoor
