/- NNoV, NQuestF, NMain, NMainB, NAsk. -/
import Derived.Test.YtknkiaedgeejiaaGreatDoorSP15
import Derived.Test.YtknkiaedgeejiaaGreatDoorSP12
namespace Go.Proofs.YtknkiaedgeejiaaGreatDoor
set_option linter.unusedVariables false
set_option linter.unusedSimpArgs false
section
open Go.RowKit Go.Maps Go.Shelf
attribute [local go_sem] Oper.semAt_some
set_option maxRecDepth 20000 in
set_option maxHeartbeats 4000000 in
theorem c16_fn {W:World}{f:Nat}{d:Fun}{vs:Array Value}{Bx:Nat}{ob:Option Nat}(hf:(Prt.fn f d).Fits)(hpl:d.params.length≤1000000)(hbl:d.blocks.length≤1000000)(hcl:∀x∈d.blocks,x.code.length≤1000000)(h:PrtV W (Prt.fn f d) vs)(hX:W.heap[Bx]?=some (.cells #[.map ob] 148 (0,0))):
  Calls Tryz.prog 151 #[.agg vs,.pointer (some ⟨Bx,0,none⟩)] W fun e W'=>e=.returned (.bool false)∧∃bm,W.heap.size≤bm∧SetBx Bx (varsL d) (fun k=>k=Bx∨k=bm) bm W'∧Touch W W' (fun k=>k=Bx):=by
 obtain⟨b,o,rfl,hF⟩:=h
 obtain⟨W2,hW2⟩:∃W2,W2=((W.alloc (.cells #[.int .i64 f,.int .i64 0,.int .i64 0,.pointer (some ⟨b,o,none⟩),.pointer none,.pointer none] 144)).alloc (.cells #[.bool false] 4)):=⟨_,rfl⟩
 have hb0:Below W.heap.size W W2:=by rw [hW2];exact ((Below.refl _ _).alloc (Nat.le_refl _) _).alloc (by simp) _
 have hN:W2.heap[W.heap.size]?=some (.cells #[.int .i64 f,.int .i64 0,.int .i64 0,.pointer (some ⟨b,o,none⟩),.pointer none,.pointer none] 144 (0,0)):=by rw [hW2];exact at_oldN (at_newN rfl)
 have hR:W2.heap[W.heap.size+1]?=some (.cells #[.bool false] 4 (0,0)):=by rw [hW2];exact at_newN (by simp)
 have hBx:Bx<W.heap.size:=(Array.getElem?_eq_some_iff.1 hX).1
 have hX2:=(hb0.block Bx hBx).trans hX
 have hF2:=hF.below hb0
 have hT2:=Lib.hid (Touch.of_below hb0 (fun k=>k=Bx))
 have hsz2:W2.heap.size=W.heap.size+2:=by rw [hW2];simp
 have hfd:d.Fits:=hf
 clear hX hF hf
 go_enter Tryz.func151,Tryz.ntmps151
 go_upto_region 1 with fail
 rw [←hW2]
 clear hW2 hb0
 have s0:W2.cell? ⟨W.heap.size,0,none⟩=some (.int .i64 f):=by rw [blk_cell hN];rfl
 have s1:W2.cell? ⟨W.heap.size,1,none⟩=some (.int .i64 0):=by rw [blk_cell hN];rfl
 have s2:W2.cell? ⟨W.heap.size,2,none⟩=some (.int .i64 0):=by rw [blk_cell hN];rfl
 have s3:W2.cell? ⟨W.heap.size,3,none⟩=some (.pointer (some ⟨b,o,none⟩)):=by rw [blk_cell hN];rfl
 have s4:W2.cell? ⟨W.heap.size,4,none⟩=some (.pointer none):=by rw [blk_cell hN];rfl
 have s5:W2.cell? ⟨W.heap.size,5,none⟩=some (.pointer none):=by rw [blk_cell hN];rfl
 replace hX2:=Lib.hid hX2
 replace hN:=Lib.hid hN
 replace hR:=Lib.hid hR
 replace hF2:=Lib.hid hF2
 replace hfd:=Lib.hid hfd
 replace hcl:=Lib.hid hcl
 go_upto_region 2 with (go_at_call 126;refine Calls.mono isFunc_v ?_;rintro e w2 ⟨rfl,hb⟩)
 have hX3:=Lib.hid ((hb.block Bx (by omega)).trans hX2.out)
 have hN3:=Lib.hid ((hb.block _ (by omega)).trans hN.out)
 have hR3:=Lib.hid ((hb.block _ (by omega)).trans hR.out)
 have hT3:=Lib.hid (hT2.out.trans (Touch.of_below hb _))
 have hF3:=Lib.hid (hF2.out.below hb)
 have hsz3:W.heap.size+2≤w2.heap.size:=by have:=hb.size;omega
 clear s0 s1 s2 s3 s4 s5 hX2 hN hR hT2 hb hF2 hsz2
 have s3:w2.cell? ⟨W.heap.size,3,none⟩=some (.pointer (some ⟨b,o,none⟩)):=by rw [blk_cell hN3.out];rfl
 go_upto_region 3 with (go_at_call 152;refine Calls.mono (variables_any hF3.out hfd.out hpl hbl hcl.out) ?_;rintro e w3 ⟨bm,rfl,hge,hset,hb3⟩;have e0:w3.cell? ⟨Bx,0,none⟩=some (.map ob):=(by rw [blk_cell ((hb3.block Bx (by omega)).trans hX3.out)];rfl);have y0:w3.frozen? ⟨Bx,0,none⟩=false:=(by simp [World.frozen?,((hb3.block Bx (by omega)).trans hX3.out)]))
 have hX4:(w3.setCell ⟨Bx,0,none⟩ (.map (some bm))).heap[Bx]?=some (.cells #[.map (some bm)] 148 (0,0)):=set_one ((hb3.block Bx (by omega)).trans hX3.out)
 have hN4:(w3.setCell ⟨Bx,0,none⟩ (.map (some bm))).heap[W.heap.size]?=_:=(Below.heap_setCell _ _ _ _ (show W.heap.size≠Bx by omega)).trans ((hb3.block _ (by omega)).trans hN3.out)
 have hR4:(w3.setCell ⟨Bx,0,none⟩ (.map (some bm))).heap[W.heap.size+1]?=_:=(Below.heap_setCell _ _ _ _ (show W.heap.size+1≠Bx by omega)).trans ((hb3.block _ (by omega)).trans hR3.out)
 have hS4:=hset.block (Below.heap_setCell w3 ⟨Bx,0,none⟩ (.map (some bm)) bm (show bm≠Bx by omega))
 have hT4:Touch W (w3.setCell ⟨Bx,0,none⟩ (.map (some bm))) (fun k=>k=Bx):=(hT3.out.trans (Touch.of_below hb3 _)).setCell (a:=⟨Bx,0,none⟩) (fun _=>rfl) _
 clear e0 y0 s3 hX3 hN3 hR3 hT3 hF3 hb3 hset
 generalize (w3.setCell ⟨Bx,0,none⟩ (.map (some bm)))=w4 at hX4 hN4 hR4 hS4 hT4 ⊢
 have s5:w4.cell? ⟨W.heap.size,5,none⟩=some (.pointer none):=by rw [blk_cell hN4];rfl
 have r0:w4.cell? ⟨W.heap.size+1,0,none⟩=some (.bool false):=by rw [blk_cell hR4];rfl
 have y0:w4.frozen? ⟨W.heap.size+1,0,none⟩=false:=by simp [World.frozen?,hR4]
 have hR5:=Lib.hid (set_one (v0:=.bool false) hR4)
 have hfin:Hid (SetBx Bx (varsL d) (fun k=>k=Bx∨k=bm) bm (w4.setCell ⟨W.heap.size+1,0,none⟩ (.bool false))):=Lib.hid ⟨(Below.heap_setCell _ _ _ _ (show Bx≠W.heap.size+1 by omega)).trans hX4,hS4.block (Below.heap_setCell _ _ _ _ (show bm≠W.heap.size+1 by omega)),by omega,fun k=>Iff.rfl⟩
 have hT5:=Lib.hid (hT4.setCell (a:=⟨W.heap.size+1,0,none⟩) (fun h=>absurd h (by simp)) (.bool false))
 have hgeW:W.heap.size≤bm:=by omega
 clear hX4 hN4 hR4 hS4 hT4
 go_wp2_with fail
 have c5:(w4.setCell ⟨W.heap.size+1,0,none⟩ (.bool false)).cell? ⟨W.heap.size+1,0,none⟩=some (.bool false):=by rw [blk_cell hR5.out];rfl
 exact bodyPost_ret (by simp [results,Tryz.results151,go_sem,c5]) rfl ⟨rfl,bm,hgeW,hfin.out,hT5.out⟩
set_option maxRecDepth 20000 in
set_option maxHeartbeats 4000000 in
theorem c16_blk {W:World}{f k:Nat}{d:Fun}{x:Blk}{vs:Array Value}{Bx bm:Nat}{l:List ByteArray}{U:Nat→Prop}(h:PrtV W (Prt.blk f k d x) vs)(hX:SetBx Bx l U bm W):
  Calls Tryz.prog 151 #[.agg vs,.pointer (some ⟨Bx,0,none⟩)] W fun e W'=>e=.returned (.bool false)∧SetBx Bx l U bm W'∧Touch W W' (fun k=>k=bm):=by
 obtain⟨b,o,b2,o2,rfl,-⟩:=h
 obtain⟨W2,hW2⟩:∃W2,W2=((W.alloc (.cells #[.int .i64 f,.int .i64 k,.int .i64 0,.pointer (some ⟨b,o,none⟩),.pointer (some ⟨b2,o2,none⟩),.pointer none] 144)).alloc (.cells #[.bool false] 4)):=⟨_,rfl⟩
 have hb0:Below W.heap.size W W2:=by rw [hW2];exact ((Below.refl _ _).alloc (Nat.le_refl _) _).alloc (by simp) _
 have hN:W2.heap[W.heap.size]?=some (.cells #[.int .i64 f,.int .i64 k,.int .i64 0,.pointer (some ⟨b,o,none⟩),.pointer (some ⟨b2,o2,none⟩),.pointer none] 144 (0,0)):=by rw [hW2];exact at_oldN (at_newN rfl)
 have hR:W2.heap[W.heap.size+1]?=some (.cells #[.bool false] 4 (0,0)):=by rw [hW2];exact at_newN (by simp)
 have hblt:bm<W.heap.size∧Bx<W.heap.size:=⟨hX.set.lt,(Array.getElem?_eq_some_iff.1 hX.box).1⟩
 have hM:=hX.below hb0
 have hsz2:W2.heap.size=W.heap.size+2:=by rw [hW2];simp
 clear hX
 go_enter Tryz.func151,Tryz.ntmps151
 go_upto_region 1 with fail
 rw [←hW2]
 clear hW2
 have s0:W2.cell? ⟨W.heap.size,0,none⟩=some (.int .i64 f):=by rw [blk_cell hN];rfl
 have s1:W2.cell? ⟨W.heap.size,1,none⟩=some (.int .i64 k):=by rw [blk_cell hN];rfl
 have s2:W2.cell? ⟨W.heap.size,2,none⟩=some (.int .i64 0):=by rw [blk_cell hN];rfl
 have s3:W2.cell? ⟨W.heap.size,3,none⟩=some (.pointer (some ⟨b,o,none⟩)):=by rw [blk_cell hN];rfl
 have s4:W2.cell? ⟨W.heap.size,4,none⟩=some (.pointer (some ⟨b2,o2,none⟩)):=by rw [blk_cell hN];rfl
 have s5:W2.cell? ⟨W.heap.size,5,none⟩=some (.pointer none):=by rw [blk_cell hN];rfl
 replace hN:=Lib.hid hN
 replace hR:=Lib.hid hR
 replace hM:=Lib.hid hM
 replace hb0:=Lib.hid hb0
 go_upto_region 3 with (go_at_call 126;refine Calls.mono isFunc_v ?_;rintro e w2 ⟨rfl,hb⟩)
 have hN3:=(hb.block _ (by omega)).trans hN.out
 have hR3:=(hb.block _ (by omega)).trans hR.out
 have s5':w2.cell? ⟨W.heap.size,5,none⟩=some (.pointer none):=by rw [blk_cell hN3];rfl
 have r0:w2.cell? ⟨W.heap.size+1,0,none⟩=some (.bool false):=by rw [blk_cell hR3];rfl
 have y0:w2.frozen? ⟨W.heap.size+1,0,none⟩=false:=by simp [World.frozen?,hR3]
 have hR5:=Lib.hid (set_one (v0:=.bool false) hR3)
 have hb5:Below W.heap.size W (w2.setCell ⟨W.heap.size+1,0,none⟩ (.bool false)):=((hb0.out.trans (hb.mono (by omega))).setCell (p:=⟨W.heap.size+1,0,none⟩) (Nat.le_succ _) _)
 have hM2:=hM.out.below hb
 have hfin:=Lib.hid (hM2.calm (W':=w2.setCell ⟨W.heap.size+1,0,none⟩ (.bool false)) ((Touch.refl w2 _).setCell (a:=⟨W.heap.size+1,0,none⟩) (fun _ hu=>by have h1:=(hM2.own _).1 hu;simp at h1;omega) _))
 have hT5:=Lib.hid (Touch.of_below hb5 (fun k=>k=bm))
 clear s0 s1 s2 s3 s4 s5 hN hR hM hb hN3 hR3 hb5 hM2 hb0
 go_wp2_with fail
 have c5:(w2.setCell ⟨W.heap.size+1,0,none⟩ (.bool false)).cell? ⟨W.heap.size+1,0,none⟩=some (.bool false):=by rw [blk_cell hR5.out];rfl
 exact bodyPost_ret (by simp [results,Tryz.results151,go_sem,c5]) rfl ⟨rfl,hfin.out,hT5.out⟩
theorem c16_left {W:World}{D A:Nat}{b:Bool}{x0 x1 x2 x4 x5 x6 x7 x8 x9 x10 x11 x12 x13 x14 x15 x16 x17 x18 x19 x20 x21:Value}{R:Ending→World→Prop}(hD:W.heap[D]?=some (.deferred (some [])))(h3:W.heap[A]?=some (.cells #[.bool b] 4 (0,0)))(hA:A≠D)
  (hR:R (.returned (.bool b)) (W.putObj D (.deferred none))):
  bodyPostM Fence.wide 6 Tryz.prog Tryz.f151 R .ret {tmps:=#[x0,x1,x2,.pointer (some ⟨A,0,none⟩),x4,x5,x6,x7,x8,x9,x10,x11,x12,x13,x14,x15,x16,x17,x18,x19,x20,x21],defers:=[{target:=.collected D,args:=#[]}]} W:=by
 refine⟨by simp,.inl ⟨_,_,rfl,run_takeDeferred hD,?_⟩⟩
 have g3:(W.putObj D (.deferred none)).heap[A]?=some (.cells #[.bool b] 4 (0,0)):=(World.putObj_heap_other hA).trans h3
 generalize W.putObj D (.deferred none)=W2 at g3 hR ⊢
 have c3:W2.cell? ⟨A,0,none⟩=some (.bool b):=by rw [blk_cell g3];rfl
 exact⟨.bool b,by simp [results,Tryz.results151,go_sem,c3],hR⟩
structure UsSt (A Bx bm:Nat) (l:List ByteArray) (U:Nat→Prop) (W0:World) (b:Bool) (W:World):Prop where
 set:SetBx Bx l U bm W
 res:W.heap[A+1]?=some (.cells #[.bool b] 4 (0,0))
 bel:Below A W0 W
theorem UsSt.off {A Bx bm:Nat}{l:List ByteArray}{U:Nat→Prop}{W0 W W':World}{b:Bool}{S:Nat→Prop}(h:UsSt A Bx bm l U W0 b W)(hA:A≤W0.heap.size)(hbx:bm<A∧Bx<A)(hT:Touch W W' S)(hS:∀k,S k→A+1<k):UsSt A Bx bm l U W0 b W':=by
 refine⟨h.set.calm (hT.mono (fun k _ hs hu=>?_)),(hT.block _ (Array.getElem?_eq_some_iff.1 h.res).1 (fun hs=>by have:=hS _ hs;omega)).trans h.res,h.bel.trans (hT.below (by have:=h.bel.size;omega) (fun k hk hs=>by have:=hS _ hs;omega))⟩
 have h1:=hS k hs
 rcases (h.set.own k).1 hu with e | e<;>omega
theorem UsSt.turn {A Bx bm:Nat}{l:List ByteArray}{U:Nat→Prop}{W0 W:World}{b b':Bool}(h:UsSt A Bx bm l U W0 b W)(hA:A≤W0.heap.size)(hbx:bm<A∧Bx<A):UsSt A Bx bm l U W0 b' (W.setCell ⟨A+1,0,none⟩ (.bool b')):=by
 have hT:Touch W (W.setCell ⟨A+1,0,none⟩ (.bool b')) (fun k=>k=A+1):=(Touch.refl W (fun k=>k=A+1)).setCell (a:=⟨A+1,0,none⟩) (fun _=>rfl) _
 refine⟨h.set.calm (hT.mono (fun k _ hs hu=>?_)),set_one h.res,h.bel.trans (hT.below (by have:=h.bel.size;omega) (fun k hk hs=>by omega))⟩
 rcases (h.set.own k).1 hu with e | e<;>omega
set_option maxRecDepth 100000 in
set_option maxHeartbeats 8000000 in
theorem c16_ins {W:World}{f k i:Nat}{d:Fun}{x:Blk}{c:Ins}{vs:Array Value}{Bx bm:Nat}{l:List ByteArray}{U:Nat→Prop}(hf:(Prt.ins f k i d x c).Fits)(hal:c.args.length≤4000000000000)(h:PrtV W (Prt.ins f k i d x c) vs)(hX:SetBx Bx l U bm W):
  Calls Tryz.prog 151 #[.agg vs,.pointer (some ⟨Bx,0,none⟩)] W fun e W'=>e=.returned (.bool (!(usesL c).all fun s=>decide (s∈l)))∧SetBx Bx l U bm W'∧Touch W W' (fun k=>k=bm):=by
 obtain⟨b,o,b2,o2,b3,o3,rfl,-,-,hI⟩:=h
 obtain⟨W2,hW2⟩:∃W2,W2=((W.alloc (.cells #[.int .i64 f,.int .i64 k,.int .i64 i,.pointer (some ⟨b,o,none⟩),.pointer (some ⟨b2,o2,none⟩),.pointer (some ⟨b3,o3,none⟩)] 144)).alloc (.cells #[.bool false] 4)):=⟨_,rfl⟩
 have hb0:Below W.heap.size W W2:=by rw [hW2];exact ((Below.refl _ _).alloc (Nat.le_refl _) _).alloc (by simp) _
 have hN:W2.heap[W.heap.size]?=some (.cells #[.int .i64 f,.int .i64 k,.int .i64 i,.pointer (some ⟨b,o,none⟩),.pointer (some ⟨b2,o2,none⟩),.pointer (some ⟨b3,o3,none⟩)] 144 (0,0)):=by rw [hW2];exact at_oldN (at_newN rfl)
 have hR:W2.heap[W.heap.size+1]?=some (.cells #[.bool false] 4 (0,0)):=by rw [hW2];exact at_newN (by simp)
 have hblt:bm<W.heap.size∧Bx<W.heap.size:=⟨hX.set.lt,(Array.getElem?_eq_some_iff.1 hX.box).1⟩
 have hS2:UsSt W.heap.size Bx bm l U W false W2:=⟨hX.below hb0,hR,hb0⟩
 have hI2:=hI.below hb0
 have hsz2:W2.heap.size=W.heap.size+2:=by rw [hW2];simp
 have hfit:∀s∈usesL c,s.size≤maxLen:=by
  intro s hs
  have hc:=hf.2.2.1
  have h1:=(List.mem_filter.1 hs).1
  rcases List.mem_cons.1 h1 with rfl | h1
  ·exact hc.2.2.2.1
  rcases List.mem_cons.1 h1 with rfl | h1
  ·exact hc.2.2.2.2.1
  ·exact hc.2.2.2.2.2.2.2.1 s h1
 refine (callsIn_wide (n:=6)).1 ?_
 have hfq:Fence.wide.fn 171:=trivial
 have hfF:Fence.wide.fn 126:=trivial
 have hfU:Fence.wide.fn 153:=trivial
 have hfH:Fence.wide.fn 145:=trivial
 have s0:W2.cell? ⟨W.heap.size,0,none⟩=some (.int .i64 f):=by rw [blk_cell hN];rfl
 have s1:W2.cell? ⟨W.heap.size,1,none⟩=some (.int .i64 k):=by rw [blk_cell hN];rfl
 have s2:W2.cell? ⟨W.heap.size,2,none⟩=some (.int .i64 i):=by rw [blk_cell hN];rfl
 have s3:W2.cell? ⟨W.heap.size,3,none⟩=some (.pointer (some ⟨b,o,none⟩)):=by rw [blk_cell hN];rfl
 have s4:W2.cell? ⟨W.heap.size,4,none⟩=some (.pointer (some ⟨b2,o2,none⟩)):=by rw [blk_cell hN];rfl
 have s5:W2.cell? ⟨W.heap.size,5,none⟩=some (.pointer (some ⟨b3,o3,none⟩)):=by rw [blk_cell hN];rfl
 obtain⟨A,hA⟩:∃A,A=W.heap.size:=⟨_,rfl⟩
 have hbl2:=hb0.size
 refine callsIn_of_wp_marks Tryz.func151 rfl trivial ?_ rfl
 simp only [Tryz.ntmps151,List.size_toArray,List.length_cons,List.length_nil,Nat.reduceAdd,Nat.reduceSub,Array.replicate_succ,Array.replicate_zero,List.push_toArray,List.append_toArray,List.nil_append,List.cons_append]
 replace hW2:=hW2.symm
 replace hN:=Lib.hid hN
 replace hR:=Lib.hid hR
 replace hS2:=Lib.hid hS2
 replace hI2:=Lib.hid hI2
 replace hfit:=Lib.hid hfit
 clear hX hI hf hb0
 gi_wp2_with (first
  | (gi_at_call 126;refine (callsIn_wide.2 isFunc_v).mono ?_;rintro e w2 ⟨rfl,hb⟩;have s5':w2.cell? ⟨W.heap.size,5,none⟩=some (.pointer (some ⟨b3,o3,none⟩)):=keepC hb s5)
  | (gi_at_call 153;refine (callsIn_wide.2 (used_call _ _)).mono ?_;rintro e w' ⟨rfl,rfl⟩))
 rw [←hA] at hN hR hblt hS2 hsz2 ⊢
 obtain⟨B,hB⟩:∃B,B=w2.heap.size:=⟨_,rfl⟩
 have hbs:=hb.size
 have hAB:A+2≤B:=by omega
 have hS3:Hid (UsSt A Bx bm l U W false w2):=Lib.hid (hS2.out.off (by omega) hblt (Touch.of_below hb (fun _=>False)) (fun _ h=>h.elim))
 have hI3:=Lib.hid (hI2.out.below hb)
 clear s0 s1 s2 s3 s4 s5 s5' hN hR hS2 hI2 hb hW2 hsz2
 rw [←hB]
 obtain⟨W3,hW3⟩:∃W3,W3=w2.alloc (.cells #[.pointer (some ⟨b3,o3,none⟩)] 135):=⟨_,rfl⟩
 rw [←hW3]
 have hsz3:W3.heap.size=B+1:=by rw [hW3,hB];simp
 have hB3:W3.heap[B]?=some (.cells #[.pointer (some ⟨b3,o3,none⟩)] 135 (0,0)):=by rw [hW3];exact at_newN hB
 have hAW:A≤W.heap.size:=by omega
 have hAW2:W.heap.size≤A:=by omega
 have hS4:UsSt A Bx bm l U W false W3:=hS3.out.off hAW hblt (by rw [hW3];exact (Touch.refl w2 (fun _=>False)).alloc _) (fun _ (h:False)=>h.elim)
 have hI4:InsAt W3 b3 o3 c:=hI3.out.below (by rw [hW3];exact box_below _ _)
 clear hW3 hS3 hI3 hB hbs hbl2
 replace hA:=Lib.hid hA
 generalize Value.agg #[.int .i64 f,.int .i64 k,.int .i64 i,.pointer (some ⟨b,o,none⟩),.pointer (some ⟨b2,o2,none⟩),.pointer (some ⟨b3,o3,none⟩)]=V
 refine rangeFunc_calm (α:=ByteArray) rfl (by omega) (gf:=171) (lb:=#[.pointer (some ⟨B,0,none⟩)]) rfl trivial (enters_of Tryz.func171 (by kernel_rfl) rfl)
  (fun pre x vs _=>vs=#[.string x]∧∃rest,usesL c=pre++x::rest)
  (fun Wa Wb=>Touch Wa Wb (fun k=>k=B+2))
  (fun pre Wa=>pre.all (fun s=>decide (s∈l))=true∧UsSt A Bx bm l U W false Wa)
  (fun Wa=>(usesL c).all (fun s=>decide (s∈l))=false∧UsSt A Bx bm l U W true Wa)
  (fun pre x a' Wa=>∃rest,a'={tmps:=#[V,.pointer (some ⟨Bx,0,none⟩),.pointer (some ⟨A,0,none⟩),.pointer (some ⟨A+1,0,none⟩),.string x,V,.bool false,undef,undef,undef,.pointer (some ⟨A,5,none⟩),.pointer (some ⟨b3,o3,none⟩),.bool false,.pointer (some ⟨A,5,none⟩),.pointer (some ⟨b3,o3,none⟩),.func (.func 171) #[] #[.pointer (some ⟨B,0,none⟩)],.string x,undef,undef,undef,undef,undef],defers:=[]}∧usesL c=pre++x::rest∧pre.all (fun s=>decide (s∈l))=true∧UsSt A Bx bm l U W false Wa)
  (usesL c) ?hsz ?hcalm ?hI ?hIx ?hAx (fun h k=>h.trans k) ?hKp ?h0 ?hseq ?hassign ?hbody ?hdone ?hstop
 case hsz=>rintro pre x vs Wa ⟨rfl,-⟩;rfl
 case hcalm=>rintro pre Wa Wb ⟨h1,h2⟩ hT;exact⟨h1,h2.off hAW hblt hT (fun _ h=>h.elim)⟩
 case hI=>rintro pre Wa r ⟨h1,h2⟩ hl r';exact⟨h1,h2.off hAW hblt (touch_putObj _ _ _) (fun k hk=>by omega)⟩
 case hIx=>rintro Wa r ⟨h1,h2⟩ hl r';exact⟨h1,h2.off hAW hblt (touch_putObj _ _ _) (fun k hk=>by omega)⟩
 case hAx=>rintro pre x a' Wa r ⟨rest,rfl,e1,h1,h2⟩ hl r';exact⟨rest,rfl,e1,h1,h2.off hAW hblt (touch_putObj _ _ _) (fun k hk=>by omega)⟩
 case hKp=>intro Wa r r' hl;exact (touch_putObj Wa _ _).mono (fun k _ hk=>by omega)
 case h0=>intro r;exact⟨by simp,hS4.off hAW hblt (((Touch.refl _ (fun _=>False)).alloc _).alloc _) (fun _ h=>h.elim)⟩
 case hseq=>
  intro J Jx r hc hyv hJ0
  refine used_in 5 (by omega) _ J Jx (Bu:=B) (Lb:=B+2) (at_oldN (at_oldN hB3)) (hI4.below (((Below.refl _ _).alloc (Nat.le_refl _) _).alloc (by simp) _)) hal (by simp;omega) hc ?_ hJ0
  intro pre x rest W1 e1 e2
  exact hyv pre x _ W1 ⟨rfl,rest,e1⟩ e2
 case hassign=>
  rintro pre x vs Wa Kq ⟨rfl,rest,e1⟩ ⟨h1,h2⟩ hszW hKq
  have hfin:=Lib.hid (hKq {tmps:=#[V,.pointer (some ⟨Bx,0,none⟩),.pointer (some ⟨A,0,none⟩),.pointer (some ⟨A+1,0,none⟩),.string x,V,.bool false,undef,undef,undef,.pointer (some ⟨A,5,none⟩),.pointer (some ⟨b3,o3,none⟩),.bool false,.pointer (some ⟨A,5,none⟩),.pointer (some ⟨b3,o3,none⟩),.func (.func 171) #[] #[.pointer (some ⟨B,0,none⟩)],.string x,undef,undef,undef,undef,undef],defers:=[]} _ ⟨rest,rfl,e1,h1,h2⟩ rfl rfl (Touch.refl _ _))
  clear hKq e1 h1 h2 hI4 hS4 hB3
  gi_wp2
  exact hfin.out
 case hbody=>
  rintro pre x a' Wa ⟨rest,rfl,e1,h1,h2⟩ hszW
  have k1:Wa.cell? ⟨Bx,0,none⟩=some (.map (some bm)):=by rw [blk_cell h2.set.box];rfl
  have hb1:=box_below Wa (.cells #[.string x] 9)
  have hx:x∈usesL c:=by rw [e1];simp
  have hR:RdS (Wa.alloc (.cells #[.string x] 9)) (.slice (some ⟨Wa.heap.size,0,none⟩) 1 1) [x]:=rds_one (at_newN rfl)
  have hca:=Lib.hid ((callsIn_wide (n:=3)).2 (hasAll_any (h2.set.below hb1).set hR (fun s hs=>by rw [List.mem_singleton.1 hs];exact hfit.out x hx) (by simp [maxLen])))
  have e2:([x].all fun s=>decide (s∈l))=decide (x∈l):=by simp
  rw [e2] at hca
  have hq:Hid (∀q,decide (x∈l)=q→((pre++[x]).all (fun s=>decide (s∈l))=q)):=Lib.hid (fun q hq=>by rw [List.all_append,h1,e2,hq];rfl)
  have hst:=Lib.hid h2
  have hsp:=Lib.hid e1
  clear e1 h1 h2 hR hx e2 hI4 hS4 hB3
  generalize hqq:decide (x∈l)=q at hca
  replace hq:=Lib.hid (hq.out q hqq)
  clear hqq
  cases q with
  | true=>
   gi_wp2
   refine hca.out.mono ?_
   rintro e W5 ⟨rfl,hb5⟩
   have hb6:=hb1.trans (hb5.mono hb1.size)
   have hfin:leftP W3.heap.size (W3.heap.size+1) (fun Wa=>(pre++[x]).all (fun s=>decide (s∈l))=true∧UsSt A Bx bm l U W false Wa) (fun Wa=>(usesL c).all (fun s=>decide (s∈l))=false∧UsSt A Bx bm l U W true Wa) (fun Wa Wb=>Touch Wa Wb (fun k=>k=B+2)) Wa .normal {tmps:=#[],defers:=[]} W5:=
    ⟨hb6.block _ (by omega),hb6.block _ (by omega),⟨hq.out,hst.out.off hAW hblt (Touch.of_below hb6 (fun _=>False)) (fun _ h=>h.elim)⟩,Touch.of_below hb6 _⟩
   replace hfin:=Lib.hid hfin
   clear hb5 hb6 hb1 k1
   gi_wp2
   exact hfin.out
  | false=>
   gi_wp2
   refine hca.out.mono ?_
   rintro e W5 ⟨rfl,hb5⟩
   have hb6:=hb1.trans (hb5.mono hb1.size)
   have hs5:UsSt A Bx bm l U W false W5:=hst.out.off hAW hblt (Touch.of_below hb6 (fun _=>False)) (fun _ h=>h.elim)
   have z3:W5.cell? ⟨A+1,0,none⟩=some (.bool false):=by rw [blk_cell hs5.res];rfl
   have y3:W5.frozen? ⟨A+1,0,none⟩=false:=by simp [World.frozen?,hs5.res]
   have hall:(usesL c).all (fun s=>decide (s∈l))=false:=by
    rw [hsp.out,show pre++x::rest=(pre++[x])++rest from by simp,List.all_append,hq.out]
    rfl
   have hfin:leftP W3.heap.size (W3.heap.size+1) (fun Wa=>(pre++[x]).all (fun s=>decide (s∈l))=true∧UsSt A Bx bm l U W false Wa) (fun Wa=>(usesL c).all (fun s=>decide (s∈l))=false∧UsSt A Bx bm l U W true Wa) (fun Wa Wb=>Touch Wa Wb (fun k=>k=B+2)) Wa .ret {tmps:=#[],defers:=[]} (W5.setCell ⟨A+1,0,none⟩ (.bool true)):=
    ⟨(Below.heap_setCell _ _ _ _ (show W3.heap.size≠A+1 by omega)).trans (hb6.block _ (by omega)),(Below.heap_setCell _ _ _ _ (show W3.heap.size+1≠A+1 by omega)).trans (hb6.block _ (by omega)),hall,hs5.turn hAW hblt⟩
   replace hfin:=Lib.hid hfin
   clear hb5 hb6 hb1 k1 hs5 hall
   gi_wp2
   exact hfin.out
 case hdone=>
  rintro Wa ⟨h1,h2⟩ hD
  have z3:Wa.cell? ⟨A+1,0,none⟩=some (.bool false):=by rw [blk_cell h2.res];rfl
  have y3:Wa.frozen? ⟨A+1,0,none⟩=false:=by simp [World.frozen?,h2.res]
  replace h2:=Lib.hid (h2.turn (b':=false) hAW hblt)
  have hD2:=Lib.hid ((Below.heap_setCell Wa ⟨A+1,0,none⟩ (.bool false) _ (show W3.heap.size≠A+1 by omega)).trans hD)
  replace h1:=Lib.hid h1
  clear hD
  gi_wp2
  rw [h1.out]
  have hfin:=h2.out.off hAW hblt (touch_putObj _ W3.heap.size (.deferred none)) (fun k hk=>by omega)
  exact c16_left (D:=W3.heap.size) (A:=A+1) (b:=false) hD2.out h2.out.res (by omega) ⟨rfl,hfin.set,Touch.of_below (hA.out ▸ hfin.bel) _⟩
 case hstop=>
  rintro Wa ⟨h1,h2⟩ hD
  replace h1:=Lib.hid h1
  replace h2:=Lib.hid h2
  replace hD:=Lib.hid hD
  gi_wp2
  rw [h1.out]
  have hfin:=h2.out.off hAW hblt (touch_putObj _ W3.heap.size (.deferred none)) (fun k hk=>by omega)
  exact c16_left (D:=W3.heap.size) (A:=A+1) (b:=true) hD.out h2.out.res (by omega) ⟨rfl,hfin.set,Touch.of_below (hA.out ▸ hfin.bel) _⟩
end
section
open Go.RowKit Go.Maps Go.Shelf
structure POkA (P:List Fun):Prop extends POk P where
 l5:∀d∈P,∀x∈d.blocks,∀c∈x.code,c.args.length≤4000000000000
def step16 (s:Option (List ByteArray))(x:Prt):Bool × Option (List ByteArray):=match x,s with
 | .fn _ d,_=>(false,some (varsL d))
 | .blk _ _ _ _,s=>(false,s)
 | .ins _ _ _ _ _ c,some l=>(!(usesL c).all fun s=>decide (s∈l),some l)
 | .ins _ _ _ _ _ _,none=>(false,none)
theorem parts_ins {P:List Fun}{f k i:Nat}{d:Fun}{x:Blk}{c:Ins}(h:Prt.ins f k i d x c∈partsL P):d∈P∧x∈d.blocks∧c∈x.code:=by
 obtain⟨f',d',hd,h⟩:=mem_cat h
 unfold funL at h
 rcases List.mem_cons.1 h with h | h
 ·cases h
 ·obtain⟨b',x',hx,h⟩:=mem_cat h
  unfold blkL at h
  rcases List.mem_cons.1 h with h | h
  ·cases h
  ·obtain⟨i',c',hc,h⟩:=mem_cat h
   rw [List.mem_singleton] at h
   cases h
   exact⟨List.mem_of_getElem? hd,List.mem_of_getElem? hx,List.mem_of_getElem? hc⟩
theorem keeps16 {P:List Fun}(hP:POkA P){m Bx:Nat}{W0:World}(hm:m=W0.heap.size):Keeps P m W0 151 #[.pointer (some ⟨Bx,0,none⟩)] step16 none (OptBx Bx) where
 calm:=fun s U W W' h hT=>h.calm hT
 call:=fun s U x vs W ⟨pre,rest,e,es,hok⟩ hx hbel hU=>by
  have hf:=parts_fits hP.fits (partsCalls_at e)
  have hv:PrtV W x vs:=hx.below (by rw [←hm];exact hbel)
  have hnone:s=none→∃d,x=.fn 0 d:=fun hs=>none_fn (step:=step16) (fun l x=>by cases x<;>exact⟨_,rfl⟩) (fun _ _=>⟨_,rfl⟩) e (by rw [←es];exact hs)
  cases x with
  | fn f d=>
   obtain⟨hUB,ob,hb⟩:=hU.box
   have hd:Prt.fn f d∈partsL P:=by rw [e];simp
   refine Calls.mono (c16_fn hf (hP.l4 d (parts_fun hd)) (hP.l2 d (parts_fun hd)) (hP.l3 d (parts_fun hd)) hv hb) ?_
   rintro e' W' ⟨rfl,bm,hge,h2,h3⟩
   refine⟨fun k=>k=Bx∨k=bm,rfl,⟨bm,h2⟩,h3.mono (fun k _ hk=>by rw [hk];exact hUB),fun k hk=>?_⟩
   rcases hk with rfl | rfl
   ·exact .inl hUB
   ·exact .inr ⟨hge,h2.set.lt⟩
  | blk f k d x=>
   cases s with
   | none=>obtain⟨d',e'⟩:=hnone rfl;cases e'
   | some l=>
    obtain⟨bm,hU⟩:=hU
    refine Calls.mono (c16_blk hv hU) ?_
    rintro e' W' ⟨rfl,h2,h3⟩
    exact⟨U,rfl,⟨bm,h2⟩,h3.mono (fun k _ hk=>(hU.own k).2 (.inr hk)),fun k hk=>.inl hk⟩
  | ins f k i d x c=>
   cases s with
   | none=>obtain⟨d',e'⟩:=hnone rfl;cases e'
   | some l=>
    obtain⟨bm,hU⟩:=hU
    have hm5:Prt.ins f k i d x c∈partsL P:=by rw [e];simp
    obtain⟨h5,h6,h7⟩:=parts_ins hm5
    refine Calls.mono (c16_ins hf (hP.l5 d h5 x h6 c h7) hv hU) ?_
    rintro e' W' ⟨rfl,h2,h3⟩
    exact⟨U,rfl,⟨bm,h2⟩,h3.mono (fun k _ hk=>(hU.own k).2 (.inr hk)),fun k hk=>.inl hk⟩
set_option maxRecDepth 20000 in
set_option maxHeartbeats 2000000 in
theorem q16_any {P:List Fun}(hP:POkA P){w:World}{v:Value}(h:RdE 3 RdFun w v P):Calls Tryz.prog 96 #[.agg #[v]] w fun e w'=>e=.returned (ansV (firstBad step16 none (partsL P)))∧Below w.heap.size w w':=by
 obtain⟨a0,c0,rfl⟩:=h.form
 have hb0:Below w.heap.size w ((w.alloc (.cells #[.slice a0 P.length c0] 91)).alloc (.cells #[.int .i64 0,.int .i64 0,.int .i64 0] 53)):=((Below.refl _ _).alloc (Nat.le_refl _) _).alloc (by simp) _
 have hsz:((w.alloc (.cells #[.slice a0 P.length c0] 91)).alloc (.cells #[.int .i64 0,.int .i64 0,.int .i64 0] 53)).heap.size=w.heap.size+2:=by simp
 have hN:((w.alloc (.cells #[.slice a0 P.length c0] 91)).alloc (.cells #[.int .i64 0,.int .i64 0,.int .i64 0] 53)).heap[w.heap.size+1]?=some (.cells #[.int .i64 0,.int .i64 0,.int .i64 0] 53 (0,0)):=at_newN (by simp)
 have hl:((w.alloc (.cells #[.slice a0 P.length c0] 91)).alloc (.cells #[.int .i64 0,.int .i64 0,.int .i64 0] 53)).cell? ⟨w.heap.size,0,none⟩=some (.slice a0 P.length c0):=by rw [blk_cell (at_oldN (at_newN rfl))];rfl
 have hPb:RdE 3 RdFun ((w.alloc (.cells #[.slice a0 P.length c0] 91)).alloc (.cells #[.int .i64 0,.int .i64 0,.int .i64 0] 53)) (.slice a0 P.length c0) P:=RdE.below (fun _ _ h=>h.below hb0) h hb0
 have hmm:=@run_makeMap Tryz.prog
 unfold ansV ptA
 generalize hfb:firstBad step16 none (partsL P)=fb
 go_enter Tryz.func96,Tryz.ntmps96
 go_upto_region 1 with fail
 generalize ((w.alloc (.cells #[.slice a0 P.length c0] 91)).alloc (.cells #[.int .i64 0,.int .i64 0,.int .i64 0] 53))=wb at hb0 hsz hN hl hPb ⊢
 obtain⟨wc,hwc⟩:∃wc,wc=wb.alloc (.cells #[.map none] 148):=⟨_,rfl⟩
 have hbc:Below wb.heap.size wb wc:=by rw [hwc];exact (Below.refl _ _).alloc (Nat.le_refl _) _
 have hI:OptBx (w.heap.size+2) none (fun k=>k=w.heap.size+2) wc:=⟨by rw [hwc];exact at_newN (by omega),fun k=>Iff.rfl⟩
 have hw:=where_any (W0:=wb) (keeps16 (Bx:=w.heap.size+2) hP rfl) (enters_of Tryz.func151 (by kernel_rfl) rfl) rfl hPb hbc (U0:=fun k=>k=w.heap.size+2) (fun k hk=>by rw [hk,hwc];simp;omega) hI hP.l1 hP.l2 hP.l3
 rw [hfb] at hw
 unfold ptA at hw
 have hlc:=keepC hbc hl
 generalize P.length=p at h hw hPb hl hlc ⊢
 replace hb0:=Lib.hid hb0
 replace hN:=Lib.hid hN
 replace hw:=Lib.hid hw
 clear h hPb hfb hI
 replace hbc:=Lib.hid hbc
 go_upto_region 2 with fail
 rw [←hwc]
 replace hwc:=Lib.hid hwc
 go_wp2_with fail
 refine hw.out.mono ?_
 rintro e w2 ⟨rfl,hb2⟩
 have hN2:=(hb2.block _ (Array.getElem?_eq_some_iff.1 hN.out).1).trans hN.out
 have hf:=Lib.hid (show Below w.heap.size w ((((w2.setCell ⟨w.heap.size+1,0,none⟩ (.int .i64 (resAt fb).1)).setCell ⟨w.heap.size+1,1,none⟩ (.int .i64 (resAt fb).2.1)).setCell ⟨w.heap.size+1,2,none⟩ (.int .i64 (resAt fb).2.2))) from (((hb0.out.trans (hb2.mono hb0.out.size)).setCell (p:=⟨w.heap.size+1,0,none⟩) (Nat.le_succ _) _).setCell (p:=⟨w.heap.size+1,1,none⟩) (Nat.le_succ _) _).setCell (p:=⟨w.heap.size+1,2,none⟩) (Nat.le_succ _) _)
 have hN3:=Lib.hid (set_three (v0:=.int .i64 (resAt fb).1) (v1:=.int .i64 (resAt fb).2.1) (v2:=.int .i64 (resAt fb).2.2) hN2)
 have z0:w2.cell? ⟨w.heap.size+1,0,none⟩=some (.int .i64 0):=by rw [blk_cell hN2];rfl
 have z1:w2.cell? ⟨w.heap.size+1,1,none⟩=some (.int .i64 0):=by rw [blk_cell hN2];rfl
 have z2:w2.cell? ⟨w.heap.size+1,2,none⟩=some (.int .i64 0):=by rw [blk_cell hN2];rfl
 have y0:w2.frozen? ⟨w.heap.size+1,0,none⟩=false:=by simp [World.frozen?,hN2]
 have y1:w2.frozen? ⟨w.heap.size+1,1,none⟩=false:=by simp [World.frozen?,hN2]
 have y2:w2.frozen? ⟨w.heap.size+1,2,none⟩=false:=by simp [World.frozen?,hN2]
 clear hb2 hN2 hw hl hlc
 go_wp2_with fail
 generalize (((w2.setCell ⟨w.heap.size+1,0,none⟩ (.int .i64 (resAt fb).1)).setCell ⟨w.heap.size+1,1,none⟩ (.int .i64 (resAt fb).2.1)).setCell ⟨w.heap.size+1,2,none⟩ (.int .i64 (resAt fb).2.2))=w3 at hf hN3 ⊢
 have c0:w3.cell? ⟨w.heap.size+1,0,none⟩=some (.int .i64 (resAt fb).1):=by rw [blk_cell hN3.out];rfl
 have c1:w3.cell? ⟨w.heap.size+1,1,none⟩=some (.int .i64 (resAt fb).2.1):=by rw [blk_cell hN3.out];rfl
 have c2:w3.cell? ⟨w.heap.size+1,2,none⟩=some (.int .i64 (resAt fb).2.2):=by rw [blk_cell hN3.out];rfl
 exact bodyPost_ret (v:=.tuple #[.agg #[.int .i64 (resAt fb).1,.int .i64 (resAt fb).2.1,.int .i64 (resAt fb).2.2],.bool fb.isSome]) (by simp [results,Tryz.results96,go_sem,c0,c1,c2]) rfl ⟨rfl,hf.out⟩
end
section
open Go.RowKit Go.Maps Go.Shelf
def ansP (x:Option (Nat × Nat × Nat)):Value:=.tuple #[.agg (ptA (x.getD (0,0,0))),.bool x.isSome]
theorem ansP_of (x:Option Prt):ansV x=ansP (x.map Prt.at):=by cases x<;>rfl
def manyP (P:List Fun):Option (Nat × Nat × Nat):=if P.length=0∨P.length > 64 then some (0,0,0) else none
set_option maxHeartbeats 2000000 in
theorem q1_any {P:List Fun}(hl1:P.length≤1000000){w:World}{v:Value}(h:RdE 3 RdFun w v P):Calls Tryz.prog 81 #[.agg #[v]] w fun e w'=>e=.returned (ansP (manyP P))∧Below w.heap.size w w':=by
 obtain⟨a0,c0,rfl⟩:=h.form
 have hE:ansP (manyP P)=.tuple #[.agg #[.int .i64 0,.int .i64 0,.int .i64 0],.bool (decide (P.length=0) || decide (P.length > 64))]:=by
  unfold manyP
  by_cases e1:P.length=0
  ·simp [e1,ansP,ptA]
  ·by_cases e2:P.length > 64
   ·simp [e1,e2,ansP,ptA]
   ·simp [e1,e2,ansP,ptA]
 rw [hE]
 clear hE h
 generalize P.length=n at hl1 ⊢
 have j1:decide ((n:Int) > 64)=decide (n > 64):=decide_eq_decide.2 (by omega)
 have j2:((n:Int)==0)=decide (n=0):=by by_cases e:n=0<;>simp [e]
 generalize decide (n > 64)=q at j1 ⊢
 generalize decide (n=0)=u at j2 ⊢
 have hb0:Below w.heap.size w ((w.alloc (.cells #[.slice a0 n c0] 91)).alloc (.cells #[.int .i64 0,.int .i64 0,.int .i64 0] 53)):=((Below.refl _ _).alloc (Nat.le_refl _) _).alloc (by simp) _
 have hN:((w.alloc (.cells #[.slice a0 n c0] 91)).alloc (.cells #[.int .i64 0,.int .i64 0,.int .i64 0] 53)).heap[w.heap.size+1]?=some (.cells #[.int .i64 0,.int .i64 0,.int .i64 0] 53 (0,0)):=at_newN (by simp)
 have hl:((w.alloc (.cells #[.slice a0 n c0] 91)).alloc (.cells #[.int .i64 0,.int .i64 0,.int .i64 0] 53)).cell? ⟨w.heap.size,0,none⟩=some (.slice a0 n c0):=by rw [blk_cell (at_oldN (at_newN rfl))];rfl
 go_enter Tryz.func81,Tryz.ntmps81
 go_upto_region 1 with fail
 generalize ((w.alloc (.cells #[.slice a0 n c0] 91)).alloc (.cells #[.int .i64 0,.int .i64 0,.int .i64 0] 53))=wb at hb0 hN hl ⊢
 have hf:=Lib.hid (show Below w.heap.size w (((wb.setCell ⟨w.heap.size+1,0,none⟩ (.int .i64 0)).setCell ⟨w.heap.size+1,1,none⟩ (.int .i64 0)).setCell ⟨w.heap.size+1,2,none⟩ (.int .i64 0)) from ((hb0.setCell (p:=⟨w.heap.size+1,0,none⟩) (Nat.le_succ _) _).setCell (p:=⟨w.heap.size+1,1,none⟩) (Nat.le_succ _) _).setCell (p:=⟨w.heap.size+1,2,none⟩) (Nat.le_succ _) _)
 have hN3:=Lib.hid (set_three (v0:=.int .i64 0) (v1:=.int .i64 0) (v2:=.int .i64 0) hN)
 have z0:wb.cell? ⟨w.heap.size+1,0,none⟩=some (.int .i64 0):=by rw [blk_cell hN];rfl
 have z1:wb.cell? ⟨w.heap.size+1,1,none⟩=some (.int .i64 0):=by rw [blk_cell hN];rfl
 have z2:wb.cell? ⟨w.heap.size+1,2,none⟩=some (.int .i64 0):=by rw [blk_cell hN];rfl
 have y0:wb.frozen? ⟨w.heap.size+1,0,none⟩=false:=by simp [World.frozen?,hN]
 have y1:wb.frozen? ⟨w.heap.size+1,1,none⟩=false:=by simp [World.frozen?,hN]
 have y2:wb.frozen? ⟨w.heap.size+1,2,none⟩=false:=by simp [World.frozen?,hN]
 clear hN hb0
 cases u<;>cases q<;>(
  go_wp2_with fail
  generalize (((wb.setCell ⟨w.heap.size+1,0,none⟩ (.int .i64 0)).setCell ⟨w.heap.size+1,1,none⟩ (.int .i64 0)).setCell ⟨w.heap.size+1,2,none⟩ (.int .i64 0))=w3 at hf hN3 ⊢
  have c0:w3.cell? ⟨w.heap.size+1,0,none⟩=some (.int .i64 0):=by rw [blk_cell hN3.out];rfl
  have c1:w3.cell? ⟨w.heap.size+1,1,none⟩=some (.int .i64 0):=by rw [blk_cell hN3.out];rfl
  have c2:w3.cell? ⟨w.heap.size+1,2,none⟩=some (.int .i64 0):=by rw [blk_cell hN3.out];rfl
  exact bodyPost_ret (by simp [results,Tryz.results81,go_sem,c0,c1,c2]) rfl ⟨rfl,hf.out⟩)
theorem set_away {W:World}{b g:Nat}{v0 v1 v2:Value}(h:g≠b):(((W.setCell ⟨b,0,none⟩ v0).setCell ⟨b,1,none⟩ v1).setCell ⟨b,2,none⟩ v2).heap[g]?=W.heap[g]?:=
 (Below.heap_setCell _ _ _ _ h).trans ((Below.heap_setCell _ _ _ _ h).trans (Below.heap_setCell _ _ _ _ h))
set_option maxHeartbeats 2000000 in
theorem pointIf_yes {w:World}{p0 p1 p2:Nat}:Calls Tryz.prog 132 #[.agg #[.int .i64 p0,.int .i64 p1,.int .i64 p2],.bool true] w fun e w'=>e=.returned (.tuple #[.agg #[.int .i64 p0,.int .i64 p1,.int .i64 p2],.bool true])∧Below w.heap.size w w':=by
 have hb:Below w.heap.size w ((w.alloc (.cells #[.int .i64 p0,.int .i64 p1,.int .i64 p2] 53)).alloc (.cells #[.int .i64 0,.int .i64 0,.int .i64 0] 53)):=((Below.refl _ _).alloc (Nat.le_refl _) _).alloc (by simp) _
 have hN:((w.alloc (.cells #[.int .i64 p0,.int .i64 p1,.int .i64 p2] 53)).alloc (.cells #[.int .i64 0,.int .i64 0,.int .i64 0] 53)).heap[w.heap.size+1]?=some (.cells #[.int .i64 0,.int .i64 0,.int .i64 0] 53 (0,0)):=at_newN (by simp)
 have hA:((w.alloc (.cells #[.int .i64 p0,.int .i64 p1,.int .i64 p2] 53)).alloc (.cells #[.int .i64 0,.int .i64 0,.int .i64 0] 53)).heap[w.heap.size]?=some (.cells #[.int .i64 p0,.int .i64 p1,.int .i64 p2] 53 (0,0)):=at_oldN (at_newN rfl)
 go_enter Tryz.func132,Tryz.ntmps132
 go_upto_region 1 with fail
 generalize ((w.alloc (.cells #[.int .i64 p0,.int .i64 p1,.int .i64 p2] 53)).alloc (.cells #[.int .i64 0,.int .i64 0,.int .i64 0] 53))=wb at hb hN hA ⊢
 have hf:=Lib.hid (show Below w.heap.size w (((wb.setCell ⟨w.heap.size+1,0,none⟩ (.int .i64 p0)).setCell ⟨w.heap.size+1,1,none⟩ (.int .i64 p1)).setCell ⟨w.heap.size+1,2,none⟩ (.int .i64 p2)) from ((hb.setCell (p:=⟨w.heap.size+1,0,none⟩) (by simp) _).setCell (p:=⟨w.heap.size+1,1,none⟩) (by simp) _).setCell (p:=⟨w.heap.size+1,2,none⟩) (by simp) _)
 have hN3:=Lib.hid (set_three (v0:=.int .i64 p0) (v1:=.int .i64 p1) (v2:=.int .i64 p2) hN)
 have z0:wb.cell? ⟨w.heap.size+1,0,none⟩=some (.int .i64 0):=by rw [blk_cell hN];rfl
 have z1:wb.cell? ⟨w.heap.size+1,1,none⟩=some (.int .i64 0):=by rw [blk_cell hN];rfl
 have z2:wb.cell? ⟨w.heap.size+1,2,none⟩=some (.int .i64 0):=by rw [blk_cell hN];rfl
 have y0:wb.frozen? ⟨w.heap.size+1,0,none⟩=false:=by simp [World.frozen?,hN]
 have y1:wb.frozen? ⟨w.heap.size+1,1,none⟩=false:=by simp [World.frozen?,hN]
 have y2:wb.frozen? ⟨w.heap.size+1,2,none⟩=false:=by simp [World.frozen?,hN]
 have xz0:wb.cell? ⟨w.heap.size,0,none⟩=some (.int .i64 p0):=by rw [blk_cell hA];rfl
 have xz1:wb.cell? ⟨w.heap.size,1,none⟩=some (.int .i64 p1):=by rw [blk_cell hA];rfl
 have xz2:wb.cell? ⟨w.heap.size,2,none⟩=some (.int .i64 p2):=by rw [blk_cell hA];rfl
 have xy0:wb.frozen? ⟨w.heap.size,0,none⟩=false:=by simp [World.frozen?,hA]
 have xy1:wb.frozen? ⟨w.heap.size,1,none⟩=false:=by simp [World.frozen?,hA]
 have xy2:wb.frozen? ⟨w.heap.size,2,none⟩=false:=by simp [World.frozen?,hA]
 clear hN hA hb
 go_wp2_with fail
 generalize (((wb.setCell ⟨w.heap.size+1,0,none⟩ (.int .i64 p0)).setCell ⟨w.heap.size+1,1,none⟩ (.int .i64 p1)).setCell ⟨w.heap.size+1,2,none⟩ (.int .i64 p2))=w3 at hf hN3 ⊢
 have c0:w3.cell? ⟨w.heap.size+1,0,none⟩=some (.int .i64 p0):=by rw [blk_cell hN3.out];rfl
 have c1:w3.cell? ⟨w.heap.size+1,1,none⟩=some (.int .i64 p1):=by rw [blk_cell hN3.out];rfl
 have c2:w3.cell? ⟨w.heap.size+1,2,none⟩=some (.int .i64 p2):=by rw [blk_cell hN3.out];rfl
 exact bodyPost_ret (by simp [results,Tryz.results132,go_sem,c0,c1,c2]) rfl ⟨rfl,hf.out⟩
set_option maxHeartbeats 2000000 in
theorem pointIf_no {w:World}{p0 p1 p2:Nat}:Calls Tryz.prog 132 #[.agg #[.int .i64 p0,.int .i64 p1,.int .i64 p2],.bool false] w fun e w'=>e=.returned (.tuple #[.agg #[.int .i64 0,.int .i64 0,.int .i64 0],.bool false])∧Below w.heap.size w w':=by
 have hb:Below w.heap.size w ((w.alloc (.cells #[.int .i64 p0,.int .i64 p1,.int .i64 p2] 53)).alloc (.cells #[.int .i64 0,.int .i64 0,.int .i64 0] 53)):=((Below.refl _ _).alloc (Nat.le_refl _) _).alloc (by simp) _
 have hN:((w.alloc (.cells #[.int .i64 p0,.int .i64 p1,.int .i64 p2] 53)).alloc (.cells #[.int .i64 0,.int .i64 0,.int .i64 0] 53)).heap[w.heap.size+1]?=some (.cells #[.int .i64 0,.int .i64 0,.int .i64 0] 53 (0,0)):=at_newN (by simp)
 have hA:((w.alloc (.cells #[.int .i64 p0,.int .i64 p1,.int .i64 p2] 53)).alloc (.cells #[.int .i64 0,.int .i64 0,.int .i64 0] 53)).heap[w.heap.size]?=some (.cells #[.int .i64 p0,.int .i64 p1,.int .i64 p2] 53 (0,0)):=at_oldN (at_newN rfl)
 go_enter Tryz.func132,Tryz.ntmps132
 go_upto_region 1 with fail
 generalize ((w.alloc (.cells #[.int .i64 p0,.int .i64 p1,.int .i64 p2] 53)).alloc (.cells #[.int .i64 0,.int .i64 0,.int .i64 0] 53))=wb at hb hN hA ⊢
 have z0:wb.cell? ⟨w.heap.size,0,none⟩=some (.int .i64 p0):=by rw [blk_cell hA];rfl
 have z1:wb.cell? ⟨w.heap.size,1,none⟩=some (.int .i64 p1):=by rw [blk_cell hA];rfl
 have z2:wb.cell? ⟨w.heap.size,2,none⟩=some (.int .i64 p2):=by rw [blk_cell hA];rfl
 have y0:wb.frozen? ⟨w.heap.size,0,none⟩=false:=by simp [World.frozen?,hA]
 have y1:wb.frozen? ⟨w.heap.size,1,none⟩=false:=by simp [World.frozen?,hA]
 have y2:wb.frozen? ⟨w.heap.size,2,none⟩=false:=by simp [World.frozen?,hA]
 go_upto_region 3 with fail
 replace hb:Below w.heap.size w (((wb.setCell ⟨w.heap.size,0,none⟩ (.int .i64 0)).setCell ⟨w.heap.size,1,none⟩ (.int .i64 0)).setCell ⟨w.heap.size,2,none⟩ (.int .i64 0)):=((hb.setCell (p:=⟨w.heap.size,0,none⟩) (by simp) _).setCell (p:=⟨w.heap.size,1,none⟩) (by simp) _).setCell (p:=⟨w.heap.size,2,none⟩) (by simp) _
 replace hN:=(set_away (W:=wb) (v0:=.int .i64 0) (v1:=.int .i64 0) (v2:=.int .i64 0) (show w.heap.size+1≠w.heap.size by omega)).trans hN
 replace hA:=set_three (W:=wb) (v0:=.int .i64 0) (v1:=.int .i64 0) (v2:=.int .i64 0) hA
 clear z0 z1 z2 y0 y1 y2
 generalize (((wb.setCell ⟨w.heap.size,0,none⟩ (.int .i64 0)).setCell ⟨w.heap.size,1,none⟩ (.int .i64 0)).setCell ⟨w.heap.size,2,none⟩ (.int .i64 0))=w2 at hb hN hA ⊢
 have hf:=Lib.hid (show Below w.heap.size w (((w2.setCell ⟨w.heap.size+1,0,none⟩ (.int .i64 0)).setCell ⟨w.heap.size+1,1,none⟩ (.int .i64 0)).setCell ⟨w.heap.size+1,2,none⟩ (.int .i64 0)) from ((hb.setCell (p:=⟨w.heap.size+1,0,none⟩) (by simp) _).setCell (p:=⟨w.heap.size+1,1,none⟩) (by simp) _).setCell (p:=⟨w.heap.size+1,2,none⟩) (by simp) _)
 have hN3:=Lib.hid (set_three (v0:=.int .i64 0) (v1:=.int .i64 0) (v2:=.int .i64 0) hN)
 have z0:w2.cell? ⟨w.heap.size+1,0,none⟩=some (.int .i64 0):=by rw [blk_cell hN];rfl
 have z1:w2.cell? ⟨w.heap.size+1,1,none⟩=some (.int .i64 0):=by rw [blk_cell hN];rfl
 have z2:w2.cell? ⟨w.heap.size+1,2,none⟩=some (.int .i64 0):=by rw [blk_cell hN];rfl
 have y0:w2.frozen? ⟨w.heap.size+1,0,none⟩=false:=by simp [World.frozen?,hN]
 have y1:w2.frozen? ⟨w.heap.size+1,1,none⟩=false:=by simp [World.frozen?,hN]
 have y2:w2.frozen? ⟨w.heap.size+1,2,none⟩=false:=by simp [World.frozen?,hN]
 have xz0:w2.cell? ⟨w.heap.size,0,none⟩=some (.int .i64 0):=by rw [blk_cell hA];rfl
 have xz1:w2.cell? ⟨w.heap.size,1,none⟩=some (.int .i64 0):=by rw [blk_cell hA];rfl
 have xz2:w2.cell? ⟨w.heap.size,2,none⟩=some (.int .i64 0):=by rw [blk_cell hA];rfl
 have xy0:w2.frozen? ⟨w.heap.size,0,none⟩=false:=by simp [World.frozen?,hA]
 have xy1:w2.frozen? ⟨w.heap.size,1,none⟩=false:=by simp [World.frozen?,hA]
 have xy2:w2.frozen? ⟨w.heap.size,2,none⟩=false:=by simp [World.frozen?,hA]
 clear hN hA hb
 go_wp2_with fail
 generalize (((w2.setCell ⟨w.heap.size+1,0,none⟩ (.int .i64 0)).setCell ⟨w.heap.size+1,1,none⟩ (.int .i64 0)).setCell ⟨w.heap.size+1,2,none⟩ (.int .i64 0))=w3 at hf hN3 ⊢
 have c0:w3.cell? ⟨w.heap.size+1,0,none⟩=some (.int .i64 0):=by rw [blk_cell hN3.out];rfl
 have c1:w3.cell? ⟨w.heap.size+1,1,none⟩=some (.int .i64 0):=by rw [blk_cell hN3.out];rfl
 have c2:w3.cell? ⟨w.heap.size+1,2,none⟩=some (.int .i64 0):=by rw [blk_cell hN3.out];rfl
 exact bodyPost_ret (by simp [results,Tryz.results132,go_sem,c0,c1,c2]) rfl ⟨rfl,hf.out⟩
end
section
open Go.RowKit Go.Maps Go.Shelf
def mainAt (k:Nat):List Fun→Option (Nat × Nat × Nat)
 | []=>some (0,0,0)
 | d::r=>if (d.name.toList==[109,97,105,110])=true then (if d.params.length > 0 then some (k,0,0) else none) else mainAt (k+1) r
set_option maxHeartbeats 400000 in
theorem q4_any {P:List Fun}(hl1:P.length≤1000000){w:World}{v:Value}(h:RdE 3 RdFun w v P):Calls Tryz.prog 84 #[.agg #[v]] w fun e w'=>e=.returned (ansP (mainAt 0 P))∧Below w.heap.size w w':=by
 obtain⟨a0,c0,rfl⟩:=h.form
 generalize hA:mainAt 0 P=A
 generalize hn:P.length=n at h hl1 ⊢
 have hb0:Below w.heap.size w ((w.alloc (.cells #[.slice a0 n c0] 91)).alloc (.cells #[.int .i64 0,.int .i64 0,.int .i64 0] 53)):=((Below.refl _ _).alloc (Nat.le_refl _) _).alloc (by simp) _
 have hN:((w.alloc (.cells #[.slice a0 n c0] 91)).alloc (.cells #[.int .i64 0,.int .i64 0,.int .i64 0] 53)).heap[w.heap.size+1]?=some (.cells #[.int .i64 0,.int .i64 0,.int .i64 0] 53 (0,0)):=at_newN (by simp)
 have hl:((w.alloc (.cells #[.slice a0 n c0] 91)).alloc (.cells #[.int .i64 0,.int .i64 0,.int .i64 0] 53)).cell? ⟨w.heap.size,0,none⟩=some (.slice a0 n c0):=by rw [blk_cell (at_oldN (at_newN rfl))];rfl
 replace hA:=Lib.hid hA
 replace hn:=Lib.hid hn
 replace hb0:=Lib.hid hb0
 replace hN:=Lib.hid hN
 replace h:=Lib.hid h
 go_enter Tryz.func84,Tryz.ntmps84
 go_upto_region 1 with fail
 generalize ((w.alloc (.cells #[.slice a0 n c0] 91)).alloc (.cells #[.int .i64 0,.int .i64 0,.int .i64 0] 53))=wb at hb0 hN hl ⊢
 go_wp2_with fail
 go_loopw [4,5,10] (fun _ _ i wr=>∃k:Nat,k≤n∧i=.int .i64 k∧Hid (mainAt k (P.drop k)=A)∧Hid (wr.heap[w.heap.size+1]?=some (.cells #[.int .i64 0,.int .i64 0,.int .i64 0] 53 (0,0)))∧Hid (Below w.heap.size w wr)) (fun _ _ i _=>n-(intOf i).toNat)
 case atStart=>exact⟨0,Nat.zero_le _,rfl,hA,hN,hb0⟩
 case round=>
  clear hN hb0 hA hl
  obtain⟨k,hk,rfl,hA,hN,hB⟩:=hrel
  by_cases hlt:k<n
  ·have j1:decide ((k:Int)<(n:Int))=true:=by simpa using hlt
   have j2:(k:Int)<(n:Int):=by omega
   obtain⟨x,hx⟩:∃x,P[k]?=some x:=⟨_,List.getElem?_eq_getElem (by rw [hn.out];exact hlt)⟩
   obtain⟨g,off,cap,cs,e,hgl,⟨vp,vb,rfl,hp,hb⟩,-,hcell⟩:=(RdE.below (fun _ _ h=>h.below hB.out) h.out hB.out).at hx
   simp only [Value.slice.injEq] at e
   obtain⟨rfl,-,rfl⟩:=e
   obtain⟨ap,cp,rfl⟩:=hp.shape
   obtain⟨ab,cb,rfl⟩:=hb.form
   have c0:wr.cell? ⟨g,off+k*3,none⟩=some (.string x.name):=hcell 0 _ rfl
   have c1:=hcell 1 _ rfl
   have c2:=hcell 2 _ rfl
   have hA1:=hA.out
   rw [drop_at hx] at hA1
   unfold mainAt at hA1
   clear hcell hp hb hx hA
   generalize x.params.length=pl at hA1 c1
   generalize x.blocks.length=bl at c2
   have hB2:=Lib.hid (hB.out.alloc hB.out.size (.cells #[.string x.name,.slice ap pl cp,.slice ab bl cb] 40))
   have hN2:=Lib.hid ((Below.heap_alloc _ (.cells #[.string x.name,.slice ap pl cp,.slice ab bl cb] 40) _ (Array.getElem?_eq_some_iff.1 hN.out).1).trans hN.out)
   clear hB hN
   by_cases em:(x.name.toList==[109,97,105,110])=true
   ·rw [if_pos em] at hA1
    have e1:(x.name.toList==[109,97,105,110])=true:=em
    clear em
    by_cases ep:pl > 0
    ·rw [if_pos ep] at hA1
     replace hA2:=Lib.hid hA1
     have e3:decide ((pl:Int) > 0)=true:=decide_eq_true (by omega)
     have e4:decide (0<pl)=true:=decide_eq_true (by omega)
     clear hA1 ep
     have hy:=Lib.hid (fun W=>(pointIf_yes (w:=W) (p0:=k) (p1:=0) (p2:=0):Calls Tryz.prog 132 #[.agg #[.int .i64 k,.int .i64 0,.int .i64 0],.bool true] W fun e w'=>e=.returned (.tuple #[.agg #[.int .i64 k,.int .i64 0,.int .i64 0],.bool true])∧Below W.heap.size W w'))
     go_wp2_with (go_at_call 132;(with_reducible refine Calls.mono (hy.out _) ?_);rintro e w5 ⟨rfl,hb⟩;have hN5:=(hb.block _ (Array.getElem?_eq_some_iff.1 hN2.out).1).trans hN2.out;have hB5:=Lib.hid (hB2.out.trans (hb.mono hB2.out.size));clear hb hN2 hB2;have z0:w5.cell? ⟨w.heap.size+1,0,none⟩=some (.int .i64 0):=(by rw [blk_cell hN5];rfl);have z1:w5.cell? ⟨w.heap.size+1,1,none⟩=some (.int .i64 0):=(by rw [blk_cell hN5];rfl);have z2:w5.cell? ⟨w.heap.size+1,2,none⟩=some (.int .i64 0):=(by rw [blk_cell hN5];rfl);have y0:w5.frozen? ⟨w.heap.size+1,0,none⟩=false:=(by simp [World.frozen?,hN5]);have y1:w5.frozen? ⟨w.heap.size+1,1,none⟩=false:=(by simp [World.frozen?,hN5]);have y2:w5.frozen? ⟨w.heap.size+1,2,none⟩=false:=(by simp [World.frozen?,hN5]);replace hN5:=Lib.hid hN5)
     have hf:=Lib.hid (show Below w.heap.size w (((w5.setCell ⟨w.heap.size+1,0,none⟩ (.int .i64 k)).setCell ⟨w.heap.size+1,1,none⟩ (.int .i64 0)).setCell ⟨w.heap.size+1,2,none⟩ (.int .i64 0)) from ((hB5.out.setCell (p:=⟨w.heap.size+1,0,none⟩) (Nat.le_succ _) _).setCell (p:=⟨w.heap.size+1,1,none⟩) (Nat.le_succ _) _).setCell (p:=⟨w.heap.size+1,2,none⟩) (Nat.le_succ _) _)
     have hN3:=Lib.hid (set_three (v0:=.int .i64 k) (v1:=.int .i64 0) (v2:=.int .i64 0) hN5.out)
     try clear z0 z1 z2 y0 y1 y2
     generalize (((w5.setCell ⟨w.heap.size+1,0,none⟩ (.int .i64 k)).setCell ⟨w.heap.size+1,1,none⟩ (.int .i64 0)).setCell ⟨w.heap.size+1,2,none⟩ (.int .i64 0))=w3 at hf hN3 ⊢
     have c0:w3.cell? ⟨w.heap.size+1,0,none⟩=some (.int .i64 k):=by rw [blk_cell hN3.out];rfl
     have c1:w3.cell? ⟨w.heap.size+1,1,none⟩=some (.int .i64 0):=by rw [blk_cell hN3.out];rfl
     have c2:w3.cell? ⟨w.heap.size+1,2,none⟩=some (.int .i64 0):=by rw [blk_cell hN3.out];rfl
     exact bodyPost_ret (v:=.tuple #[.agg #[.int .i64 k,.int .i64 0,.int .i64 0],.bool true]) (by simp [results,Tryz.results84,go_sem,c0,c1,c2]) rfl ⟨by rw [←hA2.out];rfl,hf.out⟩
    ·rw [if_neg ep] at hA1
     replace hA2:=Lib.hid hA1
     have e3:decide ((pl:Int) > 0)=false:=decide_eq_false (by omega)
     have e4:decide (0<pl)=false:=decide_eq_false (by omega)
     clear hA1 ep
     have hy:=Lib.hid (fun W=>(pointIf_no (w:=W) (p0:=k) (p1:=0) (p2:=0):Calls Tryz.prog 132 #[.agg #[.int .i64 k,.int .i64 0,.int .i64 0],.bool false] W fun e w'=>e=.returned (.tuple #[.agg #[.int .i64 0,.int .i64 0,.int .i64 0],.bool false])∧Below W.heap.size W w'))
     go_wp2_with (go_at_call 132;(with_reducible refine Calls.mono (hy.out _) ?_);rintro e w5 ⟨rfl,hb⟩;have hN5:=(hb.block _ (Array.getElem?_eq_some_iff.1 hN2.out).1).trans hN2.out;have hB5:=Lib.hid (hB2.out.trans (hb.mono hB2.out.size));clear hb hN2 hB2;have z0:w5.cell? ⟨w.heap.size+1,0,none⟩=some (.int .i64 0):=(by rw [blk_cell hN5];rfl);have z1:w5.cell? ⟨w.heap.size+1,1,none⟩=some (.int .i64 0):=(by rw [blk_cell hN5];rfl);have z2:w5.cell? ⟨w.heap.size+1,2,none⟩=some (.int .i64 0):=(by rw [blk_cell hN5];rfl);have y0:w5.frozen? ⟨w.heap.size+1,0,none⟩=false:=(by simp [World.frozen?,hN5]);have y1:w5.frozen? ⟨w.heap.size+1,1,none⟩=false:=(by simp [World.frozen?,hN5]);have y2:w5.frozen? ⟨w.heap.size+1,2,none⟩=false:=(by simp [World.frozen?,hN5]);replace hN5:=Lib.hid hN5)
     have hf:=Lib.hid (show Below w.heap.size w (((w5.setCell ⟨w.heap.size+1,0,none⟩ (.int .i64 0)).setCell ⟨w.heap.size+1,1,none⟩ (.int .i64 0)).setCell ⟨w.heap.size+1,2,none⟩ (.int .i64 0)) from ((hB5.out.setCell (p:=⟨w.heap.size+1,0,none⟩) (Nat.le_succ _) _).setCell (p:=⟨w.heap.size+1,1,none⟩) (Nat.le_succ _) _).setCell (p:=⟨w.heap.size+1,2,none⟩) (Nat.le_succ _) _)
     have hN3:=Lib.hid (set_three (v0:=.int .i64 0) (v1:=.int .i64 0) (v2:=.int .i64 0) hN5.out)
     try clear z0 z1 z2 y0 y1 y2
     generalize (((w5.setCell ⟨w.heap.size+1,0,none⟩ (.int .i64 0)).setCell ⟨w.heap.size+1,1,none⟩ (.int .i64 0)).setCell ⟨w.heap.size+1,2,none⟩ (.int .i64 0))=w3 at hf hN3 ⊢
     have c0:w3.cell? ⟨w.heap.size+1,0,none⟩=some (.int .i64 0):=by rw [blk_cell hN3.out];rfl
     have c1:w3.cell? ⟨w.heap.size+1,1,none⟩=some (.int .i64 0):=by rw [blk_cell hN3.out];rfl
     have c2:w3.cell? ⟨w.heap.size+1,2,none⟩=some (.int .i64 0):=by rw [blk_cell hN3.out];rfl
     exact bodyPost_ret (v:=.tuple #[.agg #[.int .i64 0,.int .i64 0,.int .i64 0],.bool false]) (by simp [results,Tryz.results84,go_sem,c0,c1,c2]) rfl ⟨by rw [←hA2.out];rfl,hf.out⟩
   ·rw [if_neg em] at hA1
    have e1:(x.name.toList==[109,97,105,110])=false:=by simpa using em
    replace hA2:=Lib.hid hA1
    clear hA1 em
    go_wp2_with fail
    exact⟨⟨k+1,by omega,by go_num,hA2,hN2,hB2⟩,by simp [intOf];omega⟩
  ·obtain rfl:k=n:=by omega
   have j1:decide ((k:Int)<(k:Int))=false:=by simp
   have hA2:=hA.out
   rw [List.drop_of_length_le (by rw [hn.out];exact Nat.le_refl _)] at hA2
   replace hA2:=Lib.hid hA2
   have hN1:=hN.out
   have hf:=Lib.hid (show Below w.heap.size w (((wr.setCell ⟨w.heap.size+1,0,none⟩ (.int .i64 0)).setCell ⟨w.heap.size+1,1,none⟩ (.int .i64 0)).setCell ⟨w.heap.size+1,2,none⟩ (.int .i64 0)) from ((hB.out.setCell (p:=⟨w.heap.size+1,0,none⟩) (Nat.le_succ _) _).setCell (p:=⟨w.heap.size+1,1,none⟩) (Nat.le_succ _) _).setCell (p:=⟨w.heap.size+1,2,none⟩) (Nat.le_succ _) _)
   have hN3:=Lib.hid (set_three (v0:=.int .i64 0) (v1:=.int .i64 0) (v2:=.int .i64 0) hN1)
   have z0:wr.cell? ⟨w.heap.size+1,0,none⟩=some (.int .i64 0):=by rw [blk_cell hN1];rfl
   have z1:wr.cell? ⟨w.heap.size+1,1,none⟩=some (.int .i64 0):=by rw [blk_cell hN1];rfl
   have z2:wr.cell? ⟨w.heap.size+1,2,none⟩=some (.int .i64 0):=by rw [blk_cell hN1];rfl
   have y0:wr.frozen? ⟨w.heap.size+1,0,none⟩=false:=by simp [World.frozen?,hN1]
   have y1:wr.frozen? ⟨w.heap.size+1,1,none⟩=false:=by simp [World.frozen?,hN1]
   have y2:wr.frozen? ⟨w.heap.size+1,2,none⟩=false:=by simp [World.frozen?,hN1]
   clear hN1 hN hB hA
   go_wp2_with fail
   generalize (((wr.setCell ⟨w.heap.size+1,0,none⟩ (.int .i64 0)).setCell ⟨w.heap.size+1,1,none⟩ (.int .i64 0)).setCell ⟨w.heap.size+1,2,none⟩ (.int .i64 0))=w3 at hf hN3 ⊢
   have c0:w3.cell? ⟨w.heap.size+1,0,none⟩=some (.int .i64 0):=by rw [blk_cell hN3.out];rfl
   have c1:w3.cell? ⟨w.heap.size+1,1,none⟩=some (.int .i64 0):=by rw [blk_cell hN3.out];rfl
   have c2:w3.cell? ⟨w.heap.size+1,2,none⟩=some (.int .i64 0):=by rw [blk_cell hN3.out];rfl
   exact bodyPost_ret (v:=.tuple #[.agg #[.int .i64 0,.int .i64 0,.int .i64 0],.bool true]) (by simp [results,Tryz.results84,go_sem,c0,c1,c2]) rfl ⟨by rw [←hA2.out];rfl,hf.out⟩
end
section
open Go.RowKit Go.Maps Go.Shelf Go.WideMaps
attribute [local instance] Classical.propDecidable
def qF (k:Nat):Nat:=match k with
 | 1=>81
 | 2=>82
 | 3=>83
 | 4=>84
 | 5=>85
 | 6=>86
 | 7=>87
 | 8=>88
 | 9=>89
 | 10=>90
 | 11=>91
 | 12=>92
 | 13=>93
 | 14=>94
 | 15=>95
 | 16=>96
 | _=>0
theorem below_17 {Q:Nat→Prop}{k:Nat}(h1:1≤k)(h2:k≤16)(q1:Q 1)(q2:Q 2)(q3:Q 3)(q4:Q 4)(q5:Q 5)(q6:Q 6)(q7:Q 7)(q8:Q 8)(q9:Q 9)(q10:Q 10)(q11:Q 11)(q12:Q 12)(q13:Q 13)(q14:Q 14)(q15:Q 15)(q16:Q 16):Q k:=by
 obtain rfl | rfl | rfl | rfl | rfl | rfl | rfl | rfl | rfl | rfl | rfl | rfl | rfl | rfl | rfl | rfl:k=1∨k=2∨k=3∨k=4∨k=5∨k=6∨k=7∨k=8∨k=9∨k=10∨k=11∨k=12∨k=13∨k=14∨k=15∨k=16:=by omega
 ·exact q1
 ·exact q2
 ·exact q3
 ·exact q4
 ·exact q5
 ·exact q6
 ·exact q7
 ·exact q8
 ·exact q9
 ·exact q10
 ·exact q11
 ·exact q12
 ·exact q13
 ·exact q14
 ·exact q15
 ·exact q16
theorem qF_enters {k:Nat}(h1:1≤k)(h2:k≤16):∀args w,(callFunc (qF k) args).run Tryz.prog w=.ok (.enter (qF k) args) w:=
 below_17 (Q:=fun k=>∀args w,(callFunc (qF k) args).run Tryz.prog w=.ok (.enter (qF k) args) w) h1 h2
  (enters_of Tryz.func81 (by kernel_rfl) rfl)
  (enters_of Tryz.func82 (by kernel_rfl) rfl)
  (enters_of Tryz.func83 (by kernel_rfl) rfl)
  (enters_of Tryz.func84 (by kernel_rfl) rfl)
  (enters_of Tryz.func85 (by kernel_rfl) rfl)
  (enters_of Tryz.func86 (by kernel_rfl) rfl)
  (enters_of Tryz.func87 (by kernel_rfl) rfl)
  (enters_of Tryz.func88 (by kernel_rfl) rfl)
  (enters_of Tryz.func89 (by kernel_rfl) rfl)
  (enters_of Tryz.func90 (by kernel_rfl) rfl)
  (enters_of Tryz.func91 (by kernel_rfl) rfl)
  (enters_of Tryz.func92 (by kernel_rfl) rfl)
  (enters_of Tryz.func93 (by kernel_rfl) rfl)
  (enters_of Tryz.func94 (by kernel_rfl) rfl)
  (enters_of Tryz.func95 (by kernel_rfl) rfl)
  (enters_of Tryz.func96 (by kernel_rfl) rfl)
def ruleAt (P:List Fun)(k:Nat):Option (Nat × Nat × Nat):=match k with
 | 1=>manyP P
 | 2=>(firstP bad2 P).map Prt.at
 | 3=>(firstBad step3 [] (partsL P)).map Prt.at
 | 4=>mainAt 0 P
 | 5=>(firstP bad5 P).map Prt.at
 | 6=>(firstP bad6 P).map Prt.at
 | 7=>(firstBad step7 none (partsL P)).map Prt.at
 | 8=>(firstBad step8 0 (partsL P)).map Prt.at
 | 9=>(firstP bad9 P).map Prt.at
 | 10=>(firstP bad10 P).map Prt.at
 | 11=>(firstP bad11 P).map Prt.at
 | 12=>(firstBad step12 none (partsL P)).map Prt.at
 | 13=>(firstBad (fun (_:Unit) x=>(bad13 (arityF P) x,())) () (partsL P)).map Prt.at
 | 14=>(firstBad (fun (_:Unit) x=>(bad14 (arityF P) x,())) () (partsL P)).map Prt.at
 | 15=>(firstBad step15 none (partsL P)).map Prt.at
 | 16=>(firstBad step16 none (partsL P)).map Prt.at
 | _=>none
theorem ask_any {P:List Fun}(hP:POkA P){k:Nat}(h1:1≤k)(h2:k≤16){w:World}{v:Value}(h:RdE 3 RdFun w v P):Calls Tryz.prog (qF k) #[.agg #[v]] w fun e w'=>e=.returned (ansP (ruleAt P k))∧Below w.heap.size w w':=
 below_17 (Q:=fun k=>Calls Tryz.prog (qF k) #[.agg #[v]] w fun e w'=>e=.returned (ansP (ruleAt P k))∧Below w.heap.size w w') h1 h2
  (q1_any hP.l1 h)
  ((q2_any hP.toPOk h).mono (fun e w' h=>⟨by rw [h.1,ansP_of];rfl,h.2⟩))
  ((q3_any hP.toPOk h).mono (fun e w' h=>⟨by rw [h.1,ansP_of];rfl,h.2⟩))
  (q4_any hP.l1 h)
  ((q5_any hP.toPOk h).mono (fun e w' h=>⟨by rw [h.1,ansP_of];rfl,h.2⟩))
  ((q6_any hP.toPOk h).mono (fun e w' h=>⟨by rw [h.1,ansP_of];rfl,h.2⟩))
  ((q7_any hP.toPOk h).mono (fun e w' h=>⟨by rw [h.1,ansP_of];rfl,h.2⟩))
  ((q8_any hP.toPOk h).mono (fun e w' h=>⟨by rw [h.1,ansP_of];rfl,h.2⟩))
  ((q9_any hP.toPOk h).mono (fun e w' h=>⟨by rw [h.1,ansP_of];rfl,h.2⟩))
  ((q10_any hP.toPOk h).mono (fun e w' h=>⟨by rw [h.1,ansP_of];rfl,h.2⟩))
  ((q11_any hP.toPOk h).mono (fun e w' h=>⟨by rw [h.1,ansP_of];rfl,h.2⟩))
  ((q12_any hP.toPOk h).mono (fun e w' h=>⟨by rw [h.1,ansP_of];rfl,h.2⟩))
  ((q13_any hP.toPOk h).mono (fun e w' h=>⟨by rw [h.1,ansP_of];rfl,h.2⟩))
  ((q14_any hP.toPOk h).mono (fun e w' h=>⟨by rw [h.1,ansP_of];rfl,h.2⟩))
  ((q15_any hP.toPOk h).mono (fun e w' h=>⟨by rw [h.1,ansP_of];rfl,h.2⟩))
  ((q16_any hP h).mono (fun e w' h=>⟨by rw [h.1,ansP_of];rfl,h.2⟩))
def qV (v:Value)(k:Nat):Value:=.func (.func (qF k)) #[.agg #[v]] #[]
theorem lawR:Keyed Tryz.prog 50:=int_keyed Tryz.underlying50
theorem keyR {k:Int}(h:(Lit.int .u8 k).wf=true):keyOf Tryz.prog 50 (.int .u8 k)=some (.int .u8 k):=keyOf_int_mk Tryz.underlying50 h
def QMap (w:World)(v:Value)(b:Nat):Prop:=∃f,VMap w 50 b 16 f∧(∀k:Nat,1≤k→k≤16→f (.int .u8 k)=some (qV v k))∧∀k:Nat,k<1∨16<k→f (.int .u8 k)=none
theorem cell_vm {w w':World}{k:TypeId}{b n:Nat}{f:Lit→Option Value}(hM:VMap w k b n f)(hT:Touch w w' (fun k=>k=b)){p:Addr}{v:Value}(h:w.cell? p=some v):w'.cell? p=some v:=by
 have hg:p.block≠b:=by
  intro e
  obtain⟨D,⟨es,clock,hb,-⟩,-⟩:=hM
  simp [World.cell?,e,hb] at h
 rw [←h]
 unfold World.cell?
 rw [hT.block p.block (cell_size h) hg]
set_option maxRecDepth 20000 in
set_option maxHeartbeats 4000000 in
theorem questions_any {w:World}{a:Option Addr}{n c:Nat}:Calls Tryz.prog 33 #[.agg #[.slice a n c]] w fun e w'=>∃b,e=.returned (.map (some b))∧w.heap.size≤b∧QMap w' (.slice a n c) b∧Below w.heap.size w w':=by
 have hmm:=@run_makeMap Tryz.prog
 have hb0:Below w.heap.size w ((w.alloc (.cells #[.slice a n c] 91)).alloc (.map #[] 0)):=((Below.refl _ _).alloc (Nat.le_refl _) _).alloc (by simp) _
 have hM0:VMap ((w.alloc (.cells #[.slice a n c] 91)).alloc (.map #[] 0)) 50 (w.heap.size+1) 0 (fun _=>none):=by
  have h1:=VMap.new (w.alloc (.cells #[.slice a n c] 91)) 50
  rw [show (w.alloc (.cells #[.slice a n c] 91)).heap.size=w.heap.size+1 from by simp] at h1
  exact h1
 have hc0:((w.alloc (.cells #[.slice a n c] 91)).alloc (.map #[] 0)).cell? ⟨w.heap.size,0,none⟩=some (.slice a n c):=by rw [blk_cell (at_oldN (at_newN rfl))];rfl
 have hB:=Lib.hid hb0
 have hM:=Lib.hid hM0
 have hc:=hc0
 clear hM0 hb0
 go_enter Tryz.func33,Tryz.ntmps33
 go_wp2_with (refine wpList_vmap_ins rfl _ _ _ _ rfl 50 86 lawR Tryz.underlying88 (w.heap.size+1) _ _ hM.out (by simp [maxLen]) rfl _ _ _ rfl rfl (keyR (by decide)) ?_;intro w2 hM2 hT2;replace hc:=cell_vm hM.out hT2 hc;replace hB:=Lib.hid (hB.out.trans (hT2.below hB.out.size (fun k hk e=>by omega)));replace hM:=Lib.hid hM2;clear hM2 hT2;go_frame)
 go_ret
 refine⟨w.heap.size+1,rfl,by omega,⟨_,hM.out,?_,?_⟩,hB.out⟩
 ·intro k h1 h2
  obtain rfl | rfl | rfl | rfl | rfl | rfl | rfl | rfl | rfl | rfl | rfl | rfl | rfl | rfl | rfl | rfl:=(by omega:k=1∨k=2∨k=3∨k=4∨k=5∨k=6∨k=7∨k=8∨k=9∨k=10∨k=11∨k=12∨k=13∨k=14∨k=15∨k=16)
  all_goals (simp [qV,qF]<;>rfl)
 ·intro k hk
  have hne:∀j:Int,1≤j→j≤16→¬(Lit.int .u8 (k:Int)=Lit.int .u8 j):=fun j h1 h2 e=>by
   simp only [Lit.int.injEq,true_and] at e
   omega
  simp only [hne _ (show (1:Int)≤1 by decide) (by decide),hne 2 (by decide) (by decide),hne 3 (by decide) (by decide),hne 4 (by decide) (by decide),hne 5 (by decide) (by decide),hne 6 (by decide) (by decide),hne 7 (by decide) (by decide),hne 8 (by decide) (by decide),hne 9 (by decide) (by decide),hne 10 (by decide) (by decide),hne 11 (by decide) (by decide),hne 12 (by decide) (by decide),hne 13 (by decide) (by decide),hne 14 (by decide) (by decide),hne 15 (by decide) (by decide),hne 16 (by decide) (by decide),if_false]
end
end Go.Proofs.YtknkiaedgeejiaaGreatDoor
