/- Sr17, Sep, SwJ, SwX, FindB, Ow1. -/
import Derived.Test.YtknkiaedgeejiaaGreatDoorSP23
import Derived.Test.YtknkiaedgeejiaaGreatDoorSP2
import Derived.Test.YtknkiaedgeejiaaGreatDoorSP17
import Derived.Test.YtknkiaedgeejiaaGreatDoorSP1
import Derived.Test.YtknkiaedgeejiaaGreatDoorProg
import Derived.Test.YtknkiaedgeejiaaGreatDoorSP19
import Derived.Deep.CutBlock
import Derived.Deep.CutRange
namespace Go.Proofs.YtknkiaedgeejiaaGreatDoor
set_option linter.unusedVariables false
set_option linter.unusedSimpArgs false
section
open Go.RowKit Go.Maps Go.Shelf Go.WideMaps
attribute [local go_sem] Oper.semAt_some
set_option maxRecDepth 20000 in
set_option maxHeartbeats 16000000 in
theorem sameP_yes {w:World}{v1 v2:Value}{P:List Fun}(h1:RdE 3 RdFun w v1 P)(h2:RdE 3 RdFun w v2 P)(hL:LightP P):Calls Tryz.prog 12 #[.agg #[v1],.agg #[v2]] w fun e w'=>e=.returned (.bool true)∧Below w.heap.size w w':=by
 obtain⟨ap,cp,rfl⟩:=h1.form
 obtain⟨aq,cq,rfl⟩:=h2.form
 obtain⟨n,hn⟩:∃n,n=P.length:=⟨_,rfl⟩
 have hn70:n≤70:=by rw [hn];exact hL.1
 rw [←hn] at h1 h2 ⊢
 obtain⟨W2,hW2⟩:∃W2,(w.alloc (.cells #[.slice ap n cp] 24)).alloc (.cells #[.slice aq n cq] 24)=W2:=⟨_,rfl⟩
 have hX:W2.heap[w.heap.size]?=some (.cells #[.slice ap n cp] 24 (0,0)):=by rw [←hW2];exact at_oldN (at_newN rfl)
 have hY:W2.heap[w.heap.size+1]?=some (.cells #[.slice aq n cq] 24 (0,0)):=by rw [←hW2];exact at_newN (by simp)
 have hw2:Below w.heap.size w W2:=by rw [←hW2];exact ((Below.refl _ _).alloc (Nat.le_refl _) _).alloc (by simp) _
 have hXl:w.heap.size<W2.heap.size:=(Array.getElem?_eq_some_iff.1 hX).1
 have hYl:w.heap.size+1<W2.heap.size:=(Array.getElem?_eq_some_iff.1 hY).1
 have hcX:=Lib.hid (fun (W:World) (hb:Below W2.heap.size W2 W)=>(⟨by rw [blk_cell ((hb.block _ hXl).trans hX)];rfl,by rw [blk_cell ((hb.block _ hYl).trans hY)];rfl,Nat.lt_of_lt_of_le hXl hb.size,Nat.lt_of_lt_of_le hYl hb.size⟩:W.cell? ⟨w.heap.size,0,none⟩=some (.slice ap n cp)∧W.cell? ⟨w.heap.size+1,0,none⟩=some (.slice aq n cq)∧w.heap.size<W.heap.size∧w.heap.size+1<W.heap.size))
 replace hW2:=Lib.hid hW2
 replace hw2:=Lib.hid hw2
 replace hn:=Lib.hid hn
 replace hL:=Lib.hid hL
 replace h1:=Lib.hid h1
 replace h2:=Lib.hid h2
 obtain⟨c1,c2,l1,l2⟩:=hcX.out W2 (Below.refl _ _)
 clear hX hY hXl hYl
 go_enter Tryz.func12,Tryz.ntmps12
 go_upto_region 1 with fail
 rw [hW2.out]
 clear hW2
 go_upto_block 0 with fail
 clear c1 c2 l1 l2
 go_wp2_with fail
 go_loopw [5] (fun i wr=>∃k:Nat,i=.int .i64 k∧k≤n∧Hid (Below W2.heap.size W2 wr)) (fun i _=>n-(intOf i).toNat)
 case atStart=>exact⟨0,rfl,Nat.zero_le _,Lib.hid (Below.refl _ _)⟩
 case round=>
  obtain⟨f,rfl,hf,hbr⟩:=hrel
  obtain⟨c1,c2,l1,l2⟩:=hcX.out wr hbr.out
  by_cases hfn:f<n
  ·have i1:(f:Int)<(n:Int):=by omega
   obtain⟨d,hd⟩:∃d,P[f]?=some d:=⟨_,List.getElem?_eq_getElem (by rw [←hn.out];exact hfn)⟩
   have hwr:=hw2.out.trans (hbr.out.mono hw2.out.size)
   obtain⟨g1,o1,cap1,cs1,e1,hg1,⟨vp,vb,rfl,rp,rb⟩,-,hc1⟩:=(RdE.below (fun _ _ h=>h.below hwr) h1.out hwr).at hd
   obtain⟨g2,o2,cap2,cs2,e2,hg2,⟨up,ub,rfl,sp,sb⟩,-,hc2⟩:=(RdE.below (fun _ _ h=>h.below hwr) h2.out hwr).at hd
   rw [←hn.out] at e1 e2
   simp only [Value.slice.injEq] at e1 e2
   obtain⟨rfl,-,rfl⟩:=e1
   obtain⟨rfl,-,rfl⟩:=e2
   obtain⟨xp,yp,rfl⟩:=rp.shape
   obtain⟨xb,yb,rfl⟩:=rb.form
   obtain⟨zp,tp,rfl⟩:=sp.shape
   obtain⟨zb,tb,rfl⟩:=sb.form
   have hlf:=hL.out.2 d (List.mem_of_getElem? hd)
   have hnp:d.params.length≤maxLen:=Nat.le_trans hlf.1 (by decide)
   obtain⟨nb,hnb⟩:∃n,n=d.blocks.length:=⟨_,rfl⟩
   rw [←hnb] at hc1 hc2 rb sb
   have hnb70:nb≤70:=by rw [hnb];exact hlf.2.1
   have hlx:=Lib.hid hlf.2.2
   have a0:wr.cell? ⟨g1,o1+f*3,none⟩=some (.string d.name):=hc1 0 _ rfl
   have a1:=hc1 1 _ rfl
   have a2:=hc1 2 _ rfl
   have b0:wr.cell? ⟨g2,o2+f*3,none⟩=some (.string d.name):=hc2 0 _ rfl
   have b1:=hc2 1 _ rfl
   have b2:=hc2 2 _ rfl
   have d1:decide (d.params=d.params)=true:=decide_eq_true rfl
   obtain⟨OA,hOA⟩:∃O,O=Obj.cells #[.string d.name,.slice xp d.params.length yp,.slice xb nb yb] 40 (0,0):=⟨_,rfl⟩
   obtain⟨OB,hOB⟩:∃O,O=Obj.cells #[.string d.name,.slice zp d.params.length tp,.slice zb nb tb] 40 (0,0):=⟨_,rfl⟩
   have q0:((wr.alloc (.cells #[.string d.name,.slice xp d.params.length yp,.slice xb nb yb] 40)).alloc (.cells #[.string d.name,.slice zp d.params.length tp,.slice zb nb tb] 40)).heap[wr.heap.size]?=some OA:=by rw [hOA];exact at_oldN (at_newN rfl)
   have q1:((wr.alloc (.cells #[.string d.name,.slice xp d.params.length yp,.slice xb nb yb] 40)).alloc (.cells #[.string d.name,.slice zp d.params.length tp,.slice zb nb tb] 40)).heap[wr.heap.size+1]?=some OB:=by rw [hOB];exact at_newN (by simp)
   have hB3:Below wr.heap.size wr ((wr.alloc (.cells #[.string d.name,.slice xp d.params.length yp,.slice xb nb yb] 40)).alloc (.cells #[.string d.name,.slice zp d.params.length tp,.slice zb nb tb] 40)):=((Below.refl _ _).alloc (Nat.le_refl _) _).alloc (by simp) _
   clear hd hwr hc1 hc2 hlf
   replace rb:=Lib.hid rb
   replace sb:=Lib.hid sb
   replace rp:=Lib.hid rp
   replace sp:=Lib.hid sp
   replace hnb:=Lib.hid hnb
   replace hOA:=Lib.hid hOA
   replace hOB:=Lib.hid hOB
   replace q0:=Lib.hid q0
   replace q1:=Lib.hid q1
   replace hB3:=Lib.hid hB3
   have g1l:=Lib.hid hg1
   have g2l:=Lib.hid hg2
   go_upto_region 8 with fail
   clear a0 a1 a2 b0 b1 b2 c1 c2 l1 l2 hg1 hg2
   obtain⟨Y1,hY1⟩:∃Y,Y=wr.heap.size:=⟨_,rfl⟩
   obtain⟨Y2,hY2⟩:∃Y,Y=wr.heap.size+1:=⟨_,rfl⟩
   have q0:=q0.out
   have q1:=q1.out
   have hB3:=hB3.out
   rw [←hY1] at q0
   rw [←hY2] at q1 ⊢
   rw [←hY1]
   generalize ((wr.alloc (.cells #[.string d.name,.slice xp d.params.length yp,.slice xb nb yb] 40)).alloc (.cells #[.string d.name,.slice zp d.params.length tp,.slice zb nb tb] 40))=W3 at q0 q1 hB3 ⊢
   clear hY1 hY2
   have hBw3:=Lib.hid (hbr.out.trans (hB3.mono hbr.out.size))
   have hk1:=Lib.hid (textsS_any (Rd.below rp.out hB3) (Rd.below sp.out hB3) hnp)
   have rb3:=Lib.hid (RdE.below (fun _ _ h=>RdBlk.below h hB3) rb.out hB3)
   have sb3:=Lib.hid (RdE.below (fun _ _ h=>RdBlk.below h hB3) sb.out hB3)
   have m1:Y1<W3.heap.size:=(Array.getElem?_eq_some_iff.1 q0).1
   have m2:Y2<W3.heap.size:=(Array.getElem?_eq_some_iff.1 q1).1
   have hcY:=Lib.hid (fun (W:World) (hb:Below W3.heap.size W3 W)=>(by
    have e:=(hb.block _ m1).trans (q0.trans (congrArg some hOA.out))
    have e':=(hb.block _ m2).trans (q1.trans (congrArg some hOB.out))
    exact⟨by rw [blk_cell e];rfl,by rw [blk_cell e];rfl,by rw [blk_cell e];rfl,by rw [blk_cell e'];rfl,by rw [blk_cell e'];rfl,by rw [blk_cell e'];rfl,Nat.lt_of_lt_of_le m1 hb.size,Nat.lt_of_lt_of_le m2 hb.size⟩:W.cell? ⟨Y1,0,none⟩=some (.string d.name)∧W.cell? ⟨Y1,1,none⟩=some (.slice xp d.params.length yp)∧W.cell? ⟨Y1,2,none⟩=some (.slice xb nb yb)∧W.cell? ⟨Y2,0,none⟩=some (.string d.name)∧W.cell? ⟨Y2,1,none⟩=some (.slice zp d.params.length tp)∧W.cell? ⟨Y2,2,none⟩=some (.slice zb nb tb)∧Y1<W.heap.size∧Y2<W.heap.size))
   clear q0 q1 rp sp rb sb hB3 m1 m2 hnp
   obtain⟨x0,x1,x2,y0,y1,y2,m1,m2⟩:=hcY.out W3 (Below.refl _ _)
   go_wp2_with fail
   refine hk1.out.mono ?_
   rintro e w4 ⟨rfl,kk,rfl⟩
   have hB4:=Lib.hid (below_drawn (Below.refl W3.heap.size W3) kk)
   generalize W3.drewN kk=w4 at hB4 ⊢
   clear x0 x1 x2 y0 y1 y2 m1 m2 hk1
   obtain⟨x0,x1,x2,y0,y1,y2,m1,m2⟩:=hcY.out w4 hB4.out
   dsimp only
   go_upto_block 2 with fail
   clear x0 x1 x2 y0 y1 y2 m1 m2
   go_wp2_with fail
   go_loopw [8] (fun i wr=>∃k:Nat,i=.int .i64 k∧k≤nb∧Hid (Below W3.heap.size W3 wr)) (fun i _=>nb-(intOf i).toNat)
   case atStart=>exact⟨0,rfl,Nat.zero_le _,hB4⟩
   case round=>
    clear hB4
    obtain⟨j,rfl,hj,hbr2⟩:=hrel
    obtain⟨x0,x1,x2,y0,y1,y2,m1,m2⟩:=hcY.out wr hbr2.out
    clear x0 x1 y0 y1
    by_cases hjn:j<nb
    ·have i2:(j:Int)<(nb:Int):=by omega
     obtain⟨x,hx⟩:∃x,d.blocks[j]?=some x:=⟨_,List.getElem?_eq_getElem (by rw [←hnb.out];exact hjn)⟩
     obtain⟨g3,o3,cap3,cs3,e3,hg3,⟨vc,rfl,rc⟩,-,hc3⟩:=(RdE.below (fun _ _ h=>h.below hbr2.out) rb3.out hbr2.out).at hx
     obtain⟨g4,o4,cap4,cs4,e4,hg4,⟨uc,rfl,sc⟩,-,hc4⟩:=(RdE.below (fun _ _ h=>h.below hbr2.out) sb3.out hbr2.out).at hx
     rw [←hnb.out] at e3 e4
     simp only [Value.slice.injEq] at e3 e4
     obtain⟨rfl,-,rfl⟩:=e3
     obtain⟨rfl,-,rfl⟩:=e4
     obtain⟨xc,yc,rfl⟩:=rc.form
     obtain⟨zc,tc,rfl⟩:=sc.form
     obtain⟨nc,hnc⟩:∃n,n=x.code.length:=⟨_,rfl⟩
     rw [←hnc] at hc3 hc4 rc sc
     have hlb:=hlx.out x (List.mem_of_getElem? hx)
     have hnc2:nc≤200:=by rw [hnc];exact hlb.1
     have hlc:=Lib.hid hlb.2
     have a0:wr.cell? ⟨g3,o3+j*2,none⟩=some (.string x.label):=hc3 0 _ rfl
     have a1:=hc3 1 _ rfl
     have b0:wr.cell? ⟨g4,o4+j*2,none⟩=some (.string x.label):=hc4 0 _ rfl
     have b1:=hc4 1 _ rfl
     obtain⟨OC,hOC⟩:∃O,O=Obj.cells #[.string x.label,.slice xc nc yc] 43 (0,0):=⟨_,rfl⟩
     obtain⟨OD,hOD⟩:∃O,O=Obj.cells #[.string x.label,.slice zc nc tc] 43 (0,0):=⟨_,rfl⟩
     have q0:((wr.alloc (.cells #[.string x.label,.slice xc nc yc] 43)).alloc (.cells #[.string x.label,.slice zc nc tc] 43)).heap[wr.heap.size]?=some OC:=by rw [hOC];exact at_oldN (at_newN rfl)
     have q1:((wr.alloc (.cells #[.string x.label,.slice xc nc yc] 43)).alloc (.cells #[.string x.label,.slice zc nc tc] 43)).heap[wr.heap.size+1]?=some OD:=by rw [hOD];exact at_newN (by simp)
     have hB5:Below wr.heap.size wr ((wr.alloc (.cells #[.string x.label,.slice xc nc yc] 43)).alloc (.cells #[.string x.label,.slice zc nc tc] 43)):=((Below.refl _ _).alloc (Nat.le_refl _) _).alloc (by simp) _
     clear hx hc3 hc4 hlb
     replace rc:=Lib.hid rc
     replace sc:=Lib.hid sc
     replace hnc:=Lib.hid hnc
     replace hOC:=Lib.hid hOC
     replace hOD:=Lib.hid hOD
     replace q0:=Lib.hid q0
     replace q1:=Lib.hid q1
     replace hB5:=Lib.hid hB5
     go_upto_region 15 with fail
     clear a0 a1 b0 b1 x2 y2 m1 m2 hg3 hg4
     obtain⟨Z1,hZ1⟩:∃Y,Y=wr.heap.size:=⟨_,rfl⟩
     obtain⟨Z2,hZ2⟩:∃Y,Y=wr.heap.size+1:=⟨_,rfl⟩
     have q0:=q0.out
     have q1:=q1.out
     have hB5:=hB5.out
     rw [←hZ1] at q0
     rw [←hZ2] at q1 ⊢
     rw [←hZ1]
     generalize ((wr.alloc (.cells #[.string x.label,.slice xc nc yc] 43)).alloc (.cells #[.string x.label,.slice zc nc tc] 43))=W5 at q0 q1 hB5 ⊢
     clear hZ1 hZ2
     have hBw5:=Lib.hid (hbr2.out.trans (hB5.mono hbr2.out.size))
     have rc5:=Lib.hid (RdE.below (fun _ _ h=>RdIns.below h hB5) rc.out hB5)
     have sc5:=Lib.hid (RdE.below (fun _ _ h=>RdIns.below h hB5) sc.out hB5)
     have m1:Z1<W5.heap.size:=(Array.getElem?_eq_some_iff.1 q0).1
     have m2:Z2<W5.heap.size:=(Array.getElem?_eq_some_iff.1 q1).1
     have hcZ:=Lib.hid (fun (W:World) (hb:Below W5.heap.size W5 W)=>(by
      have e:=(hb.block _ m1).trans (q0.trans (congrArg some hOC.out))
      have e':=(hb.block _ m2).trans (q1.trans (congrArg some hOD.out))
      exact⟨by rw [blk_cell e];rfl,by rw [blk_cell e];rfl,by rw [blk_cell e'];rfl,by rw [blk_cell e'];rfl,Nat.lt_of_lt_of_le m1 hb.size,Nat.lt_of_lt_of_le m2 hb.size⟩:W.cell? ⟨Z1,0,none⟩=some (.string x.label)∧W.cell? ⟨Z1,1,none⟩=some (.slice xc nc yc)∧W.cell? ⟨Z2,0,none⟩=some (.string x.label)∧W.cell? ⟨Z2,1,none⟩=some (.slice zc nc tc)∧Z1<W.heap.size∧Z2<W.heap.size))
     clear q0 q1 rc sc hB5 m1 m2
     obtain⟨x0,x1,y0,y1,m1,m2⟩:=hcZ.out W5 (Below.refl _ _)
     go_upto_block 4 with fail
     clear x0 x1 y0 y1 m1 m2
     go_wp2_with fail
     go_loopw [11] (fun i wr=>∃k:Nat,i=.int .i64 k∧k≤nc∧Hid (Below W5.heap.size W5 wr)) (fun i _=>nc-(intOf i).toNat)
     case atStart=>exact⟨0,rfl,Nat.zero_le _,Lib.hid (Below.refl _ _)⟩
     case round=>
      obtain⟨k,rfl,hk,hbr3⟩:=hrel
      obtain⟨x0,x1,y0,y1,m1,m2⟩:=hcZ.out wr hbr3.out
      clear x0 y0
      by_cases hkn:k<nc
      ·have i3:(k:Int)<(nc:Int):=by omega
       obtain⟨c,hc⟩:∃c,x.code[k]?=some c:=⟨_,List.getElem?_eq_getElem (by rw [←hnc.out];exact hkn)⟩
       obtain⟨g5,o5,cap5,va,vl,e5,hg5,ra,rl,hc5⟩:=ins_at5 (RdE.below (fun _ _ h=>h.below hbr3.out) rc5.out hbr3.out) hc
       obtain⟨g6,o6,cap6,ua,ul,e6,hg6,sa,sl,hc6⟩:=ins_at5 (RdE.below (fun _ _ h=>h.below hbr3.out) sc5.out hbr3.out) hc
       rw [←hnc.out] at e5 e6
       simp only [Value.slice.injEq] at e5 e6
       obtain⟨rfl,-,rfl⟩:=e5
       obtain⟨rfl,-,rfl⟩:=e6
       have hl2:=hlc.out c (List.mem_of_getElem? hc)
       have hsm:=Lib.hid (fun (W:World) (hb:Below wr.heap.size wr W)=>(sameI_yes (Rd.below ra hb) (Rd.below rl hb) (Rd.below sa hb) (Rd.below sl hb) (Nat.le_trans hl2.1 (by decide)) (Nat.le_trans hl2.2 (by decide)):Calls Tryz.prog 25 #[.agg #[.int .u8 c.op,.string c.dst,.string c.a,.string c.b,.int .i64 c.n,.string c.fn,va,vl],.agg #[.int .u8 c.op,.string c.dst,.string c.a,.string c.b,.int .i64 c.n,.string c.fn,ua,ul]] W fun e w'=>e=.returned (.bool true)∧Below W.heap.size W w'))
       obtain⟨xa,ya,rfl⟩:=ra.shape
       obtain⟨xl,yl,rfl⟩:=rl.shape
       obtain⟨za,ta,rfl⟩:=sa.shape
       obtain⟨zl,tl,rfl⟩:=sl.shape
       clear ra rl sa sl hl2 hc
       have a0:wr.cell? ⟨g5,o5+k*8,none⟩=some (.int .u8 c.op):=hc5 0 _ rfl
       have a1:=hc5 1 _ rfl
       have a2:=hc5 2 _ rfl
       have a3:=hc5 3 _ rfl
       have a4:=hc5 4 _ rfl
       have a5:=hc5 5 _ rfl
       have a6:=hc5 6 _ rfl
       have a7:=hc5 7 _ rfl
       have b0:wr.cell? ⟨g6,o6+k*8,none⟩=some (.int .u8 c.op):=hc6 0 _ rfl
       have b1:=hc6 1 _ rfl
       have b2:=hc6 2 _ rfl
       have b3:=hc6 3 _ rfl
       have b4:=hc6 4 _ rfl
       have b5:=hc6 5 _ rfl
       have b6:=hc6 6 _ rfl
       have b7:=hc6 7 _ rfl
       clear hc5 hc6
       go_upto_region 20 with fail
       have hC:=(⟨x1,y1,a0,a1,a2,a3,a4,a5,a6,a7,b0,b1,b2,b3,b4,b5,b6,b7⟩:wr.cell? ⟨Z1,1,none⟩=some (.slice (some ⟨g5,o5,none⟩) nc yc)∧wr.cell? ⟨Z2,1,none⟩=some (.slice (some ⟨g6,o6,none⟩) nc tc)∧wr.cell? ⟨g5,o5+k*8,none⟩=some (.int .u8 c.op)∧wr.cell? ⟨g5,o5+k*8+1,none⟩=some (.string c.dst)∧wr.cell? ⟨g5,o5+k*8+2,none⟩=some (.string c.a)∧wr.cell? ⟨g5,o5+k*8+3,none⟩=some (.string c.b)∧wr.cell? ⟨g5,o5+k*8+4,none⟩=some (.int .i64 c.n)∧wr.cell? ⟨g5,o5+k*8+5,none⟩=some (.string c.fn)∧wr.cell? ⟨g5,o5+k*8+6,none⟩=some (.slice xa c.args.length ya)∧wr.cell? ⟨g5,o5+k*8+7,none⟩=some (.slice xl c.labels.length yl)∧wr.cell? ⟨g6,o6+k*8,none⟩=some (.int .u8 c.op)∧wr.cell? ⟨g6,o6+k*8+1,none⟩=some (.string c.dst)∧wr.cell? ⟨g6,o6+k*8+2,none⟩=some (.string c.a)∧wr.cell? ⟨g6,o6+k*8+3,none⟩=some (.string c.b)∧wr.cell? ⟨g6,o6+k*8+4,none⟩=some (.int .i64 c.n)∧wr.cell? ⟨g6,o6+k*8+5,none⟩=some (.string c.fn)∧wr.cell? ⟨g6,o6+k*8+6,none⟩=some (.slice za c.args.length ta)∧wr.cell? ⟨g6,o6+k*8+7,none⟩=some (.slice zl c.labels.length tl))
       have hkeep:=Lib.hid (fun (W:World) (hb:Below wr.heap.size wr W)=>(⟨(hb.cell (cell_size x1)).trans x1,(hb.cell (cell_size y1)).trans y1,(hb.cell (cell_size a0)).trans a0,(hb.cell (cell_size a1)).trans a1,(hb.cell (cell_size a2)).trans a2,(hb.cell (cell_size a3)).trans a3,(hb.cell (cell_size a4)).trans a4,(hb.cell (cell_size a5)).trans a5,(hb.cell (cell_size a6)).trans a6,(hb.cell (cell_size a7)).trans a7,(hb.cell (cell_size b0)).trans b0,(hb.cell (cell_size b1)).trans b1,(hb.cell (cell_size b2)).trans b2,(hb.cell (cell_size b3)).trans b3,(hb.cell (cell_size b4)).trans b4,(hb.cell (cell_size b5)).trans b5,(hb.cell (cell_size b6)).trans b6,(hb.cell (cell_size b7)).trans b7⟩:W.cell? ⟨Z1,1,none⟩=some (.slice (some ⟨g5,o5,none⟩) nc yc)∧W.cell? ⟨Z2,1,none⟩=some (.slice (some ⟨g6,o6,none⟩) nc tc)∧W.cell? ⟨g5,o5+k*8,none⟩=some (.int .u8 c.op)∧W.cell? ⟨g5,o5+k*8+1,none⟩=some (.string c.dst)∧W.cell? ⟨g5,o5+k*8+2,none⟩=some (.string c.a)∧W.cell? ⟨g5,o5+k*8+3,none⟩=some (.string c.b)∧W.cell? ⟨g5,o5+k*8+4,none⟩=some (.int .i64 c.n)∧W.cell? ⟨g5,o5+k*8+5,none⟩=some (.string c.fn)∧W.cell? ⟨g5,o5+k*8+6,none⟩=some (.slice xa c.args.length ya)∧W.cell? ⟨g5,o5+k*8+7,none⟩=some (.slice xl c.labels.length yl)∧W.cell? ⟨g6,o6+k*8,none⟩=some (.int .u8 c.op)∧W.cell? ⟨g6,o6+k*8+1,none⟩=some (.string c.dst)∧W.cell? ⟨g6,o6+k*8+2,none⟩=some (.string c.a)∧W.cell? ⟨g6,o6+k*8+3,none⟩=some (.string c.b)∧W.cell? ⟨g6,o6+k*8+4,none⟩=some (.int .i64 c.n)∧W.cell? ⟨g6,o6+k*8+5,none⟩=some (.string c.fn)∧W.cell? ⟨g6,o6+k*8+6,none⟩=some (.slice za c.args.length ta)∧W.cell? ⟨g6,o6+k*8+7,none⟩=some (.slice zl c.labels.length tl)))
       refine wp_region_held_drew (S:=(fun W'=>W'.cell? ⟨Z1,1,none⟩=some (.slice (some ⟨g5,o5,none⟩) nc yc)∧W'.cell? ⟨Z2,1,none⟩=some (.slice (some ⟨g6,o6,none⟩) nc tc)∧W'.cell? ⟨g5,o5+k*8,none⟩=some (.int .u8 c.op)∧W'.cell? ⟨g5,o5+k*8+1,none⟩=some (.string c.dst)∧W'.cell? ⟨g5,o5+k*8+2,none⟩=some (.string c.a)∧W'.cell? ⟨g5,o5+k*8+3,none⟩=some (.string c.b)∧W'.cell? ⟨g5,o5+k*8+4,none⟩=some (.int .i64 c.n)∧W'.cell? ⟨g5,o5+k*8+5,none⟩=some (.string c.fn)∧W'.cell? ⟨g5,o5+k*8+6,none⟩=some (.slice xa c.args.length ya)∧W'.cell? ⟨g5,o5+k*8+7,none⟩=some (.slice xl c.labels.length yl)∧W'.cell? ⟨g6,o6+k*8,none⟩=some (.int .u8 c.op)∧W'.cell? ⟨g6,o6+k*8+1,none⟩=some (.string c.dst)∧W'.cell? ⟨g6,o6+k*8+2,none⟩=some (.string c.a)∧W'.cell? ⟨g6,o6+k*8+3,none⟩=some (.string c.b)∧W'.cell? ⟨g6,o6+k*8+4,none⟩=some (.int .i64 c.n)∧W'.cell? ⟨g6,o6+k*8+5,none⟩=some (.string c.fn)∧W'.cell? ⟨g6,o6+k*8+6,none⟩=some (.slice za c.args.length ta)∧W'.cell? ⟨g6,o6+k*8+7,none⟩=some (.slice zl c.labels.length tl))) (by kernel_rfl) hC (fun hHeld=>?_)
       clear hHeld
       refine wpAnyH_take (i:=0) (oi:=(.mk (some 96) (.fieldAddr 43 (.tmp 9) 1) 0 "ref.go:344" #[] none)) (v:=?_) rfl (by kernel_rfl) (by kernel_rfl) (by kernel_rfl) (fun _ _ _ h=>h) (Or.inl ⟨by rfl,?_⟩) hC ?_
       rotate_left
       ·(intro w hSw;(try dsimp only at hSw);go_simp;try with_reducible rfl)
       try simp only [Act.put,List.setIfInBounds_toArray,List.set_cons_zero,List.set_cons_succ]
       refine wpAnyH_take (i:=1) (oi:=(.mk (some 97) (.load 41 (.tmp 96)) 41 "ref.go:344" #[.mk 0 .data] none)) (v:=?_) rfl (by kernel_rfl) (by kernel_rfl) (by kernel_rfl) (fun _ _ _ h=>h) (Or.inl ⟨by rfl,?_⟩) hC ?_
       rotate_left
       ·(intro w hSw;(try dsimp only at hSw);go_simp;try with_reducible rfl)
       try simp only [Act.put,List.setIfInBounds_toArray,List.set_cons_zero,List.set_cons_succ]
       refine wpAnyH_take (i:=2) (oi:=(.mk (some 98) (.move (.tmp 11)) 3 "ref.go:344" #[] none)) (v:=?_) rfl (by kernel_rfl) (by kernel_rfl) (by kernel_rfl) (fun _ _ _ h=>h) (Or.inl ⟨by rfl,?_⟩) hC ?_
       rotate_left
       ·(intro w hSw;(try dsimp only at hSw);go_simp;try with_reducible rfl)
       try simp only [Act.put,List.setIfInBounds_toArray,List.set_cons_zero,List.set_cons_succ]
       refine wpAnyH_take (i:=3) (oi:=(.mk (some 99) (.indexAddr 41 (.tmp 97) (.tmp 98)) 0 "ref.go:344" #[.mk 1 .data,.mk 2 .data] none)) (v:=?_) rfl (by kernel_rfl) (by kernel_rfl) (by kernel_rfl) (fun _ _ _ h=>h) (Or.inl ⟨by rfl,?_⟩) hC ?_
       rotate_left
       ·(intro w hSw;(try dsimp only at hSw);go_simp;try with_reducible rfl)
       try simp only [Act.put,List.setIfInBounds_toArray,List.set_cons_zero,List.set_cons_succ]
       refine wpAnyH_take (i:=4) (oi:=(.mk (some 100) (.load 46 (.tmp 99)) 46 "ref.go:344" #[.mk 3 .data] none)) (v:=?_) rfl (by kernel_rfl) (by kernel_rfl) (by kernel_rfl) (fun _ _ _ h=>h) (Or.inl ⟨by rfl,?_⟩) hC ?_
       rotate_left
       ·(intro w hSw;(try dsimp only at hSw);go_simp;try with_reducible rfl)
       try simp only [Act.put,List.setIfInBounds_toArray,List.set_cons_zero,List.set_cons_succ]
       refine wpAnyH_take (i:=5) (oi:=(.mk (some 101) (.fieldAddr 43 (.tmp 10) 1) 0 "ref.go:344" #[] none)) (v:=?_) rfl (by kernel_rfl) (by kernel_rfl) (by kernel_rfl) (fun _ _ _ h=>h) (Or.inl ⟨by rfl,?_⟩) hC ?_
       rotate_left
       ·(intro w hSw;(try dsimp only at hSw);go_simp;try with_reducible rfl)
       try simp only [Act.put,List.setIfInBounds_toArray,List.set_cons_zero,List.set_cons_succ]
       refine wpAnyH_take (i:=6) (oi:=(.mk (some 102) (.load 41 (.tmp 101)) 41 "ref.go:344" #[.mk 5 .data] none)) (v:=?_) rfl (by kernel_rfl) (by kernel_rfl) (by kernel_rfl) (fun _ _ _ h=>h) (Or.inl ⟨by rfl,?_⟩) hC ?_
       rotate_left
       ·(intro w hSw;(try dsimp only at hSw);go_simp;try with_reducible rfl)
       try simp only [Act.put,List.setIfInBounds_toArray,List.set_cons_zero,List.set_cons_succ]
       refine wpAnyH_take (i:=7) (oi:=(.mk (some 103) (.move (.tmp 11)) 3 "ref.go:344" #[] none)) (v:=?_) rfl (by kernel_rfl) (by kernel_rfl) (by kernel_rfl) (fun _ _ _ h=>h) (Or.inl ⟨by rfl,?_⟩) hC ?_
       rotate_left
       ·(intro w hSw;(try dsimp only at hSw);go_simp;try with_reducible rfl)
       try simp only [Act.put,List.setIfInBounds_toArray,List.set_cons_zero,List.set_cons_succ]
       refine wpAnyH_take (i:=8) (oi:=(.mk (some 104) (.indexAddr 41 (.tmp 102) (.tmp 103)) 0 "ref.go:344" #[.mk 6 .data,.mk 7 .data] none)) (v:=?_) rfl (by kernel_rfl) (by kernel_rfl) (by kernel_rfl) (fun _ _ _ h=>h) (Or.inl ⟨by rfl,?_⟩) hC ?_
       rotate_left
       ·(intro w hSw;(try dsimp only at hSw);go_simp;try with_reducible rfl)
       try simp only [Act.put,List.setIfInBounds_toArray,List.set_cons_zero,List.set_cons_succ]
       refine wpAnyH_take (i:=9) (oi:=(.mk (some 105) (.load 46 (.tmp 104)) 46 "ref.go:344" #[.mk 8 .data] none)) (v:=?_) rfl (by kernel_rfl) (by kernel_rfl) (by kernel_rfl) (fun _ _ _ h=>h) (Or.inl ⟨by rfl,?_⟩) hC ?_
       rotate_left
       ·(intro w hSw;(try dsimp only at hSw);go_simp;try with_reducible rfl)
       try simp only [Act.put,List.setIfInBounds_toArray,List.set_cons_zero,List.set_cons_succ]
       refine wpAnyH_ready (rs:=[10]) (by kernel_rfl) (by simp) (AllReadyH.cons (o:=(.mk (some 106) (.call (.mk (.value (.func 25)) #[(.tmp 100),(.tmp 105)] #[46,46])) 4 "ref.go:344" #[.mk 4 .data,.mk 9 .data] none)) rfl (fun K hK=>?_) AllReadyH.nil)
       go_simp
       (go_at_call 25;refine Calls.mono (hsm.out _ (Below.refl _ _).drew) ?_;rintro e w5 ⟨rfl,hb5⟩)
       have hB5:Below wr.heap.size wr w5:=(Below.refl wr.heap.size wr).drew.trans (hb5.mono (Below.refl wr.heap.size wr).drew.size)
       clear hb5
       have hC5:=hkeep.out w5 hB5
       clear hC
       have hC:=hC5
       clear hC5
       replace hB5:=Lib.hid hB5
       refine hK.out _ _ hC (fun hHeld=>?_)
       clear hK K hHeld
       try simp only [Act.put,List.setIfInBounds_toArray,List.set_cons_zero,List.set_cons_succ]
       refine wpAnyH_take (i:=11) (oi:=(.mk (some 107) (.unOp UnOp.not 4 (.tmp 106)) 4 "ref.go:344" #[.mk 10 .data] none)) (v:=?_) rfl (by kernel_rfl) (by kernel_rfl) (by kernel_rfl) (fun _ _ _ h=>h) (Or.inl ⟨by rfl,?_⟩) hC ?_
       rotate_left
       ·(intro w hSw;(try dsimp only at hSw);go_simp;try with_reducible rfl)
       try simp only [Act.put,List.setIfInBounds_toArray,List.set_cons_zero,List.set_cons_succ]
       refine wpAnyH_done (by kernel_rfl) ?_ _
       clear hC hkeep a0 a1 a2 a3 a4 a5 a6 a7 b0 b1 b2 b3 b4 b5 b6 b7 x1 y1 m1 m2
       go_wp2_with fail
       refine⟨?_,?_⟩
       ·repeat apply Exists.intro
        refine⟨?_,rfl⟩
        exact⟨k+1,by go_num,by omega,Lib.hid (hbr3.out.trans (hB5.out.mono hbr3.out.size))⟩
       ·simp [intOf]
        omega
      ·have i3:decide ((k:Int)<(nc:Int))=false:=by simp;omega
       obtain rfl:k=nc:=by omega
       go_wp2_with fail
       go_roundw
       case rel=>exact⟨j+1,by go_num,by omega,Lib.hid (hBw5.out.trans (hbr3.out.mono hBw5.out.size))⟩
       case measure=>simp [intOf];omega
    ·have i2:decide ((j:Int)<(nb:Int))=false:=by simp;omega
     obtain rfl:j=nb:=by omega
     go_wp2_with fail
     go_roundw
     case rel=>exact⟨f+1,by go_num,by omega,Lib.hid (hBw3.out.trans (hbr2.out.mono hBw3.out.size))⟩
     case measure=>simp [intOf];omega
  ·have i1:decide ((f:Int)<(n:Int))=false:=by simp;omega
   obtain rfl:f=n:=by omega
   go_wp2_with fail
   go_ret
   exact⟨rfl,hw2.out.trans (hbr.out.mono hw2.out.size)⟩
end
section
open Go.RowKit Go.Maps
theorem Touch.then {a b c:World}{S S':Nat→Prop}(h:Touch a b S)(g:Touch b c S')(hs:∀k,k<a.heap.size→S' k→S k):Touch a c S:=
 ⟨g.os.trans h.os,g.tape.trans h.tape,g.output.trans h.output,Nat.le_trans h.size g.size,fun k hk hn=>(g.block k (Nat.lt_of_lt_of_le hk h.size) (fun s=>hn (hs k hk s))).trans (h.block k hk hn)⟩
section
variable {α:Type} {c:Nat} {R R':World→List Value→α→Prop} {w w':World} {base:Nat} {e:TypeId} {v:Value} {L:List α} {No No':Nat→Prop}
def Away (No:Nat→Prop)(R:World→List Value→α→Prop)(w:World)(cs:List Value)(d:α):Prop:=∀w',Touch w w' No→R w' cs d
theorem Away.rd {cs:List Value}{d:α}(h:Away No R w cs d):R w cs d:=h w (Touch.refl _ _)
theorem Away.move {cs:List Value}{d:α}(h:Away No R w cs d)(t:Touch w w' No)(hs:∀k,k<w.heap.size→No' k→No k):Away No' R w' cs d:=fun _ t'=>h _ (t.then t' hs)
theorem OwnE.imp (h:OwnE c R w base e v L)(hR:∀cs d,R w cs d→R' w cs d):OwnE c R' w base e v L:=by
 obtain⟨xs,h1,h2⟩:=h
 exact⟨xs,h1,fun i d hi=>by obtain⟨cs,k1,k2,k3⟩:=h2 i d hi;exact⟨cs,hR cs d k1,k2,k3⟩⟩
theorem RdE.imp (h:RdE c R w v L)(hR:∀cs d,R w cs d→R' w cs d):RdE c R' w v L:=by
 refine or_map h id ?_
 rintro⟨b,off,cap,e,hlt,hc⟩
 refine⟨b,off,cap,e,hlt,fun i d hi=>?_⟩
 obtain⟨cs,h1,h2,h3⟩:=hc i d hi
 exact⟨cs,hR cs d h1,h2,h3⟩
theorem OwnE.move (h:OwnE c (Away No R) w base e v L)(t:Touch w w' No)(hv:∀g,v.ownBlock=some g→¬No g)(hs:∀k,k<w.heap.size→No' k→No k):OwnE c (Away No' R) w' base e v L:=by
 obtain⟨xs,h1,h2⟩:=h
 exact⟨xs,ownsRow_touch h1 t hv,fun i d hi=>by obtain⟨cs,k1,k2,k3⟩:=h2 i d hi;exact⟨cs,k1.move t hs,k2,k3⟩⟩
theorem OwnE.go {B:Nat→Prop}(h:OwnE c (Away (fun k=>v.ownBlock=some k∨B k) R) w base e v L)(t:Touch w w' B)(hv:∀g,v.ownBlock=some g→¬B g):OwnE c (Away (fun k=>v.ownBlock=some k∨B k) R) w' base e v L:=by
 obtain⟨xs,h1,h2⟩:=h
 exact⟨xs,ownsRow_touch h1 t hv,fun i d hi=>by obtain⟨cs,k1,k2,k3⟩:=h2 i d hi;exact⟨cs,k1.move (t.mono fun k _ hk=>.inr hk) (fun k _ hk=>hk),k2,k3⟩⟩
theorem OwnE.to {B:Nat→Prop}(h:OwnE c (Away (fun k=>v.ownBlock=some k∨B k) R) w base e v L)(t:Touch w w' No)(hv:∀g,v.ownBlock=some g→¬No g)(hs:∀k,k<w.heap.size→No k→B k):RdE c R w' v L:=by
 obtain⟨xs,h1,h2⟩:=h
 exact OwnE.rd (base:=base) (e:=e) ⟨xs,ownsRow_touch h1 t hv,fun i d hi=>by obtain⟨cs,k1,k2,k3⟩:=h2 i d hi;exact⟨cs,k1 _ (t.mono fun k hk hn=>.inr (hs k hk hn)),k2,k3⟩⟩
theorem wpList_append_away {P:Program}{ops:Array Oper}{rest:List Oper}{o:Oper}{a:Act}{Q:Exit→Act→World→Prop}(w:World)(hgd:o.guard=none)(s x:Operand)(t:TypeId)
  (ho:o.op=.call {callee:=.builtin .append,args:=#[s,x],argTypes:=#[t,t]})
  (base:Nat) (e:TypeId) (i:TypeInfo) (z:Value) (bytes:Nat) (ht:P.underlying t=some (.slice e)) (hi:P.info? e=some i) (hz:i.zero=some z)
  (hsize:i.size=c) (hby:i.bytes=bytes) (hzs:z.cells.size=c) (hc0:0<c) (B:Nat→Prop)
  (v:Value) (L:List α) (hs:a.eval s=v) (hown:OwnE c (Away (fun k=>v.ownBlock=some k∨B k) R) w base e v L)
  (sv:Value) (M:List α) (hx:a.eval x=sv) (hrd:RdE c (Away (fun k=>v.ownBlock=some k∨B k) R) w sv M) (h1:∀w cs d,R w cs d→∀u∈cs,u.oneCell'=true)
  (h63:L.length+M.length≤maxLen) (hbytes:(L.length+M.length)*bytes≤140737488355328) (hbase:base≤w.heap.size)
  (h:∀v' w',OwnE c (Away (fun k=>v'.ownBlock=some k∨B k) R) w' base e v' (L++M)→Touch w w' (fun k=>v.ownBlock=some k)→(v'.ownBlock=v.ownBlock∨v'.ownBlock=some w.heap.size)→wpList P ops Q rest (a.put o.dst v') w'):
  wpList P ops Q (o::rest) a w:=by
 have hup:∀cs d,Away (fun k=>v.ownBlock=some k∨B k) R w cs d→Touch w w (fun k=>v.ownBlock=some k∨B k)∧Away (fun k=>v.ownBlock=some k∨B k) R w cs d:=fun cs d h=>⟨Touch.refl _ _,h⟩
 refine wpList_append_rde (R:=fun w' cs d=>Touch w w' (fun k=>v.ownBlock=some k∨B k)∧Away (fun k=>v.ownBlock=some k∨B k) R w cs d) w hgd s x t ho base e i z bytes ht hi hz hsize hby hzs hc0 v L hs (OwnE.imp hown hup) sv M hx (RdE.imp hrd hup) (fun cs d k u hu=>h1 w cs d k.2.rd u hu) h63 hbytes hbase (fun w' cs d t k=>⟨k.1.trans (t.mono fun k _ hk=>.inl hk),k.2⟩) ?_
 intro v' w' k1 k2 k3
 refine h v' w' (OwnE.imp k1 fun cs d hk=>hk.2.move hk.1 fun k hlt hk'=>?_) k2 k3
 rcases hk' with hk' | hk'
 ·rcases k3 with e3 | e3
  ·exact .inl (e3 ▸ hk')
  ·rw [e3,Option.some.injEq] at hk'
   omega
 ·exact .inr hk'
end
end
section
open Go.RowKit Go.Maps Go.Shelf Go.WideMaps
def scanB (st:Nat × Nat × UInt8)(c:UInt8):Option (Nat × Nat × UInt8):=
 if c.toNat=10 then (if st.2.1=0∨st.2.2.toNat=32 then none else some (st.1+1,0,c))
 else if (c.toNat≠32∧(c.toNat<33∨126<c.toNat))∨(c.toNat=32∧1<st.2.1∧st.2.2.toNat=32) then none else some (st.1,st.2.1+1,c)
def scanT:List UInt8→Nat × Nat × UInt8→Option (Nat × Nat × UInt8)
 | [],st=>some st
 | c::r,st=>(scanB st c).bind (scanT r)
theorem scan_app (a b:List UInt8)(st:Nat × Nat × UInt8):scanT (a++b) st=(scanT a st).bind (scanT b):=by
 induction a generalizing st with
 | nil=>rfl
 | cons c r ih=>
  simp only [List.cons_append,scanT]
  cases scanB st c with
  | none=>rfl
  | some st'=>exact ih st'
def Wd6 (l:List UInt8):Prop:=l≠[]∧∀g p q,∃z:UInt8,z.toNat≠32∧scanT l (g,p,q)=some (g,p+l.length,z)
theorem Wd6.one {c:UInt8}(h1:33≤c.toNat)(h2:c.toNat≤126):Wd6 [c]:=by
 refine⟨by simp,fun g p q=>⟨c,by omega,?_⟩⟩
 simp only [scanT,scanB]
 rw [if_neg (by omega),if_neg (by omega)]
 rfl
theorem Wd6.app {a b:List UInt8}(ha:Wd6 a)(hb:Wd6 b):Wd6 (a++b):=by
 refine⟨by simp [ha.1],fun g p q=>?_⟩
 obtain⟨z,h1,h2⟩:=ha.2 g p q
 obtain⟨y,h3,h4⟩:=hb.2 g (p+a.length) z
 refine⟨y,h3,?_⟩
 rw [scan_app,h2]
 show scanT b _=_
 rw [h4,List.length_append,Nat.add_assoc]
theorem Wd6.all:∀{l:List UInt8},l≠[]→(∀c∈l,33≤c.toNat∧c.toNat≤126)→Wd6 l
 | [],h,_=>absurd rfl h
 | [c],_,h=>Wd6.one (h c (by simp)).1 (h c (by simp)).2
 | c::d::r,_,h=>Wd6.app (a:=[c]) (Wd6.one (h c (by simp)).1 (h c (by simp)).2) (Wd6.all (l:=d::r) (by simp) (fun x hx=>h x (List.mem_cons_of_mem _ hx)))
end
section
open Go.RowKit Go.Maps Go.WideShapes Go.ChangeShapes Go.ChangeAt Go.Deep
section
variable {H:Type} {enc:TypeId × Value→H} {P:Program} {w:World}
theorem rd_strs_c {t e:TypeId}{n:Nat}{cs:List Value}{x:DataW H × List MemPlace}(ht:P.underlying t=some (.slice e))(he:P.underlying e=some .string)(hc:P.cellsOf e=1)
  (hn:DataW.trod enc P w 0 (fun _=>true) true n t cs=some x):∃v ss,cs=[v]∧RdC w v ss∧(∀s∈ss,s.size≤maxLen)∧ss.length≤maxLen:=by
 rcases open_strs ht he hc hn with ⟨e1,_⟩ | ⟨a',len,cap,m,Sx,e1,_,hl,hm,hmm,_,hx⟩
 ·exact⟨_,[],e1,⟨Or.inl ⟨rfl,Or.inl rfl⟩,_,_,rfl,Nat.le_refl _⟩,(fun x h=>by cases h),Nat.zero_le _⟩
 ·simp only [if_true] at hmm
  refine⟨_,(List.range len).map Sx,e1,⟨?_,some a',cap,by simp,by simp;omega⟩,fun x hx'=>?_,by simp;omega⟩
  ·have:=rd_of (w:=w) (v:=.slice (some a') len cap) (X:=fun i=>.string (Sx i)) rfl (by omega:len≤m) (fun i hi=>(hx i hi).1) (by
    by_cases h0:len=0
    ·exact Or.inr h0
    ·left
     have h1:=(hx 0 (by omega)).1
     unfold World.cell? at h1
     split at h1
     ·rename_i h2
      have:=(Array.getElem?_eq_some_iff.1 h2).1
      unfold Addr.add at this
      split at this<;>simpa using this
     ·cases h1)
   rw [RdS,List.map_map]
   exact this
  ·obtain⟨i,hi,rfl⟩:=List.mem_map.1 hx'
   rw [List.mem_range] at hi
   exact (hx i (by omega)).2
end
section
variable {H:Type} {enc:TypeId × Value→H} {w:World}
theorem rd_ins_c {n:Nat}{cs:List Value}{x:DataW H × List MemPlace}(hn:DataW.trod enc Tryz.prog w 0 (fun _=>true) true n 46 cs=some x):∃d:Ins,RdInsC w cs d∧d.Fits:=by
 obtain⟨xs,m,rfl,rfl,hl,hxl,hf⟩:=DataW.trod_struct Tryz.underlying46 hn
 rw [cellsIns] at hl
 obtain⟨c0,c1,c2,c3,c4,c5,c6,c7,rfl⟩:=list8 hl
 have hg:=fun i f hi v hv=>field_one (by kernel_rfl) hxl hf (i:=i) (f:=f) hi (v:=v) hv
 obtain⟨y0,h0⟩:=hg 0 _ rfl _ rfl
 obtain⟨y1,h1⟩:=hg 1 _ rfl _ rfl
 obtain⟨y2,h2⟩:=hg 2 _ rfl _ rfl
 obtain⟨y3,h3⟩:=hg 3 _ rfl _ rfl
 obtain⟨y4,h4⟩:=hg 4 _ rfl _ rfl
 obtain⟨y5,h5⟩:=hg 5 _ rfl _ rfl
 obtain⟨y6,h6⟩:=hg 6 _ rfl _ rfl
 obtain⟨y7,h7⟩:=hg 7 _ rfl _ rfl
 obtain⟨op,e0,-,w0⟩:=DataW.trod_int Tryz.underlying44 h0
 obtain⟨s1,e1,-,w1⟩:=DataW.trod_string Tryz.underlying9 h1
 obtain⟨s2,e2,-,w2⟩:=DataW.trod_string Tryz.underlying9 h2
 obtain⟨s3,e3,-,w3⟩:=DataW.trod_string Tryz.underlying9 h3
 obtain⟨nn,e4,-,w4⟩:=DataW.trod_int Tryz.underlying3 h4
 obtain⟨s5,e5,-,w5⟩:=DataW.trod_string Tryz.underlying9 h5
 obtain⟨v6,ss6,e6,r6,w6,l6⟩:=rd_strs_c Tryz.underlying37 Tryz.underlying9 cellsStr h6
 obtain⟨v7,ss7,e7,r7,w7,l7⟩:=rd_strs_c Tryz.underlying37 Tryz.underlying9 cellsStr h7
 simp only [List.cons.injEq,and_true] at e0 e1 e2 e3 e4 e5 e6 e7
 subst e0 e1 e2 e3 e4 e5 e6 e7
 exact⟨⟨op,s1,s2,s3,nn,s5,ss6,ss7⟩,⟨c6,c7,rfl,r6,r7⟩,(u8_bounds w0).1,(u8_bounds w0).2,w1,w2,w3,w4,w5,w6,w7,l6,l7⟩
theorem rd_blk_c {n:Nat}{cs:List Value}{x:DataW H × List MemPlace}(hn:DataW.trod enc Tryz.prog w 0 (fun _=>true) true n 43 cs=some x):∃d:Blk,RdBlkC w cs d∧d.Fits:=by
 obtain⟨xs,m,rfl,rfl,hl,hxl,hf⟩:=DataW.trod_struct Tryz.underlying43 hn
 rw [cellsBlk] at hl
 obtain⟨c0,c1,rfl⟩:=list2 hl
 have hg:=fun i f hi v hv=>field_one (by kernel_rfl) hxl hf (i:=i) (f:=f) hi (v:=v) hv
 obtain⟨y0,h0⟩:=hg 0 _ rfl _ rfl
 obtain⟨y1,h1⟩:=hg 1 _ rfl _ rfl
 obtain⟨s,e0,-,w0⟩:=DataW.trod_string Tryz.underlying9 h0
 obtain⟨v,L,e1,r1,w1,l1⟩:=rd_elems_in (R:=RdInsC) (F:=Ins.Fits) Tryz.underlying41 cellsIns (by decide) (fun n cs x h=>rd_ins_c h) h1
 simp only [List.cons.injEq,and_true] at e0 e1
 subst e0 e1
 exact⟨⟨s,L⟩,⟨c1,rfl,r1⟩,w0,w1,l1⟩
theorem rd_fun_c {n:Nat}{cs:List Value}{x:DataW H × List MemPlace}(hn:DataW.trod enc Tryz.prog w 0 (fun _=>true) true n 40 cs=some x):∃d:Fun,RdFunC w cs d∧d.Fits:=by
 obtain⟨xs,m,rfl,rfl,hl,hxl,hf⟩:=DataW.trod_struct Tryz.underlying40 hn
 rw [cellsFun] at hl
 obtain⟨c0,c1,c2,rfl⟩:=list3 hl
 have hg:=fun i f hi v hv=>field_one (by kernel_rfl) hxl hf (i:=i) (f:=f) hi (v:=v) hv
 obtain⟨y0,h0⟩:=hg 0 _ rfl _ rfl
 obtain⟨y1,h1⟩:=hg 1 _ rfl _ rfl
 obtain⟨y2,h2⟩:=hg 2 _ rfl _ rfl
 obtain⟨s,e0,-,w0⟩:=DataW.trod_string Tryz.underlying9 h0
 obtain⟨v6,ss6,e1,r1,w1,l1⟩:=rd_strs_c Tryz.underlying37 Tryz.underlying9 cellsStr h1
 obtain⟨v,L,e2,r2,w2,l2⟩:=rd_elems_in (R:=RdBlkC) (F:=Blk.Fits) Tryz.underlying38 cellsBlk (by decide) (fun n cs x h=>rd_blk_c h) h2
 simp only [List.cons.injEq,and_true] at e0 e1 e2
 subst e0 e1 e2
 exact⟨⟨s,ss6,L⟩,⟨c1,c2,rfl,r1,r2⟩,w0,w1,w2,l1,l2⟩
end
end
section
def findB (n:Nat):Code→Option Code
 | .seq a b=>(findB n a).or (findB n b)
 | .cond _ a b=>(findB n a).or (findB n b)
 | .loop a=>findB n a
 | .block k a=>if k=n then some (.block k a) else findB n a
 | _=>none
def Func.blockOf (f:Func)(n:Nat):Option Code:=f.body.bind (findB n)
end
section
open Go.RowKit Go.Maps Go.Shelf Go.WideMaps
attribute [local go_sem] Oper.semAt_some
theorem keepO {w w':World}(hb:Below w.heap.size w w'){b o:Nat}{v:Value}(h:w.cell? ⟨b,o,none⟩=some v):w'.cell? ⟨b,o,none⟩=some v:=(hb.cell (p:=⟨b,o,none⟩) (cell_size h)).trans h
theorem rdc_own {w:World}{base n:Nat}{v:Value}{ss:List ByteArray}{t:TypeId}(h:w.ownsRow base t 1 v n (ss.map Value.string)):RdC w v ss:=by
 rcases h.2 with ⟨rfl,h0⟩ | ⟨g,cap,cur,rfl,h1,h2,h3,h4,h5,h6⟩
 ·have:ss=[]:=by have:=h.1;rw [h0,List.length_map] at this;exact List.eq_nil_of_length_eq_zero (by omega)
  subst this
  subst h0
  exact RdC.nil w
 ·have hl:n=ss.length:=by have:=h.1;rw [List.length_map] at this;omega
  subst hl
  refine⟨Or.inr ⟨g,0,cap,by simp,(h.lt g rfl).2,fun k u hu=>?_⟩,_,_,rfl,by omega⟩
  have:=h.cells (g:=g) rfl k u hu
  rw [add0] at this
  rw [Nat.zero_add]
  exact this
theorem own_formO {w:World}{base n:Nat}{v:Value}{xs:List Value}{t:TypeId}{size:Nat}(h:w.ownsRow base t size v n xs):∃a c,v=.slice a n c:=by
 rcases h.2 with ⟨rfl,h0⟩ | ⟨g,cap,cur,rfl,h1,h2⟩
 ·exact⟨none,0,by rw [h0]⟩
 ·exact⟨_,cap,rfl⟩
theorem infoInsO:(Tryz.prog.info? 46).map (fun i=>(i.zero,i.size,i.bytes))=some (some (.agg #[.int .u8 0,.string ⟨#[]⟩,.string ⟨#[]⟩,.string ⟨#[]⟩,.int .i64 0,.string ⟨#[]⟩,.slice none 0 0,.slice none 0 0]),8,128):=by kernel_rfl
def Mid (w0 w:World)(k:Nat):Prop:=w0.heap.size≤k∧k<w.heap.size
structure RowAt {α:Type} (c:Nat) (R:World→List Value→α→Prop) (w0 w wr:World) (Sb:Nat) (cs:Array Value) (tb te:TypeId) (v:Value) (L:List α):Prop where
 blk:wr.heap[Sb]?=some (.cells cs tb (0,0))
 touch:Touch w wr (fun k=>k=Sb)
 row:OwnE c (Away (fun k=>v.ownBlock=some k∨Mid w0 w k) R) wr w.heap.size te v L
theorem rde_oneO {α:Type}{c:Nat}{R:World→List Value→α→Prop}{w:World}{B:Nat}{cs:List Value}{t:TypeId}{d:α}(hb:w.heap[B]?=some (.cells cs.toArray t (0,0)))(hR:R w cs d)(hc:cs.length=c):RdE c R w (.slice (some ⟨B,0,none⟩) 1 1) [d]:=by
 refine .inr ⟨B,0,1,rfl,(Array.getElem?_eq_some_iff.1 hb).1,fun i x hx=>?_⟩
 obtain rfl:i=0:=by have:=(List.getElem?_eq_some_iff.1 hx).1;simpa using this
 obtain rfl:d=x:=by simpa using hx
 refine⟨cs,hR,hc,fun j u hu=>?_⟩
 rw [blk_cell hb]
 simpa using hu
theorem plain_insO (w:World)(cs:List Value)(d:Ins)(h:RdInsC w cs d):∀u∈cs,u.oneCell'=true:=by
 obtain⟨va,vl,rfl,ha,hl⟩:=h
 obtain⟨a1,c1,rfl⟩:=ha.1.shape
 obtain⟨a2,c2,rfl⟩:=hl.1.shape
 intro u hu
 simp only [insV,List.mem_cons,List.not_mem_nil,or_false] at hu
 rcases hu with rfl | rfl | rfl | rfl | rfl | rfl | rfl | rfl<;>rfl
theorem away_insO {w7:World}{B1 B2:Nat}{No:Nat→Prop}{y:Ins}{v vl:Value}{n m:Nat}{t:TypeId}(hO:w7.ownsRow B1 t 1 v n (y.args.map Value.string))(hO2:w7.ownsRow B2 t 1 vl m (y.labels.map Value.string))(hno:∀k,No k→k<B1∧k<B2):Away No RdInsC w7 (insV y v vl) y:=by
 intro w' t'
 refine⟨v,vl,rfl,rdc_own (ownsRow_touch hO t' (fun g hg h=>?_)),rdc_own (ownsRow_touch hO2 t' (fun g hg h=>?_))⟩
 ·have:=(hO.lt g hg).1
  have:=(hno g h).1
  omega
 ·have:=(hO2.lt g hg).1
  have:=(hno g h).2
  omega
theorem take_snocO {α:Type}{l:List α}{n:Nat}{y:α}(h:l[n]?=some y):l.take n++[y]=l.take (n+1):=by
 rw [List.take_succ_eq_append_getElem (List.getElem?_eq_some_iff.1 h).1,(List.getElem?_eq_some_iff.1 h).2]
theorem own_none {w:World}{t:TypeId}:(w.alloc (.cells #[] t)).ownsRow w.heap.size t 1 (.slice (some ⟨w.heap.size,0,none⟩) 0 0) 0 []:=⟨rfl,.inr ⟨w.heap.size,0,#[],rfl,Nat.le_refl _,heap_alloc_new _ _,Nat.le_refl _,Nat.zero_le _,rfl,rfl⟩⟩
theorem touch_copy {w w':World}{o:Obj}{a:Nat}(h:(w.alloc o).grownBy w' (some a))(ha:a=w.heap.size):Touch w w' (fun _=>False):=by
 have t:=Touch.of_grown (S:=fun k=>k=w.heap.size) h (fun k e=>by rw [←ha];simpa [eq_comm] using e)
 exact ((Touch.refl w (fun _=>False)).alloc o).then t (fun k hk e=>by omega)
set_option maxRecDepth 20000 in
set_option maxHeartbeats 4000000 in
theorem own4 {c:Code}(hc:Func.blockOf Tryz.f9 4=some c){Q:Exit→Act→World→Prop}{w0 w:World}{F5 gb ob nb cb b nc cc Sb:Nat}{ac:Option Addr}{x:Blk}{c0 n5 p5:Value}{u0 u1 u2 u3 u4 u6 u10 u11 u12 u13 u14 u15 u16 u17 u18 u19 u20 u21 u22 u23 u24 u25 u26 u27 u28 u29 u30 u31 u32 u33 u34 u35 u36 u37 u38 u39 u40 u41 u42 u43 u44 u45 u46 u47 u48 u49 u50 u51 u52 u53 u54 u55 u56 u57 u58 u59 u60 u61 u62 u63 u64 u65 u66 u67 u68 u69 u70 u71 u72 u73 u74 u75 u76 u77 u78 u79 u80 u81 u82 u83 u84 u85 u86 u87 u88 u89 u90 u91 u92:Value}
  (hF:w.heap[F5]?=some (.cells #[n5,p5,.slice (some ⟨gb,ob,none⟩) nb cb] 40 (0,0))) (hFS:F5≠Sb) (hcd:w0.cell? ⟨gb,ob+b*2+1,none⟩=some (.slice ac nc cc)) (hB:Below w0.heap.size w0 w) (rc:RdE 8 RdInsC w0 (.slice ac nc cc) x.code) (hX:w.heap[Sb]?=some (.cells #[c0,.slice none 0 0] 43 (0,0))) (hSb:w0.heap.size≤Sb) (hb:(b:Int)<(nb:Int)) (hnl:x.code.length≤1000000) (hal:∀y∈x.code,y.args.length≤1000∧y.labels.length≤1000) (hPn:∀{x} {a a1:Act} {w1:World},Q (.panic x) a w1→a.defers=a1.defers→Q (.panic x) a1 w1)
  (hQ:Hid (∀{wx:World} {v9 v10 v44 v45 v46 v47 v48 v49 v50 v51 v52 v53 v54 v55 v56 v57 v58 v59 v60 v61 v62 v63 v64 v65 v66 v67 v68 v69 v70 v71 v72 v73 v74 v75 v76 v77 v78 v79:Value},(∃v,RowAt 8 RdInsC w0 w wx Sb #[c0,v] 43 46 v x.code)→Q .normal {tmps:=#[u0,u1,u2,u3,u4,.pointer (some ⟨F5,0,none⟩),u6,.int .i64 b,.pointer (some ⟨Sb,0,none⟩),v9,v10,u11,u12,u13,u14,u15,u16,u17,u18,u19,u20,u21,u22,u23,u24,u25,u26,u27,u28,u29,u30,u31,u32,u33,u34,u35,u36,u37,u38,u39,u40,u41,u42,u43,v44,v45,v46,v47,v48,v49,v50,v51,v52,v53,v54,v55,v56,v57,v58,v59,v60,v61,v62,v63,v64,v65,v66,v67,v68,v69,v70,v71,v72,v73,v74,v75,v76,v77,v78,v79,u80,u81,u82,u83,u84,u85,u86,u87,u88,u89,u90,u91,u92],defers:=[]} wx)):
  c.wp Tryz.prog Q {tmps:=#[u0,u1,u2,u3,u4,.pointer (some ⟨F5,0,none⟩),u6,.int .i64 b,.pointer (some ⟨Sb,0,none⟩),.int .i64 0,u10,u11,u12,u13,u14,u15,u16,u17,u18,u19,u20,u21,u22,u23,u24,u25,u26,u27,u28,u29,u30,u31,u32,u33,u34,u35,u36,u37,u38,u39,u40,u41,u42,u43,u44,u45,u46,u47,u48,u49,u50,u51,u52,u53,u54,u55,u56,u57,u58,u59,u60,u61,u62,u63,u64,u65,u66,u67,u68,u69,u70,u71,u72,u73,u74,u75,u76,u77,u78,u79,u80,u81,u82,u83,u84,u85,u86,u87,u88,u89,u90,u91,u92],defers:=[]} w:=by
 conv at hc=>lhs;whnf
 simp only [Option.some.injEq] at hc
 subst hc
 obtain⟨i0,hi0,hz0,hz1,hz2⟩:=info_parts infoInsO
 obtain⟨j0,hj0,hy0,hy1,hy2⟩:=info_parts infoStrN
 have hn8:Hid (nc=x.code.length):=Lib.hid (by obtain⟨a,q,e⟩:=rc.form;simp only [Value.slice.injEq] at e;exact e.2.1)
 have hnm:nc≤1000000:=by rw [hn8.out];exact hnl
 have hXlt:Sb<w.heap.size:=(Array.getElem?_eq_some_iff.1 hX).1
 have hFlt:F5<w.heap.size:=(Array.getElem?_eq_some_iff.1 hF).1
 replace rc:=Lib.hid rc
 replace hF:=Lib.hid hF
 replace hcd:=Lib.hid hcd
 replace hB:=Lib.hid hB
 replace hX:=Lib.hid hX
 replace hal:=Lib.hid hal
 replace hn8:=Lib.hid hn8
 go_wp2_with fail
 go_loopw [9] (fun i wr=>∃(k:Nat) (v:Value),k≤nc∧i=.int .i64 k∧Hid (RowAt 8 RdInsC w0 w wr Sb #[c0,v] 43 46 v (x.code.take k))) (fun i _=>nc-(intOf i).toNat)
 case atStart=>exact⟨0,.slice none 0 0,Nat.zero_le _,rfl,Lib.hid ⟨hX.out,Touch.refl _ _,OwnE.nil _ _ _⟩⟩
 case round=>
  obtain⟨k,v,hk,rfl,hG⟩:=hrel
  have hB1:Below w0.heap.size w0 wr:=hB.out.trans (hG.out.touch.below hB.out.size (fun j hj e=>by omega))
  have hF1:wr.heap[F5]?=some (.cells #[n5,p5,.slice (some ⟨gb,ob,none⟩) nb cb] 40 (0,0)):=(hG.out.touch.block F5 hFlt hFS).trans hF.out
  have s2:wr.cell? ⟨F5,2,none⟩=some (.slice (some ⟨gb,ob,none⟩) nb cb):=by rw [blk_cell hF1];rfl
  have s3:=keepO hB1 hcd.out
  have l3:gb<wr.heap.size:=cell_size s3
  have l2:F5<wr.heap.size:=cell_size s2
  by_cases hlt:k<nc
  ·have j1:decide ((k:Int)<(nc:Int))=true:=by simpa using hlt
   have j2:(k:Int)<(nc:Int):=by omega
   obtain⟨y,hy⟩:∃y,x.code[k]?=some y:=⟨_,List.getElem?_eq_getElem (by rw [←hn8.out.out];exact hlt)⟩
   obtain⟨g,off,cap,cs,e,hgl,⟨va,vl,rfl,ra,rl⟩,-,hcell⟩:=rc.out.at hy
   rw [←hn8.out.out] at e
   simp only [Value.slice.injEq] at e
   obtain⟨rfl,-,rfl⟩:=e
   obtain⟨aa,ca,rfl⟩:=ra.1.shape
   obtain⟨al,cl,rfl⟩:=rl.1.shape
   have hll:=hal.out y (List.mem_of_getElem? hy)
   obtain⟨na,hna⟩:∃n,n=y.args.length:=⟨_,rfl⟩
   obtain⟨nl,hnl2⟩:∃n,n=y.labels.length:=⟨_,rfl⟩
   rw [←hna,←hnl2] at hcell hll
   rw [←hna] at ra
   rw [←hnl2] at rl
   obtain⟨av,cv,hvv⟩:=hG.out.row.form
   rw [List.length_take_of_le (by rw [←hn8.out.out];omega)] at hvv
   subst hvv
   have q0:wr.cell? ⟨g,off+k*8,none⟩=some (.int .u8 y.op):=keepO hB1 (hcell 0 _ rfl)
   have q1:wr.cell? ⟨g,off+k*8+1,none⟩=some (.string y.dst):=keepO hB1 (hcell 1 _ rfl)
   have q2:wr.cell? ⟨g,off+k*8+2,none⟩=some (.string y.a):=keepO hB1 (hcell 2 _ rfl)
   have q3:wr.cell? ⟨g,off+k*8+3,none⟩=some (.string y.b):=keepO hB1 (hcell 3 _ rfl)
   have q4:wr.cell? ⟨g,off+k*8+4,none⟩=some (.int .i64 y.n):=keepO hB1 (hcell 4 _ rfl)
   have q5:wr.cell? ⟨g,off+k*8+5,none⟩=some (.string y.fn):=keepO hB1 (hcell 5 _ rfl)
   have q6:wr.cell? ⟨g,off+k*8+6,none⟩=some (.slice aa na ca):=keepO hB1 (hcell 6 _ rfl)
   have q7:wr.cell? ⟨g,off+k*8+7,none⟩=some (.slice al nl cl):=keepO hB1 (hcell 7 _ rfl)
   have l4:g<wr.heap.size:=cell_size q0
   have hYb:(wr.alloc (.cells #[.int .u8 y.op,.string y.dst,.string y.a,.string y.b,.int .i64 y.n,.string y.fn,.slice aa na ca,.slice al nl cl] 46)).heap[wr.heap.size]?=some (.cells #[.int .u8 y.op,.string y.dst,.string y.a,.string y.b,.int .i64 y.n,.string y.fn,.slice aa na ca,.slice al nl cl] 46 (0,0)):=heap_alloc_new _ _
   have hTa:=(Touch.refl wr (fun _=>False)).alloc (.cells #[.int .u8 y.op,.string y.dst,.string y.a,.string y.b,.int .i64 y.n,.string y.fn,.slice aa na ca,.slice al nl cl] 46)
   replace hy:=Lib.hid hy
   replace hna:=Lib.hid hna
   replace hnl2:=Lib.hid hnl2
   replace ra:=Lib.hid ra
   replace rl:=Lib.hid rl
   replace hB1:=Lib.hid hB1
   replace hF1:=Lib.hid hF1
   clear hcell hgl
   go_upto_region 15 with fail
   clear q0 q1 q2 q3 q4 q5 q6 q7 s2 s3 l2 l3 l4
   obtain⟨Y,hY⟩:∃Y,Y=wr.heap.size:=⟨_,rfl⟩
   rw [←hY] at hYb ⊢
   generalize (wr.alloc (.cells #[.int .u8 y.op,.string y.dst,.string y.a,.string y.b,.int .i64 y.n,.string y.fn,.slice aa na ca,.slice al nl cl] 46))=W5 at hYb hTa ⊢
   replace hY:=Lib.hid hY
   have hYl:Y<W5.heap.size:=(Array.getElem?_eq_some_iff.1 hYb).1
   have hB5:Below w0.heap.size w0 W5:=hB1.out.trans (hTa.below hB1.out.size (fun j hj e=>e.elim))
   have hTc:=(Touch.refl W5 (fun _=>False)).alloc (.cells #[] 9)
   have hYb2:=(hTc.block Y hYl (fun h=>h)).trans hYb
   have p6:(W5.alloc (.cells #[] 9)).cell? ⟨Y,6,none⟩=some (.slice aa na ca):=by rw [blk_cell hYb2];rfl
   have p6w:W5.cell? ⟨Y,6,none⟩=some (.slice aa na ca):=by rw [blk_cell hYb];rfl
   have hBc:=hB5.trans (hTc.below hB5.size (fun j hj e=>e.elim))
   have hrd:=Lib.hid (Rd.below ra.out.1 hBc)
   have hown:=Lib.hid (own_none (w:=W5) (t:=9))
   have hYl2:Y<(W5.alloc (.cells #[] 9)).heap.size:=Nat.lt_of_lt_of_le hYl hTc.size
   replace hYb:=Lib.hid hYb
   replace hB5:=Lib.hid hB5
   replace hTa:=Lib.hid hTa
   clear hTc hYb2 hBc
   go_upto_region 16 with (at_builtin;refine wpList_append_rd _ rfl _ _ 37 rfl W5.heap.size 9 j0 _ 16 Tryz.underlying37 hj0 hy0 hy1 hy2 rfl (.slice (some ⟨W5.heap.size,0,none⟩) 0 0) 0 [] rfl hown.out _ (y.args.map Value.string) rfl hrd.out (fun u hu=>by obtain⟨x,-,rfl⟩:=List.mem_map.1 hu;rfl) (by rw [List.length_map,←hna.out];unfold maxLen;omega) (by rw [List.length_map,←hna.out];omega) (by simp) ?_;intro v6 w6 hown6 hgrow6 hat6;rw [List.nil_append,Nat.zero_add,List.length_map,←hna.out] at hown6;have hT6:=touch_copy hgrow6 rfl;have hYb6:=(hT6.block Y hYl (fun h=>h)).trans hYb.out;have f6:w6.frozen? ⟨Y,6,none⟩=false:=(by simp [World.frozen?,hYb6]);have z6:w6.cell? ⟨Y,6,none⟩=some (.slice aa na ca):=(by rw [blk_cell hYb6];rfl);obtain⟨a6,c6,rfl⟩:=own_formO hown6;replace hown6:=Lib.hid hown6;replace hT6:=Lib.hid hT6;replace hYb6:=Lib.hid hYb6;clear hgrow6 hat6)
   have hYb7:(w6.setCell ⟨Y,6,none⟩ (.slice a6 na c6)).heap[Y]?=some (.cells #[.int .u8 y.op,.string y.dst,.string y.a,.string y.b,.int .i64 y.n,.string y.fn,.slice a6 na c6,.slice al nl cl] 46 (0,0)):=blk_set (i:=6) _ hYb6.out
   have hTs6:Touch w6 (w6.setCell ⟨Y,6,none⟩ (.slice a6 na c6)) (fun j=>j=Y):=(Touch.refl w6 (fun j=>j=Y)).setCell (a:=⟨Y,6,none⟩) (fun _=>rfl) _
   generalize (w6.setCell ⟨Y,6,none⟩ (.slice a6 na c6))=w7 at hYb7 hTs6 ⊢
   have hs6:W5.heap.size≤w6.heap.size:=hT6.out.size
   have hs7:w6.heap.size≤w7.heap.size:=hTs6.size
   have hT57:Touch W5 w7 (fun j=>j=Y):=(hT6.out.mono (fun j _ h=>h.elim)).trans hTs6
   have hYl7:Y<w7.heap.size:=(Array.getElem?_eq_some_iff.1 hYb7).1
   have hB7:Below w0.heap.size w0 w7:=hB5.out.trans (hT57.below hB5.out.size (fun j hj e=>by have:=hB1.out.size;have:=hY.out;omega))
   have hTc:=(Touch.refl w7 (fun _=>False)).alloc (.cells #[] 9)
   have hYb2:=(hTc.block Y hYl7 (fun h=>h)).trans hYb7
   have p7:(w7.alloc (.cells #[] 9)).cell? ⟨Y,7,none⟩=some (.slice al nl cl):=by rw [blk_cell hYb2];rfl
   have p7w:w7.cell? ⟨Y,7,none⟩=some (.slice al nl cl):=by rw [blk_cell hYb7];rfl
   have hrd2:=Lib.hid (Rd.below rl.out.1 (hB7.trans (hTc.below hB7.size (fun j hj e=>e.elim))))
   have hown2:=Lib.hid (own_none (w:=w7) (t:=9))
   have hYl8:Y<(w7.alloc (.cells #[] 9)).heap.size:=Nat.lt_of_lt_of_le hYl7 hTc.size
   replace hYb7:=Lib.hid hYb7
   replace hTs6:=Lib.hid hTs6
   replace hT57:=Lib.hid hT57
   clear hTc hYb2 hB7 f6 z6 p6 p6w hYl2
   go_upto_region 17 with (at_builtin;refine wpList_append_rd _ rfl _ _ 37 rfl w7.heap.size 9 j0 _ 16 Tryz.underlying37 hj0 hy0 hy1 hy2 rfl (.slice (some ⟨w7.heap.size,0,none⟩) 0 0) 0 [] rfl hown2.out _ (y.labels.map Value.string) rfl hrd2.out (fun u hu=>by obtain⟨x,-,rfl⟩:=List.mem_map.1 hu;rfl) (by rw [List.length_map,←hnl2.out];unfold maxLen;omega) (by rw [List.length_map,←hnl2.out];omega) (by simp) ?_;intro v8 w8 hown8 hgrow8 hat8;rw [List.nil_append,Nat.zero_add,List.length_map,←hnl2.out] at hown8;have hT8:=touch_copy hgrow8 rfl;have hYb8:=(hT8.block Y hYl7 (fun h=>h)).trans hYb7.out;have f7:w8.frozen? ⟨Y,7,none⟩=false:=(by simp [World.frozen?,hYb8]);have z7:w8.cell? ⟨Y,7,none⟩=some (.slice al nl cl):=(by rw [blk_cell hYb8];rfl);obtain⟨a8,c8,rfl⟩:=own_formO hown8;replace hown8:=Lib.hid hown8;replace hT8:=Lib.hid hT8;replace hYb8:=Lib.hid hYb8;clear hgrow8 hat8)
   have hYb9:(w8.setCell ⟨Y,7,none⟩ (.slice a8 nl c8)).heap[Y]?=some (.cells #[.int .u8 y.op,.string y.dst,.string y.a,.string y.b,.int .i64 y.n,.string y.fn,.slice a6 na c6,.slice a8 nl c8] 46 (0,0)):=blk_set (i:=7) _ hYb8.out
   have hTs8:Touch w8 (w8.setCell ⟨Y,7,none⟩ (.slice a8 nl c8)) (fun j=>j=Y):=(Touch.refl w8 (fun j=>j=Y)).setCell (a:=⟨Y,7,none⟩) (fun _=>rfl) _
   generalize (w8.setCell ⟨Y,7,none⟩ (.slice a8 nl c8))=w9 at hYb9 hTs8 ⊢
   have hs8:w7.heap.size≤w8.heap.size:=hT8.out.size
   have hs9:w8.heap.size≤w9.heap.size:=hTs8.size
   have hT79:Touch w7 w9 (fun j=>j=Y):=(hT8.out.mono (fun j _ h=>h.elim)).trans hTs8
   have hT59:Touch W5 w9 (fun j=>j=Y):=hT57.out.trans hT79
   have hTw9:Touch wr w9 (fun _=>False):=hTa.out.then (S:=fun _=>False) hT59 (fun j hj e=>by have:=hY.out;omega)
   have hlw:w.heap.size≤wr.heap.size:=hG.out.touch.size
   have hlSb:Sb<wr.heap.size:=by omega
   have hSb9:w9.heap[Sb]?=some (.cells #[c0,.slice av k cv] 43 (0,0)):=(hTw9.block Sb hlSb (fun h=>h)).trans hG.out.blk
   have p1:w9.cell? ⟨Sb,1,none⟩=some (.slice av k cv):=by rw [blk_cell hSb9];rfl
   have x0:w9.cell? ⟨Y,0,none⟩=some (.int .u8 y.op):=by rw [blk_cell hYb9];rfl
   have x1:w9.cell? ⟨Y,1,none⟩=some (.string y.dst):=by rw [blk_cell hYb9];rfl
   have x2:w9.cell? ⟨Y,2,none⟩=some (.string y.a):=by rw [blk_cell hYb9];rfl
   have x3:w9.cell? ⟨Y,3,none⟩=some (.string y.b):=by rw [blk_cell hYb9];rfl
   have x4:w9.cell? ⟨Y,4,none⟩=some (.int .i64 y.n):=by rw [blk_cell hYb9];rfl
   have x5:w9.cell? ⟨Y,5,none⟩=some (.string y.fn):=by rw [blk_cell hYb9];rfl
   have x6:w9.cell? ⟨Y,6,none⟩=some (.slice a6 na c6):=by rw [blk_cell hYb9];rfl
   have x7:w9.cell? ⟨Y,7,none⟩=some (.slice a8 nl c8):=by rw [blk_cell hYb9];rfl
   have hYl9:Y<w9.heap.size:=(Array.getElem?_eq_some_iff.1 hYb9).1
   have hSl9:Sb<w9.heap.size:=(Array.getElem?_eq_some_iff.1 hSb9).1
   have hv:∀g,(Value.slice av k cv).ownBlock=some g→¬Mid w0 w g:=fun g hg e=>by have:=(hG.out.row.lt g hg).1;have:=e.2;omega
   have hTw10:=hTw9.alloc (.cells #[.int .u8 y.op,.string y.dst,.string y.a,.string y.b,.int .i64 y.n,.string y.fn,.slice a6 na c6,.slice a8 nl c8] 46)
   have hown10:=Lib.hid (hG.out.row.go (hTw10.mono (fun j _ e=>e.elim)) hv)
   have hTn:=(Touch.refl w9 (fun _=>False)).alloc (.cells #[.int .u8 y.op,.string y.dst,.string y.a,.string y.b,.int .i64 y.n,.string y.fn,.slice a6 na c6,.slice a8 nl c8] 46)
   have hO6:=ownsRow_touch (S:=fun j=>j=Y) hown6.out (((hTs6.out.trans hT79)).trans (hTn.mono (fun j _ h=>h.elim))) (fun g hg e=>by have:=(hown6.out.lt g hg).1;have:=hYl;omega)
   have hO8:=ownsRow_touch (S:=fun j=>j=Y) hown8.out (hTs8.trans (hTn.mono (fun j _ h=>h.elim))) (fun g hg e=>by have:=(hown8.out.lt g hg).1;have:=hYl7;omega)
   have haw:Away (fun j=>(Value.slice av k cv).ownBlock=some j∨Mid w0 w j) RdInsC (w9.alloc (.cells #[.int .u8 y.op,.string y.dst,.string y.a,.string y.b,.int .i64 y.n,.string y.fn,.slice a6 na c6,.slice a8 nl c8] 46)) (insV y (.slice a6 na c6) (.slice a8 nl c8)) y:=
    away_insO hO6 hO8 (fun j hj=>by
     have hyy:=hY.out
     have hj2:j<wr.heap.size:=by
      rcases hj with hj | hj
      ·exact (hG.out.row.lt j hj).2
      ·have:=hj.2;omega
     exact⟨by omega,by omega⟩)
   have hrd10:Hid (RdE 8 (Away (fun j=>(Value.slice av k cv).ownBlock=some j∨Mid w0 w j) RdInsC) (w9.alloc (.cells #[.int .u8 y.op,.string y.dst,.string y.a,.string y.b,.int .i64 y.n,.string y.fn,.slice a6 na c6,.slice a8 nl c8] 46)) (.slice (some ⟨w9.heap.size,0,none⟩) 1 1) [y]):=Lib.hid (rde_oneO (t:=46) (heap_alloc_new _ _) haw rfl)
   replace hTw10:=Lib.hid hTw10
   replace hSb9:=Lib.hid hSb9
   have hlen:Hid ((x.code.take k).length=k):=Lib.hid (by rw [List.length_take_of_le (by rw [←hn8.out.out];omega)])
   have hlow:w.heap.size≤(w9.alloc (.cells #[.int .u8 y.op,.string y.dst,.string y.a,.string y.b,.int .i64 y.n,.string y.fn,.slice a6 na c6,.slice a8 nl c8] 46)).heap.size:=by have:=hTw9.size;simp;omega
   clear hT79 hT59 hTw9 hTn hO6 hO8 haw hv hTs8 hYb9 f7 z7 p7 p7w hYl8
   go_wp2_with (at_builtin;refine wpList_append_away _ rfl _ _ 41 rfl w.heap.size 46 i0 _ 128 Tryz.underlying41 hi0 hz0 hz1 hz2 rfl (by decide) (Mid w0 w) (.slice av k cv) (x.code.take k) rfl hown10.out _ [y] rfl hrd10.out plain_insO (by rw [hlen.out];simp;unfold maxLen;omega) (by rw [hlen.out];simp;omega) hlow ?_)
   intro v8 w10 hO8 hT8 hat8
   have hO8:OwnE 8 (Away (fun j=>v8.ownBlock=some j∨Mid w0 w j) RdInsC) w10 w.heap.size 46 v8 (x.code.take (k+1)):=by
    rw [←take_snocO hy.out]
    exact hO8
   obtain⟨a8,c8,e8⟩:=hO8.form
   rw [List.length_take_of_le (by rw [←hn8.out.out];omega)] at e8
   subst e8
   have hSb8:w10.heap[Sb]?=some (.cells #[c0,.slice av k cv] 43 (0,0)):=(hT8.block Sb (by simp;omega) (fun e=>by have:=(hown10.out.lt Sb e).1;omega)).trans (at_oldN hSb9.out)
   have f1:w10.frozen? ⟨Sb,1,none⟩=false:=by simp [World.frozen?,hSb8]
   have z1:w10.cell? ⟨Sb,1,none⟩=some (.slice av k cv):=by rw [blk_cell hSb8];rfl
   have hTs:Touch w10 (w10.setCell ⟨Sb,1,none⟩ (.slice a8 (k+1) c8)) (fun j=>j=Sb):=(Touch.refl w10 (fun j=>j=Sb)).setCell (a:=⟨Sb,1,none⟩) (fun _=>rfl) _
   have hmid:Mid w0 w Sb:=⟨hSb,hXlt⟩
   have hfin:Hid (RowAt 8 RdInsC w0 w (w10.setCell ⟨Sb,1,none⟩ (.slice a8 (k+1) c8)) Sb #[c0,.slice a8 (k+1) c8] 43 46 (.slice a8 (k+1) c8) (x.code.take (k+1))):=Lib.hid ⟨blk_set (i:=1) _ hSb8,((hG.out.touch.trans (hTw10.out.mono (fun j _ h=>h.elim))).then hT8 (fun j hj e=>absurd (hown10.out.lt j e).1 (by omega))).setCell (a:=⟨Sb,1,none⟩) (fun _=>rfl) _,hO8.go (hTs.mono (fun j _ e=>by rw [e];exact hmid)) (fun g hg e=>by have:=(hO8.lt g hg).1;have:=e.2;omega)⟩
   clear hO8 hT8 hat8 hSb8 hTs hown10 hrd10 x0 x1 x2 x3 x4 x5 x6 x7 p1
   go_wp2_with fail
   go_roundw
   case rel=>exact⟨k+1,.slice a8 (k+1) c8,by omega,by go_num,hfin⟩
   case measure=>simp [intOf];omega
  ·obtain rfl:k=nc:=by omega
   have j1:decide ((k:Int)<(k:Int))=false:=by simp
   have hend:Hid (x.code.take k=x.code):=Lib.hid (by rw [List.take_of_length_le (by rw [←hn8.out.out];exact Nat.le_refl _)])
   clear hB1 hF1
   go_wp2_with fail
   refine hQ.out ⟨v,?_⟩
   rw [←hend.out]
   exact hG.out
end
end Go.Proofs.YtknkiaedgeejiaaGreatDoor
