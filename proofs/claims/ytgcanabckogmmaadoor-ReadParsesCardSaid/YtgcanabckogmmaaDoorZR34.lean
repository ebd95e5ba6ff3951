/- RfI6, RfC7. -/
import Derived.Test.YtgcanabckogmmaaDoorZR28
import Derived.Test.YtgcanabckogmmaaDoorZR30
import Derived.Test.YtgcanabckogmmaaDoorZR31
import Derived.Test.YtgcanabckogmmaaDoorZR32
import Derived.Test.YtgcanabckogmmaaDoorZR33
import Derived.Deep.AppendLies
namespace Go.Proofs.YtgcanabckogmmaaDoor
set_option linter.unusedVariables false
set_option linter.unusedSimpArgs false
section
open Go.RowKit Go.Maps Go.Shelf
attribute [local go_sem] Oper.semAt_some
structure PhS (w wr0 wr:World) (d:ByteArray) (A L:List ByteArray) (va vl:Value):Prop where
 ins:wr.heap[w.heap.size+2]?=some (.cells #[.int .u8 6,.string d,.string ⟨#[]⟩,.string ⟨#[]⟩,.int .i64 0,.string ⟨#[]⟩,va,vl] 49 (0,0))
 ra:wr.ownsRow wr0.heap.size 9 1 va A.length (A.map Value.string)
 rl:wr.ownsRow wr0.heap.size 9 1 vl L.length (L.map Value.string)
 ne:∀g,va.ownBlock=some g→¬vl.ownBlock=some g
 touch:Touch wr0 wr (fun k=>k=w.heap.size+2)
section
variable {w wr0 wr w2:World} {d s:ByteArray} {A L:List ByteArray} {va vl:Value} {o:Obj} {gg cap:Nat}
theorem PhS.lab (h:PhS w wr0 wr d A L va vl)(hz:w.heap.size+3≤wr0.heap.size)(hg:(wr.alloc o).drew.grownBy w2 vl.ownBlock)(hO:w2.ownsRow wr0.heap.size 9 1 (.slice (some ⟨gg,0,none⟩) (L.length+1) cap) (L.length+1) (L.map Value.string++[.string s]))(hat:vl.ownBlock=some gg∨gg=wr.heap.size+1):PhS w wr0 (w2.setCell ⟨w.heap.size+1+1,7,none⟩ (.slice (some ⟨gg,0,none⟩) (L.length+1) cap)) d A (L++[s]) va (.slice (some ⟨gg,0,none⟩) (L.length+1) cap):=by
 have hs:=h.touch.size
 have T:Touch wr w2 (fun k=>vl.ownBlock=some k):=(((Touch.refl wr _).alloc o).drew).trans (Touch.of_grown hg (fun k e=>e))
 have hlo:∀g,vl.ownBlock=some g→wr0.heap.size≤g:=fun g e=>(h.rl.lt g e).1
 have T4:Touch w2 (w2.setCell ⟨w.heap.size+1+1,7,none⟩ (.slice (some ⟨gg,0,none⟩) (L.length+1) cap)) (fun k=>k=w.heap.size+2):=(Touch.refl w2 (fun k=>k=w.heap.size+2)).setCell (a:=⟨w.heap.size+1+1,7,none⟩) (fun _=>rfl) _
 have b:=(T.block (w.heap.size+2) (by omega) (fun e=>by have:=hlo _ e;omega)).trans h.ins
 have hgg:=(hO.lt gg rfl).1
 refine⟨blk_set (i:=7) _ b,ownsRow_touch (ownsRow_touch h.ra T (fun g hg e=>h.ne g hg e)) T4 (fun g hg e=>by have:=(h.ra.lt g hg).1;omega),?_,fun g hg e=>?_,(h.touch.then (T.mono (S':=fun k=>wr0.heap.size≤k) (fun k _ e=>hlo k e)) (fun k hk e=>by omega)).then T4 (fun k _ e=>e)⟩
 ·rw [List.length_append,List.length_singleton,List.map_append]
  exact ownsRow_touch hO T4 (fun g hg e=>by simp only [Value.ownBlock,Option.some.injEq] at hg;omega)
 ·simp only [Value.ownBlock,Option.some.injEq] at e
  subst e
  rcases hat with e2 | e2
  ·exact h.ne gg hg e2
  ·have:=(h.ra.lt gg hg).2;omega
theorem PhS.arg (h:PhS w wr0 wr d A L va vl)(hz:w.heap.size+3≤wr0.heap.size)(hg:(wr.alloc o).drew.grownBy w2 va.ownBlock)(hO:w2.ownsRow wr0.heap.size 9 1 (.slice (some ⟨gg,0,none⟩) (A.length+1) cap) (A.length+1) (A.map Value.string++[.string s]))(hat:va.ownBlock=some gg∨gg=wr.heap.size+1):PhS w wr0 (w2.setCell ⟨w.heap.size+1+1,6,none⟩ (.slice (some ⟨gg,0,none⟩) (A.length+1) cap)) d (A++[s]) L (.slice (some ⟨gg,0,none⟩) (A.length+1) cap) vl:=by
 have hs:=h.touch.size
 have T:Touch wr w2 (fun k=>va.ownBlock=some k):=(((Touch.refl wr _).alloc o).drew).trans (Touch.of_grown hg (fun k e=>e))
 have hlo:∀g,va.ownBlock=some g→wr0.heap.size≤g:=fun g e=>(h.ra.lt g e).1
 have T4:Touch w2 (w2.setCell ⟨w.heap.size+1+1,6,none⟩ (.slice (some ⟨gg,0,none⟩) (A.length+1) cap)) (fun k=>k=w.heap.size+2):=(Touch.refl w2 (fun k=>k=w.heap.size+2)).setCell (a:=⟨w.heap.size+1+1,6,none⟩) (fun _=>rfl) _
 have b:=(T.block (w.heap.size+2) (by omega) (fun e=>by have:=hlo _ e;omega)).trans h.ins
 have hgg:=(hO.lt gg rfl).1
 refine⟨blk_set (i:=6) _ b,?_,ownsRow_touch (ownsRow_touch h.rl T (fun g hg e=>h.ne g e hg)) T4 (fun g hg e=>by have:=(h.rl.lt g hg).1;omega),fun g hg e=>?_,(h.touch.then (T.mono (S':=fun k=>wr0.heap.size≤k) (fun k _ e=>hlo k e)) (fun k hk e=>by omega)).then T4 (fun k _ e=>e)⟩
 ·rw [List.length_append,List.length_singleton,List.map_append]
  exact ownsRow_touch hO T4 (fun g hg e=>by simp only [Value.ownBlock,Option.some.injEq] at hg;omega)
 ·simp only [Value.ownBlock,Option.some.injEq] at hg
  subst hg
  rcases hat with e2 | e2
  ·exact h.ne gg e2 e
  ·have:=(h.rl.lt gg e).2;omega
theorem row_off {base:Nat}{wx:World}{xs:List ByteArray}{v:Value}(h:wx.ownsRow base 9 1 v xs.length (xs.map Value.string))(hz:w.heap.size+3≤base):∀w'',Touch wx w'' (fun k=>k<w.heap.size+3)→RdS w'' v xs∧Fz w'' v:=fun w'' t=>by
 have h2:=ownsRow_touch h t (fun g hg e=>by have:=(h.lt g hg).1;omega)
 refine⟨?_,fz_own h2⟩
 rcases h2.2 with ⟨rfl,h0⟩ | ⟨g,cap,cur,rfl,-⟩
 ·have:xs=[]:=List.eq_nil_of_length_eq_zero h0
  subst this
  exact rds_none w''
 ·refine Or.inr ⟨g,0,cap,by simp,(h2.lt g rfl).2,fun k u hu=>?_⟩
  have:=h2.cells (g:=g) rfl k u hu
  rw [add0] at this
  rw [Nat.zero_add]
  exact this
theorem ins8P {w:World}{b:Nat}{x0 x1 x2 x3 x4 x5 x6 x7:Value}{t:TypeId}(h:w.heap[b]?=some (.cells #[x0,x1,x2,x3,x4,x5,x6,x7] t (0,0))):w.cell? ⟨b,0,none⟩=some x0∧w.cell? ⟨b,1,none⟩=some x1∧w.cell? ⟨b,2,none⟩=some x2∧w.cell? ⟨b,3,none⟩=some x3∧w.cell? ⟨b,4,none⟩=some x4∧w.cell? ⟨b,5,none⟩=some x5∧w.cell? ⟨b,6,none⟩=some x6∧w.cell? ⟨b,7,none⟩=some x7:=by
 refine⟨?_,?_,?_,?_,?_,?_,?_,?_⟩<;>(rw [blk_cell h];rfl)
end
section
variable {w:World} {g o c ib n op:Nat} {p:List Tok}
set_option maxRecDepth 20000 in
set_option maxHeartbeats 8000000 in
theorem refins_7 (h:PcAt w g o p)(hop:op=6)(hn:n=4)(hs:StAt w ib (itemsR ⟨true,[112,104,105],6,.phi⟩))(hw:∀t∈p,Wd1 t)(hfull:fullR ⟨true,[112,104,105],6,.phi⟩ p=true):Calls Tryd.prog 25 #[.agg #[.int .u8 op,.slice (some ⟨ib,0,none⟩) n n],.slice (some ⟨g,o,none⟩) p.length c] w (InsPost w (insR ⟨true,[112,104,105],6,.phi⟩ p)):=by
 have hlen:=h.len
 have hoff:=h.off
 have hPw:=Lib.hid (fun (wr:World) (hb:Below w.heap.size w wr)=>h.below hb)
 obtain⟨i0,hi0,hz0,hz1,hz2⟩:=info_parts infoStrP
 obtain⟨W2,hW2⟩:∃W2,((w.alloc (.cells #[.int .u8 op,.slice (some ⟨ib,0,none⟩) n n] 72)).alloc (.cells #[.int .u8 0,.string ⟨#[]⟩,.string ⟨#[]⟩,.string ⟨#[]⟩,.int .i64 0,.string ⟨#[]⟩,.slice none 0 0,.slice none 0 0] 49)).alloc (.cells #[.int .u8 op,.string ⟨#[]⟩,.string ⟨#[]⟩,.string ⟨#[]⟩,.int .i64 0,.string ⟨#[]⟩,.slice none 0 0,.slice none 0 0] 49)=W2:=⟨_,rfl⟩
 have hz2':W2.heap.size=w.heap.size+3:=by rw [←hW2];simp
 have h0:IL w op ib n p W2 0 (.slice none 0 0):=⟨by rw [←hW2];exact at_oldP (at_oldP (at_newP rfl)),by rw [←hW2];exact at_oldP (at_newP (by simp)),by rw [←hW2];exact at_newP (by simp),World.ownsRow_nil _ _ _ _,by rw [←hW2];exact (((Below.refl _ _).alloc (Nat.le_refl _) _).alloc (by simp) _).alloc (by simp;omega) _,by omega⟩
 have hSw:=Lib.hid (fun (wr:World) (hb:Below w.heap.size w wr)=>hs.below hb)
 clear h
 replace hop:=Lib.hid hop
 replace hn:=Lib.hid hn
 replace hfull:=Lib.hid hfull
 replace hw:=Lib.hid hw
 replace hW2:=Lib.hid hW2
 go_enter Tryd.func25,Tryd.ntmps25
 go_upto_block 0 with fail
 rw [hW2.out]
 clear hW2
 go_wp2_with fail
 go_loopw [6,7] (fun v i wr=>∃k:Nat,i=.int .i64 k∧k≤p.length∧Hid (IL w op ib n p wr k v)) (fun v i _=>p.length-(intOf i).toNat)
 case atStart=>exact⟨0,rfl,Nat.zero_le _,Lib.hid h0⟩
 case round=>
  clear h0 hz2'
  obtain⟨k,rfl,hk,hI⟩:=hrel
  by_cases hkn:k<p.length
  ·obtain⟨t,ht⟩:∃t,p[k]?=some t:=⟨p[k]'hkn,List.getElem?_eq_getElem hkn⟩
   have i1:(k:Int)<(p.length:Int):=by omega
   have hP:=hPw.out _ hI.out.below
   obtain⟨a0,a1,a2,-,-⟩:=hP.toks k t ht
   have hglt:=hP.lt
   have g1:((t.kind:Int)==1)=(t.kind==1):=kindB _ 1
   have g2:((t.kind:Int)==2)=(t.kind==2):=kindB _ 2
   clear hP
   by_cases h1:t.kind=1
   ·obtain⟨a,cc,e⟩:=own_formR hI.out.own
    subst e
    have hnl:=nms_le (p.take k)
    rw [List.length_take] at hnl
    have hown:=Lib.hid hI.out.own
    have happ:=Lib.hid (fun (w2:World) (v2:Value) hg ho=>hI.out.app (ob:=.cells #[.string (nmT t)] 9) (w2:=w2) (v2:=v2) ht h1 hg ho)
    have htop:=hI.out.top
    obtain⟨nl,hnn⟩:∃nl,nl=(nmsT (p.take k)).length:=⟨_,rfl⟩
    rw [←hnn] at hnl hown happ ⊢
    replace hnn:=Lib.hid hnn
    replace g1:((t.kind:Int)==1)=true:=by rw [h1];rfl
    replace g2:((t.kind:Int)==2)=false:=by rw [h1];rfl
    have hcell:=Lib.hid (fun (w2:World) (hb:Below w.heap.size w w2)=>(show w2.cell? ⟨g,o+k*5,none⟩=some (.int .u8 t.kind)∧g<w2.heap.size from ⟨((hPw.out _ hb).toks k t ht).1,(hPw.out _ hb).lt⟩))
    clear hI hPw ht h1
    go_wp2_with (at_builtin;refine wpList_append_own_at _ rfl _ _ 39 rfl (w.heap.size+3) 9 i0 _ 1 16 Tryd.underlying39 hi0 hz0 hz1 hz2 rfl (by decide) _ _ _ rfl (hown.out.alloc _) ⟨wr.heap.size,0,none⟩ 1 1 [.string (nmT t)] rfl rfl (World.news_of_block (cs:=#[.string (nmT t)]) (t:=9) (fr:=(0,0)) (heap_alloc_new wr _)) (by simp [Value.oneCell']) (by unfold maxLen;omega) (by omega) (by simp;omega) ?_)
    intro v' w2 hown2 hgrow hnil hat
    have hI2:=Lib.hid (happ.out w2 v' hgrow hown2)
    clear hown happ hown2 hgrow hnil hat
    obtain⟨a0',hglt'⟩:=hcell.out w2 hI2.out.below
    clear hcell a0 a1 a2 hglt
    go_wp2_with fail
    go_roundw
    case rel=>exact⟨k+1,by go_num,by omega,hI2⟩
    case measure=>simp [intOf];omega
   ·by_cases h2:t.kind=2
    ·have hI2:=Lib.hid (hI.out.num ht h2)
     have b1:w.heap.size+2<wr.heap.size:=by have:=hI.out.top;omega
     have b2:wr.frozen? ⟨w.heap.size+2,4,none⟩=false:=frozB hI.out.ins 4
     have b3:∃u,wr.cell? ⟨w.heap.size+2,4,none⟩=some u:=⟨_,by rw [blk_cell hI.out.ins];rfl⟩
     obtain⟨u,b3⟩:=b3
     replace g1:((t.kind:Int)==1)=false:=by rw [h2];rfl
     replace g2:((t.kind:Int)==2)=true:=by rw [h2];rfl
     clear hI hPw ht h1
     go_wp2_with fail
     go_roundw
     case rel=>exact⟨k+1,by go_num,by omega,hI2⟩
     case measure=>simp [intOf];omega
    ·have hI2:=Lib.hid (hI.out.skip ht h1 h2)
     have g3:(t.kind==1)=false:=by simpa using h1
     have g4:(t.kind==2)=false:=by simpa using h2
     rw [g3] at g1
     rw [g4] at g2
     clear hI hPw ht h1 h2 g3 g4
     go_wp2_with fail
     go_roundw
     case rel=>exact⟨k+1,by go_num,by omega,hI2⟩
     case measure=>simp [intOf];omega
  ·have i1:decide ((k:Int)<(p.length:Int))=false:=by simp;omega
   have hI:=hI.out
   obtain rfl:k=p.length:=by omega
   obtain⟨bx,an,ins,own,hbe,htop⟩:=hI
   rw [List.take_length] at ins own
   have hst:=hSw.out _ hbe
   have hib:=hst.lt
   have z0:wr.cell? ⟨w.heap.size,0,none⟩=some (.int .u8 op):=by rw [blk_cell bx];rfl
   have z1:wr.cell? ⟨w.heap.size,1,none⟩=some (.slice (some ⟨ib,0,none⟩) n n):=by rw [blk_cell bx];rfl
   have k0:=hst.at' 0
   clear hSw hPw hst bx hoff
   obtain⟨d,wd,q,hN,hL,hsh,hins⟩:=full_val (f:=⟨true,[112,104,105],6,.phi⟩) (by simp [formsR]) rfl hw.out hfull.out
   replace k0:=k0 [78] rfl
   obtain rfl:op=6:=hop.out
   obtain rfl:n=4:=hn.out
   obtain⟨hev,hz⟩:(nmsT q).length%2=0∧∀z,numL q z=z:=hsh
   replace hz:=hz 0
   rw [hz] at hL hins
   obtain⟨R,hR⟩:∃R,R=nmsT q:=⟨_,rfl⟩
   rw [←hR] at hN hins hev
   replace hins:=Lib.hid hins
   rw [hN] at own
   rw [hL] at ins
   obtain⟨gn,cap,rfl,hb1,hb2⟩:=own.form (by simp)
   have hcap0:=own_cap own rfl
   obtain⟨m,hm⟩:∃m,m=R.length:=⟨_,rfl⟩
   have hcap:m+2≤cap:=by simp only [List.length_cons] at hcap0;omega
   have hm1:m≤2000000:=by
    have e:=congrArg List.length hN
    have:=nms_le p
    simp only [List.length_cons] at e
    omega
   clear hcap0
   have hlenN:(d::wd::R).length=m+2:=by simp [hm]
   rw [hlenN] at own ⊢
   have hown:=Lib.hid own
   have n0:wr.cell? ⟨gn,0,none⟩=some (.string d):=own.cells rfl 0 _ rfl
   have n1:wr.cell? ⟨gn,1,none⟩=some (.string wd):=own.cells rfl 1 _ rfl
   have q0:¬cap=0:=by omega
   have q1:¬cap=1:=by omega
   have hle:w.heap.size+3≤wr.heap.size:=htop
   have hwr0:=Lib.hid (Touch.refl wr (fun _=>False))
   have han:=Lib.hid (fun (wx:World) (t:Touch wr wx (fun k=>k=w.heap.size+2))=>(t.block (w.heap.size+1) (by omega) (by omega)).trans an)
   have f2:∀j,wr.frozen? ⟨w.heap.size+1+1,j,none⟩=false:=fun j=>frozB ins j
   have y1:wr.cell? ⟨w.heap.size+1+1,1,none⟩=some (.string ⟨#[]⟩):=by rw [blk_cell ins];rfl
   obtain⟨wr0,hw0⟩:∃wr0,wr0=wr.setCell ⟨w.heap.size+1+1,1,none⟩ (.string d):=⟨_,rfl⟩
   have hwz:wr0.heap.size=wr.heap.size:=by rw [hw0];simp
   have hT0:Touch wr wr0 (fun k=>k=w.heap.size+2):=by rw [hw0];exact (Touch.refl wr (fun k=>k=w.heap.size+2)).setCell (a:=⟨w.heap.size+1+1,1,none⟩) (fun _=>rfl) _
   have hS0:PhS w wr0 wr0 d [] [] (.slice none 0 0) (.slice none 0 0):=by
    refine⟨?_,World.ownsRow_nil _ _ _ _,World.ownsRow_nil _ _ _ _,fun g hg=>by simp [Value.ownBlock] at hg,Touch.refl _ _⟩
    rw [hw0]
    exact (blk_set (i:=1) (.string d) ins).trans rfl
   have hown0:=Lib.hid (ownsRow_touch own hT0 (fun g hg e=>by have:=(own.lt g hg).1;omega))
   have hbe0:=Lib.hid (hbe.trans (hT0.below (B:=w.heap.size) (by omega) (fun k hk e=>by omega)))
   have hnR:=Lib.hid (fun (wx:World) (t:Touch wr0 wx (fun k=>k=w.heap.size+2)) (i:Nat) (s:ByteArray) (hi:R[i]?=some s)=>(by
    have h2:=ownsRow_touch hown0.out t (fun g hg e=>by have:=(hown0.out.lt g hg).1;omega)
    have h3:=h2.cells (g:=gn) rfl (i+2) (.string s) (by simp [hi])
    rw [add0] at h3
    rw [Nat.add_comm 2 i]
    exact h3:wx.cell? ⟨gn,2+i,none⟩=some (.string s)))
   have hz3:=Lib.hid (show w.heap.size+3≤wr0.heap.size by omega)
   have han:=Lib.hid (fun (wx:World) (t:Touch wr0 wx (fun k=>k=w.heap.size+2))=>han.out wx (hT0.trans t))
   have hwr0:Hid (wr0=wr.setCell ⟨w.heap.size+1+1,1,none⟩ (.string d)):=Lib.hid hw0
   have hz30:=hz3.out
   have sBox0:wr0.cell? ⟨w.heap.size,0,none⟩=some (.int .u8 6):=by rw [hw0];exact (World.cell?_setCell_other _ _ _ _ (fun e=>by simp only [Addr.mk.injEq] at e;omega)).trans z0
   have n10:wr0.cell? ⟨gn,1,none⟩=some (.string wd):=by rw [hw0];exact (World.cell?_setCell_other _ _ _ _ (fun e=>by simp only [Addr.mk.injEq] at e;omega)).trans n1
   clear hw0 hN hL hfull hw hz hkn hI hs own hop hn
   replace hev:=Lib.hid hev
   replace hR:=Lib.hid hR
   replace hm:=Lib.hid hm
   replace hlenN:=Lib.hid hlenN
   replace hT0:=Lib.hid hT0
   replace hS0:=Lib.hid hS0
   replace han:=han
   clear ins an hbe
   by_cases hm0:m=0
   ·go_upto_region 12 with fail
    rw [←hwr0.out]
    clear z0 z1 n0 n1 y1 f2 k0
    obtain rfl:=hm0
    go_wp2_with fail
    all_goals
     go_loopw [8] (fun i wr=>∃(j:Nat) (A L:List ByteArray) (va vl:Value),i=.int .i64 j∧j≤0∧j%2=0∧A.length≤j∧L.length≤j∧Hid (PhS w wr0 wr d A L va vl)∧Hid (addPairs (insOf 6 d) R=addPairs {insOf 6 d with args:=A,labels:=L} (R.drop j))) (fun i _=>0+2-(intOf i).toNat)
     case atStart=>exact⟨0,[],[],.slice none 0 0,.slice none 0 0,rfl,Nat.zero_le _,rfl,Nat.le_refl _,Nat.le_refl _,hS0,Lib.hid rfl⟩
     case round=>
      clear hS0 sBox0 n10
      obtain⟨j,A,L,va,vl,rfl,hj,hj2,hA,hL2,hS,hadd⟩:=hrel
      obtain rfl:j=0:=by omega
      have i2:decide (((0:Nat):Int)+1<((0:Nat):Int))=false:=decide_eq_false (by omega)
      have hadd:Hid (addPairs (insOf 6 d) R={insOf 6 d with args:=A,labels:=L}):=Lib.hid (by rw [hadd.out,List.drop_eq_nil_of_le (by rw [←hm.out];exact Nat.le_refl _)];rfl)
      obtain⟨av,cv,e⟩:=own_formR hS.out.ra
      subst e
      obtain⟨al,cl,e⟩:=own_formR hS.out.rl
      subst e
      obtain⟨na,hna⟩:∃na,na=A.length:=⟨_,rfl⟩
      obtain⟨nl,hnl⟩:∃nl,nl=L.length:=⟨_,rfl⟩
      rw [←hna,←hnl] at hS
      replace hna:=Lib.hid hna
      replace hnl:=Lib.hid hnl
      have hbw:=Lib.hid (hbe0.out.trans (hS.out.touch.below (B:=w.heap.size) (by omega) (fun k hk e=>by omega)))
      have hsz:=hS.out.touch.size
      obtain⟨y0,y1,y2,y3,y4,y5,y6,y7⟩:=ins8P (b:=w.heap.size+1+1) hS.out.ins
      have x0:wr.cell? ⟨w.heap.size+1,0,none⟩=some (.int .u8 0):=by rw [blk_cell (han.out _ hS.out.touch)];rfl
      have x1:wr.cell? ⟨w.heap.size+1,1,none⟩=some (.string ⟨#[]⟩):=by rw [blk_cell (han.out _ hS.out.touch)];rfl
      have x2:wr.cell? ⟨w.heap.size+1,2,none⟩=some (.string ⟨#[]⟩):=by rw [blk_cell (han.out _ hS.out.touch)];rfl
      have x3:wr.cell? ⟨w.heap.size+1,3,none⟩=some (.string ⟨#[]⟩):=by rw [blk_cell (han.out _ hS.out.touch)];rfl
      have x4:wr.cell? ⟨w.heap.size+1,4,none⟩=some (.int .i64 0):=by rw [blk_cell (han.out _ hS.out.touch)];rfl
      have x5:wr.cell? ⟨w.heap.size+1,5,none⟩=some (.string ⟨#[]⟩):=by rw [blk_cell (han.out _ hS.out.touch)];rfl
      have x6:wr.cell? ⟨w.heap.size+1,6,none⟩=some (.slice none 0 0):=by rw [blk_cell (han.out _ hS.out.touch)];rfl
      have x7:wr.cell? ⟨w.heap.size+1,7,none⟩=some (.slice none 0 0):=by rw [blk_cell (han.out _ hS.out.touch)];rfl
      have f2:∀j,wr.frozen? ⟨w.heap.size+1+1,j,none⟩=false:=fun j=>frozB (b:=w.heap.size+1+1) hS.out.ins j
      have f1:∀j,wr.frozen? ⟨w.heap.size+1,j,none⟩=false:=fun j=>frozB (han.out _ hS.out.touch) j
      have sBox:∀(W:World) (j i:Nat) (u:Value),(W.setCell ⟨w.heap.size+1+1,j,none⟩ u).cell? ⟨w.heap.size,i,none⟩=W.cell? ⟨w.heap.size,i,none⟩:=fun W j i u=>World.cell?_setCell_other _ _ _ _ (fun e=>by simp only [Addr.mk.injEq] at e;omega)
      have sIns:∀(W:World) (j i:Nat) (u:Value),i≠j→(W.setCell ⟨w.heap.size+1+1,j,none⟩ u).cell? ⟨w.heap.size+1+1,i,none⟩=W.cell? ⟨w.heap.size+1+1,i,none⟩:=fun W j i u hij=>World.cell?_setCell_other _ _ _ _ (fun e=>by simp only [Addr.mk.injEq] at e;omega)
      have sAns:∀(W:World) (j i:Nat) (u:Value),i≠j→(W.setCell ⟨w.heap.size+1,j,none⟩ u).cell? ⟨w.heap.size+1,i,none⟩=W.cell? ⟨w.heap.size+1,i,none⟩:=fun W j i u hij=>World.cell?_setCell_other _ _ _ _ (fun e=>by simp only [Addr.mk.injEq] at e;omega)
      have sAI:∀(W:World) (j i:Nat) (u:Value),(W.setCell ⟨w.heap.size+1+1,j,none⟩ u).cell? ⟨w.heap.size+1,i,none⟩=W.cell? ⟨w.heap.size+1,i,none⟩:=fun W j i u=>World.cell?_setCell_other _ _ _ _ (fun e=>by simp only [Addr.mk.injEq] at e;omega)
      go_upto_region 42 with fail
      go_wp2_with fail
      all_goals
       refine bodyPost_retE (fun x:Value × Value=>.agg (insV {insOf 6 d with args:=A,labels:=L} x.1 x.2).toArray) (_,_) (by simp [results,Tryd.results25,go_sem,insV,insOf, *];first | exact⟨rfl,rfl⟩ | rfl) rfl ?hfin
       case hfin=>
        refine ins_post (hins.out.trans ?_) hbw.out ?_ (by omega) ?_ ?_
        ·exact hadd.out
        ·repeat (refine Touch.setCell ?_ (fun _=>by dsimp only;omega) _)
         exact Touch.refl _ _
        ·exact row_off hS.out.ra hz3.out
        ·exact row_off hS.out.rl hz3.out
   ·go_upto_region 12 with fail
    rw [←hwr0.out]
    clear z0 z1 n0 n1 y1 f2 k0
    have q2:¬cap=2:=by omega
    go_wp2_with fail
    go_loopw [8] (fun i wr=>∃(j:Nat) (A L:List ByteArray) (va vl:Value),i=.int .i64 j∧j≤m∧j%2=0∧A.length≤j∧L.length≤j∧Hid (PhS w wr0 wr d A L va vl)∧Hid (addPairs (insOf 6 d) R=addPairs {insOf 6 d with args:=A,labels:=L} (R.drop j))) (fun i _=>m+2-(intOf i).toNat)
    case atStart=>exact⟨0,[],[],.slice none 0 0,.slice none 0 0,rfl,Nat.zero_le _,rfl,Nat.le_refl _,Nat.le_refl _,hS0,Lib.hid rfl⟩
    case round=>
     clear hS0 sBox0 n10
     obtain⟨j,A,L,va,vl,rfl,hj,hj2,hA,hL2,hS,hadd⟩:=hrel
     by_cases hlt:j+1<m
     ·obtain⟨s,hs⟩:∃s,R[j]?=some s:=⟨_,List.getElem?_eq_getElem (by rw [←hm.out];omega)⟩
      obtain⟨u,hu⟩:∃u,R[j+1]?=some u:=⟨_,List.getElem?_eq_getElem (by rw [←hm.out];omega)⟩
      have i2:(j:Int)+1<(m:Int):=by omega
      have i3:j<m:=by omega
      have wj:IntKind.i64.wrap ((j:Int)+1)=((j+1:Nat):Int):=by first | (go_num;done) | (rw [IntKind.wrap_i64];omega)
      have i4:((j+1:Nat):Int)<(m:Int):=by omega
      have i5:(0:Int)≤(j:Int)+1:=by omega
      have e1:=hnR.out _ hS.out.touch j s hs
      have hdrop:Hid (R.drop j=s::u::R.drop (j+1+1)):=Lib.hid (by
       obtain⟨h1,h2⟩:=List.getElem?_eq_some_iff.1 hs
       obtain⟨h3,h4⟩:=List.getElem?_eq_some_iff.1 hu
       rw [List.drop_eq_getElem_cons h1,List.drop_eq_getElem_cons h3,h2,h4])
      obtain⟨av1,cv1,e⟩:=own_formR hS.out.rl
      subst e
      obtain⟨nl1,hnl1⟩:∃nl1,nl1=L.length:=⟨_,rfl⟩
      rw [←hnl1] at hS hL2
      replace hnl1:=Lib.hid hnl1
      have hrow1:wr.ownsRow wr0.heap.size 9 1 (.slice av1 nl1 cv1) nl1 (L.map Value.string):=by have:=hS.out.rl;rw [←hnl1.out] at this;exact this
      have hne1:(Value.slice av1 nl1 cv1).ownBlock≠some (w.heap.size+1+1):=fun e=>by have:=(hrow1.lt _ e).1;omega
      have c1:wr.cell? ⟨w.heap.size+1+1,7,none⟩=some (.slice av1 nl1 cv1):=by rw [blk_cell (b:=w.heap.size+1+1) hS.out.ins];rfl
      have f1:wr.frozen? ⟨w.heap.size+1+1,7,none⟩=false:=frozB (b:=w.heap.size+1+1) hS.out.ins 7
      have lH1:w.heap.size+1+1<wr.heap.size:=by have:=hS.out.touch.size;omega
      have hcz1:∀o,(wr.alloc o).drew.cell? ⟨w.heap.size+1+1,7,none⟩=some (.slice av1 nl1 cv1):=fun o=>(World.cell?_alloc_past _ _ _ lH1).trans c1
      have hfz1:∀o,(wr.alloc o).drew.frozen? ⟨w.heap.size+1+1,7,none⟩=false:=fun o=>(World.frozen?_alloc_past _ _ _ lH1).trans f1
      have hbase1:wr0.heap.size≤wr.heap.size:=hS.out.touch.size
      have hgl:gn<wr.heap.size:=by omega
      replace hs:=Lib.hid hs
      replace hu:=Lib.hid hu
      go_wp2_with fail
      go_region_law ((refine step_append_lies _ (by rfl) _ _ _ (by rfl) wr0.heap.size 9 i0 _ 1 16 Tryd.underlying39 hi0 hz0 hz1 hz2 rfl (by omega) (.slice av1 nl1 cv1) nl1 (L.map Value.string) (by rfl) ((hrow1.alloc _).drew) ⟨wr.heap.size,0,none⟩ 1 1 [.string s] (by rfl) (by rfl) (World.news_of_block (cs:=#[.string s]) (t:=9) (fr:=(0,0)) (heap_alloc_new wr _)) (by simp [Value.oneCell']) (by omega) (by unfold maxLen;omega) (by omega) (by simp;omega) (wr.heap.size+1) (by simp) ?_;intro gg cap' w1 hown1 hgrow hat hlt1;have c12:w1.cell? ⟨w.heap.size+1+1,7,none⟩=some (.slice av1 nl1 cv1):=(hgrow.cell_far ⟨w.heap.size+1+1,7,none⟩ (by simp;omega) (Ne.symm hne1)).trans (hcz1 _);have f12:w1.frozen? ⟨w.heap.size+1+1,7,none⟩=false:=(hgrow.frozen_far ⟨w.heap.size+1+1,7,none⟩ (by simp;omega) (Ne.symm hne1)).trans (hfz1 _)))
      all_goals
       have hS2:Hid (PhS w wr0 (w1.setCell ⟨w.heap.size+1+1,7,none⟩ (.slice (some ⟨gg,0,none⟩) (nl1+1) cap')) d A (L++[s]) va (.slice (some ⟨gg,0,none⟩) (nl1+1) cap')):=by
        have hS9:=hS.out
        have e9:=hnl1.out
        subst e9
        exact Lib.hid (hS9.lab hz3.out hgrow hown1 hat)
       have hL3:(L++[s]).length≤j+1:=by have:=hnl1.out;rw [List.length_append,List.length_singleton];omega
       generalize hw2:w1.setCell ⟨w.heap.size+1+1,7,none⟩ (.slice (some ⟨gg,0,none⟩) (nl1+1) cap')=w2 at hS2 ⊢
       clear hw2 hS hrow1 hne1 c1 f1 lH1 hcz1 hfz1 hbase1 e1 hown1 hgrow hat hlt1 c12 f12 hnl1 hL2 hgl
       obtain⟨gl,cl,hS2⟩:∃gl cl,Hid (PhS w wr0 w2 d A (L++[s]) va (.slice (some ⟨gl,0,none⟩) (nl1+1) cl)):=⟨_,_,hS2⟩
       have e2:=hnR.out _ hS2.out.touch (j+1) u hu.out
       obtain⟨av2,cv2,e⟩:=own_formR hS2.out.ra
       subst e
       obtain⟨nl2,hnl2⟩:∃nl2,nl2=A.length:=⟨_,rfl⟩
       rw [←hnl2] at hS2 hA
       replace hnl2:=Lib.hid hnl2
       have hrow2:w2.ownsRow wr0.heap.size 9 1 (.slice av2 nl2 cv2) nl2 (A.map Value.string):=by have:=hS2.out.ra;rw [←hnl2.out] at this;exact this
       have hne2:(Value.slice av2 nl2 cv2).ownBlock≠some (w.heap.size+1+1):=fun e=>by have:=(hrow2.lt _ e).1;omega
       have c2:w2.cell? ⟨w.heap.size+1+1,6,none⟩=some (.slice av2 nl2 cv2):=by rw [blk_cell (b:=w.heap.size+1+1) hS2.out.ins];rfl
       have f2:w2.frozen? ⟨w.heap.size+1+1,6,none⟩=false:=frozB (b:=w.heap.size+1+1) hS2.out.ins 6
       have lH2:w.heap.size+1+1<w2.heap.size:=by have:=hS2.out.touch.size;omega
       have hcz2:∀o,(w2.alloc o).drew.cell? ⟨w.heap.size+1+1,6,none⟩=some (.slice av2 nl2 cv2):=fun o=>(World.cell?_alloc_past _ _ _ lH2).trans c2
       have hfz2:∀o,(w2.alloc o).drew.frozen? ⟨w.heap.size+1+1,6,none⟩=false:=fun o=>(World.frozen?_alloc_past _ _ _ lH2).trans f2
       have hbase2:wr0.heap.size≤w2.heap.size:=hS2.out.touch.size
       have hgl:gn<w2.heap.size:=by omega
       go_wp2_with fail
       go_region_law ((refine step_append_lies _ (by rfl) _ _ _ (by rfl) wr0.heap.size 9 i0 _ 1 16 Tryd.underlying39 hi0 hz0 hz1 hz2 rfl (by omega) (.slice av2 nl2 cv2) nl2 (A.map Value.string) (by rfl) ((hrow2.alloc _).drew) ⟨w2.heap.size,0,none⟩ 1 1 [.string u] (by rfl) (by rfl) (World.news_of_block (cs:=#[.string u]) (t:=9) (fr:=(0,0)) (heap_alloc_new w2 _)) (by simp [Value.oneCell']) (by omega) (by unfold maxLen;omega) (by omega) (by simp;omega) (w2.heap.size+1) (by simp) ?_;intro gg cap' w1 hown1 hgrow hat hlt1;have c12:w1.cell? ⟨w.heap.size+1+1,6,none⟩=some (.slice av2 nl2 cv2):=(hgrow.cell_far ⟨w.heap.size+1+1,6,none⟩ (by simp;omega) (Ne.symm hne2)).trans (hcz2 _);have f12:w1.frozen? ⟨w.heap.size+1+1,6,none⟩=false:=(hgrow.frozen_far ⟨w.heap.size+1+1,6,none⟩ (by simp;omega) (Ne.symm hne2)).trans (hfz2 _)))
       all_goals
        have hS3:Hid (PhS w wr0 (w1.setCell ⟨w.heap.size+1+1,6,none⟩ (.slice (some ⟨gg,0,none⟩) (nl2+1) cap')) d (A++[u]) (L++[s]) (.slice (some ⟨gg,0,none⟩) (nl2+1) cap') (.slice (some ⟨gl,0,none⟩) (nl1+1) cl)):=by
         have hS9:=hS2.out
         have e9:=hnl2.out
         subst e9
         exact Lib.hid (hS9.arg hz3.out hgrow hown1 hat)
        have hA3:(A++[u]).length≤j+1:=by have:=hnl2.out;rw [List.length_append,List.length_singleton];omega
        have hadd2:Hid (addPairs (insOf 6 d) R=addPairs {insOf 6 d with args:=A++[u],labels:=L++[s]} (R.drop (j+1+1))):=Lib.hid (by rw [hadd.out,hdrop.out];rfl)
        clear hS2 hrow2 hne2 c2 f2 lH2 hcz2 hfz2 hbase2 e2 hown1 hgrow hat hlt1 c12 f12 hnl2 hA hgl hadd hdrop
        go_wp2_with fail
        exact⟨⟨j+1+1,A++[u],L++[s],_,_,by go_num,by omega,by omega,by omega,by omega,hS3,hadd2⟩,by simp [intOf];omega⟩
     ·have hje:j=m:=by have:=hev.out;rw [←hm.out] at this;omega
      subst hje
      have i2:decide (((j:Nat):Int)+1<((j:Nat):Int))=false:=decide_eq_false (by omega)
      have hadd:Hid (addPairs (insOf 6 d) R={insOf 6 d with args:=A,labels:=L}):=Lib.hid (by rw [hadd.out,List.drop_eq_nil_of_le (by rw [←hm.out];exact Nat.le_refl _)];rfl)
      obtain⟨av,cv,e⟩:=own_formR hS.out.ra
      subst e
      obtain⟨al,cl,e⟩:=own_formR hS.out.rl
      subst e
      obtain⟨na,hna⟩:∃na,na=A.length:=⟨_,rfl⟩
      obtain⟨nl,hnl⟩:∃nl,nl=L.length:=⟨_,rfl⟩
      rw [←hna,←hnl] at hS
      replace hna:=Lib.hid hna
      replace hnl:=Lib.hid hnl
      have hbw:=Lib.hid (hbe0.out.trans (hS.out.touch.below (B:=w.heap.size) (by omega) (fun k hk e=>by omega)))
      have hsz:=hS.out.touch.size
      obtain⟨y0,y1,y2,y3,y4,y5,y6,y7⟩:=ins8P (b:=w.heap.size+1+1) hS.out.ins
      have x0:wr.cell? ⟨w.heap.size+1,0,none⟩=some (.int .u8 0):=by rw [blk_cell (han.out _ hS.out.touch)];rfl
      have x1:wr.cell? ⟨w.heap.size+1,1,none⟩=some (.string ⟨#[]⟩):=by rw [blk_cell (han.out _ hS.out.touch)];rfl
      have x2:wr.cell? ⟨w.heap.size+1,2,none⟩=some (.string ⟨#[]⟩):=by rw [blk_cell (han.out _ hS.out.touch)];rfl
      have x3:wr.cell? ⟨w.heap.size+1,3,none⟩=some (.string ⟨#[]⟩):=by rw [blk_cell (han.out _ hS.out.touch)];rfl
      have x4:wr.cell? ⟨w.heap.size+1,4,none⟩=some (.int .i64 0):=by rw [blk_cell (han.out _ hS.out.touch)];rfl
      have x5:wr.cell? ⟨w.heap.size+1,5,none⟩=some (.string ⟨#[]⟩):=by rw [blk_cell (han.out _ hS.out.touch)];rfl
      have x6:wr.cell? ⟨w.heap.size+1,6,none⟩=some (.slice none 0 0):=by rw [blk_cell (han.out _ hS.out.touch)];rfl
      have x7:wr.cell? ⟨w.heap.size+1,7,none⟩=some (.slice none 0 0):=by rw [blk_cell (han.out _ hS.out.touch)];rfl
      have f2:∀j,wr.frozen? ⟨w.heap.size+1+1,j,none⟩=false:=fun j=>frozB (b:=w.heap.size+1+1) hS.out.ins j
      have f1:∀j,wr.frozen? ⟨w.heap.size+1,j,none⟩=false:=fun j=>frozB (han.out _ hS.out.touch) j
      have sBox:∀(W:World) (j i:Nat) (u:Value),(W.setCell ⟨w.heap.size+1+1,j,none⟩ u).cell? ⟨w.heap.size,i,none⟩=W.cell? ⟨w.heap.size,i,none⟩:=fun W j i u=>World.cell?_setCell_other _ _ _ _ (fun e=>by simp only [Addr.mk.injEq] at e;omega)
      have sIns:∀(W:World) (j i:Nat) (u:Value),i≠j→(W.setCell ⟨w.heap.size+1+1,j,none⟩ u).cell? ⟨w.heap.size+1+1,i,none⟩=W.cell? ⟨w.heap.size+1+1,i,none⟩:=fun W j i u hij=>World.cell?_setCell_other _ _ _ _ (fun e=>by simp only [Addr.mk.injEq] at e;omega)
      have sAns:∀(W:World) (j i:Nat) (u:Value),i≠j→(W.setCell ⟨w.heap.size+1,j,none⟩ u).cell? ⟨w.heap.size+1,i,none⟩=W.cell? ⟨w.heap.size+1,i,none⟩:=fun W j i u hij=>World.cell?_setCell_other _ _ _ _ (fun e=>by simp only [Addr.mk.injEq] at e;omega)
      have sAI:∀(W:World) (j i:Nat) (u:Value),(W.setCell ⟨w.heap.size+1+1,j,none⟩ u).cell? ⟨w.heap.size+1,i,none⟩=W.cell? ⟨w.heap.size+1,i,none⟩:=fun W j i u=>World.cell?_setCell_other _ _ _ _ (fun e=>by simp only [Addr.mk.injEq] at e;omega)
      go_upto_region 42 with fail
      go_wp2_with fail
      all_goals
       refine bodyPost_retE (fun x:Value × Value=>.agg (insV {insOf 6 d with args:=A,labels:=L} x.1 x.2).toArray) (_,_) (by simp [results,Tryd.results25,go_sem,insV,insOf, *];first | exact⟨rfl,rfl⟩ | rfl) rfl ?hfin
       case hfin=>
        refine ins_post (hins.out.trans ?_) hbw.out ?_ (by omega) ?_ ?_
        ·exact hadd.out
        ·repeat (refine Touch.setCell ?_ (fun _=>by dsimp only;omega) _)
         exact Touch.refl _ _
        ·exact row_off hS.out.ra hz3.out
        ·exact row_off hS.out.rl hz3.out
end
end
section
open Go.RowKit Go.Maps Go.Shelf
theorem refins_any {w:World}{g o c ib:Nat}{p:List Tok}{f:FormR}(h:PcAt w g o p)(hf:f∈formsR)(hs:StAt w ib (itemsR f))(hw:∀t∈p,Wd1 t)(hfull:fullR f p=true):Calls Tryd.prog 25 #[.agg #[.int .u8 f.op,.slice (some ⟨ib,0,none⟩) (itemsR f).length (itemsR f).length],.slice (some ⟨g,o,none⟩) p.length c] w (InsPost w (insR f p)):=by
 have hff:=hf
 simp only [formsR,List.mem_cons,List.not_mem_nil,or_false] at hff
 rcases hff with rfl | rfl | rfl | rfl | rfl | rfl | rfl | rfl | rfl | rfl | rfl | rfl | rfl | rfl | rfl | rfl
 ·exact refins_0 h (op:=1) (n:=4) rfl rfl hs hw hfull
 ·exact refins_1 h (op:=2) (n:=4) rfl rfl hs hw hfull
 ·exact refins_2 h (op:=3) (n:=3) rfl rfl hs hw hfull
 ·exact refins_3 h (op:=4) (n:=4) rfl rfl hs hw hfull
 ·exact refins_4 h (op:=5) (n:=4) rfl rfl hs hw hfull
 ·exact refins_5 h (op:=8) (n:=4) rfl rfl hs hw hfull
 ·exact refins_6 h (op:=7) (n:=5) rfl rfl hs hw hfull
 ·exact refins_7 h (op:=6) (n:=4) rfl rfl hs hw hfull
 ·exact refins_8 h (op:=10) (n:=5) rfl rfl hs hw hfull
 ·exact refins_9 h (op:=10) (n:=3) rfl rfl hs hw hfull
 ·exact refins_10 h (op:=11) (n:=5) rfl rfl hs hw hfull
 ·exact refins_11 h (op:=11) (n:=3) rfl rfl hs hw hfull
 ·exact refins_12 h (op:=9) (n:=4) rfl rfl hs hw hfull
 ·exact refins_13 h (op:=12) (n:=3) rfl rfl hs hw hfull
 ·exact refins_14 h (op:=13) (n:=2) rfl rfl hs hw hfull
 ·exact refins_15 h (op:=14) (n:=2) rfl rfl hs hw hfull
end
end Go.Proofs.YtgcanabckogmmaaDoor
