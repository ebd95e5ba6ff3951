/- RfI1. -/
import Derived.Test.YtgcanabckogmmaaDoorZR28
namespace Go.Proofs.YtgcanabckogmmaaDoor
set_option linter.unusedVariables false
set_option linter.unusedSimpArgs false
section
open Go.RowKit Go.Maps Go.Shelf
attribute [local go_sem] Oper.semAt_some
section
variable {w:World} {g o c ib n op:Nat} {p:List Tok}
set_option maxRecDepth 20000 in
set_option maxHeartbeats 8000000 in
theorem refins_0 (h:PcAt w g o p)(hop:op=1)(hn:n=4)(hs:StAt w ib (itemsR ⟨true,[97,108,108,111,99,97],1,.fields⟩))(hw:∀t∈p,Wd1 t)(hfull:fullR ⟨true,[97,108,108,111,99,97],1,.fields⟩ p=true):Calls Tryd.prog 25 #[.agg #[.int .u8 op,.slice (some ⟨ib,0,none⟩) n n],.slice (some ⟨g,o,none⟩) p.length c] w (InsPost w (insR ⟨true,[97,108,108,111,99,97],1,.fields⟩ p)):=by
 have hlen:=h.len
 have hoff:=h.off
 have hPw:=Lib.hid (fun (wr:World) (hb:Below w.heap.size w wr)=>h.below hb)
 obtain⟨i0,hi0,hz0,hz1,hz2⟩:=info_parts infoStrP
 obtain⟨W2,hW2⟩:∃W2,((w.alloc (.cells #[.int .u8 op,.slice (some ⟨ib,0,none⟩) n n] 72)).alloc (.cells #[.int .u8 0,.string ⟨#[]⟩,.string ⟨#[]⟩,.string ⟨#[]⟩,.int .i64 0,.string ⟨#[]⟩,.slice none 0 0,.slice none 0 0] 49)).alloc (.cells #[.int .u8 op,.string ⟨#[]⟩,.string ⟨#[]⟩,.string ⟨#[]⟩,.int .i64 0,.string ⟨#[]⟩,.slice none 0 0,.slice none 0 0] 49)=W2:=⟨_,rfl⟩
 have hz2':W2.heap.size=w.heap.size+3:=by rw [←hW2];simp
 have h0:IL w op ib n p W2 0 (.slice none 0 0):=⟨by rw [←hW2];exact at_oldP (at_oldP (at_newP rfl)),by rw [←hW2];exact at_oldP (at_newP (by simp)),by rw [←hW2];exact at_newP (by simp),World.ownsRow_nil _ _ _ _,by rw [←hW2];exact (((Below.refl _ _).alloc (Nat.le_refl _) _).alloc (by simp) _).alloc (by simp;omega) _,by omega⟩
 have hSw:=Lib.hid (fun (wr:World) (hb:Below w.heap.size w wr)=>hs.below hb)
 clear h
 replace hop:=Lib.hid hop
 replace hn:=Lib.hid hn
 replace hfull:=Lib.hid hfull
 replace hw:=Lib.hid hw
 replace hW2:=Lib.hid hW2
 go_enter Tryd.func25,Tryd.ntmps25
 go_upto_block 0 with fail
 rw [hW2.out]
 clear hW2
 go_wp2_with fail
 go_loopw [6,7] (fun v i wr=>∃k:Nat,i=.int .i64 k∧k≤p.length∧Hid (IL w op ib n p wr k v)) (fun v i _=>p.length-(intOf i).toNat)
 case atStart=>exact⟨0,rfl,Nat.zero_le _,Lib.hid h0⟩
 case round=>
  clear h0 hz2'
  obtain⟨k,rfl,hk,hI⟩:=hrel
  by_cases hkn:k<p.length
  ·obtain⟨t,ht⟩:∃t,p[k]?=some t:=⟨p[k]'hkn,List.getElem?_eq_getElem hkn⟩
   have i1:(k:Int)<(p.length:Int):=by omega
   have hP:=hPw.out _ hI.out.below
   obtain⟨a0,a1,a2,-,-⟩:=hP.toks k t ht
   have hglt:=hP.lt
   have g1:((t.kind:Int)==1)=(t.kind==1):=kindB _ 1
   have g2:((t.kind:Int)==2)=(t.kind==2):=kindB _ 2
   clear hP
   by_cases h1:t.kind=1
   ·obtain⟨a,cc,e⟩:=own_formR hI.out.own
    subst e
    have hnl:=nms_le (p.take k)
    rw [List.length_take] at hnl
    have hown:=Lib.hid hI.out.own
    have happ:=Lib.hid (fun (w2:World) (v2:Value) hg ho=>hI.out.app (ob:=.cells #[.string (nmT t)] 9) (w2:=w2) (v2:=v2) ht h1 hg ho)
    have htop:=hI.out.top
    obtain⟨nl,hnn⟩:∃nl,nl=(nmsT (p.take k)).length:=⟨_,rfl⟩
    rw [←hnn] at hnl hown happ ⊢
    replace hnn:=Lib.hid hnn
    replace g1:((t.kind:Int)==1)=true:=by rw [h1];rfl
    replace g2:((t.kind:Int)==2)=false:=by rw [h1];rfl
    have hcell:=Lib.hid (fun (w2:World) (hb:Below w.heap.size w w2)=>(show w2.cell? ⟨g,o+k*5,none⟩=some (.int .u8 t.kind)∧g<w2.heap.size from ⟨((hPw.out _ hb).toks k t ht).1,(hPw.out _ hb).lt⟩))
    clear hI hPw ht h1
    go_wp2_with (at_builtin;refine wpList_append_own_at _ rfl _ _ 39 rfl (w.heap.size+3) 9 i0 _ 1 16 Tryd.underlying39 hi0 hz0 hz1 hz2 rfl (by decide) _ _ _ rfl (hown.out.alloc _) ⟨wr.heap.size,0,none⟩ 1 1 [.string (nmT t)] rfl rfl (World.news_of_block (cs:=#[.string (nmT t)]) (t:=9) (fr:=(0,0)) (heap_alloc_new wr _)) (by simp [Value.oneCell']) (by unfold maxLen;omega) (by omega) (by simp;omega) ?_)
    intro v' w2 hown2 hgrow hnil hat
    have hI2:=Lib.hid (happ.out w2 v' hgrow hown2)
    clear hown happ hown2 hgrow hnil hat
    obtain⟨a0',hglt'⟩:=hcell.out w2 hI2.out.below
    clear hcell a0 a1 a2 hglt
    go_wp2_with fail
    go_roundw
    case rel=>exact⟨k+1,by go_num,by omega,hI2⟩
    case measure=>simp [intOf];omega
   ·by_cases h2:t.kind=2
    ·have hI2:=Lib.hid (hI.out.num ht h2)
     have b1:w.heap.size+2<wr.heap.size:=by have:=hI.out.top;omega
     have b2:wr.frozen? ⟨w.heap.size+2,4,none⟩=false:=frozB hI.out.ins 4
     have b3:∃u,wr.cell? ⟨w.heap.size+2,4,none⟩=some u:=⟨_,by rw [blk_cell hI.out.ins];rfl⟩
     obtain⟨u,b3⟩:=b3
     replace g1:((t.kind:Int)==1)=false:=by rw [h2];rfl
     replace g2:((t.kind:Int)==2)=true:=by rw [h2];rfl
     clear hI hPw ht h1
     go_wp2_with fail
     go_roundw
     case rel=>exact⟨k+1,by go_num,by omega,hI2⟩
     case measure=>simp [intOf];omega
    ·have hI2:=Lib.hid (hI.out.skip ht h1 h2)
     have g3:(t.kind==1)=false:=by simpa using h1
     have g4:(t.kind==2)=false:=by simpa using h2
     rw [g3] at g1
     rw [g4] at g2
     clear hI hPw ht h1 h2 g3 g4
     go_wp2_with fail
     go_roundw
     case rel=>exact⟨k+1,by go_num,by omega,hI2⟩
     case measure=>simp [intOf];omega
  ·have i1:decide ((k:Int)<(p.length:Int))=false:=by simp;omega
   have hI:=hI.out
   obtain rfl:k=p.length:=by omega
   obtain⟨bx,an,ins,own,hbe,htop⟩:=hI
   rw [List.take_length] at ins own
   have hst:=hSw.out _ hbe
   have hib:=hst.lt
   have z0:wr.cell? ⟨w.heap.size,0,none⟩=some (.int .u8 op):=by rw [blk_cell bx];rfl
   have z1:wr.cell? ⟨w.heap.size,1,none⟩=some (.slice (some ⟨ib,0,none⟩) n n):=by rw [blk_cell bx];rfl
   have k0:=hst.at' 0
   clear hSw hPw hst bx hlen hoff
   obtain⟨d,wd,q,hN,hL,hsh,hins⟩:=full_val (f:=⟨true,[97,108,108,111,99,97],1,.fields⟩) (by simp [formsR]) rfl hw.out hfull.out
   replace k0:=k0 [78] rfl
   obtain rfl:op=1:=hop.out
   obtain rfl:n=4:=hn.out
   have hsh2:nmsT q=[]:=hsh
   rw [hsh2] at hN hins
   replace hins:=Lib.hid hins
   rw [hN] at own
   rw [hL] at ins
   obtain⟨gn,cap,rfl,hb1,hb2⟩:=own.form (by simp)
   have hcap0:=own_cap own rfl
   have hcap:2≤cap:=by simp only [List.length_cons,List.length_nil] at hcap0;omega
   clear hcap0
   have hown:=Lib.hid own
   have n0:wr.cell? ⟨gn,0,none⟩=some (.string d):=own.cells rfl 0 _ rfl
   have n1:wr.cell? ⟨gn,1,none⟩=some (.string wd):=own.cells rfl 1 _ rfl
   have q0:¬cap=0:=by omega
   have q1:¬cap=1:=by omega
   obtain⟨sBox,sNam,sIns,sAns,sAI,x0,x1,x2,x3,x4,x5,x6,x7,f2,f1,y0,y1,y2,y3,y4,y5,y6,y7⟩:=in_facts (gn:=gn) (by omega) an ins
   have hle:w.heap.size≤wr.heap.size:=by omega
   clear hop hn hN hL hfull hw hsh hsh2 hkn hI hs own hi0 hz0 hz1 hz2 ins an
   go_upto_region 42 with fail
   go_wp2_with fail
   all_goals
    refine bodyPost_retE (fun x:Value × Value=>.agg (insV (restV Rst.fields (insOf 1 d) ([]) (numL q 0)) x.1 x.2).toArray) (_,_) (by simp [results,Tryd.results25,go_sem,insV,restV,insOf, *];first | exact⟨rfl,rfl⟩ | rfl) rfl ?hfin
    case hfin=>
     refine ins_post hins.out hbe ?_ hle ?_ ?_
     ·repeat (refine Touch.setCell ?_ (fun _=>by dsimp only;omega) _)
      exact Touch.refl _ _
     ·exact none_off
     ·exact none_off
set_option maxRecDepth 20000 in
set_option maxHeartbeats 8000000 in
theorem refins_1 (h:PcAt w g o p)(hop:op=2)(hn:n=4)(hs:StAt w ib (itemsR ⟨true,[109,97,108,108,111,99],2,.fields⟩))(hw:∀t∈p,Wd1 t)(hfull:fullR ⟨true,[109,97,108,108,111,99],2,.fields⟩ p=true):Calls Tryd.prog 25 #[.agg #[.int .u8 op,.slice (some ⟨ib,0,none⟩) n n],.slice (some ⟨g,o,none⟩) p.length c] w (InsPost w (insR ⟨true,[109,97,108,108,111,99],2,.fields⟩ p)):=by
 have hlen:=h.len
 have hoff:=h.off
 have hPw:=Lib.hid (fun (wr:World) (hb:Below w.heap.size w wr)=>h.below hb)
 obtain⟨i0,hi0,hz0,hz1,hz2⟩:=info_parts infoStrP
 obtain⟨W2,hW2⟩:∃W2,((w.alloc (.cells #[.int .u8 op,.slice (some ⟨ib,0,none⟩) n n] 72)).alloc (.cells #[.int .u8 0,.string ⟨#[]⟩,.string ⟨#[]⟩,.string ⟨#[]⟩,.int .i64 0,.string ⟨#[]⟩,.slice none 0 0,.slice none 0 0] 49)).alloc (.cells #[.int .u8 op,.string ⟨#[]⟩,.string ⟨#[]⟩,.string ⟨#[]⟩,.int .i64 0,.string ⟨#[]⟩,.slice none 0 0,.slice none 0 0] 49)=W2:=⟨_,rfl⟩
 have hz2':W2.heap.size=w.heap.size+3:=by rw [←hW2];simp
 have h0:IL w op ib n p W2 0 (.slice none 0 0):=⟨by rw [←hW2];exact at_oldP (at_oldP (at_newP rfl)),by rw [←hW2];exact at_oldP (at_newP (by simp)),by rw [←hW2];exact at_newP (by simp),World.ownsRow_nil _ _ _ _,by rw [←hW2];exact (((Below.refl _ _).alloc (Nat.le_refl _) _).alloc (by simp) _).alloc (by simp;omega) _,by omega⟩
 have hSw:=Lib.hid (fun (wr:World) (hb:Below w.heap.size w wr)=>hs.below hb)
 clear h
 replace hop:=Lib.hid hop
 replace hn:=Lib.hid hn
 replace hfull:=Lib.hid hfull
 replace hw:=Lib.hid hw
 replace hW2:=Lib.hid hW2
 go_enter Tryd.func25,Tryd.ntmps25
 go_upto_block 0 with fail
 rw [hW2.out]
 clear hW2
 go_wp2_with fail
 go_loopw [6,7] (fun v i wr=>∃k:Nat,i=.int .i64 k∧k≤p.length∧Hid (IL w op ib n p wr k v)) (fun v i _=>p.length-(intOf i).toNat)
 case atStart=>exact⟨0,rfl,Nat.zero_le _,Lib.hid h0⟩
 case round=>
  clear h0 hz2'
  obtain⟨k,rfl,hk,hI⟩:=hrel
  by_cases hkn:k<p.length
  ·obtain⟨t,ht⟩:∃t,p[k]?=some t:=⟨p[k]'hkn,List.getElem?_eq_getElem hkn⟩
   have i1:(k:Int)<(p.length:Int):=by omega
   have hP:=hPw.out _ hI.out.below
   obtain⟨a0,a1,a2,-,-⟩:=hP.toks k t ht
   have hglt:=hP.lt
   have g1:((t.kind:Int)==1)=(t.kind==1):=kindB _ 1
   have g2:((t.kind:Int)==2)=(t.kind==2):=kindB _ 2
   clear hP
   by_cases h1:t.kind=1
   ·obtain⟨a,cc,e⟩:=own_formR hI.out.own
    subst e
    have hnl:=nms_le (p.take k)
    rw [List.length_take] at hnl
    have hown:=Lib.hid hI.out.own
    have happ:=Lib.hid (fun (w2:World) (v2:Value) hg ho=>hI.out.app (ob:=.cells #[.string (nmT t)] 9) (w2:=w2) (v2:=v2) ht h1 hg ho)
    have htop:=hI.out.top
    obtain⟨nl,hnn⟩:∃nl,nl=(nmsT (p.take k)).length:=⟨_,rfl⟩
    rw [←hnn] at hnl hown happ ⊢
    replace hnn:=Lib.hid hnn
    replace g1:((t.kind:Int)==1)=true:=by rw [h1];rfl
    replace g2:((t.kind:Int)==2)=false:=by rw [h1];rfl
    have hcell:=Lib.hid (fun (w2:World) (hb:Below w.heap.size w w2)=>(show w2.cell? ⟨g,o+k*5,none⟩=some (.int .u8 t.kind)∧g<w2.heap.size from ⟨((hPw.out _ hb).toks k t ht).1,(hPw.out _ hb).lt⟩))
    clear hI hPw ht h1
    go_wp2_with (at_builtin;refine wpList_append_own_at _ rfl _ _ 39 rfl (w.heap.size+3) 9 i0 _ 1 16 Tryd.underlying39 hi0 hz0 hz1 hz2 rfl (by decide) _ _ _ rfl (hown.out.alloc _) ⟨wr.heap.size,0,none⟩ 1 1 [.string (nmT t)] rfl rfl (World.news_of_block (cs:=#[.string (nmT t)]) (t:=9) (fr:=(0,0)) (heap_alloc_new wr _)) (by simp [Value.oneCell']) (by unfold maxLen;omega) (by omega) (by simp;omega) ?_)
    intro v' w2 hown2 hgrow hnil hat
    have hI2:=Lib.hid (happ.out w2 v' hgrow hown2)
    clear hown happ hown2 hgrow hnil hat
    obtain⟨a0',hglt'⟩:=hcell.out w2 hI2.out.below
    clear hcell a0 a1 a2 hglt
    go_wp2_with fail
    go_roundw
    case rel=>exact⟨k+1,by go_num,by omega,hI2⟩
    case measure=>simp [intOf];omega
   ·by_cases h2:t.kind=2
    ·have hI2:=Lib.hid (hI.out.num ht h2)
     have b1:w.heap.size+2<wr.heap.size:=by have:=hI.out.top;omega
     have b2:wr.frozen? ⟨w.heap.size+2,4,none⟩=false:=frozB hI.out.ins 4
     have b3:∃u,wr.cell? ⟨w.heap.size+2,4,none⟩=some u:=⟨_,by rw [blk_cell hI.out.ins];rfl⟩
     obtain⟨u,b3⟩:=b3
     replace g1:((t.kind:Int)==1)=false:=by rw [h2];rfl
     replace g2:((t.kind:Int)==2)=true:=by rw [h2];rfl
     clear hI hPw ht h1
     go_wp2_with fail
     go_roundw
     case rel=>exact⟨k+1,by go_num,by omega,hI2⟩
     case measure=>simp [intOf];omega
    ·have hI2:=Lib.hid (hI.out.skip ht h1 h2)
     have g3:(t.kind==1)=false:=by simpa using h1
     have g4:(t.kind==2)=false:=by simpa using h2
     rw [g3] at g1
     rw [g4] at g2
     clear hI hPw ht h1 h2 g3 g4
     go_wp2_with fail
     go_roundw
     case rel=>exact⟨k+1,by go_num,by omega,hI2⟩
     case measure=>simp [intOf];omega
  ·have i1:decide ((k:Int)<(p.length:Int))=false:=by simp;omega
   have hI:=hI.out
   obtain rfl:k=p.length:=by omega
   obtain⟨bx,an,ins,own,hbe,htop⟩:=hI
   rw [List.take_length] at ins own
   have hst:=hSw.out _ hbe
   have hib:=hst.lt
   have z0:wr.cell? ⟨w.heap.size,0,none⟩=some (.int .u8 op):=by rw [blk_cell bx];rfl
   have z1:wr.cell? ⟨w.heap.size,1,none⟩=some (.slice (some ⟨ib,0,none⟩) n n):=by rw [blk_cell bx];rfl
   have k0:=hst.at' 0
   clear hSw hPw hst bx hlen hoff
   obtain⟨d,wd,q,hN,hL,hsh,hins⟩:=full_val (f:=⟨true,[109,97,108,108,111,99],2,.fields⟩) (by simp [formsR]) rfl hw.out hfull.out
   replace k0:=k0 [78] rfl
   obtain rfl:op=2:=hop.out
   obtain rfl:n=4:=hn.out
   have hsh2:nmsT q=[]:=hsh
   rw [hsh2] at hN hins
   replace hins:=Lib.hid hins
   rw [hN] at own
   rw [hL] at ins
   obtain⟨gn,cap,rfl,hb1,hb2⟩:=own.form (by simp)
   have hcap0:=own_cap own rfl
   have hcap:2≤cap:=by simp only [List.length_cons,List.length_nil] at hcap0;omega
   clear hcap0
   have hown:=Lib.hid own
   have n0:wr.cell? ⟨gn,0,none⟩=some (.string d):=own.cells rfl 0 _ rfl
   have n1:wr.cell? ⟨gn,1,none⟩=some (.string wd):=own.cells rfl 1 _ rfl
   have q0:¬cap=0:=by omega
   have q1:¬cap=1:=by omega
   obtain⟨sBox,sNam,sIns,sAns,sAI,x0,x1,x2,x3,x4,x5,x6,x7,f2,f1,y0,y1,y2,y3,y4,y5,y6,y7⟩:=in_facts (gn:=gn) (by omega) an ins
   have hle:w.heap.size≤wr.heap.size:=by omega
   clear hop hn hN hL hfull hw hsh hsh2 hkn hI hs own hi0 hz0 hz1 hz2 ins an
   go_upto_region 42 with fail
   go_wp2_with fail
   all_goals
    refine bodyPost_retE (fun x:Value × Value=>.agg (insV (restV Rst.fields (insOf 2 d) ([]) (numL q 0)) x.1 x.2).toArray) (_,_) (by simp [results,Tryd.results25,go_sem,insV,restV,insOf, *];first | exact⟨rfl,rfl⟩ | rfl) rfl ?hfin
    case hfin=>
     refine ins_post hins.out hbe ?_ hle ?_ ?_
     ·repeat (refine Touch.setCell ?_ (fun _=>by dsimp only;omega) _)
      exact Touch.refl _ _
     ·exact none_off
     ·exact none_off
set_option maxRecDepth 20000 in
set_option maxHeartbeats 8000000 in
theorem refins_2 (h:PcAt w g o p)(hop:op=3)(hn:n=3)(hs:StAt w ib (itemsR ⟨true,[110,117,108,108],3,.nothing⟩))(hw:∀t∈p,Wd1 t)(hfull:fullR ⟨true,[110,117,108,108],3,.nothing⟩ p=true):Calls Tryd.prog 25 #[.agg #[.int .u8 op,.slice (some ⟨ib,0,none⟩) n n],.slice (some ⟨g,o,none⟩) p.length c] w (InsPost w (insR ⟨true,[110,117,108,108],3,.nothing⟩ p)):=by
 have hlen:=h.len
 have hoff:=h.off
 have hPw:=Lib.hid (fun (wr:World) (hb:Below w.heap.size w wr)=>h.below hb)
 obtain⟨i0,hi0,hz0,hz1,hz2⟩:=info_parts infoStrP
 obtain⟨W2,hW2⟩:∃W2,((w.alloc (.cells #[.int .u8 op,.slice (some ⟨ib,0,none⟩) n n] 72)).alloc (.cells #[.int .u8 0,.string ⟨#[]⟩,.string ⟨#[]⟩,.string ⟨#[]⟩,.int .i64 0,.string ⟨#[]⟩,.slice none 0 0,.slice none 0 0] 49)).alloc (.cells #[.int .u8 op,.string ⟨#[]⟩,.string ⟨#[]⟩,.string ⟨#[]⟩,.int .i64 0,.string ⟨#[]⟩,.slice none 0 0,.slice none 0 0] 49)=W2:=⟨_,rfl⟩
 have hz2':W2.heap.size=w.heap.size+3:=by rw [←hW2];simp
 have h0:IL w op ib n p W2 0 (.slice none 0 0):=⟨by rw [←hW2];exact at_oldP (at_oldP (at_newP rfl)),by rw [←hW2];exact at_oldP (at_newP (by simp)),by rw [←hW2];exact at_newP (by simp),World.ownsRow_nil _ _ _ _,by rw [←hW2];exact (((Below.refl _ _).alloc (Nat.le_refl _) _).alloc (by simp) _).alloc (by simp;omega) _,by omega⟩
 have hSw:=Lib.hid (fun (wr:World) (hb:Below w.heap.size w wr)=>hs.below hb)
 clear h
 replace hop:=Lib.hid hop
 replace hn:=Lib.hid hn
 replace hfull:=Lib.hid hfull
 replace hw:=Lib.hid hw
 replace hW2:=Lib.hid hW2
 go_enter Tryd.func25,Tryd.ntmps25
 go_upto_block 0 with fail
 rw [hW2.out]
 clear hW2
 go_wp2_with fail
 go_loopw [6,7] (fun v i wr=>∃k:Nat,i=.int .i64 k∧k≤p.length∧Hid (IL w op ib n p wr k v)) (fun v i _=>p.length-(intOf i).toNat)
 case atStart=>exact⟨0,rfl,Nat.zero_le _,Lib.hid h0⟩
 case round=>
  clear h0 hz2'
  obtain⟨k,rfl,hk,hI⟩:=hrel
  by_cases hkn:k<p.length
  ·obtain⟨t,ht⟩:∃t,p[k]?=some t:=⟨p[k]'hkn,List.getElem?_eq_getElem hkn⟩
   have i1:(k:Int)<(p.length:Int):=by omega
   have hP:=hPw.out _ hI.out.below
   obtain⟨a0,a1,a2,-,-⟩:=hP.toks k t ht
   have hglt:=hP.lt
   have g1:((t.kind:Int)==1)=(t.kind==1):=kindB _ 1
   have g2:((t.kind:Int)==2)=(t.kind==2):=kindB _ 2
   clear hP
   by_cases h1:t.kind=1
   ·obtain⟨a,cc,e⟩:=own_formR hI.out.own
    subst e
    have hnl:=nms_le (p.take k)
    rw [List.length_take] at hnl
    have hown:=Lib.hid hI.out.own
    have happ:=Lib.hid (fun (w2:World) (v2:Value) hg ho=>hI.out.app (ob:=.cells #[.string (nmT t)] 9) (w2:=w2) (v2:=v2) ht h1 hg ho)
    have htop:=hI.out.top
    obtain⟨nl,hnn⟩:∃nl,nl=(nmsT (p.take k)).length:=⟨_,rfl⟩
    rw [←hnn] at hnl hown happ ⊢
    replace hnn:=Lib.hid hnn
    replace g1:((t.kind:Int)==1)=true:=by rw [h1];rfl
    replace g2:((t.kind:Int)==2)=false:=by rw [h1];rfl
    have hcell:=Lib.hid (fun (w2:World) (hb:Below w.heap.size w w2)=>(show w2.cell? ⟨g,o+k*5,none⟩=some (.int .u8 t.kind)∧g<w2.heap.size from ⟨((hPw.out _ hb).toks k t ht).1,(hPw.out _ hb).lt⟩))
    clear hI hPw ht h1
    go_wp2_with (at_builtin;refine wpList_append_own_at _ rfl _ _ 39 rfl (w.heap.size+3) 9 i0 _ 1 16 Tryd.underlying39 hi0 hz0 hz1 hz2 rfl (by decide) _ _ _ rfl (hown.out.alloc _) ⟨wr.heap.size,0,none⟩ 1 1 [.string (nmT t)] rfl rfl (World.news_of_block (cs:=#[.string (nmT t)]) (t:=9) (fr:=(0,0)) (heap_alloc_new wr _)) (by simp [Value.oneCell']) (by unfold maxLen;omega) (by omega) (by simp;omega) ?_)
    intro v' w2 hown2 hgrow hnil hat
    have hI2:=Lib.hid (happ.out w2 v' hgrow hown2)
    clear hown happ hown2 hgrow hnil hat
    obtain⟨a0',hglt'⟩:=hcell.out w2 hI2.out.below
    clear hcell a0 a1 a2 hglt
    go_wp2_with fail
    go_roundw
    case rel=>exact⟨k+1,by go_num,by omega,hI2⟩
    case measure=>simp [intOf];omega
   ·by_cases h2:t.kind=2
    ·have hI2:=Lib.hid (hI.out.num ht h2)
     have b1:w.heap.size+2<wr.heap.size:=by have:=hI.out.top;omega
     have b2:wr.frozen? ⟨w.heap.size+2,4,none⟩=false:=frozB hI.out.ins 4
     have b3:∃u,wr.cell? ⟨w.heap.size+2,4,none⟩=some u:=⟨_,by rw [blk_cell hI.out.ins];rfl⟩
     obtain⟨u,b3⟩:=b3
     replace g1:((t.kind:Int)==1)=false:=by rw [h2];rfl
     replace g2:((t.kind:Int)==2)=true:=by rw [h2];rfl
     clear hI hPw ht h1
     go_wp2_with fail
     go_roundw
     case rel=>exact⟨k+1,by go_num,by omega,hI2⟩
     case measure=>simp [intOf];omega
    ·have hI2:=Lib.hid (hI.out.skip ht h1 h2)
     have g3:(t.kind==1)=false:=by simpa using h1
     have g4:(t.kind==2)=false:=by simpa using h2
     rw [g3] at g1
     rw [g4] at g2
     clear hI hPw ht h1 h2 g3 g4
     go_wp2_with fail
     go_roundw
     case rel=>exact⟨k+1,by go_num,by omega,hI2⟩
     case measure=>simp [intOf];omega
  ·have i1:decide ((k:Int)<(p.length:Int))=false:=by simp;omega
   have hI:=hI.out
   obtain rfl:k=p.length:=by omega
   obtain⟨bx,an,ins,own,hbe,htop⟩:=hI
   rw [List.take_length] at ins own
   have hst:=hSw.out _ hbe
   have hib:=hst.lt
   have z0:wr.cell? ⟨w.heap.size,0,none⟩=some (.int .u8 op):=by rw [blk_cell bx];rfl
   have z1:wr.cell? ⟨w.heap.size,1,none⟩=some (.slice (some ⟨ib,0,none⟩) n n):=by rw [blk_cell bx];rfl
   have k0:=hst.at' 0
   clear hSw hPw hst bx hlen hoff
   obtain⟨d,wd,q,hN,hL,hsh,hins⟩:=full_val (f:=⟨true,[110,117,108,108],3,.nothing⟩) (by simp [formsR]) rfl hw.out hfull.out
   replace k0:=k0 [78] rfl
   obtain rfl:op=3:=hop.out
   obtain rfl:n=3:=hn.out
   obtain⟨hsh2,hz⟩:nmsT q=[]∧∀z,numL q z=z:=hsh
   replace hz:=hz 0
   rw [hsh2] at hN hins
   rw [hz] at hL hins
   replace hins:=Lib.hid hins
   rw [hN] at own
   rw [hL] at ins
   obtain⟨gn,cap,rfl,hb1,hb2⟩:=own.form (by simp)
   have hcap0:=own_cap own rfl
   have hcap:2≤cap:=by simp only [List.length_cons,List.length_nil] at hcap0;omega
   clear hcap0
   have hown:=Lib.hid own
   have n0:wr.cell? ⟨gn,0,none⟩=some (.string d):=own.cells rfl 0 _ rfl
   have n1:wr.cell? ⟨gn,1,none⟩=some (.string wd):=own.cells rfl 1 _ rfl
   have q0:¬cap=0:=by omega
   have q1:¬cap=1:=by omega
   obtain⟨sBox,sNam,sIns,sAns,sAI,x0,x1,x2,x3,x4,x5,x6,x7,f2,f1,y0,y1,y2,y3,y4,y5,y6,y7⟩:=in_facts (gn:=gn) (by omega) an ins
   have hle:w.heap.size≤wr.heap.size:=by omega
   clear hop hn hN hL hfull hw hsh2 hz hkn hI hs own hi0 hz0 hz1 hz2 ins an
   go_upto_region 42 with fail
   go_wp2_with fail
   all_goals
    refine bodyPost_retE (fun x:Value × Value=>.agg (insV (restV Rst.nothing (insOf 3 d) ([]) (0)) x.1 x.2).toArray) (_,_) (by simp [results,Tryd.results25,go_sem,insV,restV,insOf, *];first | exact⟨rfl,rfl⟩ | rfl) rfl ?hfin
    case hfin=>
     refine ins_post hins.out hbe ?_ hle ?_ ?_
     ·repeat (refine Touch.setCell ?_ (fun _=>by dsimp only;omega) _)
      exact Touch.refl _ _
     ·exact none_off
     ·exact none_off
set_option maxRecDepth 20000 in
set_option maxHeartbeats 8000000 in
theorem refins_3 (h:PcAt w g o p)(hop:op=4)(hn:n=4)(hs:StAt w ib (itemsR ⟨true,[97,100,100,114],4,.fn⟩))(hw:∀t∈p,Wd1 t)(hfull:fullR ⟨true,[97,100,100,114],4,.fn⟩ p=true):Calls Tryd.prog 25 #[.agg #[.int .u8 op,.slice (some ⟨ib,0,none⟩) n n],.slice (some ⟨g,o,none⟩) p.length c] w (InsPost w (insR ⟨true,[97,100,100,114],4,.fn⟩ p)):=by
 have hlen:=h.len
 have hoff:=h.off
 have hPw:=Lib.hid (fun (wr:World) (hb:Below w.heap.size w wr)=>h.below hb)
 obtain⟨i0,hi0,hz0,hz1,hz2⟩:=info_parts infoStrP
 obtain⟨W2,hW2⟩:∃W2,((w.alloc (.cells #[.int .u8 op,.slice (some ⟨ib,0,none⟩) n n] 72)).alloc (.cells #[.int .u8 0,.string ⟨#[]⟩,.string ⟨#[]⟩,.string ⟨#[]⟩,.int .i64 0,.string ⟨#[]⟩,.slice none 0 0,.slice none 0 0] 49)).alloc (.cells #[.int .u8 op,.string ⟨#[]⟩,.string ⟨#[]⟩,.string ⟨#[]⟩,.int .i64 0,.string ⟨#[]⟩,.slice none 0 0,.slice none 0 0] 49)=W2:=⟨_,rfl⟩
 have hz2':W2.heap.size=w.heap.size+3:=by rw [←hW2];simp
 have h0:IL w op ib n p W2 0 (.slice none 0 0):=⟨by rw [←hW2];exact at_oldP (at_oldP (at_newP rfl)),by rw [←hW2];exact at_oldP (at_newP (by simp)),by rw [←hW2];exact at_newP (by simp),World.ownsRow_nil _ _ _ _,by rw [←hW2];exact (((Below.refl _ _).alloc (Nat.le_refl _) _).alloc (by simp) _).alloc (by simp;omega) _,by omega⟩
 have hSw:=Lib.hid (fun (wr:World) (hb:Below w.heap.size w wr)=>hs.below hb)
 clear h
 replace hop:=Lib.hid hop
 replace hn:=Lib.hid hn
 replace hfull:=Lib.hid hfull
 replace hw:=Lib.hid hw
 replace hW2:=Lib.hid hW2
 go_enter Tryd.func25,Tryd.ntmps25
 go_upto_block 0 with fail
 rw [hW2.out]
 clear hW2
 go_wp2_with fail
 go_loopw [6,7] (fun v i wr=>∃k:Nat,i=.int .i64 k∧k≤p.length∧Hid (IL w op ib n p wr k v)) (fun v i _=>p.length-(intOf i).toNat)
 case atStart=>exact⟨0,rfl,Nat.zero_le _,Lib.hid h0⟩
 case round=>
  clear h0 hz2'
  obtain⟨k,rfl,hk,hI⟩:=hrel
  by_cases hkn:k<p.length
  ·obtain⟨t,ht⟩:∃t,p[k]?=some t:=⟨p[k]'hkn,List.getElem?_eq_getElem hkn⟩
   have i1:(k:Int)<(p.length:Int):=by omega
   have hP:=hPw.out _ hI.out.below
   obtain⟨a0,a1,a2,-,-⟩:=hP.toks k t ht
   have hglt:=hP.lt
   have g1:((t.kind:Int)==1)=(t.kind==1):=kindB _ 1
   have g2:((t.kind:Int)==2)=(t.kind==2):=kindB _ 2
   clear hP
   by_cases h1:t.kind=1
   ·obtain⟨a,cc,e⟩:=own_formR hI.out.own
    subst e
    have hnl:=nms_le (p.take k)
    rw [List.length_take] at hnl
    have hown:=Lib.hid hI.out.own
    have happ:=Lib.hid (fun (w2:World) (v2:Value) hg ho=>hI.out.app (ob:=.cells #[.string (nmT t)] 9) (w2:=w2) (v2:=v2) ht h1 hg ho)
    have htop:=hI.out.top
    obtain⟨nl,hnn⟩:∃nl,nl=(nmsT (p.take k)).length:=⟨_,rfl⟩
    rw [←hnn] at hnl hown happ ⊢
    replace hnn:=Lib.hid hnn
    replace g1:((t.kind:Int)==1)=true:=by rw [h1];rfl
    replace g2:((t.kind:Int)==2)=false:=by rw [h1];rfl
    have hcell:=Lib.hid (fun (w2:World) (hb:Below w.heap.size w w2)=>(show w2.cell? ⟨g,o+k*5,none⟩=some (.int .u8 t.kind)∧g<w2.heap.size from ⟨((hPw.out _ hb).toks k t ht).1,(hPw.out _ hb).lt⟩))
    clear hI hPw ht h1
    go_wp2_with (at_builtin;refine wpList_append_own_at _ rfl _ _ 39 rfl (w.heap.size+3) 9 i0 _ 1 16 Tryd.underlying39 hi0 hz0 hz1 hz2 rfl (by decide) _ _ _ rfl (hown.out.alloc _) ⟨wr.heap.size,0,none⟩ 1 1 [.string (nmT t)] rfl rfl (World.news_of_block (cs:=#[.string (nmT t)]) (t:=9) (fr:=(0,0)) (heap_alloc_new wr _)) (by simp [Value.oneCell']) (by unfold maxLen;omega) (by omega) (by simp;omega) ?_)
    intro v' w2 hown2 hgrow hnil hat
    have hI2:=Lib.hid (happ.out w2 v' hgrow hown2)
    clear hown happ hown2 hgrow hnil hat
    obtain⟨a0',hglt'⟩:=hcell.out w2 hI2.out.below
    clear hcell a0 a1 a2 hglt
    go_wp2_with fail
    go_roundw
    case rel=>exact⟨k+1,by go_num,by omega,hI2⟩
    case measure=>simp [intOf];omega
   ·by_cases h2:t.kind=2
    ·have hI2:=Lib.hid (hI.out.num ht h2)
     have b1:w.heap.size+2<wr.heap.size:=by have:=hI.out.top;omega
     have b2:wr.frozen? ⟨w.heap.size+2,4,none⟩=false:=frozB hI.out.ins 4
     have b3:∃u,wr.cell? ⟨w.heap.size+2,4,none⟩=some u:=⟨_,by rw [blk_cell hI.out.ins];rfl⟩
     obtain⟨u,b3⟩:=b3
     replace g1:((t.kind:Int)==1)=false:=by rw [h2];rfl
     replace g2:((t.kind:Int)==2)=true:=by rw [h2];rfl
     clear hI hPw ht h1
     go_wp2_with fail
     go_roundw
     case rel=>exact⟨k+1,by go_num,by omega,hI2⟩
     case measure=>simp [intOf];omega
    ·have hI2:=Lib.hid (hI.out.skip ht h1 h2)
     have g3:(t.kind==1)=false:=by simpa using h1
     have g4:(t.kind==2)=false:=by simpa using h2
     rw [g3] at g1
     rw [g4] at g2
     clear hI hPw ht h1 h2 g3 g4
     go_wp2_with fail
     go_roundw
     case rel=>exact⟨k+1,by go_num,by omega,hI2⟩
     case measure=>simp [intOf];omega
  ·have i1:decide ((k:Int)<(p.length:Int))=false:=by simp;omega
   have hI:=hI.out
   obtain rfl:k=p.length:=by omega
   obtain⟨bx,an,ins,own,hbe,htop⟩:=hI
   rw [List.take_length] at ins own
   have hst:=hSw.out _ hbe
   have hib:=hst.lt
   have z0:wr.cell? ⟨w.heap.size,0,none⟩=some (.int .u8 op):=by rw [blk_cell bx];rfl
   have z1:wr.cell? ⟨w.heap.size,1,none⟩=some (.slice (some ⟨ib,0,none⟩) n n):=by rw [blk_cell bx];rfl
   have k0:=hst.at' 0
   clear hSw hPw hst bx hlen hoff
   obtain⟨d,wd,q,hN,hL,hsh,hins⟩:=full_val (f:=⟨true,[97,100,100,114],4,.fn⟩) (by simp [formsR]) rfl hw.out hfull.out
   replace k0:=k0 [78] rfl
   obtain rfl:op=4:=hop.out
   obtain rfl:n=4:=hn.out
   obtain⟨⟨s,hsh2⟩,hz⟩:(∃s,nmsT q=[s])∧∀z,numL q z=z:=hsh
   replace hz:=hz 0
   rw [hsh2] at hN hins
   rw [hz] at hL hins
   replace hins:=Lib.hid hins
   rw [hN] at own
   rw [hL] at ins
   obtain⟨gn,cap,rfl,hb1,hb2⟩:=own.form (by simp)
   have hcap0:=own_cap own rfl
   have hcap:3≤cap:=by simp only [List.length_cons,List.length_nil] at hcap0;omega
   clear hcap0
   have hown:=Lib.hid own
   have n0:wr.cell? ⟨gn,0,none⟩=some (.string d):=own.cells rfl 0 _ rfl
   have n1:wr.cell? ⟨gn,1,none⟩=some (.string wd):=own.cells rfl 1 _ rfl
   have n2:wr.cell? ⟨gn,2,none⟩=some (.string s):=own.cells rfl 2 _ rfl
   have q0:¬cap=0:=by omega
   have q1:¬cap=1:=by omega
   have q2:¬cap=2:=by omega
   obtain⟨sBox,sNam,sIns,sAns,sAI,x0,x1,x2,x3,x4,x5,x6,x7,f2,f1,y0,y1,y2,y3,y4,y5,y6,y7⟩:=in_facts (gn:=gn) (by omega) an ins
   have hle:w.heap.size≤wr.heap.size:=by omega
   clear hop hn hN hL hfull hw hsh2 hz hkn hI hs own hi0 hz0 hz1 hz2 ins an
   have hR:=Lib.hid (show ∀off m k,m+3=(d::wd::[s]:List ByteArray).length→(m≠0→off=3)→∀w'',Touch wr w'' (fun k=>k<w.heap.size+3)→RdS w'' (.slice (some ⟨gn,off,none⟩) m k) (restV Rst.fn (insOf 4 d) ([s]) (0)).args∧Fz w'' (.slice (some ⟨gn,off,none⟩) m k) from fun off m k h1 h2=>rows_off (N:=d::wd::[s]) (j:=3) hown.out rfl h1 h2)
   go_upto_region 42 with fail
   go_wp2_with fail
   all_goals
    refine bodyPost_retE (fun x:Value × Value=>.agg (insV (restV Rst.fn (insOf 4 d) ([s]) (0)) x.1 x.2).toArray) (_,_) (by simp [results,Tryd.results25,go_sem,insV,restV,insOf, *];first | exact⟨rfl,rfl⟩ | rfl) rfl ?hfin
    case hfin=>
     refine ins_post hins.out hbe ?_ hle ?_ ?_
     ·repeat (refine Touch.setCell ?_ (fun _=>by dsimp only;omega) _)
      exact Touch.refl _ _
     ·exact hR.out _ _ _ (by first | rfl | (simp only [List.length_cons,List.length_nil];done) | (simp only [List.length_cons,List.length_nil];omega)) (fun h0=>by first | rfl | omega)
     ·exact none_off
end
end
end Go.Proofs.YtgcanabckogmmaaDoor
