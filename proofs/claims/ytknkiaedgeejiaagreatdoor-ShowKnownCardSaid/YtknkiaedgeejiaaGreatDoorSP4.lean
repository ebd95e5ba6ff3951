/- NParts, NWhere, NRule. -/
import Derived.Test.YtknkiaedgeejiaaGreatDoorSP3
import Derived.RangeFuncNested
import Derived.RangeFuncBound
import Derived.RangeFuncCalls
import Derived.RangeFuncLeaves
import Derived.OwnWalkIn
import Derived.TacticsInMore
import Derived.LoopNIn
import Derived.LoopIn
import Derived.Shelf.Abstract
import Derived.Shelf.RegionOpen
namespace Go.Proofs.YtknkiaedgeejiaaGreatDoor
set_option linter.unusedVariables false
set_option linter.unusedSimpArgs false
section
open Go.RowKit Go.Maps
attribute [local go_sem] Oper.semAt_some
inductive Prt
 | fn (f:Nat) (d:Fun)
 | blk (f b:Nat) (d:Fun) (x:Blk)
 | ins (f b i:Nat) (d:Fun) (x:Blk) (c:Ins)
def cat {α β:Type}(g:Nat→α→List β)(l:List α):List β:=(l.mapIdx g).flatten
def blkL (f b:Nat)(d:Fun)(x:Blk):List Prt:=.blk f b d x::cat (fun i c=>[.ins f b i d x c]) x.code
def funL (f:Nat)(d:Fun):List Prt:=.fn f d::cat (fun b x=>blkL f b d x) d.blocks
def partsL (P:List Fun):List Prt:=cat funL P
section
variable {α β:Type} {g:Nat→α→List β} {l:List α} {k:Nat} {z:α}
theorem cat_nil:cat g []=[]:=rfl
theorem cat_succ (h:l[k]?=some z):cat g (l.take (k+1))=cat g (l.take k)++g k z:=by
 have hk:=(List.getElem?_eq_some_iff.1 h).1
 unfold cat
 rw [take_snocS h,List.mapIdx_append]
 simp [Nat.min_eq_left (Nat.le_of_lt hk)]
theorem cat_split (h:l[k]?=some z):∃r,cat g l=cat g (l.take k)++(g k z++r):=by
 obtain⟨hk,rfl⟩:=List.getElem?_eq_some_iff.1 h
 have e:l=l.take k++l[k]::l.drop (k+1):=by rw [←List.drop_eq_getElem_cons hk,List.take_append_drop]
 refine⟨((l.drop (k+1)).mapIdx (fun i=>g (i+1+k))).flatten,?_⟩
 unfold cat
 conv=>lhs;rw [e]
 rw [List.mapIdx_append]
 simp [Nat.min_eq_left (Nat.le_of_lt hk)]
 rw [List.drop_eq_getElem_cons hk,List.mapIdx_cons]
 simp
theorem cat_all (h:k=l.length):cat g (l.take k)=cat g l:=by rw [List.take_of_length_le (by omega)]
end
def FunAt (w:World)(b o:Nat)(d:Fun):Prop:=b<w.heap.size∧∃vp vb,RdS w vp d.params∧RdE 2 RdBlk w vb d.blocks∧w.cell? ⟨b,o,none⟩=some (.string d.name)∧w.cell? ⟨b,o+1,none⟩=some vp∧w.cell? ⟨b,o+2,none⟩=some vb
def BlkAt (w:World)(b o:Nat)(x:Blk):Prop:=b<w.heap.size∧∃vc,RdE 8 RdIns w vc x.code∧w.cell? ⟨b,o,none⟩=some (.string x.label)∧w.cell? ⟨b,o+1,none⟩=some vc
theorem FunAt.below {w w':World}{b o:Nat}{d:Fun}(h:FunAt w b o d)(hb:Below w.heap.size w w'):FunAt w' b o d:=by
 obtain⟨h0,vp,vb,h1,h2,h3,h4,h5⟩:=h
 have k:∀{p:Addr} {v:Value},w.cell? p=some v→w'.cell? p=some v:=fun {p} {v} hc=>(hb.cell (p:=p) (cell_size hc)).trans hc
 exact⟨Nat.lt_of_lt_of_le h0 hb.size,vp,vb,Rd.below h1 hb,RdE.below (fun _ _ h=>h.below hb) h2 hb,k h3,k h4,k h5⟩
theorem BlkAt.below {w w':World}{b o:Nat}{x:Blk}(h:BlkAt w b o x)(hb:Below w.heap.size w w'):BlkAt w' b o x:=by
 obtain⟨h0,vc,h1,h2,h3⟩:=h
 have k:∀{p:Addr} {v:Value},w.cell? p=some v→w'.cell? p=some v:=fun {p} {v} hc=>(hb.cell (p:=p) (cell_size hc)).trans hc
 exact⟨Nat.lt_of_lt_of_le h0 hb.size,vc,RdE.below (fun _ _ h=>h.below hb) h1 hb,k h2,k h3⟩
def PrtV (w:World):Prt→Array Value→Prop
 | .fn f d,vs=>∃b o,vs=#[.int .i64 f,.int .i64 0,.int .i64 0,.pointer (some ⟨b,o,none⟩),.pointer none,.pointer none]∧FunAt w b o d
 | .blk f k d x,vs=>∃b o b2 o2,vs=#[.int .i64 f,.int .i64 k,.int .i64 0,.pointer (some ⟨b,o,none⟩),.pointer (some ⟨b2,o2,none⟩),.pointer none]∧FunAt w b o d∧BlkAt w b2 o2 x
 | .ins f k i d x c,vs=>∃b o b2 o2 b3 o3,vs=#[.int .i64 f,.int .i64 k,.int .i64 i,.pointer (some ⟨b,o,none⟩),.pointer (some ⟨b2,o2,none⟩),.pointer (some ⟨b3,o3,none⟩)]∧FunAt w b o d∧BlkAt w b2 o2 x∧InsAt w b3 o3 c
structure KpN (m Bs:Nat) (W W':World):Prop where
 below:Below m W W'
 box:W'.heap[Bs]?=W.heap[Bs]?
theorem KpN.refl (m Bs:Nat)(W:World):KpN m Bs W W:=⟨Below.refl _ _,rfl⟩
theorem KpN.trans {m Bs:Nat}{A B C:World}(h:KpN m Bs A B)(k:KpN m Bs B C):KpN m Bs A C:=⟨h.below.trans k.below,k.box.trans h.box⟩
theorem fun_at {w:World}{v:Value}{P:List Fun}(h:RdE 3 RdFun w v P){f:Nat}{d:Fun}(hf:P[f]?=some d):∃b off cap,v=.slice (some ⟨b,off,none⟩) P.length cap∧FunAt w b (off+f*3) d:=by
 obtain⟨b,off,cap,cs,e,hlt,⟨vp,vb,rfl,h1,h2⟩,-,hc⟩:=h.at hf
 exact⟨b,off,cap,e,hlt,vp,vb,h1,h2,hc 0 _ rfl,hc 1 _ rfl,hc 2 _ rfl⟩
theorem blk_at {w:World}{v:Value}{L:List Blk}(h:RdE 2 RdBlk w v L){k:Nat}{x:Blk}(hk:L[k]?=some x):∃b off cap,v=.slice (some ⟨b,off,none⟩) L.length cap∧BlkAt w b (off+k*2) x:=by
 obtain⟨b,off,cap,cs,e,hlt,⟨vc,rfl,h1⟩,-,hc⟩:=h.at hk
 exact⟨b,off,cap,e,hlt,vc,h1,hc 0 _ rfl,hc 1 _ rfl⟩
theorem ins_at {w:World}{v:Value}{L:List Ins}(h:RdE 8 RdIns w v L){k:Nat}{c:Ins}(hk:L[k]?=some c):∃b off cap,v=.slice (some ⟨b,off,none⟩) L.length cap∧InsAt w b (off+k*8) c:=by
 obtain⟨b,off,cap,cs,e,hlt,⟨va,vl,rfl,h1,h2⟩,-,hc⟩:=h.at hk
 exact⟨b,off,cap,e,hlt,va,vl,h1,h2,fun j u hj=>hc j u hj⟩
theorem FunAt.blocks {w:World}{b o:Nat}{d:Fun}(h:FunAt w b o d):∃a c,w.cell? ⟨b,o+2,none⟩=some (.slice a d.blocks.length c)∧RdE 2 RdBlk w (.slice a d.blocks.length c) d.blocks:=by
 obtain⟨-,vp,vb,-,h2,-,-,h5⟩:=h
 obtain⟨a,c,rfl⟩:=h2.form
 exact⟨a,c,h5,h2⟩
theorem BlkAt.code {w:World}{b o:Nat}{x:Blk}(h:BlkAt w b o x):∃a c,w.cell? ⟨b,o+1,none⟩=some (.slice a x.code.length c)∧RdE 8 RdIns w (.slice a x.code.length c) x.code:=by
 obtain⟨-,vc,h2,-,h5⟩:=h
 obtain⟨a,c,rfl⟩:=h2.form
 exact⟨a,c,h5,h2⟩
set_option maxRecDepth 100000 in
set_option maxHeartbeats 8000000 in
theorem parts_in (n:Nat)(hn:1≤n)(r:Nat)(J:List Prt→World→Prop)(Jx:World→Prop){P:List Fun}{W0 W:World}{v:Value}{m Bs:Nat}(hm:m=W0.heap.size)(hP:RdE 3 RdFun W0 v P)(hb0:Below m W0 W)(hbox:W.heap[Bs]?=some (.cells #[v] 91 (0,0)))
  (hl1:P.length≤1000000) (hl2:∀d∈P,d.blocks.length≤1000000) (hl3:∀d∈P,∀x∈d.blocks,x.code.length≤1000000)
  (hY:∀pre x rest vs W1,partsL P=pre++x::rest→PrtV W0 x vs→J pre W1→Below m W0 W1→YieldAt Fence.wide (n-1) Tryz.prog r #[.agg vs] W1 fun e W'=>
   (e=.returned (.bool true)∧J (pre++[x]) W'∧KpN m Bs W1 W')∨(e=.returned (.bool false)∧Jx W'))
  (h0:J [] W):
  CallsIn Fence.wide n Tryz.prog 182 #[.func (.yield r) #[] #[],.pointer (some ⟨Bs,0,none⟩)] W fun e W'=>(∃v,e=.returned v)∧(J (partsL P) W'∨Jx W'):=by
 obtain⟨a0,c0,rfl⟩:=hP.form
 obtain⟨p,hp⟩:∃p,p=P.length:=⟨_,rfl⟩
 rw [←hp] at hP hl1 hbox
 have hcb:=fun (wr:World) (hk:KpN m Bs W wr)=>show wr.cell? ⟨Bs,0,none⟩=some (.slice a0 p c0) from by rw [blk_cell (hk.box.trans hbox)];rfl
 have hfa:=Lib.hid (fun (f:Nat) (d:Fun) (hf:P[f]?=some d)=>fun_at hP hf)
 replace hcb:=Lib.hid hcb
 replace hp:=Lib.hid hp
 replace hm:=Lib.hid hm
 replace hb0:=Lib.hid hb0
 replace hY:=Lib.hid hY
 replace hl2:=Lib.hid hl2
 replace hl3:=Lib.hid hl3
 replace h0:=Lib.hid h0
 have c1:=hcb.out W (KpN.refl _ _ _)
 clear hP hbox
 refine callsIn_of_wp Tryz.func182 rfl trivial ?_ rfl
 simp only [Tryz.ntmps182,List.size_toArray,List.length_cons,List.length_nil,Nat.reduceAdd,Nat.reduceSub,Array.replicate_succ,Array.replicate_zero,List.push_toArray,List.append_toArray,List.nil_append,List.cons_append]
 gi_wp2
 gi_loopw [3,4,5,6,7,12] (fun _ _ _ _ _ i wr=>∃f:Nat,f≤p∧i=.int .i64 f∧Hid (J (cat funL (P.take f)) wr)∧Hid (KpN m Bs W wr)) (fun _ _ _ _ _ i _=>p-(intOf i).toNat)
 case atStart=>exact⟨0,Nat.zero_le _,rfl,h0,Lib.hid (KpN.refl _ _ _)⟩
 case round=>
  clear h0
  obtain⟨f,hf,rfl,hJ,hK⟩:=hrel
  have c1:=hcb.out wr hK.out
  by_cases hlt:f<p
  ·obtain⟨d,hd⟩:∃d,P[f]?=some d:=⟨_,List.getElem?_eq_getElem (by rw [←hp.out];exact hlt)⟩
   obtain⟨b,off,cap,e,hF⟩:=hfa.out f d hd
   rw [←hp.out] at e
   simp only [Value.slice.injEq] at e
   obtain⟨rfl,-,rfl⟩:=e
   have i1:(f:Int)<(p:Int):=by omega
   have i2:decide ((f:Int)<(p:Int))=true:=by simpa using hlt
   have hdm:=List.mem_of_getElem? hd
   obtain⟨rest,hsp⟩:=cat_split (g:=funL) hd
   have hsu:=Lib.hid (cat_succ (g:=funL) hd)
   obtain⟨ab,cb,hcB,hRB⟩:=hF.blocks
   obtain⟨q,hq⟩:∃q,q=d.blocks.length:=⟨_,rfl⟩
   rw [←hq] at hcB hRB
   have hql:q≤1000000:=by rw [hq];exact hl2.out d hdm
   have hFw:=Lib.hid (fun (w':World) (hB:Below m W0 w')=>hF.below (by rw [←hm.out];exact hB))
   have hcBw:=Lib.hid (fun (w':World) (hB:Below m W0 w')=>show w'.cell? ⟨b,off+f*3+2,none⟩=some (.slice ab q cb) from (hB.cell (p:=⟨b,off+f*3+2,none⟩) (by rw [hm.out];exact hF.1)).trans hcB)
   have hba:=Lib.hid (fun (k:Nat) (x:Blk) (hx:d.blocks[k]?=some x)=>blk_at hRB hx)
   have hcl:=Lib.hid (hl3.out d hdm)
   generalize hpre:cat funL (P.take f)=pre at hsp hsu hJ
   have hspl:=Lib.hid (show partsL P=pre++(funL f d++rest) from hsp)
   obtain⟨fn,tmps,assign,body,hy,hR⟩:=hY.out pre (.fn f d) (cat (fun b x=>blkL f b d x) d.blocks++rest) _ wr (by rw [hspl.out];rfl) ⟨b,off+f*3,rfl,hFw.out W0 (Below.refl _ _)⟩ hJ.out (hb0.out.trans hK.out.below)
   replace hq:=Lib.hid hq
   replace hpre:=Lib.hid hpre
   replace hd:=Lib.hid hd
   clear hsp hF hcB hRB hfa hdm hJ
   gi_wp2
   refine hR.mono ?_
   rintro e W3 (⟨rfl,hJ3,hk3⟩ | ⟨rfl,hJx⟩)
   case inr=>
    gi_wp2
    refine bodyPost_ret (results_none rfl _ _ _) rfl ?_
    exact⟨⟨_,rfl⟩,.inr hJx⟩
   have hK3:=Lib.hid (hK.out.trans hk3)
   have hcb3:=hcBw.out W3 (hb0.out.trans hK3.out.below)
   have hJ4:Hid (J (pre++(Prt.fn f d::cat (fun b x=>blkL f b d x) (d.blocks.take 0))) W3):=Lib.hid (by simpa [cat_nil] using hJ3)
   clear hy hR hk3 hJ3 c1 hK
   gi_wp2
   gi_loopw [5,6,7,32] (fun _ _ _ i wx=>∃k:Nat,k≤q∧i=.int .i64 k∧Hid (J (pre++(Prt.fn f d::cat (fun b x=>blkL f b d x) (d.blocks.take k))) wx)∧Hid (KpN m Bs W wx)) (fun _ _ _ i _=>q-(intOf i).toNat)
   case atStart=>exact⟨0,Nat.zero_le _,rfl,hJ4,hK3⟩
   case round=>
    clear hJ4 hK3 hcb3
    obtain⟨k,hk,rfl,hJ,hK⟩:=hrel
    have c1:=hcBw.out wr (hb0.out.trans hK.out.below)
    by_cases hlk:k<q
    ·obtain⟨x,hx⟩:∃x,d.blocks[k]?=some x:=⟨_,List.getElem?_eq_getElem (by rw [←hq.out];exact hlk)⟩
     obtain⟨b2,off2,cap2,e2,hB2⟩:=hba.out k x hx
     rw [←hq.out] at e2
     simp only [Value.slice.injEq] at e2
     obtain⟨rfl,-,rfl⟩:=e2
     have i3:(k:Int)<(q:Int):=by omega
     have i4:decide ((k:Int)<(q:Int))=true:=by simpa using hlk
     have hxm:=List.mem_of_getElem? hx
     obtain⟨rest2,hsp⟩:=cat_split (g:=fun b x=>blkL f b d x) hx
     have hsu2:=Lib.hid (cat_succ (g:=fun b x=>blkL f b d x) hx)
     obtain⟨ac,cc,hcC,hRC⟩:=hB2.code
     obtain⟨z,hz⟩:∃z,z=x.code.length:=⟨_,rfl⟩
     rw [←hz] at hcC hRC
     have hzl:z≤1000000:=by rw [hz];exact hcl.out x hxm
     have hBw:=Lib.hid (fun (w':World) (hB:Below m W0 w')=>hB2.below (by rw [←hm.out];exact hB))
     have hcCw:=Lib.hid (fun (w':World) (hB:Below m W0 w')=>show w'.cell? ⟨b2,off2+k*2+1,none⟩=some (.slice ac z cc) from (hB.cell (p:=⟨b2,off2+k*2+1,none⟩) (by rw [hm.out];exact hB2.1)).trans hcC)
     have hia:=Lib.hid (fun (i:Nat) (y:Ins) (hy:x.code[i]?=some y)=>ins_at hRC hy)
     generalize hpre2:cat (fun b x=>blkL f b d x) (d.blocks.take k)=pre2 at hsp hsu2 hJ
     have hspl2:=Lib.hid (show partsL P=(pre++(Prt.fn f d::pre2))++(blkL f k d x++(rest2++rest)) from by
      rw [hspl.out]
      unfold funL
      rw [hsp]
      simp)
     obtain⟨fn,tmps,assign,body,hy,hR⟩:=hY.out (pre++(Prt.fn f d::pre2)) (.blk f k d x) (cat (fun i c=>[.ins f k i d x c]) x.code++(rest2++rest)) _ wr (by rw [hspl2.out];rfl) ⟨b,off+f*3,b2,off2+k*2,rfl,hFw.out W0 (Below.refl _ _),hBw.out W0 (Below.refl _ _)⟩ hJ.out (hb0.out.trans hK.out.below)
     replace hz:=Lib.hid hz
     replace hpre2:=Lib.hid hpre2
     replace hx:=Lib.hid hx
     clear hsp hB2 hcC hRC hxm hJ
     gi_wp2
     refine hR.mono ?_
     rintro e W3 (⟨rfl,hJ3,hk3⟩ | ⟨rfl,hJx⟩)
     case inr=>
      gi_wp2
      refine bodyPost_ret (results_none rfl _ _ _) rfl ?_
      exact⟨⟨_,rfl⟩,.inr hJx⟩
     have hK3:=Lib.hid (hK.out.trans hk3)
     have hcb3:=hcCw.out W3 (hb0.out.trans hK3.out.below)
     have hJ4:Hid (J ((pre++(Prt.fn f d::pre2))++(Prt.blk f k d x::cat (fun i c=>[.ins f k i d x c]) (x.code.take 0))) W3):=Lib.hid (by simpa [cat_nil] using hJ3)
     clear hy hR hk3 hJ3 c1 hK
     gi_wp2
     gi_loopw [7,55] (fun _ i wx=>∃l:Nat,l≤z∧i=.int .i64 l∧Hid (J ((pre++(Prt.fn f d::pre2))++(Prt.blk f k d x::cat (fun i c=>[.ins f k i d x c]) (x.code.take l))) wx)∧Hid (KpN m Bs W wx)) (fun _ i _=>z-(intOf i).toNat)
     case atStart=>exact⟨0,Nat.zero_le _,rfl,hJ4,hK3⟩
     case round=>
      clear hJ4 hK3 hcb3
      obtain⟨l,hl,rfl,hJ,hK⟩:=hrel
      have c1:=hcCw.out wr (hb0.out.trans hK.out.below)
      by_cases hll:l<z
      ·obtain⟨y,hy0⟩:∃y,x.code[l]?=some y:=⟨_,List.getElem?_eq_getElem (by rw [←hz.out];exact hll)⟩
       obtain⟨b3,off3,cap3,e3,hI3⟩:=hia.out l y hy0
       rw [←hz.out] at e3
       simp only [Value.slice.injEq] at e3
       obtain⟨rfl,-,rfl⟩:=e3
       have i5:(l:Int)<(z:Int):=by omega
       have i6:decide ((l:Int)<(z:Int))=true:=by simpa using hll
       obtain⟨rest3,hsp⟩:=cat_split (g:=fun i c=>[Prt.ins f k i d x c]) hy0
       have hsu3:=Lib.hid (cat_succ (g:=fun i c=>[Prt.ins f k i d x c]) hy0)
       generalize hpre3:cat (fun i c=>[Prt.ins f k i d x c]) (x.code.take l)=pre3 at hsp hsu3 hJ
       obtain⟨fn,tmps,assign,body,hy,hR⟩:=hY.out ((pre++(Prt.fn f d::pre2))++(Prt.blk f k d x::pre3)) (.ins f k l d x y) (rest3++(rest2++rest)) _ wr (by
        rw [hspl2.out]
        unfold blkL
        rw [hsp]
        simp) ⟨b,off+f*3,b2,off2+k*2,b3,off3+l*8,rfl,hFw.out W0 (Below.refl _ _),hBw.out W0 (Below.refl _ _),hI3⟩ hJ.out (hb0.out.trans hK.out.below)
       replace hpre3:=Lib.hid hpre3
       replace hy0:=Lib.hid hy0
       clear hsp hI3 hJ
       gi_wp2
       refine hR.mono ?_
       rintro e W3 (⟨rfl,hJ3,hk3⟩ | ⟨rfl,hJx⟩)
       case inr=>
        gi_wp2
        refine bodyPost_ret (results_none rfl _ _ _) rfl ?_
        exact⟨⟨_,rfl⟩,.inr hJx⟩
       have hK3:=Lib.hid (hK.out.trans hk3)
       have hJ4:Hid (J ((pre++(Prt.fn f d::pre2))++(Prt.blk f k d x::cat (fun i c=>[Prt.ins f k i d x c]) (x.code.take (l+1)))) W3):=Lib.hid (by rw [hsu3.out];simpa using hJ3)
       clear hy hR hk3 hJ3 c1 hK
       gi_wp2
       go_roundw
       case rel=>exact⟨l+1,by omega,by go_num,hJ4,hK3⟩
       case measure=>simp [intOf];omega
      ·obtain rfl:l=z:=by omega
       have i6:decide ((l:Int)<(l:Int))=false:=by simp
       have hJ4:Hid (J (pre++(Prt.fn f d::cat (fun b x=>blkL f b d x) (d.blocks.take (k+1)))) wr):=Lib.hid (by
        have:=hJ.out
        rw [cat_all hz.out] at this
        rw [hsu2.out]
        simpa [blkL] using this)
       clear hJ c1
       gi_wp2
       go_roundw
       case rel=>exact⟨k+1,by omega,by go_num,hJ4,hK⟩
       case measure=>simp [intOf];omega
    ·obtain rfl:k=q:=by omega
     have i4:decide ((k:Int)<(k:Int))=false:=by simp
     have hJ4:Hid (J (cat funL (P.take (f+1))) wr):=Lib.hid (by
      have:=hJ.out
      rw [cat_all hq.out] at this
      rw [hsu.out]
      exact this)
     clear hJ c1
     gi_wp2
     go_roundw
     case rel=>exact⟨f+1,by omega,by go_num,hJ4,hK⟩
     case measure=>simp [intOf];omega
  ·obtain rfl:f=p:=by omega
   have i2:decide ((f:Int)<(f:Int))=false:=by simp
   have hJ4:Hid (J (partsL P) wr):=Lib.hid (by
    have:=hJ.out
    rw [cat_all hp.out] at this
    exact this)
   clear hJ hY
   gi_wp2
   go_end0
   exact⟨⟨_,rfl⟩,.inl hJ4.out⟩
end
section
open Go.RowKit Go.Maps Go.Shelf
attribute [local go_sem] Oper.semAt_some
theorem parts_call (v:Value)(w:World):Calls Tryz.prog 164 #[.agg #[v]] w fun e w'=>e=.returned (.func (.func 182) #[] #[.pointer (some ⟨w.heap.size,0,none⟩)])∧w'=w.alloc (.cells #[v] 91):=by
 go_enter Tryz.func164,Tryz.ntmps164
 go_wp2
 go_ret
 exact⟨rfl,rfl⟩
def firstBad {σ:Type}(step:σ→Prt→Bool × σ):σ→List Prt→Option Prt
 | _,[]=>none
 | s,x::r=>if (step s x).1=true then some x else firstBad step (step s x).2 r
def runSt {σ:Type}(step:σ→Prt→Bool × σ):σ→List Prt→σ
 | s,[]=>s
 | s,x::r=>runSt step (step s x).2 r
theorem runSt_snoc {σ:Type}{step:σ→Prt→Bool × σ}:∀{l:List Prt} {s:σ} {x:Prt},runSt step s (l++[x])=(step (runSt step s l) x).2
 | [],_,_=>rfl
 | _::r,_,_=>runSt_snoc (l:=r)
theorem firstBad_cons {σ:Type}{step:σ→Prt→Bool × σ}{s:σ}{x:Prt}{r:List Prt}:firstBad step s (x::r)=if (step s x).1=true then some x else firstBad step (step s x).2 r:=rfl
theorem firstBad_app {σ:Type}{step:σ→Prt→Bool × σ}:∀{l r:List Prt} {s:σ},firstBad step s l=none→firstBad step s (l++r)=firstBad step (runSt step s l) r
 | [],_,_,_=>rfl
 | x::l,r,s,h=>by
  rw [firstBad_cons] at h
  split at h
  ·cases h
  ·rename_i hn
   rw [List.cons_append,firstBad_cons,if_neg hn]
   exact firstBad_app h
def Prt.at:Prt→Nat × Nat × Nat
 | .fn f _=>(f,0,0)
 | .blk f b _ _=>(f,b,0)
 | .ins f b i _ _ _=>(f,b,i)
def ptA (q:Nat × Nat × Nat):Array Value:=#[.int .i64 q.1,.int .i64 q.2.1,.int .i64 q.2.2]
def resAt (x:Option Prt):Nat × Nat × Nat:=match x with | some x=>x.at | none=>(0,0,0)
theorem PrtV.form {w:World}{x:Prt}{vs:Array Value}(h:PrtV w x vs):∃q1 q2 q3,vs=#[.int .i64 x.at.1,.int .i64 x.at.2.1,.int .i64 x.at.2.2,.pointer q1,.pointer q2,.pointer q3]:=by
 cases x with
 | fn f d=>obtain⟨b,o,rfl,-⟩:=h;exact⟨_,_,_,rfl⟩
 | blk f k d x=>obtain⟨b,o,b2,o2,rfl,-⟩:=h;exact⟨_,_,_,rfl⟩
 | ins f k i d x c=>obtain⟨b,o,b2,o2,b3,o3,rfl,-⟩:=h;exact⟨_,_,_,rfl⟩
theorem PrtV.below {w w':World}{x:Prt}{vs:Array Value}(h:PrtV w x vs)(hb:Below w.heap.size w w'):PrtV w' x vs:=by
 cases x with
 | fn f d=>obtain⟨b,o,rfl,h1⟩:=h;exact⟨b,o,rfl,h1.below hb⟩
 | blk f k d x=>obtain⟨b,o,b2,o2,rfl,h1,h2⟩:=h;exact⟨b,o,b2,o2,rfl,h1.below hb,h2.below hb⟩
 | ins f k i d x c=>obtain⟨b,o,b2,o2,b3,o3,rfl,h1,h2,h3⟩:=h;exact⟨b,o,b2,o2,b3,o3,rfl,h1.below hb,h2.below hb,h3.below hb⟩
structure Keeps {σ:Type} (P:List Fun) (m:Nat) (W0:World) (K:Nat) (caps:Array Value) (step:σ→Prt→Bool × σ) (s0:σ) (I:σ→(Nat→Prop)→World→Prop):Prop where
 calm:∀s U W W',I s U W→Touch W W' (fun k=>¬U k)→I s U W'
 call:∀s U x vs W,(∃pre rest,partsL P=pre++x::rest∧s=runSt step s0 pre∧firstBad step s0 pre=none)→PrtV W0 x vs→Below m W0 W→I s U W→Calls Tryz.prog K (#[.agg vs]++caps) W fun e W'=>∃U',e=.returned (.bool (step s x).1)∧I (step s x).2 U' W'∧Touch W W' U∧∀k,U' k→U k∨(W.heap.size≤k∧k<W'.heap.size)
theorem partsCalls_at {P:List Fun}{pre rest:List Prt}{x:Prt}(h:partsL P=pre++x::rest):x∈partsL P:=by
 rw [h];simp
structure WSt {σ:Type} (step:σ→Prt→Bool × σ) (I:σ→(Nat→Prop)→World→Prop) (s0:σ) (m:Nat) (W0:World) (A K:Nat) (caps:Array Value) (pre:List Prt) (U:Nat→Prop) (W:World):Prop where
 st:I (runSt step s0 pre) U W
 own:∀k,U k→m≤k∧k<W.heap.size∧(k<A∨A+7≤k)
 ok:firstBad step s0 pre=none
 b1:W.heap[A+1]?=some (.cells #[.func (.func K) #[] caps] 147 (0,0))
 b2:W.heap[A+2]?=some (.cells #[.int .i64 0,.int .i64 0,.int .i64 0] 53 (0,0))
 b3:W.heap[A+3]?=some (.cells #[.bool false] 4 (0,0))
 bel:Below m W0 W
theorem touch_putObj (W:World)(l:Nat)(o:Obj):Touch W (W.putObj l o) (fun k=>k=l):=⟨rfl,rfl,rfl,by simp,fun k _ hn=>World.putObj_heap_other hn⟩
theorem WSt.off {σ:Type}{step:σ→Prt→Bool × σ}{I:σ→(Nat→Prop)→World→Prop}{s0:σ}{P:List Fun}{m:Nat}{W0:World}{A K:Nat}{caps:Array Value}{pre:List Prt}{U:Nat→Prop}{W W':World}{S:Nat→Prop}(hK:Keeps P m W0 K caps step s0 I)(hm:m=W0.heap.size)
  (h:WSt step I s0 m W0 A K caps pre U W) (hT:Touch W W' S) (hS:∀k,S k→¬U k∧k≠A+1∧k≠A+2∧k≠A+3∧m≤k):WSt step I s0 m W0 A K caps pre U W':=by
 have g:∀{k:Nat} {o:Obj},W.heap[k]?=some o→¬S k→W'.heap[k]?=some o:=fun {k} {o} ho hn=>(hT.block k (Array.getElem?_eq_some_iff.1 ho).1 hn).trans ho
 refine⟨hK.calm _ _ _ _ h.st (hT.mono (fun k _ hs=>(hS k hs).1)),fun k hk=>?_,h.ok,g h.b1 (fun hs=>(hS _ hs).2.1 rfl),g h.b2 (fun hs=>(hS _ hs).2.2.1 rfl),g h.b3 (fun hs=>(hS _ hs).2.2.2.1 rfl),h.bel.trans (hT.below (by rw [hm];have:=h.bel.size;exact this) (fun k hk hs=>by have:=(hS k hs).2.2.2.2;omega))⟩
 have:=h.own k hk
 have:=hT.size
 exact⟨by omega,by omega,by omega⟩
def leftP (D L:Nat)(I:World→Prop)(Ix:World→Prop)(Kp:World→World→Prop)(W:World):Exit→Act→World→Prop
 | .normal,_,W'=>W'.heap[D]?=W.heap[D]?∧W'.heap[L]?=W.heap[L]?∧I W'∧Kp W W'
 | .ret,_,W'=>W'.heap[D]?=W.heap[D]?∧W'.heap[L]?=W.heap[L]?∧Ix W'
 | _,_,_=>False
theorem rangeFunc_ret {α:Type}{F:Fence}{n:Nat}{P:Program}{g:Operand}{ps:Array Tmp}{assign body:Code}{Q:Exit→Act→World→Prop}{a:Act}{w:World}
  (hro:F.round=none) (h1:1≤n) {gf:Nat} {lb:Array Value} (hg:a.eval g=.func (.func gf) #[] lb) (hFg:F.fn gf) (eg:∀args w,(callFunc gf args).run P w=.ok (.enter gf args) w)
  (Is:List α→α→Array Value→World→Prop) (Kp:World→World→Prop) (I:List α→World→Prop) (Ix:World→Prop) (Ax:List α→α→Act→World→Prop) (all:List α)
  (hsz:∀pre x vs W,Is pre x vs W→vs.size=ps.size)
  (hI:∀pre W r,I pre W→W.heap[w.heap.size+1]?=some (.loop r)→∀r',I pre (W.putObj (w.heap.size+1) (.loop r')))
  (hIx:∀W r,Ix W→W.heap[w.heap.size+1]?=some (.loop r)→∀r',Ix (W.putObj (w.heap.size+1) (.loop r')))
  (hAx:∀pre x a' W r,Ax pre x a' W→W.heap[w.heap.size+1]?=some (.loop r)→∀r',Ax pre x a' (W.putObj (w.heap.size+1) (.loop r')))
  (hKt:∀{A B C:World},Kp A B→Kp B C→Kp A C) (hKp:∀W r r',W.heap[w.heap.size+1]?=some (.loop r)→Kp W (W.putObj (w.heap.size+1) (.loop r')))
  (h0:∀r,I [] ((w.alloc (.deferred (some []))).alloc (.loop r)))
  (hseq:∀(J:List α→World→Prop) (Jx:World→Prop) (r:Loop),(∀pre x vs W1,Is pre x vs W1→J pre W1→YieldAt F (n-1-1) P (w.heap.size+1) vs W1 fun e W'=>(e=.returned (.bool true)∧J (pre++[x]) W'∧Kp W1 W')∨(e=.returned (.bool false)∧Jx W'))→
   J [] ((w.alloc (.deferred (some []))).alloc (.loop r))→CallsIn F (n-1) P gf (#[.func (.yield (w.heap.size+1)) #[] #[]]++lb) ((w.alloc (.deferred (some []))).alloc (.loop r)) fun e W'=>(∃v,e=.returned v)∧(J all W'∨Jx W'))
  (hassign:∀pre x vs W (K:Act→World→Prop),Is pre x vs W→I pre W→w.heap.size+2≤W.heap.size→(∀a' W',Ax pre x a' W'→W'.heap[w.heap.size]?=W.heap[w.heap.size]?→W'.heap[w.heap.size+1]?=W.heap[w.heap.size+1]?→Kp W W'→K a' W')→
   assign.wpIn (F.inRound (w.heap.size+1)) (n-1-1) P (Exit.then K (fun _ _ _=>False)) {tmps:=(ps.zip vs).foldl (fun t (p,v)=>t.setIfInBounds p v) a.tmps,defers:=[]} W)
  (hbody:∀pre x a' W,Ax pre x a' W→w.heap.size+2≤W.heap.size→body.wpIn (F.inRound (w.heap.size+1)) (n-1-1) P (leftP w.heap.size (w.heap.size+1) (I (pre++[x])) Ix Kp W) a' W)
  (hdone:∀W,I all W→W.heap[w.heap.size]?=some (.deferred (some []))→Q .normal {a with defers:={target:=.collected w.heap.size,args:=#[]}::a.defers} W)
  (hstop:∀W,Ix W→W.heap[w.heap.size]?=some (.deferred (some []))→Code.ret.wpIn F n P Q {a with defers:={target:=.collected w.heap.size,args:=#[]}::a.defers} W):
  (Code.rangeFunc g ps assign body).wpIn F n P Q a w:=by
 refine wpIn_rangeFunc ?_
 intro fn hfn
 rw [hro]
 obtain⟨rc,hrc⟩:∃rc:LoopState→Option Code→Loop,rc=fun st pe=>{state:=st,pending:=pe,fn,tmps:=a.tmps,params:=ps,assign,body,defers:=w.heap.size}:=⟨_,rfl⟩
 obtain⟨W1,hW1⟩:∃W1,(w.alloc (.deferred (some []))).alloc (.loop (rc .ready none))=W1:=⟨_,rfl⟩
 have hL1:W1.heap[w.heap.size+1]?=some (.loop (rc .ready none)):=by rw [←hW1];exact at_newN (by simp)
 have hD1:W1.heap[w.heap.size]?=some (.deferred (some [])):=by rw [←hW1];exact at_oldN (at_newN rfl)
 refine⟨w.heap.size+1,[{target:=.collected w.heap.size,args:=#[]}],W1,{target:=.fn (.func gf) lb,args:=#[.func (.yield (w.heap.size+1)) #[] #[]]},W1,gf,
  #[.func (.yield (w.heap.size+1)) #[] #[]]++lb,W1,?_,?_,?_,?_,fun _=>h1,?_⟩
 ·rw [←hW1,hrc];exact run_enterLoop_outer _ _ _ _ _
 ·simp only [resolve,hg]
  simp [go_sem]
 ·intro f' hf';simp [Target.leads] at hf';subst hf';exact hFg
 ·simp [invoke,go_sem,eg]
 ·have hq:=hseq (fun pre W=>I pre W∧W.heap[w.heap.size+1]?=some (.loop (rc .ready none))∧W.heap[w.heap.size]?=some (.deferred (some [])))
   (fun W=>Ix W∧W.heap[w.heap.size+1]?=some (.loop (rc .done (some .ret)))∧W.heap[w.heap.size]?=some (.deferred (some []))) (rc .ready none) ?_ (by rw [hW1];exact⟨by rw [←hW1];exact h0 _,hL1,hD1⟩)
  ·rw [hW1] at hq
   refine hq.mono ?_
   rintro e W2 ⟨⟨v,rfl⟩,⟨hi,hl,hd⟩ | ⟨hi,hl,hd⟩⟩
   ·exact⟨none,_,by have:=run_endLoop (P:=P) hl (by rw [hrc];simp);rw [hrc] at this;exact this,hdone _ (hI _ _ _ hi hl _) ((World.putObj_heap_other (by omega)).trans hd)⟩
   ·exact⟨some .ret,_,by have:=run_endLoop (P:=P) hl (by rw [hrc];simp);rw [hrc] at this;exact this,hstop _ (hIx _ _ hi hl _) ((World.putObj_heap_other (by omega)).trans hd)⟩
  ·rintro pre x vs W hx ⟨hi,hl,hd⟩
   have hlt:=(Array.getElem?_eq_some_iff.1 hl).1
   have hy:=run_yield (P:=P) (args:=vs) hl (by rw [hrc];exact hsz pre x vs W hx)
   rw [hrc] at hy
   refine⟨fn,_,assign,body,hy,roundIn_of_wpIn hfn (hassign pre x vs W _ hx hi (by omega) ?_)⟩
   intro a' Wa hax hda hla hka
   rw [hl] at hla
   rw [hd] at hda
   have hlta:=(Array.getElem?_eq_some_iff.1 hla).1
   refine⟨_,run_beginRound hla (by rw [hrc]),?_⟩
   obtain⟨Wb,hWb⟩:∃Wb,Wa.putObj (w.heap.size+1) (.loop {rc .ready none with state:=.busy})=Wb:=⟨_,rfl⟩
   have hlb:Wb.heap[w.heap.size+1]?=some (.loop {rc .ready none with state:=.busy}):=by rw [←hWb];exact World.putObj_heap_same hlta
   have hdb:Wb.heap[w.heap.size]?=some (.deferred (some [])):=by rw [←hWb];exact (World.putObj_heap_other (by omega)).trans hda
   have hkb:Kp Wa Wb:=by rw [←hWb];exact hKp _ _ _ hla
   have haxb:Ax pre x a' Wb:=by rw [←hWb];exact hAx _ _ _ _ _ hax hla _
   rw [hWb]
   refine wpIn_mono (hbody pre x a' Wb haxb (by have:=(Array.getElem?_eq_some_iff.1 hlb).1;omega)) ?_
   rintro e a3 W3 hp
   cases e with
   | normal=>
    obtain⟨k1,k2,k3,k4⟩:=hp
    rw [hlb] at k2
    rw [hdb] at k1
    have:=run_endRound (P:=P) none k2
    rw [hrc] at this
    refine⟨_,_,this,.inl ⟨rfl,⟨hI _ _ _ k3 k2 _,?_,(World.putObj_heap_other (by omega)).trans k1⟩,hKt hka (hKt hkb (hKt k4 (hKp _ _ _ k2)))⟩⟩
    rw [World.putObj_heap_same (Array.getElem?_eq_some_iff.1 k2).1,hrc]
    rfl
   | ret=>
    obtain⟨k1,k2,k3⟩:=hp
    rw [hlb] at k2
    rw [hdb] at k1
    have:=run_endRound (P:=P) (some .ret) k2
    rw [hrc] at this
    refine⟨_,_,this,.inr ⟨rfl,hIx _ _ k3 k2 _,?_,(World.putObj_heap_other (by omega)).trans k1⟩⟩
    rw [World.putObj_heap_same (Array.getElem?_eq_some_iff.1 k2).1,hrc]
    rfl
   | exit id=>exact hp.elim
   | goto t=>exact hp.elim
   | panic ch=>exact hp.elim
   | outgrown=>exact hp.elim
theorem set_three {W:World}{b:Nat}{u0 u1 u2 v0 v1 v2:Value}{t:TypeId}(h:W.heap[b]?=some (.cells #[u0,u1,u2] t (0,0))):(((W.setCell ⟨b,0,none⟩ v0).setCell ⟨b,1,none⟩ v1).setCell ⟨b,2,none⟩ v2).heap[b]?=some (.cells #[v0,v1,v2] t (0,0)):=by
 rw [blk_set _ (blk_set _ (blk_set _ h))]
 rfl
theorem set_one {W:World}{b:Nat}{u0 v0:Value}{t:TypeId}(h:W.heap[b]?=some (.cells #[u0] t (0,0))):(W.setCell ⟨b,0,none⟩ v0).heap[b]?=some (.cells #[v0] t (0,0)):=by
 rw [blk_set _ h]
 rfl
theorem where_left {W:World}{D A:Nat}{q:Nat × Nat × Nat}{b:Bool}{x0 x1 x2 x3 x6 x7 x8 x9 x10 x11 x12 x13 x14 x15:Value}{R:Ending→World→Prop}(hD:W.heap[D]?=some (.deferred (some [])))(h2:W.heap[A+2]?=some (.cells (ptA q) 53 (0,0)))(h3:W.heap[A+3]?=some (.cells #[.bool b] 4 (0,0)))(hA2:A+2≠D)(hA3:A+3≠D)
  (hR:R (.returned (.tuple #[.agg (ptA q),.bool b])) (W.putObj D (.deferred none))):
  bodyPostM Fence.wide 6 Tryz.prog Tryz.f124 R .ret {tmps:=#[x0,x1,x2,x3,.pointer (some ⟨A+2,0,none⟩),.pointer (some ⟨A+3,0,none⟩),x6,x7,x8,x9,x10,x11,x12,x13,x14,x15],defers:=[{target:=.collected D,args:=#[]}]} W:=by
 refine⟨by simp,.inl ⟨_,_,rfl,run_takeDeferred hD,?_⟩⟩
 have g2:(W.putObj D (.deferred none)).heap[A+2]?=some (.cells (ptA q) 53 (0,0)):=(World.putObj_heap_other hA2).trans h2
 have g3:(W.putObj D (.deferred none)).heap[A+3]?=some (.cells #[.bool b] 4 (0,0)):=(World.putObj_heap_other hA3).trans h3
 generalize W.putObj D (.deferred none)=W2 at g2 g3 hR ⊢
 have c0:W2.cell? ⟨A+2,0,none⟩=some (.int .i64 q.1):=by rw [blk_cell g2];rfl
 have c1:W2.cell? ⟨A+2,1,none⟩=some (.int .i64 q.2.1):=by rw [blk_cell g2];rfl
 have c2:W2.cell? ⟨A+2,2,none⟩=some (.int .i64 q.2.2):=by rw [blk_cell g2];rfl
 have c3:W2.cell? ⟨A+3,0,none⟩=some (.bool b):=by rw [blk_cell g3];rfl
 exact⟨.tuple #[.agg (ptA q),.bool b],by simp [results,Tryz.results124,go_sem,c0,c1,c2,c3,ptA],hR⟩
set_option maxRecDepth 100000 in
set_option maxHeartbeats 8000000 in
theorem where_any {σ:Type}{step:σ→Prt→Bool × σ}{I:σ→(Nat→Prop)→World→Prop}{P:List Fun}{m:Nat}{W0 w:World}{K:Nat}{caps:Array Value}{v:Value}{s0:σ}{U0:Nat→Prop}
  (hK:Keeps P m W0 K caps step s0 I) (eg:∀args w,(callFunc K args).run Tryz.prog w=.ok (.enter K args) w) (hm:m=W0.heap.size) (hP:RdE 3 RdFun W0 v P) (hb0:Below m W0 w) (hU:∀k,U0 k→m≤k∧k<w.heap.size) (hI:I s0 U0 w)
  (hl1:P.length≤1000000) (hl2:∀d∈P,d.blocks.length≤1000000) (hl3:∀d∈P,∀x∈d.blocks,x.code.length≤1000000):
  Calls Tryz.prog 124 #[.agg #[v],.func (.func K) #[] caps] w fun e w'=>e=.returned (.tuple #[.agg (ptA (resAt (firstBad step s0 (partsL P)))),.bool (firstBad step s0 (partsL P)).isSome])∧Below m W0 w':=by
 obtain⟨a0,c0,rfl⟩:=hP.form
 refine (callsIn_wide (n:=6)).1 ?_
 have hr:=fun w=>Lib.hid (callsIn_wide (n:=5).2 (parts_call (.slice a0 P.length c0) w))
 have hfP:Fence.wide.fn 164:=trivial
 obtain⟨p,hp⟩:∃p,p=P.length:=⟨_,rfl⟩
 rw [←hp] at hr ⊢
 refine callsIn_of_wp_marks Tryz.func124 rfl trivial ?_ rfl
 simp only [Tryz.ntmps124,List.size_toArray,List.length_cons,List.length_nil,Nat.reduceAdd,Nat.reduceSub,Array.replicate_succ,Array.replicate_zero,List.push_toArray,List.append_toArray,List.nil_append,List.cons_append]
 replace hK:=Lib.hid hK
 replace eg:=Lib.hid eg
 replace hm:=Lib.hid hm
 replace hU:=Lib.hid hU
 replace hI:=Lib.hid hI
 replace hP:=Lib.hid hP
 replace hp:=Lib.hid hp
 replace hb0:=Lib.hid hb0
 replace hl1:=Lib.hid hl1
 replace hl2:=Lib.hid hl2
 replace hl3:=Lib.hid hl3
 gi_wp2_with (gi_at_call 164;refine (hr _).out.mono ?_;rintro e w' ⟨rfl,rfl⟩)
 obtain⟨A,hA⟩:∃A,A=w.heap.size:=⟨_,rfl⟩
 have hF:Hid (∃w5,w5=((((w.alloc (.cells #[.slice a0 p c0] 91)).alloc (.cells #[.func (.func K) #[] caps] 147)).alloc (.cells #[.int .i64 0,.int .i64 0,.int .i64 0] 53)).alloc (.cells #[.bool false] 4)).alloc (.cells #[.slice a0 p c0] 91)):=Lib.hid ⟨_,rfl⟩
 obtain⟨w5,hw5⟩:=hF.out
 rw [←hw5,←hA]
 have hs5:w5.heap.size=A+5:=by rw [hw5,hA];simp
 have h1:w5.heap[A+1]?=some (.cells #[.func (.func K) #[] caps] 147 (0,0)):=by rw [hw5];exact at_oldN (at_oldN (at_oldN (at_newN (by rw [hA];simp))))
 have h2:w5.heap[A+2]?=some (.cells #[.int .i64 0,.int .i64 0,.int .i64 0] 53 (0,0)):=by rw [hw5];exact at_oldN (at_oldN (at_newN (by rw [hA];simp)))
 have h3:w5.heap[A+3]?=some (.cells #[.bool false] 4 (0,0)):=by rw [hw5];exact at_oldN (at_newN (by rw [hA];simp))
 have h4:w5.heap[A+4]?=some (.cells #[.slice a0 p c0] 91 (0,0)):=by rw [hw5];exact at_newN (by rw [hA];simp)
 have hb5:Below A w w5:=by
  rw [hw5,hA]
  exact (((((Below.refl _ _).alloc (Nat.le_refl _) _).alloc (by simp) _).alloc (by simp;omega) _).alloc (by simp;omega) _).alloc (by simp;omega) _
 have hmA:m≤A:=by rw [hm.out,hA];have:=hb0.out.size;exact this
 have hI5:I s0 U0 w5:=hK.out.calm _ _ _ _ hI.out ⟨hb5.os,hb5.tape,hb5.output,hb5.size,fun k hk hn=>hb5.block k (by rw [hA];exact hk)⟩
 have hB5:Below m W0 w5:=hb0.out.trans (hb5.mono hmA)
 have hA1:w.heap.size≤A:=by omega
 have hA2:A≤w.heap.size:=by omega
 have hs5a:w5.heap.size≤A+5:=by omega
 have hs5b:A+5≤w5.heap.size:=by omega
 clear hw5 hF hr hA hs5
 rw [show A+1+1+1+1=A+4 from rfl,show A+1+1+1=A+3 from rfl,show A+1+1=A+2 from rfl]
 refine rangeFunc_ret (α:=Prt) rfl (by omega) (gf:=182) (lb:=#[.pointer (some ⟨A+4,0,none⟩)]) rfl trivial (enters_of Tryz.func182 (by kernel_rfl) rfl)
  (fun pre x vs W=>∃rest vs0,vs=#[.agg vs0]∧partsL P=pre++x::rest∧PrtV W0 x vs0∧Below m W0 W)
  (KpN m (A+4))
  (fun pre W=>∃U,WSt step I s0 m W0 A K caps pre U W)
  (fun W=>∃x,firstBad step s0 (partsL P)=some x∧W.heap[A+2]?=some (.cells (ptA x.at) 53 (0,0))∧W.heap[A+3]?=some (.cells #[.bool true] 4 (0,0))∧Below m W0 W)
  (fun pre x a' W=>∃U rest vs0 t6,a'={tmps:=#[.agg #[.slice a0 p c0],.func (.func K) #[] caps,.pointer (some ⟨A,0,none⟩),.pointer (some ⟨A+1,0,none⟩),.pointer (some ⟨A+2,0,none⟩),.pointer (some ⟨A+3,0,none⟩),.pointer (some ⟨t6,0,none⟩),.agg #[.slice a0 p c0],.func (.func 182) #[] #[.pointer (some ⟨A+4,0,none⟩)],.agg vs0,undef,undef,undef,undef,undef,undef],defers:=[]}∧
   WSt step I s0 m W0 A K caps pre U W∧¬U t6∧partsL P=pre++x::rest∧PrtV W0 x vs0∧W.heap[t6]?=some (.cells vs0 144 (0,0))∧A+7≤t6)
  (partsL P) ?hsz ?hI ?hIx ?hAx (fun h k=>h.trans k) ?hKp ?h0 ?hseq ?hassign ?hbody ?hdone ?hstop
 case hsz=>rintro pre x vs W ⟨rest,vs0,rfl,-⟩;rfl
 case hI=>
  rintro pre W r ⟨U,h⟩ hl r'
  exact⟨U,h.off hK.out hm.out (touch_putObj _ _ _) (fun k hk=>by subst hk;exact⟨fun hu=>by have:=h.own _ hu;omega,by omega,by omega,by omega,by omega⟩)⟩
 case hIx=>
  rintro W r ⟨x,e1,e2,e3,e4⟩ hl r'
  exact⟨x,e1,(World.putObj_heap_other (by omega)).trans e2,(World.putObj_heap_other (by omega)).trans e3,e4.trans ((touch_putObj W _ _).below (by rw [hm.out];exact e4.size) (fun k hk hs=>by omega))⟩
 case hAx=>
  rintro pre x a' W r ⟨U,rest,vs0,t6,rfl,h,hu,e1,e2,e3,e4⟩ hl r'
  exact⟨U,rest,vs0,t6,rfl,h.off hK.out hm.out (touch_putObj _ _ _) (fun k hk=>by subst hk;exact⟨fun hu=>by have:=h.own _ hu;omega,by omega,by omega,by omega,by omega⟩),hu,e1,e2,(World.putObj_heap_other (by omega)).trans e3,e4⟩
 case hKp=>
  intro W r r' hl
  have hlt:=(Array.getElem?_eq_some_iff.1 hl).1
  exact⟨(touch_putObj W _ _).below (by omega) (fun k hk hs=>by omega),World.putObj_heap_other (by omega)⟩
 case h0=>
  intro r
  have hT:Touch w5 ((w5.alloc (.deferred (some []))).alloc (.loop r)) (fun _=>False):=((Touch.refl _ _).alloc _).alloc _
  refine⟨U0,hK.out.calm _ _ _ _ hI5 (hT.mono (fun _ _ h=>h.elim)),fun k hk=>?_,rfl,at_oldN (at_oldN h1),at_oldN (at_oldN h2),at_oldN (at_oldN h3),hB5.trans (hT.below (by omega) (fun _ _ h=>h))⟩
  have:=hU.out k hk
  exact⟨this.1,by simp;omega,.inl (by omega)⟩
 case hseq=>
  intro J Jx r hyv hJ0
  have hT:Touch w5 ((w5.alloc (.deferred (some []))).alloc (.loop r)) (fun _=>False):=((Touch.refl _ _).alloc _).alloc _
  exact parts_in 5 (by omega) (w5.heap.size+1) J Jx hm.out hP.out (hB5.trans (hT.below (by omega) (fun _ _ h=>h))) (at_oldN (at_oldN (by rw [←hp.out];exact h4))) hl1.out hl2.out hl3.out (fun pre x rest vs W1 e1 e2 e3 e4=>hyv pre x _ W1 ⟨rest,vs,rfl,e1,e2,e4⟩ e3) hJ0
 case hassign=>
  rintro pre x vs W Kq ⟨rest,vs0,rfl,e1,e2,e3⟩ ⟨U,h⟩ hszW hKq
  obtain⟨q1,q2,q3,rfl⟩:=e2.form
  have hT:Touch W (W.alloc (.cells #[.int .i64 x.at.1,.int .i64 x.at.2.1,.int .i64 x.at.2.2,.pointer q1,.pointer q2,.pointer q3] 144)) (fun _=>False):=(Touch.refl _ _).alloc _
  have hfin:=hKq {tmps:=#[.agg #[.slice a0 p c0],.func (.func K) #[] caps,.pointer (some ⟨A,0,none⟩),.pointer (some ⟨A+1,0,none⟩),.pointer (some ⟨A+2,0,none⟩),.pointer (some ⟨A+3,0,none⟩),.pointer (some ⟨W.heap.size,0,none⟩),.agg #[.slice a0 p c0],.func (.func 182) #[] #[.pointer (some ⟨A+4,0,none⟩)],.agg #[.int .i64 x.at.1,.int .i64 x.at.2.1,.int .i64 x.at.2.2,.pointer q1,.pointer q2,.pointer q3],undef,undef,undef,undef,undef,undef],defers:=[]} _
   ⟨U,rest,_,W.heap.size,rfl,h.off hK.out hm.out hT (fun _ h=>h.elim),fun hu=>by have:=h.own _ hu;omega,e1,e2,at_newN rfl,by omega⟩
   (hT.block _ (by omega) (fun h=>h)) (hT.block _ (by omega) (fun h=>h)) ⟨hT.below (by omega) (fun _ _ h=>h),hT.block _ (by omega) (fun h=>h)⟩
  replace hfin:=Lib.hid hfin
  clear hKq e1 e2 e3 h hT
  gi_wp2
  exact hfin.out
 case hbody=>
  rintro pre x a' W ⟨U,rest,vs0,t6,rfl,h,hu,e1,e2,e3,e4⟩ hszW
  obtain⟨q1,q2,q3,rfl⟩:=e2.form
  have k1:W.cell? ⟨A+1,0,none⟩=some (.func (.func K) #[] caps):=by rw [blk_cell h.b1];rfl
  have t0:W.cell? ⟨t6,0,none⟩=some (.int .i64 x.at.1):=by rw [blk_cell e3];rfl
  have t1:W.cell? ⟨t6,1,none⟩=some (.int .i64 x.at.2.1):=by rw [blk_cell e3];rfl
  have t2:W.cell? ⟨t6,2,none⟩=some (.int .i64 x.at.2.2):=by rw [blk_cell e3];rfl
  have t3:W.cell? ⟨t6,3,none⟩=some (.pointer q1):=by rw [blk_cell e3];rfl
  have t4:W.cell? ⟨t6,4,none⟩=some (.pointer q2):=by rw [blk_cell e3];rfl
  have t5:W.cell? ⟨t6,5,none⟩=some (.pointer q3):=by rw [blk_cell e3];rfl
  have hcl:=hK.out.call (runSt step s0 pre) U x _ W ⟨pre,rest,e1,rfl,h.ok⟩ e2 h.bel h.st
  have hci:=Lib.hid (CallsIn.inRound (w5.heap.size+1) ((callsIn_wide (n:=3)).2 hcl))
  have heg:=eg.out
  obtain⟨bad,hbad⟩:∃bad,(step (runSt step s0 pre) x).1=bad:=⟨_,rfl⟩
  rw [hbad] at hci
  have hst:=Lib.hid h
  replace hbad:=Lib.hid hbad
  replace e1:=Lib.hid e1
  replace e2:=Lib.hid e2
  replace e3:=Lib.hid e3
  clear hcl h
  have hfK:Fence.wide.fn K:=trivial
  gi_wp2
  refine hci.out.mono ?_
  rintro e W2 ⟨U',rfl,hi2,hT2,hU2⟩
  have hh:=hst.out
  have nU:∀k,A≤k→k<A+7→¬U k:=fun k h1 h2 hu=>by have:=hh.own k hu;omega
  have hb:∀k,A≤k→k<A+7→W2.heap[k]?=W.heap[k]?:=fun k h1 h2=>hT2.block k (by omega) (nU k h1 h2)
  have b2:=(hb (A+2) (by omega) (by omega)).trans hh.b2
  have b3:=(hb (A+3) (by omega) (by omega)).trans hh.b3
  have hB2:Below m W W2:=hT2.below (by omega) (fun k hk hu=>by have:=hh.own k hu;omega)
  cases bad with
  | false=>
   have hw2:WSt step I s0 m W0 A K caps (pre++[x]) U' W2:=by
    refine⟨by rw [runSt_snoc];exact hi2,fun k hk=>?_,?_,(hb (A+1) (by omega) (by omega)).trans hh.b1,b2,b3,hh.bel.trans hB2⟩
    ·rcases hU2 k hk with h | h
     ·have h7:=hh.own k h
      have:=hT2.size
      exact⟨h7.1,by omega,h7.2.2⟩
     ·exact⟨by omega,h.2,.inr (by omega)⟩
    ·rw [firstBad_app hh.ok,firstBad_cons,hbad.out]
     rfl
   have hfin:leftP w5.heap.size (w5.heap.size+1) (fun W=>∃U,WSt step I s0 m W0 A K caps (pre++[x]) U W) (fun W=>∃x,firstBad step s0 (partsL P)=some x∧W.heap[A+2]?=some (.cells (ptA x.at) 53 (0,0))∧W.heap[A+3]?=some (.cells #[.bool true] 4 (0,0))∧Below m W0 W) (KpN m (A+4)) W .normal {tmps:=#[],defers:=[]} W2:=
    ⟨hb _ (by omega) (by omega),hb _ (by omega) (by omega),⟨U',hw2⟩,hB2,hb _ (by omega) (by omega)⟩
   replace hfin:=Lib.hid hfin
   clear hh nU hb b2 b3 hB2 hw2 hi2 hT2 hU2
   gi_wp2
   exact hfin.out
  | true=>
   have g3:W2.heap[t6]?=some (.cells #[.int .i64 x.at.1,.int .i64 x.at.2.1,.int .i64 x.at.2.2,.pointer q1,.pointer q2,.pointer q3] 144 (0,0)):=(hT2.block t6 (Array.getElem?_eq_some_iff.1 e3.out).1 hu).trans e3.out
   have r0:W2.cell? ⟨t6,0,none⟩=some (.int .i64 x.at.1):=by rw [blk_cell g3];rfl
   have r1:W2.cell? ⟨t6,1,none⟩=some (.int .i64 x.at.2.1):=by rw [blk_cell g3];rfl
   have r2:W2.cell? ⟨t6,2,none⟩=some (.int .i64 x.at.2.2):=by rw [blk_cell g3];rfl
   have z0:W2.cell? ⟨A+2,0,none⟩=some (.int .i64 0):=by rw [blk_cell b2];rfl
   have z1:W2.cell? ⟨A+2,1,none⟩=some (.int .i64 0):=by rw [blk_cell b2];rfl
   have z2:W2.cell? ⟨A+2,2,none⟩=some (.int .i64 0):=by rw [blk_cell b2];rfl
   have z3:W2.cell? ⟨A+3,0,none⟩=some (.bool false):=by rw [blk_cell b3];rfl
   have y2:∀j,W2.frozen? ⟨A+2,j,none⟩=false:=fun j=>by simp [World.frozen?,b2]
   have y3:W2.frozen? ⟨A+3,0,none⟩=false:=by simp [World.frozen?,b3]
   have y20:=y2 0
   have y21:=y2 1
   have y22:=y2 2
   have hT3:Touch W2 ((((W2.setCell ⟨A+2,0,none⟩ (.int .i64 x.at.1)).setCell ⟨A+2,1,none⟩ (.int .i64 x.at.2.1)).setCell ⟨A+2,2,none⟩ (.int .i64 x.at.2.2)).setCell ⟨A+3,0,none⟩ (.bool true)) (fun k=>k=A+2∨k=A+3):=
    ((((Touch.refl W2 _).setCell (a:=⟨A+2,0,none⟩) (fun _=>.inl rfl) _).setCell (a:=⟨A+2,1,none⟩) (fun _=>.inl rfl) _).setCell (a:=⟨A+2,2,none⟩) (fun _=>.inl rfl) _).setCell (a:=⟨A+3,0,none⟩) (fun _=>.inr rfl) _
   have hfb:firstBad step s0 (partsL P)=some x:=by
    rw [e1.out,firstBad_app hh.ok,firstBad_cons,hbad.out]
    rfl
   have hb3:((((W2.setCell ⟨A+2,0,none⟩ (.int .i64 x.at.1)).setCell ⟨A+2,1,none⟩ (.int .i64 x.at.2.1)).setCell ⟨A+2,2,none⟩ (.int .i64 x.at.2.2)).setCell ⟨A+3,0,none⟩ (.bool true)).heap[A+3]?=some (.cells #[.bool true] 4 (0,0)):=
    set_one (u0:=.bool false) ((Below.heap_setCell _ _ _ _ (by simp)).trans ((Below.heap_setCell _ _ _ _ (by simp)).trans ((Below.heap_setCell _ _ _ _ (by simp)).trans b3)))
   have hb2:((((W2.setCell ⟨A+2,0,none⟩ (.int .i64 x.at.1)).setCell ⟨A+2,1,none⟩ (.int .i64 x.at.2.1)).setCell ⟨A+2,2,none⟩ (.int .i64 x.at.2.2)).setCell ⟨A+3,0,none⟩ (.bool true)).heap[A+2]?=some (.cells (ptA x.at) 53 (0,0)):=
    (Below.heap_setCell _ _ _ _ (by simp)).trans (set_three b2)
   have hlt2:=hT2.size
   have hfin:leftP w5.heap.size (w5.heap.size+1) (fun W=>∃U,WSt step I s0 m W0 A K caps (pre++[x]) U W) (fun W=>∃x,firstBad step s0 (partsL P)=some x∧W.heap[A+2]?=some (.cells (ptA x.at) 53 (0,0))∧W.heap[A+3]?=some (.cells #[.bool true] 4 (0,0))∧Below m W0 W) (KpN m (A+4)) W .ret {tmps:=#[],defers:=[]} ((((W2.setCell ⟨A+2,0,none⟩ (.int .i64 x.at.1)).setCell ⟨A+2,1,none⟩ (.int .i64 x.at.2.1)).setCell ⟨A+2,2,none⟩ (.int .i64 x.at.2.2)).setCell ⟨A+3,0,none⟩ (.bool true)):=
    ⟨(hT3.block _ (by omega) (by omega)).trans (hb _ (by omega) (by omega)),(hT3.block _ (by omega) (by omega)).trans (hb _ (by omega) (by omega)),x,hfb,hb2,hb3,(hh.bel.trans hB2).trans (hT3.below (by omega) (fun k hk e=>by omega))⟩
   replace hfin:=Lib.hid hfin
   clear hh nU hb b2 b3 hB2 hi2 hT2 hU2 hT3 hfb hb3 hb2 g3 y2 t0 t1 t2 t3 t4 t5 k1
   gi_wp2
   exact hfin.out
 case hdone=>
  rintro W ⟨U,h⟩ hD
  have z0:W.cell? ⟨A+2,0,none⟩=some (.int .i64 0):=by rw [blk_cell h.b2];rfl
  have z1:W.cell? ⟨A+2,1,none⟩=some (.int .i64 0):=by rw [blk_cell h.b2];rfl
  have z2:W.cell? ⟨A+2,2,none⟩=some (.int .i64 0):=by rw [blk_cell h.b2];rfl
  have z3:W.cell? ⟨A+3,0,none⟩=some (.bool false):=by rw [blk_cell h.b3];rfl
  have y2:∀j,W.frozen? ⟨A+2,j,none⟩=false:=fun j=>by simp [World.frozen?,h.b2]
  have y3:W.frozen? ⟨A+3,0,none⟩=false:=by simp [World.frozen?,h.b3]
  have y20:=y2 0
  have y21:=y2 1
  have y22:=y2 2
  have hst:=Lib.hid h
  replace hD:=Lib.hid hD
  clear h y2
  gi_wp2
  have hT3:Touch W ((((W.setCell ⟨A+2,0,none⟩ (.int .i64 0)).setCell ⟨A+2,1,none⟩ (.int .i64 0)).setCell ⟨A+2,2,none⟩ (.int .i64 0)).setCell ⟨A+3,0,none⟩ (.bool false)) (fun k=>k=A+2∨k=A+3):=
   ((((Touch.refl W _).setCell (a:=⟨A+2,0,none⟩) (fun _=>.inl rfl) _).setCell (a:=⟨A+2,1,none⟩) (fun _=>.inl rfl) _).setCell (a:=⟨A+2,2,none⟩) (fun _=>.inl rfl) _).setCell (a:=⟨A+3,0,none⟩) (fun _=>.inr rfl) _
  have hlt:=(Array.getElem?_eq_some_iff.1 hD.out).1
  rw [hst.out.ok]
  refine where_left (D:=w5.heap.size) (A:=A) (q:=(0,0,0)) (b:=false) ((hT3.block _ hlt (by omega)).trans hD.out) ((Below.heap_setCell _ _ _ _ (by simp)).trans (set_three hst.out.b2))
   (set_one (u0:=.bool false) ((Below.heap_setCell _ _ _ _ (by simp)).trans ((Below.heap_setCell _ _ _ _ (by simp)).trans ((Below.heap_setCell _ _ _ _ (by simp)).trans hst.out.b3)))) (by omega) (by omega) ⟨rfl,?_⟩
  exact (hst.out.bel.trans (hT3.below (by omega) (fun k hk e=>by omega))).trans ((touch_putObj _ _ _).below (by simp;omega) (fun k hk e=>by omega))
 case hstop=>
  rintro W ⟨x,e1,e2,e3,e4⟩ hD
  replace e1:=Lib.hid e1
  replace e2:=Lib.hid e2
  replace e3:=Lib.hid e3
  replace hD:=Lib.hid hD
  gi_wp2
  rw [e1.out]
  have hlt:=(Array.getElem?_eq_some_iff.1 hD.out).1
  exact where_left (D:=w5.heap.size) (A:=A) (q:=x.at) (b:=true) hD.out e2.out e3.out (by omega) (by omega) ⟨rfl,e4.trans ((touch_putObj _ _ _).below (by omega) (fun k hk e=>by omega))⟩
end
section
open Go.RowKit Go.Maps
section
variable {w:World} {i1 i2 i3:Int} {q1 q2 q3:Option Addr}
theorem isFunc_v:Calls Tryz.prog 126 #[.agg #[.int .i64 i1,.int .i64 i2,.int .i64 i3,.pointer q1,.pointer q2,.pointer q3]] w fun e w'=>e=.returned (.bool q2.isNone)∧Below w.heap.size w w':=by
 cases q2<;>(go_enter Tryz.func126,Tryz.ntmps126;go_wp2;go_ret;exact⟨rfl,(Below.refl _ _).alloc (Nat.le_refl _) _⟩)
theorem isBlock_v:Calls Tryz.prog 128 #[.agg #[.int .i64 i1,.int .i64 i2,.int .i64 i3,.pointer q1,.pointer q2,.pointer q3]] w fun e w'=>e=.returned (.bool (!q2.isNone&&q3.isNone))∧Below w.heap.size w w':=by
 cases q2<;>cases q3<;>(go_enter Tryz.func128,Tryz.ntmps128;go_wp2;go_ret;exact⟨rfl,(Below.refl _ _).alloc (Nat.le_refl _) _⟩)
theorem op_none:Calls Tryz.prog 135 #[.agg #[.int .i64 i1,.int .i64 i2,.int .i64 i3,.pointer q1,.pointer q2,.pointer none]] w fun e w'=>e=.returned (.int .u8 0)∧Below w.heap.size w w':=by
 go_enter Tryz.func135,Tryz.ntmps135
 go_wp2
 go_ret
 exact⟨rfl,(Below.refl _ _).alloc (Nat.le_refl _) _⟩
theorem op_some {b o:Nat}{k:Int}(h:w.cell? ⟨b,o,none⟩=some (.int .u8 k)):Calls Tryz.prog 135 #[.agg #[.int .i64 i1,.int .i64 i2,.int .i64 i3,.pointer q1,.pointer q2,.pointer (some ⟨b,o,none⟩)]] w fun e w'=>e=.returned (.int .u8 k)∧Below w.heap.size w w':=by
 have hb:=cell_size h
 go_enter Tryz.func135,Tryz.ntmps135
 go_wp2
 go_ret
 exact⟨rfl,(Below.refl _ _).alloc (Nat.le_refl _) _⟩
end
def isCallB (k:Int):Bool:=(k==10) || (k==11)
theorem isCall_any (k:Int)(w:World):Calls Tryz.prog 134 #[.int .u8 k] w fun e w'=>e=.returned (.bool (isCallB k))∧w=w':=by
 unfold isCallB
 generalize h1:(k==10)=p
 generalize h2:(k==11)=q
 cases p<;>cases q<;>(go_enter Tryz.func134,Tryz.ntmps134;go_wp2;go_ret;exact⟨rfl,rfl⟩)
def endsB (k:Int):Bool:=((k==12) || (k==13)) || (k==14)
theorem ends_any (k:Int)(w:World):Calls Tryz.prog 142 #[.int .u8 k] w fun e w'=>e=.returned (.bool (endsB k))∧w=w':=by
 unfold endsB
 generalize h1:(k==12)=p
 generalize h2:(k==13)=q
 generalize h3:(k==14)=r
 cases p<;>cases q<;>cases r<;>(go_enter Tryz.func142,Tryz.ntmps142;go_wp2;go_ret;exact⟨rfl,rfl⟩)
def Prt.Fits:Prt→Prop
 | .fn _ d=>d.Fits
 | .blk _ _ d x=>d.Fits∧x.Fits
 | .ins _ _ i d x c=>d.Fits∧x.Fits∧c.Fits∧x.code[i]?=some c
theorem mem_cat {α β:Type}{g:Nat→α→List β}{l:List α}{y:β}(h:y∈cat g l):∃i z,l[i]?=some z∧y∈g i z:=by
 unfold cat at h
 obtain⟨r,hr,hy⟩:=List.mem_flatten.1 h
 obtain⟨i,hi,rfl⟩:=List.mem_mapIdx.1 hr
 exact⟨i,_,List.getElem?_eq_getElem hi,hy⟩
theorem parts_fits {P:List Fun}(h:∀d∈P,d.Fits){x:Prt}(hx:x∈partsL P):x.Fits:=by
 obtain⟨f,d,hd,hx⟩:=mem_cat hx
 have hf:=h d (List.mem_of_getElem? hd)
 unfold funL at hx
 rcases List.mem_cons.1 hx with rfl | hx
 ·exact hf
 ·obtain⟨b,y,hy,hx⟩:=mem_cat hx
  have hg:=hf.2.2.1 y (List.mem_of_getElem? hy)
  unfold blkL at hx
  rcases List.mem_cons.1 hx with rfl | hx
  ·exact⟨hf,hg⟩
  ·obtain⟨i,c,hc,hx⟩:=mem_cat hx
   rw [List.mem_singleton.1 hx]
   exact⟨hf,hg,hg.2.1 c (List.mem_of_getElem? hc),hc⟩
theorem FunAt.name {w:World}{b o:Nat}{d:Fun}(h:FunAt w b o d):w.cell? ⟨b,o,none⟩=some (.string d.name):=by
 obtain⟨-,vp,vb,-,-,h3,-⟩:=h
 exact h3
theorem FunAt.params {w:World}{b o:Nat}{d:Fun}(h:FunAt w b o d):∃a c,w.cell? ⟨b,o+1,none⟩=some (.slice a d.params.length c)∧RdS w (.slice a d.params.length c) d.params:=by
 obtain⟨-,vp,vb,h1,-,-,h4,-⟩:=h
 obtain⟨a,c,rfl⟩:=h1.shape
 exact⟨a,c,h4,h1⟩
theorem keepC {W W':World}(hb:Below W.heap.size W W'){p:Addr}{v:Value}(h:W.cell? p=some v):W'.cell? p=some v:=(hb.cell (p:=p) (cell_size h)).trans h
structure FnBox (W:World) (S b o f:Nat) (d:Fun) (pa ba:Option Addr) (pc bc:Nat):Prop where
 s0:W.cell? ⟨S,0,none⟩=some (.int .i64 f)
 s1:W.cell? ⟨S,1,none⟩=some (.int .i64 0)
 s2:W.cell? ⟨S,2,none⟩=some (.int .i64 0)
 s3:W.cell? ⟨S,3,none⟩=some (.pointer (some ⟨b,o,none⟩))
 s4:W.cell? ⟨S,4,none⟩=some (.pointer none)
 s5:W.cell? ⟨S,5,none⟩=some (.pointer none)
 f0:W.cell? ⟨b,o,none⟩=some (.string d.name)
 f1:W.cell? ⟨b,o+1,none⟩=some (.slice pa d.params.length pc)
 f2:W.cell? ⟨b,o+2,none⟩=some (.slice ba d.blocks.length bc)
 rp:RdS W (.slice pa d.params.length pc) d.params
 rb:RdE 2 RdBlk W (.slice ba d.blocks.length bc) d.blocks
theorem FnBox.keep {W W':World}{S b o f:Nat}{d:Fun}{pa ba:Option Addr}{pc bc:Nat}(h:FnBox W S b o f d pa ba pc bc)(hb:Below W.heap.size W W'):FnBox W' S b o f d pa ba pc bc:=
 ⟨keepC hb h.s0,keepC hb h.s1,keepC hb h.s2,keepC hb h.s3,keepC hb h.s4,keepC hb h.s5,keepC hb h.f0,keepC hb h.f1,keepC hb h.f2,Rd.below h.rp hb,RdE.below (fun _ _ h=>h.below hb) h.rb hb⟩
theorem FnBox.mk' {w:World}{f:Nat}{d:Fun}{vs:Array Value}(h:PrtV w (.fn f d) vs):∃b o pa ba pc bc,vs=#[.int .i64 f,.int .i64 0,.int .i64 0,.pointer (some ⟨b,o,none⟩),.pointer none,.pointer none]∧FnBox (w.alloc (.cells vs 144)) w.heap.size b o f d pa ba pc bc:=by
 obtain⟨b,o,rfl,hF⟩:=h
 have hb:Below w.heap.size w (w.alloc (.cells #[.int .i64 f,.int .i64 0,.int .i64 0,.pointer (some ⟨b,o,none⟩),.pointer none,.pointer none] 144)):=(Below.refl _ _).alloc (Nat.le_refl _) _
 obtain⟨pa,pc,hp,rp⟩:=hF.params
 obtain⟨ba,bc,hq,rq⟩:=hF.blocks
 have hN:(w.alloc (.cells #[.int .i64 f,.int .i64 0,.int .i64 0,.pointer (some ⟨b,o,none⟩),.pointer none,.pointer none] 144)).heap[w.heap.size]?=_:=at_newN rfl
 exact⟨b,o,pa,ba,pc,bc,rfl,by rw [blk_cell hN];rfl,by rw [blk_cell hN];rfl,by rw [blk_cell hN];rfl,by rw [blk_cell hN];rfl,by rw [blk_cell hN];rfl,by rw [blk_cell hN];rfl,keepC hb hF.name,keepC hb hp,keepC hb hq,Rd.below rp hb,RdE.below (fun _ _ h=>h.below hb) rq hb⟩
structure BlkBox (W:World) (S b o b2 o2 f k:Nat) (x:Blk) (ca:Option Addr) (cc:Nat):Prop where
 s0:W.cell? ⟨S,0,none⟩=some (.int .i64 f)
 s1:W.cell? ⟨S,1,none⟩=some (.int .i64 k)
 s2:W.cell? ⟨S,2,none⟩=some (.int .i64 0)
 s3:W.cell? ⟨S,3,none⟩=some (.pointer (some ⟨b,o,none⟩))
 s4:W.cell? ⟨S,4,none⟩=some (.pointer (some ⟨b2,o2,none⟩))
 s5:W.cell? ⟨S,5,none⟩=some (.pointer none)
 f0:W.cell? ⟨b2,o2,none⟩=some (.string x.label)
 f1:W.cell? ⟨b2,o2+1,none⟩=some (.slice ca x.code.length cc)
theorem BlkBox.keep {W W':World}{S b o b2 o2 f k:Nat}{x:Blk}{ca:Option Addr}{cc:Nat}(h:BlkBox W S b o b2 o2 f k x ca cc)(hb:Below W.heap.size W W'):BlkBox W' S b o b2 o2 f k x ca cc:=
 ⟨keepC hb h.s0,keepC hb h.s1,keepC hb h.s2,keepC hb h.s3,keepC hb h.s4,keepC hb h.s5,keepC hb h.f0,keepC hb h.f1⟩
theorem BlkBox.mk' {w:World}{f k:Nat}{d:Fun}{x:Blk}{vs:Array Value}(h:PrtV w (.blk f k d x) vs):∃b o b2 o2 ca cc,vs=#[.int .i64 f,.int .i64 k,.int .i64 0,.pointer (some ⟨b,o,none⟩),.pointer (some ⟨b2,o2,none⟩),.pointer none]∧BlkBox (w.alloc (.cells vs 144)) w.heap.size b o b2 o2 f k x ca cc:=by
 obtain⟨b,o,b2,o2,rfl,hF,hB⟩:=h
 have hb:Below w.heap.size w (w.alloc (.cells #[.int .i64 f,.int .i64 k,.int .i64 0,.pointer (some ⟨b,o,none⟩),.pointer (some ⟨b2,o2,none⟩),.pointer none] 144)):=(Below.refl _ _).alloc (Nat.le_refl _) _
 obtain⟨ca,cc,hq,rq⟩:=hB.code
 obtain⟨-,vc,-,hl,-⟩:=hB
 have hN:(w.alloc (.cells #[.int .i64 f,.int .i64 k,.int .i64 0,.pointer (some ⟨b,o,none⟩),.pointer (some ⟨b2,o2,none⟩),.pointer none] 144)).heap[w.heap.size]?=_:=at_newN rfl
 exact⟨b,o,b2,o2,ca,cc,rfl,by rw [blk_cell hN];rfl,by rw [blk_cell hN];rfl,by rw [blk_cell hN];rfl,by rw [blk_cell hN];rfl,by rw [blk_cell hN];rfl,by rw [blk_cell hN];rfl,keepC hb hl,keepC hb hq⟩
structure InsBox (W:World) (S b o b2 o2 b3 o3 f k i:Nat) (x:Blk) (c:Ins) (ca aa la:Option Addr) (cc ac lc:Nat):Prop where
 s0:W.cell? ⟨S,0,none⟩=some (.int .i64 f)
 s1:W.cell? ⟨S,1,none⟩=some (.int .i64 k)
 s2:W.cell? ⟨S,2,none⟩=some (.int .i64 i)
 s3:W.cell? ⟨S,3,none⟩=some (.pointer (some ⟨b,o,none⟩))
 s4:W.cell? ⟨S,4,none⟩=some (.pointer (some ⟨b2,o2,none⟩))
 s5:W.cell? ⟨S,5,none⟩=some (.pointer (some ⟨b3,o3,none⟩))
 f1:W.cell? ⟨b2,o2+1,none⟩=some (.slice ca x.code.length cc)
 c0:W.cell? ⟨b3,o3,none⟩=some (.int .u8 c.op)
 c1:W.cell? ⟨b3,o3+1,none⟩=some (.string c.dst)
 c5:W.cell? ⟨b3,o3+5,none⟩=some (.string c.fn)
 c6:W.cell? ⟨b3,o3+6,none⟩=some (.slice aa c.args.length ac)
 c7:W.cell? ⟨b3,o3+7,none⟩=some (.slice la c.labels.length lc)
 at_:InsAt W b3 o3 c
 ra:RdS W (.slice aa c.args.length ac) c.args
 rl:RdS W (.slice la c.labels.length lc) c.labels
 rc:RdE 8 RdIns W (.slice ca x.code.length cc) x.code
theorem InsBox.keep {W W':World}{S b o b2 o2 b3 o3 f k i:Nat}{x:Blk}{c:Ins}{ca aa la:Option Addr}{cc ac lc:Nat}(h:InsBox W S b o b2 o2 b3 o3 f k i x c ca aa la cc ac lc)(hb:Below W.heap.size W W'):InsBox W' S b o b2 o2 b3 o3 f k i x c ca aa la cc ac lc:=
 ⟨keepC hb h.s0,keepC hb h.s1,keepC hb h.s2,keepC hb h.s3,keepC hb h.s4,keepC hb h.s5,keepC hb h.f1,keepC hb h.c0,keepC hb h.c1,keepC hb h.c5,keepC hb h.c6,keepC hb h.c7,h.at_.below hb,Rd.below h.ra hb,Rd.below h.rl hb,RdE.below (fun _ _ h=>h.below hb) h.rc hb⟩
theorem InsBox.mk' {w:World}{f k i:Nat}{d:Fun}{x:Blk}{c:Ins}{vs:Array Value}(h:PrtV w (.ins f k i d x c) vs):∃b o b2 o2 b3 o3 ca aa la cc ac lc,vs=#[.int .i64 f,.int .i64 k,.int .i64 i,.pointer (some ⟨b,o,none⟩),.pointer (some ⟨b2,o2,none⟩),.pointer (some ⟨b3,o3,none⟩)]∧InsBox (w.alloc (.cells vs 144)) w.heap.size b o b2 o2 b3 o3 f k i x c ca aa la cc ac lc:=by
 obtain⟨b,o,b2,o2,b3,o3,rfl,hF,hB,hI⟩:=h
 have hb:Below w.heap.size w (w.alloc (.cells #[.int .i64 f,.int .i64 k,.int .i64 i,.pointer (some ⟨b,o,none⟩),.pointer (some ⟨b2,o2,none⟩),.pointer (some ⟨b3,o3,none⟩)] 144)):=(Below.refl _ _).alloc (Nat.le_refl _) _
 obtain⟨ca,cc,hq,rq⟩:=hB.code
 obtain⟨aa,ac,la,lc,r1,r2,c0,c1,-,-,-,c5,c6,c7⟩:=hI.cells
 have hN:(w.alloc (.cells #[.int .i64 f,.int .i64 k,.int .i64 i,.pointer (some ⟨b,o,none⟩),.pointer (some ⟨b2,o2,none⟩),.pointer (some ⟨b3,o3,none⟩)] 144)).heap[w.heap.size]?=_:=at_newN rfl
 exact⟨b,o,b2,o2,b3,o3,ca,aa,la,cc,ac,lc,rfl,by rw [blk_cell hN];rfl,by rw [blk_cell hN];rfl,by rw [blk_cell hN];rfl,by rw [blk_cell hN];rfl,by rw [blk_cell hN];rfl,by rw [blk_cell hN];rfl,keepC hb hq,keepC hb c0,keepC hb c1,keepC hb c5,keepC hb c6,keepC hb c7,hI.below hb,Rd.below r1 hb,Rd.below r2 hb,RdE.below (fun _ _ h=>h.below hb) rq hb⟩
theorem box_below (w:World)(o:Obj):Below w.heap.size w (w.alloc o):=(Below.refl _ _).alloc (Nat.le_refl _) _
end
end Go.Proofs.YtknkiaedgeejiaaGreatDoor
