/- Ow2, Ow3, SwS, Prg. -/
import Derived.Test.YtknkiaedgeejiaaGreatDoorSP24
import Derived.Test.YtknkiaedgeejiaaGreatDoorSP10
import Derived.Test.YtknkiaedgeejiaaGreatDoorSP19
import Derived.Test.YtknkiaedgeejiaaGreatDoorSP1
import Derived.Deep.RegionHeld3
namespace Go.Proofs.YtknkiaedgeejiaaGreatDoor
set_option linter.unusedVariables false
set_option linter.unusedSimpArgs false
section
open Go.RowKit Go.Maps Go.Shelf Go.WideMaps
attribute [local go_sem] Oper.semAt_some
theorem infoBlkO:(Tryz.prog.info? 43).map (fun i=>(i.zero,i.size,i.bytes))=some (some (.agg #[.string ⟨#[]⟩,.slice none 0 0]),2,40):=by kernel_rfl
theorem plain_blkO (w:World)(cs:List Value)(d:Blk)(h:RdBlkC w cs d):∀u∈cs,u.oneCell'=true:=by
 obtain⟨vc,rfl,hc⟩:=h
 obtain⟨a1,c1,rfl⟩:=hc.form
 intro u hu
 simp only [List.mem_cons,List.not_mem_nil,or_false] at hu
 rcases hu with rfl | rfl<;>rfl
theorem cells2O {w:World}{b:Nat}{x0 x1:Value}{t:TypeId}(h:w.heap[b]?=some (.cells #[x0,x1] t (0,0))):w.cell? ⟨b,0,none⟩=some x0∧w.cell? ⟨b,1,none⟩=some x1:=by
 refine⟨?_,?_⟩<;>(rw [blk_cell h];rfl)
theorem RowAt.away {α:Type}{c:Nat}{R:World→List Value→α→Prop}{w0 w wr w7:World}{Sb:Nat}{cs:Array Value}{tb te:TypeId}{v:Value}{L:List α}(h:RowAt c R w0 w wr Sb cs tb te v L)(t7:Touch wr w7 (fun _=>False)){No:Nat→Prop}(hn:∀k,No k→Mid w0 w k){w':World}(t:Touch w7 w' No):RdE c R w' v L:=by
 have h7:=h.row.go (t7.mono (fun _ _ h=>h.elim)) (fun g hg e=>by have:=(h.row.lt g hg).1;have:=e.2;omega)
 exact h7.to t (fun g hg e=>by have:=(h7.lt g hg).1;have:=(hn g e).2;omega) (fun k _ hk=>hn k hk)
set_option maxRecDepth 20000 in
set_option maxHeartbeats 4000000 in
theorem own2 {c:Code}(hc:Func.blockOf Tryz.f9 2=some c){Q:Exit→Act→World→Prop}{w0 w:World}{F5 nb cb Sb:Nat}{ab:Option Addr}{d:Fun}{c0 c1 n5 p5:Value}{u0 u1 u2 u3 u4 u8 u9 u10 u11 u12 u13 u14 u15 u16 u17 u18 u19 u20 u21 u22 u23 u24 u25 u26 u27 u28 u29 u30 u31 u32 u33 u34 u35 u36 u37 u38 u39 u40 u41 u42 u43 u44 u45 u46 u47 u48 u49 u50 u51 u52 u53 u54 u55 u56 u57 u58 u59 u60 u61 u62 u63 u64 u65 u66 u67 u68 u69 u70 u71 u72 u73 u74 u75 u76 u77 u78 u79 u80 u81 u82 u83 u84 u85 u86 u87 u88 u89 u90 u91 u92:Value}
  (hF:w.heap[F5]?=some (.cells #[n5,p5,.slice ab nb cb] 40 (0,0))) (hFS:F5≠Sb) (hB:Below w0.heap.size w0 w) (rc:RdE 2 RdBlkC w0 (.slice ab nb cb) d.blocks) (hX:w.heap[Sb]?=some (.cells #[c0,c1,.slice none 0 0] 40 (0,0))) (hSb:w0.heap.size≤Sb) (hnl:d.blocks.length≤1000000) (hal:∀x∈d.blocks,x.code.length≤1000000∧∀y∈x.code,y.args.length≤1000∧y.labels.length≤1000) (hPn:∀{x} {a a1:Act} {w1:World},Q (.panic x) a w1→a.defers=a1.defers→Q (.panic x) a1 w1)
  (hQ:Hid (∀{wx:World} {v7 v8 v9 v10 v30 v31 v32 v33 v34 v35 v36 v37 v38 v39 v40 v41 v42 v43 v44 v45 v46 v47 v48 v49 v50 v51 v52 v53 v54 v55 v56 v57 v58 v59 v60 v61 v62 v63 v64 v65 v66 v67 v68 v69 v70 v71 v72 v73 v74 v75 v76 v77 v78 v79 v80 v81 v82 v83 v84 v85:Value},(∃v,RowAt 2 RdBlkC w0 w wx Sb #[c0,c1,v] 40 43 v d.blocks)→Q .normal {tmps:=#[u0,u1,u2,u3,u4,.pointer (some ⟨F5,0,none⟩),.pointer (some ⟨Sb,0,none⟩),v7,v8,v9,v10,u11,u12,u13,u14,u15,u16,u17,u18,u19,u20,u21,u22,u23,u24,u25,u26,u27,u28,u29,v30,v31,v32,v33,v34,v35,v36,v37,v38,v39,v40,v41,v42,v43,v44,v45,v46,v47,v48,v49,v50,v51,v52,v53,v54,v55,v56,v57,v58,v59,v60,v61,v62,v63,v64,v65,v66,v67,v68,v69,v70,v71,v72,v73,v74,v75,v76,v77,v78,v79,v80,v81,v82,v83,v84,v85,u86,u87,u88,u89,u90,u91,u92],defers:=[]} wx)):
  c.wp Tryz.prog Q {tmps:=#[u0,u1,u2,u3,u4,.pointer (some ⟨F5,0,none⟩),.pointer (some ⟨Sb,0,none⟩),.int .i64 0,u8,u9,u10,u11,u12,u13,u14,u15,u16,u17,u18,u19,u20,u21,u22,u23,u24,u25,u26,u27,u28,u29,u30,u31,u32,u33,u34,u35,u36,u37,u38,u39,u40,u41,u42,u43,u44,u45,u46,u47,u48,u49,u50,u51,u52,u53,u54,u55,u56,u57,u58,u59,u60,u61,u62,u63,u64,u65,u66,u67,u68,u69,u70,u71,u72,u73,u74,u75,u76,u77,u78,u79,u80,u81,u82,u83,u84,u85,u86,u87,u88,u89,u90,u91,u92],defers:=[]} w:=by
 conv at hc=>lhs;whnf
 simp only [Option.some.injEq] at hc
 subst hc
 obtain⟨i0,hi0,hz0,hz1,hz2⟩:=info_parts infoBlkO
 have hn8:Hid (nb=d.blocks.length):=Lib.hid (by obtain⟨a,q,e⟩:=rc.form;simp only [Value.slice.injEq] at e;exact e.2.1)
 have hnm:nb≤1000000:=by rw [hn8.out];exact hnl
 have hXlt:Sb<w.heap.size:=(Array.getElem?_eq_some_iff.1 hX).1
 have hFlt:F5<w.heap.size:=(Array.getElem?_eq_some_iff.1 hF).1
 replace rc:=Lib.hid rc
 replace hF:=Lib.hid hF
 replace hB:=Lib.hid hB
 replace hX:=Lib.hid hX
 replace hal:=Lib.hid hal
 replace hn8:=Lib.hid hn8
 go_wp2_with fail
 go_loopw [7] (fun i wr=>∃(k:Nat) (v:Value),k≤nb∧i=.int .i64 k∧Hid (RowAt 2 RdBlkC w0 w wr Sb #[c0,c1,v] 40 43 v (d.blocks.take k))) (fun i _=>nb-(intOf i).toNat)
 case atStart=>exact⟨0,.slice none 0 0,Nat.zero_le _,rfl,Lib.hid ⟨hX.out,Touch.refl _ _,OwnE.nil _ _ _⟩⟩
 case round=>
  obtain⟨k,v,hk,rfl,hG⟩:=hrel
  have hB1:Below w0.heap.size w0 wr:=hB.out.trans (hG.out.touch.below hB.out.size (fun j hj e=>by omega))
  have hF1:wr.heap[F5]?=some (.cells #[n5,p5,.slice ab nb cb] 40 (0,0)):=(hG.out.touch.block F5 hFlt hFS).trans hF.out
  have s2:wr.cell? ⟨F5,2,none⟩=some (.slice ab nb cb):=by rw [blk_cell hF1];rfl
  have l2:F5<wr.heap.size:=cell_size s2
  by_cases hlt:k<nb
  ·have j1:decide ((k:Int)<(nb:Int))=true:=by simpa using hlt
   have j2:(k:Int)<(nb:Int):=by omega
   obtain⟨y,hy⟩:∃y,d.blocks[k]?=some y:=⟨_,List.getElem?_eq_getElem (by rw [←hn8.out.out];exact hlt)⟩
   obtain⟨g,off,cap,cs,e,hgl,⟨vc,rfl,rk⟩,-,hcell⟩:=rc.out.at hy
   rw [←hn8.out.out] at e
   simp only [Value.slice.injEq] at e
   obtain⟨rfl,-,rfl⟩:=e
   obtain⟨ac,cc,rfl⟩:=rk.form
   obtain⟨av,cv,hvv⟩:=hG.out.row.form
   rw [List.length_take_of_le (by rw [←hn8.out.out];omega)] at hvv
   subst hvv
   have q0:wr.cell? ⟨g,off+k*2,none⟩=some (.string y.label):=keepO hB1 (hcell 0 _ rfl)
   have l3:g<wr.heap.size:=cell_size q0
   have hcd:=Lib.hid (show w0.cell? ⟨g,off+k*2+1,none⟩=some (.slice ac y.code.length cc) from hcell 1 _ rfl)
   have hyf:=Lib.hid (hal.out y (List.mem_of_getElem? hy))
   replace hy:=Lib.hid hy
   replace rk:=Lib.hid rk
   replace hB1:=Lib.hid hB1
   replace hF1:=Lib.hid hF1
   clear hcell
   go_upto_block 4 with fail
   have hW5:Hid (Below w0.heap.size w0 (wr.alloc (.cells #[.string y.label,.slice none 0 0] 43))):=Lib.hid (hB1.out.alloc hB1.out.size _)
   refine own4 (by kernel_rfl) (w0:=w0) (x:=y) (F5:=F5) (n5:=n5) (p5:=p5) (at_oldN hF1.out) (by omega) hcd.out hW5.out rk.out (heap_alloc_new _ _) hB1.out.size j2 hyf.out.1 hyf.out.2 (fun h e=>hPn h e) (Lib.hid ?_)
   intros
   rename_i hx8
   rename World=>w6
   obtain⟨v6,hR6⟩:=hx8
   obtain⟨a6,c6,hv6⟩:=hR6.row.form
   subst hv6
   have hT6:=hR6.touch
   have hl6:wr.heap.size<w6.heap.size:=by have:=hT6.size;simp at this;omega
   have hlw:w.heap.size≤wr.heap.size:=hG.out.touch.size
   have hlSb:Sb<wr.heap.size:=by omega
   have hSb6:w6.heap[Sb]?=some (.cells #[c0,c1,.slice av k cv] 40 (0,0)):=(hT6.block Sb (by simp;omega) (by omega)).trans (at_oldN hG.out.blk)
   obtain⟨x0,x1⟩:=cells2O hR6.blk
   have p1:w6.cell? ⟨Sb,2,none⟩=some (.slice av k cv):=by rw [blk_cell hSb6];rfl
   have hTw6:Touch wr w6 (fun j=>j=Sb):=((Touch.refl wr (fun j=>j=Sb)).alloc _).then hT6 (fun j hj e=>by omega)
   have hv:∀g,(Value.slice av k cv).ownBlock=some g→¬Mid w0 w g:=fun g hg e=>by have:=(hG.out.row.lt g hg).1;have:=e.2;omega
   have hmid:Mid w0 w Sb:=⟨hSb,hXlt⟩
   have hTw7:=hTw6.alloc (.cells #[.string y.label,.slice a6 y.code.length c6] 43)
   have hown7:=Lib.hid (hG.out.row.go (hTw7.mono (fun j _ e=>by rw [e];exact hmid)) hv)
   have hz5:(wr.alloc (.cells #[.string y.label,.slice none 0 0] 43)).heap.size=wr.heap.size+1:=by simp
   have haw:Away (fun j=>(Value.slice av k cv).ownBlock=some j∨Mid w0 w j) RdBlkC (w6.alloc (.cells #[.string y.label,.slice a6 y.code.length c6] 43)) [.string y.label,.slice a6 y.code.length c6] y:=fun w' t'=>
    ⟨_,rfl,hR6.away ((Touch.refl w6 (fun _=>False)).alloc _) (fun j hj=>by
     have hb0:=hB.out.size
     rcases hj with hj | hj
     ·have h1:=(hG.out.row.lt j hj).1
      have h2:=(hG.out.row.lt j hj).2
      exact⟨by omega,by omega⟩
     ·exact⟨hj.1,by have:=hj.2;omega⟩) t'⟩
   have hrd7:Hid (RdE 2 (Away (fun j=>(Value.slice av k cv).ownBlock=some j∨Mid w0 w j) RdBlkC) (w6.alloc (.cells #[.string y.label,.slice a6 y.code.length c6] 43)) (.slice (some ⟨w6.heap.size,0,none⟩) 1 1) [y]):=Lib.hid (rde_oneO (t:=43) (heap_alloc_new _ _) haw rfl)
   replace hTw7:=Lib.hid hTw7
   replace hSb6:=Lib.hid hSb6
   have hlen:Hid ((d.blocks.take k).length=k):=Lib.hid (by rw [List.length_take_of_le (by rw [←hn8.out.out];omega)])
   have hlow:w.heap.size≤(w6.alloc (.cells #[.string y.label,.slice a6 y.code.length c6] 43)).heap.size:=by simp;omega
   clear hT6 hR6 hTw6 haw hv s2 q0
   go_wp2_with (at_builtin;refine wpList_append_away _ rfl _ _ 38 rfl w.heap.size 43 i0 _ 40 Tryz.underlying38 hi0 hz0 hz1 hz2 rfl (by decide) (Mid w0 w) (.slice av k cv) (d.blocks.take k) rfl hown7.out _ [y] rfl hrd7.out plain_blkO (by rw [hlen.out];simp;unfold maxLen;omega) (by rw [hlen.out];simp;omega) hlow ?_)
   intro v8 w8 hO8 hT8 hat8
   have hO8:OwnE 2 (Away (fun j=>v8.ownBlock=some j∨Mid w0 w j) RdBlkC) w8 w.heap.size 43 v8 (d.blocks.take (k+1)):=by
    rw [←take_snocO hy.out]
    exact hO8
   obtain⟨a8,c8,e8⟩:=hO8.form
   rw [List.length_take_of_le (by rw [←hn8.out.out];omega)] at e8
   subst e8
   have hSb8:w8.heap[Sb]?=some (.cells #[c0,c1,.slice av k cv] 40 (0,0)):=(hT8.block Sb (by simp;omega) (fun e=>by have:=(hown7.out.lt Sb e).1;omega)).trans (at_oldN hSb6.out)
   have f1:w8.frozen? ⟨Sb,2,none⟩=false:=by simp [World.frozen?,hSb8]
   have z1:w8.cell? ⟨Sb,2,none⟩=some (.slice av k cv):=by rw [blk_cell hSb8];rfl
   have hTs:Touch w8 (w8.setCell ⟨Sb,2,none⟩ (.slice a8 (k+1) c8)) (fun j=>j=Sb):=(Touch.refl w8 (fun j=>j=Sb)).setCell (a:=⟨Sb,2,none⟩) (fun _=>rfl) _
   have hfin:Hid (RowAt 2 RdBlkC w0 w (w8.setCell ⟨Sb,2,none⟩ (.slice a8 (k+1) c8)) Sb #[c0,c1,.slice a8 (k+1) c8] 40 43 (.slice a8 (k+1) c8) (d.blocks.take (k+1))):=Lib.hid ⟨blk_set (i:=2) _ hSb8,((hG.out.touch.trans hTw7.out).then hT8 (fun j hj e=>absurd (hown7.out.lt j e).1 (by omega))).setCell (a:=⟨Sb,2,none⟩) (fun _=>rfl) _,hO8.go (hTs.mono (fun j _ e=>by rw [e];exact hmid)) (fun g hg e=>by have:=(hO8.lt g hg).1;have:=e.2;omega)⟩
   clear hO8 hT8 hat8 hSb8 hTs hown7 hrd7 x0 x1 p1
   go_wp2_with fail
   go_roundw
   case rel=>exact⟨k+1,.slice a8 (k+1) c8,by omega,by go_num,hfin⟩
   case measure=>simp [intOf];omega
  ·obtain rfl:k=nb:=by omega
   have j1:decide ((k:Int)<(k:Int))=false:=by simp
   have hend:Hid (d.blocks.take k=d.blocks):=Lib.hid (by rw [List.take_of_length_le (by rw [←hn8.out.out];exact Nat.le_refl _)])
   clear hB1 hF1
   go_wp2_with fail
   refine hQ.out ⟨v,?_⟩
   rw [←hend.out]
   exact hG.out
end
section
open Go.RowKit Go.Maps Go.Shelf Go.WideMaps
attribute [local go_sem] Oper.semAt_some
theorem rdfc_below {w w':World}{v:Value}{P:List Fun}(h:RdE 3 RdFunC w v P)(hWB:Below w.heap.size w w'):RdE 3 RdFunC w' v P:=RdE.below (fun _ _ x=>(by obtain⟨vp,vb,e,h1,h2⟩:=x;exact⟨vp,vb,e,h1.below hWB,RdE.below (fun _ _ y=>(by obtain⟨vc,e,h3⟩:=y;exact⟨vc,e,RdE.below (fun _ _ z=>(by obtain⟨va,vl,e,h4,h5⟩:=z;exact⟨va,vl,e,h4.below hWB,h5.below hWB⟩)) h3 hWB⟩)) h2 hWB⟩)) h hWB
theorem plain_funO (w:World)(cs:List Value)(d:Fun)(h:RdFunC w cs d):∀u∈cs,u.oneCell'=true:=by
 obtain⟨vp,vb,rfl,hp,hb⟩:=h
 obtain⟨a1,c1,rfl⟩:=hp.1.shape
 obtain⟨a2,c2,rfl⟩:=hb.form
 intro u hu
 simp only [List.mem_cons,List.not_mem_nil,or_false] at hu
 rcases hu with rfl | rfl | rfl<;>rfl
theorem cells3O {w:World}{b:Nat}{x0 x1 x2:Value}{t:TypeId}(h:w.heap[b]?=some (.cells #[x0,x1,x2] t (0,0))):w.cell? ⟨b,0,none⟩=some x0∧w.cell? ⟨b,1,none⟩=some x1∧w.cell? ⟨b,2,none⟩=some x2:=by
 refine⟨?_,?_,?_⟩<;>(rw [blk_cell h];rfl)
theorem froz3O {w:World}{b:Nat}{x0 x1 x2:Value}{t:TypeId}(h:w.heap[b]?=some (.cells #[x0,x1,x2] t (0,0))):w.frozen? ⟨b,0,none⟩=false∧w.frozen? ⟨b,1,none⟩=false∧w.frozen? ⟨b,2,none⟩=false:=by
 refine⟨?_,?_,?_⟩<;>simp [World.frozen?,h]
theorem own_empty {w:World}{B base:Nat}{t:TypeId}(h:w.heap[B]?=some (.cells #[] t (0,0)))(hb:base≤B):w.ownsRow base t 1 (.slice (some ⟨B,0,none⟩) 0 0) 0 []:=⟨rfl,.inr ⟨B,0,#[],rfl,hb,h,Nat.le_refl _,Nat.zero_le _,rfl,rfl⟩⟩
theorem grown_copy {w wa w':World}{B:Nat}(t:Touch w wa (fun _=>False))(h:wa.grownBy w' (some B))(hB:w.heap.size≤B):Touch w w' (fun _=>False):=
 t.then (Touch.of_grown (S:=fun k=>k=B) h (fun k e=>by simpa [eq_comm] using e)) (fun k hk e=>by omega)
theorem infoFunO:(Tryz.prog.info? 40).map (fun i=>(i.zero,i.size,i.bytes))=some (some (.agg #[.string ⟨#[]⟩,.slice none 0 0,.slice none 0 0]),3,64):=by kernel_rfl
def OwnPost (w:World)(P:List Fun)(e:Ending)(w':World):Prop:=∃v',e=.returned (.agg #[v'])∧RdE 3 RdFunC w' v' P∧Below w.heap.size w w'
theorem own_not_cells {w:World}{base n g:Nat}{v:Value}{xs:List Value}{cs:Array Value}{fr:Nat × Nat}(h:w.ownsRow base 9 1 v n xs)(hb:w.heap[g]?=some (.cells cs 40 fr))(hg:v.ownBlock=some g):False:=by
 rcases h.2 with ⟨rfl,h0⟩ | ⟨g',cap,cur,rfl,h1,h2,h3⟩
 ·cases hg
 ·simp only [Value.ownBlock,Option.some.injEq] at hg
  subst hg
  rw [hb] at h2
  simp at h2
set_option maxRecDepth 20000 in
set_option maxHeartbeats 16000000 in
theorem own_any {w:World}{v:Value}{P:List Fun}(h:RdE 3 RdFunC w v P)(hlP:P.length≤1000000)(hal:∀d∈P,d.params.length≤1000000∧d.blocks.length≤1000000∧∀x∈d.blocks,x.code.length≤1000000∧∀c∈x.code,c.args.length≤1000∧c.labels.length≤1000):Calls Tryz.prog 9 #[.agg #[v]] w (OwnPost w P):=by
 obtain⟨i0,hi0,hz0,hz1,hz2⟩:=info_parts infoFunO
 obtain⟨j0,hj0,hy0,hy1,hy2⟩:=info_parts infoStrN
 obtain⟨a0,c0,rfl⟩:=h.form
 obtain⟨p,hp⟩:∃p,p=P.length:=⟨_,rfl⟩
 rw [←hp] at h hlP ⊢
 have hb0:Below w.heap.size w (w.alloc (.cells #[.slice a0 p c0] 24)):=(Below.refl _ _).alloc (Nat.le_refl _) _
 have h0:=Lib.hid (rdfc_below h hb0)
 have s00:(w.alloc (.cells #[.slice a0 p c0] 24)).cell? ⟨w.heap.size,0,none⟩=some (.slice a0 p c0):=by simp
 replace s00:=Lib.hid s00
 replace hp:=Lib.hid hp
 replace hal:=Lib.hid hal
 replace hb0:=Lib.hid hb0
 clear h
 go_enter Tryz.func9,Tryz.ntmps9
 go_upto_block 0 with fail
 have hw0:(w.alloc (.cells #[.slice a0 p c0] 24)).heap.size=w.heap.size+1:=by simp
 have hX:(((w.alloc (.cells #[.slice a0 p c0] 24)).alloc (.cells #[.slice none 0 0] 24)).alloc (.cells #[.slice none 0 0] 24)).heap[w.heap.size+1+1]?=some (.cells #[.slice none 0 0] 24 (0,0)):=at_newN (by simp)
 have hR:(((w.alloc (.cells #[.slice a0 p c0] 24)).alloc (.cells #[.slice none 0 0] 24)).alloc (.cells #[.slice none 0 0] 24)).heap[w.heap.size+1]?=some (.cells #[.slice none 0 0] 24 (0,0)):=at_oldN (at_newN (by simp))
 have hB:Below (w.heap.size+1) (w.alloc (.cells #[.slice a0 p c0] 24)) (((w.alloc (.cells #[.slice a0 p c0] 24)).alloc (.cells #[.slice none 0 0] 24)).alloc (.cells #[.slice none 0 0] 24)):=((Below.refl _ _).alloc (by simp) _).alloc (by simp) _
 have hB0:Below w.heap.size w (((w.alloc (.cells #[.slice a0 p c0] 24)).alloc (.cells #[.slice none 0 0] 24)).alloc (.cells #[.slice none 0 0] 24)):=(hb0.out.alloc (by simp) _).alloc (by simp;omega) _
 have hz1':(((w.alloc (.cells #[.slice a0 p c0] 24)).alloc (.cells #[.slice none 0 0] 24)).alloc (.cells #[.slice none 0 0] 24)).heap.size=w.heap.size+3:=by simp
 generalize (((w.alloc (.cells #[.slice a0 p c0] 24)).alloc (.cells #[.slice none 0 0] 24)).alloc (.cells #[.slice none 0 0] 24))=w1 at hX hR hB hB0 hz1' ⊢
 generalize (w.alloc (.cells #[.slice a0 p c0] 24))=w0 at hw0 h0 s00 hB hb0 ⊢
 obtain⟨S0,hS0⟩:∃S0,S0=w.heap.size:=⟨_,rfl⟩
 rw [←hw0] at hB
 rw [←hS0] at s00 hX hR hw0 hz1' ⊢
 have hmid:Mid w0 w1 (S0+1+1):=⟨by omega,by omega⟩
 have hmid1:Mid w0 w1 (S0+1):=⟨by omega,by omega⟩
 replace hX:=Lib.hid hX
 replace hR:=Lib.hid hR
 replace hB:=Lib.hid hB
 replace hB0:=Lib.hid hB0
 replace hS0:=Lib.hid hS0
 replace hw0:=Lib.hid hw0
 replace hz1':=Lib.hid hz1'
 go_wp2_with fail
 go_loopw [4] (fun i wr=>∃(k:Nat) (v:Value),k≤p∧i=.int .i64 k∧Hid (RowAt 3 RdFunC w0 w1 wr (S0+1+1) #[v] 24 40 v (P.take k))) (fun i _=>p-(intOf i).toNat)
 case atStart=>exact⟨0,.slice none 0 0,Nat.zero_le _,rfl,Lib.hid ⟨hX.out,Touch.refl _ _,OwnE.nil _ _ _⟩⟩
 case round=>
  obtain⟨k,v,hk,rfl,hG⟩:=hrel
  have hB1:Below w0.heap.size w0 wr:=hB.out.trans (hG.out.touch.below hB.out.size (fun j hj e=>by have:=hw0.out;omega))
  have s0:=keepO hB1 s00.out
  have s0l:S0<wr.heap.size:=cell_size s0
  obtain⟨av,cv,hvv⟩:=hG.out.row.form
  rw [List.length_take_of_le (by rw [←hp.out];omega)] at hvv
  subst hvv
  by_cases hlt:k<p
  ·have j1:decide ((k:Int)<(p:Int))=true:=by simpa using hlt
   have j2:(k:Int)<(p:Int):=by omega
   obtain⟨d,hd⟩:∃d,P[k]?=some d:=⟨_,List.getElem?_eq_getElem (by rw [←hp.out];exact hlt)⟩
   obtain⟨g,off,cap,cs,e,hgl,⟨vp,vb,rfl,rp,rb⟩,-,hcell⟩:=h0.out.at hd
   rw [←hp.out] at e
   simp only [Value.slice.injEq] at e
   obtain⟨rfl,-,rfl⟩:=e
   obtain⟨ap,cp,rfl⟩:=rp.1.shape
   obtain⟨ab,cb,rfl⟩:=rb.form
   have hda:=Lib.hid (hal.out d (List.mem_of_getElem? hd))
   obtain⟨np,hnp⟩:∃n,n=d.params.length:=⟨_,rfl⟩
   obtain⟨nb,hnb⟩:∃n,n=d.blocks.length:=⟨_,rfl⟩
   have hnp2:np≤1000000:=by rw [hnp];exact hda.out.1
   rw [←hnp,←hnb] at hcell
   rw [←hnp] at rp
   rw [←hnb] at rb
   have q0:wr.cell? ⟨g,off+k*3,none⟩=some (.string d.name):=keepO hB1 (hcell 0 _ rfl)
   have q1:wr.cell? ⟨g,off+k*3+1,none⟩=some (.slice ap np cp):=keepO hB1 (hcell 1 _ rfl)
   have q2:wr.cell? ⟨g,off+k*3+2,none⟩=some (.slice ab nb cb):=keepO hB1 (hcell 2 _ rfl)
   have l3:g<wr.heap.size:=cell_size q0
   have hYb:(wr.alloc (.cells #[.string d.name,.slice ap np cp,.slice ab nb cb] 40)).heap[wr.heap.size]?=some (.cells #[.string d.name,.slice ap np cp,.slice ab nb cb] 40 (0,0)):=heap_alloc_new _ _
   have hTa:=(Touch.refl wr (fun _=>False)).alloc (.cells #[.string d.name,.slice ap np cp,.slice ab nb cb] 40)
   have hz5:(wr.alloc (.cells #[.string d.name,.slice ap np cp,.slice ab nb cb] 40)).heap.size=wr.heap.size+1:=by simp
   replace hd:=Lib.hid hd
   replace hnp:=Lib.hid hnp
   replace hnb:=Lib.hid hnb
   replace rp:=Lib.hid rp
   replace rb:=Lib.hid rb
   replace hB1:=Lib.hid hB1
   clear hcell hgl
   go_upto_region 6 with fail
   clear q0 q1 q2 l3 s0 s0l
   obtain⟨F5,hF5⟩:∃Y,Y=wr.heap.size:=⟨_,rfl⟩
   rw [←hF5] at hYb ⊢
   generalize (wr.alloc (.cells #[.string d.name,.slice ap np cp,.slice ab nb cb] 40))=W5 at hYb hTa hz5 ⊢
   have hF5e:=Lib.hid (show F5=wr.heap.size∧W5.heap.size=wr.heap.size+1 from ⟨hF5,hz5⟩)
   have hFl:F5<W5.heap.size:=(Array.getElem?_eq_some_iff.1 hYb).1
   have hB5:=Lib.hid (hB1.out.trans (hTa.below hB1.out.size (fun j hj e=>e.elim)))
   have hCS:=Lib.hid (fun (W:World) (ht:Touch W5 W (fun _=>False))=>(by
    have e:=(ht.block F5 hFl (fun h=>h)).trans hYb
    exact⟨by rw [blk_cell e];rfl,by rw [blk_cell e];rfl⟩:W.cell? ⟨F5,0,none⟩=some (.string d.name)∧W.cell? ⟨F5,1,none⟩=some (.slice ap np cp)))
   have hC:=hCS.out (W5.drew) (Touch.refl W5 (fun _=>False)).drew
   replace hYb:=Lib.hid hYb
   replace hTa:=Lib.hid hTa
   clear hF5 hz5
   refine wp_region_held_drew (S:=(fun w'=>w'.cell? ⟨F5,0,none⟩=some (.string d.name)∧w'.cell? ⟨F5,1,none⟩=some (.slice ap np cp))) (by kernel_rfl) hC (fun hHeld=>?_)
   clear hHeld
   refine wpAnyH_take (i:=0) (oi:=(.mk (some 23) (.fieldAddr 40 (.tmp 5) 0) 0 "law.go:62" #[] none)) (v:=?_) rfl (by kernel_rfl) (by kernel_rfl) (by kernel_rfl) (fun _ _ _ h=>h) (Or.inl ⟨by rfl,?_⟩) hC ?_
   rotate_left
   ·(intro w hSw;(try dsimp only at hSw);go_simp;try with_reducible rfl)
   try simp only [Act.put,List.setIfInBounds_toArray,List.set_cons_zero,List.set_cons_succ]
   refine wpAnyH_take (i:=1) (oi:=(.mk (some 24) (.load 9 (.tmp 23)) 9 "law.go:62" #[.mk 0 .data] none)) (v:=?_) rfl (by kernel_rfl) (by kernel_rfl) (by kernel_rfl) (fun _ _ _ h=>h) (Or.inl ⟨by rfl,?_⟩) hC ?_
   rotate_left
   ·(intro w hSw;(try dsimp only at hSw);go_simp;try with_reducible rfl)
   try simp only [Act.put,List.setIfInBounds_toArray,List.set_cons_zero,List.set_cons_succ]
   refine wpAnyH_take (i:=3) (oi:=(.mk (some 26) (.fieldAddr 40 (.tmp 5) 1) 0 "law.go:62" #[] none)) (v:=?_) rfl (by kernel_rfl) (by kernel_rfl) (by kernel_rfl) (fun _ _ _ h=>h) (Or.inl ⟨by rfl,?_⟩) hC ?_
   rotate_left
   ·(intro w hSw;(try dsimp only at hSw);go_simp;try with_reducible rfl)
   try simp only [Act.put,List.setIfInBounds_toArray,List.set_cons_zero,List.set_cons_succ]
   refine wpAnyH_take (i:=4) (oi:=(.mk (some 27) (.load 37 (.tmp 26)) 37 "law.go:62" #[.mk 3 .data] none)) (v:=?_) rfl (by kernel_rfl) (by kernel_rfl) (by kernel_rfl) (fun _ _ _ h=>h) (Or.inl ⟨by rfl,?_⟩) hC ?_
   rotate_left
   ·(intro w hSw;(try dsimp only at hSw);go_simp;try with_reducible rfl)
   try simp only [Act.put,List.setIfInBounds_toArray,List.set_cons_zero,List.set_cons_succ]
   refine wpAnyH_ready (rs:=[2,7]) (by kernel_rfl) (by simp) (AllReadyH.cons (o:=(.mk (some 25) (.buildSlice 37 0 #[]) 37 "law.go:62" #[] none)) rfl (fun K hK=>?_) (AllReadyH.cons (o:=(.mk (some 6) (.alloc 40) 0 "law.go:62" #[] none)) rfl (fun K hK=>?_) AllReadyH.nil))
   ·skip
    go_simp
    have hT2:=Lib.hid (show Touch W5 (W5.drew.alloc (.cells #[] 9)) (fun _=>False) from (Touch.refl W5 (fun _=>False)).drew.alloc _)
    have hE:=Lib.hid (show (W5.drew.alloc (.cells #[] 9)).heap[W5.heap.size]?=some ((.cells #[] 9):Obj) from at_newN rfl)
    replace hC:=hCS.out _ hT2.out
    refine hK.out _ _ hC (fun hHeld=>?_)
    clear hK K hHeld
    try simp only [Act.put,List.setIfInBounds_toArray,List.set_cons_zero,List.set_cons_succ]
    refine wpAnyH_ready (rs:=[5,7]) (by kernel_rfl) (by simp) (AllReadyH.cons (o:=(.mk (some 28) (.call (.mk (.builtin Builtin.append) #[(.tmp 25),(.tmp 27)] #[37,37])) 37 "law.go:62" #[.mk 2 .data,.mk 4 .data] none)) rfl (fun K hK=>?_) (AllReadyH.cons (o:=(.mk (some 6) (.alloc 40) 0 "law.go:62" #[] none)) rfl (fun K hK=>?_) AllReadyH.nil))
    ·skip
     (refine step_append_rd _ rfl _ _ 37 rfl W5.heap.size 9 j0 (.string ⟨#[]⟩) 16 Tryz.underlying37 hj0 hy0 hy1 hy2 rfl (.slice (some ⟨W5.heap.size,0,none⟩) 0 0) 0 [] rfl (own_empty hE.out (by omega)) _ (d.params.map Value.string) (by rfl) (Rd.below rp.out.1 (hB5.out.trans (hT2.out.below hB5.out.size (fun _ _ h=>h.elim)))) (fun u hu=>by obtain⟨s,-,rfl⟩:=List.mem_map.1 hu;rfl) (by rw [List.length_map,←hnp.out];unfold maxLen;omega) (by rw [List.length_map,←hnp.out];omega) hT2.out.size ?_;intro v6 w6 hO6 hg6)
     rw [List.nil_append,Nat.zero_add,List.length_map,←hnp.out] at hO6
     obtain⟨a6,c6,rfl⟩:=own_formO hO6
     have hT6:=Lib.hid (grown_copy (B:=W5.heap.size) hT2.out hg6 (by omega))
     replace hO6:=Lib.hid hO6
     clear hg6
     replace hC:=hCS.out _ hT6.out
     refine hK.out _ _ hC (fun hHeld=>?_)
     clear hK K hHeld
     try simp only [Act.put,List.setIfInBounds_toArray,List.set_cons_zero,List.set_cons_succ]
     refine wpAnyH_take (i:=6) (oi:=(.mk (some 29) (.build 40 #[(0,(.tmp 24)),(1,(.tmp 28))]) 40 "law.go:62" #[.mk 1 .data,.mk 5 .data] none)) (v:=?_) rfl (by kernel_rfl) (by kernel_rfl) (by kernel_rfl) (fun _ _ _ h=>h) (Or.inl ⟨by rfl,?_⟩) hC ?_
     rotate_left
     ·(intro w hSw;(try dsimp only at hSw);go_simp;try with_reducible rfl)
     try simp only [Act.put,List.setIfInBounds_toArray,List.set_cons_zero,List.set_cons_succ]
     refine wpAnyH_ready (rs:=[7]) (by kernel_rfl) (by simp) (AllReadyH.cons (o:=(.mk (some 6) (.alloc 40) 0 "law.go:62" #[] none)) rfl (fun K hK=>?_) AllReadyH.nil)
     go_simp
     have hT7:=Lib.hid (hT6.out.alloc (.cells #[.string ⟨#[]⟩,.slice none 0 0,.slice none 0 0] 40))
     have hZ:=Lib.hid (show (w6.alloc (.cells #[.string ⟨#[]⟩,.slice none 0 0,.slice none 0 0] 40)).heap[w6.heap.size]?=some ((.cells #[.string ⟨#[]⟩,.slice none 0 0,.slice none 0 0] 40):Obj) from heap_alloc_new _ _)
     have hSlo:W5.heap.size≤w6.heap.size:=hT6.out.size
     obtain⟨b0,b1,b2⟩:=cells3O hZ.out
     obtain⟨f0,f1,f2⟩:=froz3O hZ.out
     replace hC:=hCS.out _ hT7.out
     refine hK.out _ _ hC (fun hHeld=>?_)
     clear hK K hHeld
     try simp only [Act.put,List.setIfInBounds_toArray,List.set_cons_zero,List.set_cons_succ]
     refine wpAnyH_ready (rs:=[8]) (by kernel_rfl) (by simp) (AllReadyH.cons (o:=(.mk none (.store 40 (.tmp 6) (.tmp 29)) 0 "law.go:62" #[.mk 7 .data,.mk 6 .data,.mk 5 .chain,.mk 0 .phase,.mk 1 .phase,.mk 2 .phase,.mk 3 .phase,.mk 4 .phase,.mk 5 .phase,.mk 6 .phase,.mk 7 .phase] none)) rfl (fun K hK=>?_) AllReadyH.nil)
     go_simp
     have hX2:(w6.alloc (.cells #[.string d.name,.slice a6 np c6,.slice none 0 0] 40)).heap[w6.heap.size]?=some (.cells #[.string d.name,.slice a6 np c6,.slice none 0 0] 40 (0,0)):=heap_alloc_new _ _
     have hT2:Touch W5 (w6.alloc (.cells #[.string d.name,.slice a6 np c6,.slice none 0 0] 40)) (fun _=>False):=hT6.out.alloc _
     have hO2:(w6.alloc (.cells #[.string d.name,.slice a6 np c6,.slice none 0 0] 40)).ownsRow W5.heap.size 9 1 (.slice a6 np c6) np (d.params.map Value.string):=ownsRow_touch (S:=fun _=>False) hO6.out ((Touch.refl w6 (fun _=>False)).alloc _) (fun _ _ h=>h)
     obtain⟨Sb,hSbe⟩:∃S,S=w6.heap.size:=⟨_,rfl⟩
     replace hSlo:W5.heap.size≤Sb:=by omega
     rw [←hSbe] at hX2
     rw [←hSbe]
     generalize (w6.alloc (.cells #[.string d.name,.slice a6 np c6,.slice none 0 0] 40))=w2 at hX2 hT2 hO2 ⊢
     replace hC:=hCS.out _ hT2
     clear b0 b1 b2 f0 f1 f2 hZ hSbe
     refine hK.out _ _ hC (fun hHeld=>?_)
     clear hK K hHeld
     try simp only [Act.put,List.setIfInBounds_toArray,List.set_cons_zero,List.set_cons_succ]
     refine wpAnyH_done (by kernel_rfl) ?_ _
     clear hC hCS
     replace hX2:=Lib.hid hX2
     replace hO2:=Lib.hid hO2
     replace hT2:=Lib.hid hT2
     go_upto_block 2 with fail
     have hW2:Below w0.heap.size w0 w2:=hB5.out.trans (hT2.out.below hB5.out.size (fun j hj e=>e.elim))
     have hF2:w2.heap[F5]?=some (.cells #[.string d.name,.slice ap np cp,.slice ab nb cb] 40 (0,0)):=(hT2.out.block F5 hFl (fun h=>h)).trans hYb.out
     refine own2 (by kernel_rfl) (w0:=w0) (d:=d) (F5:=F5) hF2 (by omega) hW2 rb.out hX2.out (by have:=hB5.out.size;omega) hda.out.2.1 hda.out.2.2 (fun {_ a a1 _} h e=>by cases a;cases a1;cases e;exact h) (Lib.hid ?_)
     intros
     rename_i hx8
     rename World=>w9
     obtain⟨v9,hR9⟩:=hx8
     obtain⟨a9,c9,hv9⟩:=hR9.row.form
     rw [←hnb.out] at hv9
     subst hv9
     have hT9:=hR9.touch
     have hl9:w2.heap.size≤w9.heap.size:=hT9.size
     have hl2:W5.heap.size≤w2.heap.size:=hT2.out.size
     have hlw:w1.heap.size≤wr.heap.size:=hG.out.touch.size
     have hlSb:S0+1+1<wr.heap.size:=by have:=hmid.2;omega
     have hl5:F5=wr.heap.size∧W5.heap.size=wr.heap.size+1:=hF5e.out
     have hSb9:w9.heap[S0+1+1]?=some (.cells #[.slice av k cv] 24 (0,0)):=(hT9.block _ (by omega) (by omega)).trans ((hT2.out.block _ (by omega) (fun h=>h)).trans ((hTa.out.block _ hlSb (fun h=>h)).trans hG.out.blk))
     obtain⟨x0,x1,x2⟩:=cells3O hR9.blk
     have p1:w9.cell? ⟨S0+1+1,0,none⟩=some (.slice av k cv):=by rw [blk_cell hSb9];rfl
     have hTw6:Touch wr w9 (fun j=>j=S0+1+1):=(hTa.out.mono (fun _ _ h=>h.elim)).then ((hT2.out.mono (S':=fun j=>j=S0+1+1) (fun _ _ h=>h.elim)).then hT9 (fun j hj e=>by omega)) (fun j hj e=>e)
     have hv:∀g,(Value.slice av k cv).ownBlock=some g→¬Mid w0 w1 g:=fun g hg e=>by have:=(hG.out.row.lt g hg).1;have:=e.2;omega
     have hTw7:=hTw6.alloc (.cells #[.string d.name,.slice a6 np c6,.slice a9 nb c9] 40)
     have hown7:=Lib.hid (hG.out.row.go (hTw7.mono (fun j _ e=>by rw [e];exact hmid)) hv)
     have hno:∀j,((Value.slice av k cv).ownBlock=some j∨Mid w0 w1 j)→w0.heap.size≤j∧j<wr.heap.size:=fun j hj=>by
      have hbx:=hB.out.size
      rcases hj with hj | hj
      ·have h1:=(hG.out.row.lt j hj).1
       have h2:=(hG.out.row.lt j hj).2
       omega
      ·exact⟨hj.1,by have:=hj.2;omega⟩
     have hO7:=ownsRow_touch (S:=fun j=>j=Sb) hO2.out (hT9.alloc (.cells #[.string d.name,.slice a6 np c6,.slice a9 nb c9] 40)) (fun g hg e=>by subst e;exact own_not_cells hO2.out hX2.out hg)
     have haw:Away (fun j=>(Value.slice av k cv).ownBlock=some j∨Mid w0 w1 j) RdFunC (w9.alloc (.cells #[.string d.name,.slice a6 np c6,.slice a9 nb c9] 40)) [.string d.name,.slice a6 np c6,.slice a9 nb c9] d:=fun w' t'=>
      ⟨_,_,rfl,rdc_own (ownsRow_touch hO7 t' (fun g hg hj=>by have h1:=(hO7.lt g hg).1;have:=(hno g hj).2;omega)),hR9.away ((Touch.refl w9 (fun _=>False)).alloc _) (fun j hj=>⟨(hno j hj).1,by have:=(hno j hj).2;omega⟩) t'⟩
     have hrd7:Hid (RdE 3 (Away (fun j=>(Value.slice av k cv).ownBlock=some j∨Mid w0 w1 j) RdFunC) (w9.alloc (.cells #[.string d.name,.slice a6 np c6,.slice a9 nb c9] 40)) (.slice (some ⟨w9.heap.size,0,none⟩) 1 1) [d]):=Lib.hid (rde_oneO (t:=40) (heap_alloc_new _ _) haw rfl)
     replace hTw7:=Lib.hid hTw7
     replace hSb9:=Lib.hid hSb9
     have hlen:Hid ((P.take k).length=k):=Lib.hid (by rw [List.length_take_of_le (by rw [←hp.out];omega)])
     have hlow:w1.heap.size≤(w9.alloc (.cells #[.string d.name,.slice a6 np c6,.slice a9 nb c9] 40)).heap.size:=by simp;omega
     clear hT9 hR9 hTw6 haw hv hno hO7
     go_wp2_with (at_builtin;refine wpList_append_away _ rfl _ _ 22 rfl w1.heap.size 40 i0 _ 64 Tryz.underlying22 hi0 hz0 hz1 hz2 rfl (by decide) (Mid w0 w1) (.slice av k cv) (P.take k) rfl hown7.out _ [d] rfl hrd7.out plain_funO (by rw [hlen.out];simp;unfold maxLen;omega) (by rw [hlen.out];simp;omega) hlow ?_)
     intro v8 w8 hO8 hT8 hat8
     have hO8:OwnE 3 (Away (fun j=>v8.ownBlock=some j∨Mid w0 w1 j) RdFunC) w8 w1.heap.size 40 v8 (P.take (k+1)):=by
      rw [←take_snocO hd.out]
      exact hO8
     obtain⟨a8,c8,e8⟩:=hO8.form
     rw [List.length_take_of_le (by rw [←hp.out];omega)] at e8
     subst e8
     have hSb8:w8.heap[S0+1+1]?=some (.cells #[.slice av k cv] 24 (0,0)):=(hT8.block _ (by simp;omega) (fun e=>by have:=(hown7.out.lt _ e).1;have:=hmid.2;omega)).trans (at_oldN hSb9.out)
     have f1:w8.frozen? ⟨S0+1+1,0,none⟩=false:=by simp [World.frozen?,hSb8]
     have z1:w8.cell? ⟨S0+1+1,0,none⟩=some (.slice av k cv):=by rw [blk_cell hSb8];rfl
     have hTs:Touch w8 (w8.setCell ⟨S0+1+1,0,none⟩ (.slice a8 (k+1) c8)) (fun j=>j=S0+1+1):=(Touch.refl w8 (fun j=>j=S0+1+1)).setCell (a:=⟨S0+1+1,0,none⟩) (fun _=>rfl) _
     have hfin:Hid (RowAt 3 RdFunC w0 w1 (w8.setCell ⟨S0+1+1,0,none⟩ (.slice a8 (k+1) c8)) (S0+1+1) #[.slice a8 (k+1) c8] 24 40 (.slice a8 (k+1) c8) (P.take (k+1))):=Lib.hid ⟨blk_set (i:=0) _ hSb8,((hG.out.touch.trans hTw7.out).then hT8 (fun j hj e=>absurd (hown7.out.lt j e).1 (by omega))).setCell (a:=⟨S0+1+1,0,none⟩) (fun _=>rfl) _,hO8.go (hTs.mono (fun j _ e=>by rw [e];exact hmid)) (fun g hg e=>by have:=(hO8.lt g hg).1;have:=e.2;omega)⟩
     clear hO8 hT8 hat8 hSb8 hTs hown7 hrd7 x0 x1 x2 p1
     go_wp2_with fail
     go_roundw
     case rel=>exact⟨k+1,.slice a8 (k+1) c8,by omega,by go_num,hfin⟩
     case measure=>simp [intOf];omega
    ·skip
     go_simp
     have hT7:=Lib.hid (hT2.out.alloc (.cells #[.string ⟨#[]⟩,.slice none 0 0,.slice none 0 0] 40))
     have hZ:=Lib.hid (show ((W5.drew.alloc (.cells #[] 9)).alloc (.cells #[.string ⟨#[]⟩,.slice none 0 0,.slice none 0 0] 40)).heap[W5.heap.size+1]?=some ((.cells #[.string ⟨#[]⟩,.slice none 0 0,.slice none 0 0] 40):Obj) from at_newN (by simp))
     replace hE:=Lib.hid (show ((W5.drew.alloc (.cells #[] 9)).alloc (.cells #[.string ⟨#[]⟩,.slice none 0 0,.slice none 0 0] 40)).heap[W5.heap.size]?=some ((.cells #[] 9):Obj) from at_oldN hE.out)
     replace hC:=hCS.out _ hT7.out
     refine hK.out _ _ hC (fun hHeld=>?_)
     clear hK K hHeld
     try simp only [Act.put,List.setIfInBounds_toArray,List.set_cons_zero,List.set_cons_succ]
     refine wpAnyH_ready (rs:=[5]) (by kernel_rfl) (by simp) (AllReadyH.cons (o:=(.mk (some 28) (.call (.mk (.builtin Builtin.append) #[(.tmp 25),(.tmp 27)] #[37,37])) 37 "law.go:62" #[.mk 2 .data,.mk 4 .data] none)) rfl (fun K hK=>?_) AllReadyH.nil)
     (refine step_append_rd _ rfl _ _ 37 rfl W5.heap.size 9 j0 (.string ⟨#[]⟩) 16 Tryz.underlying37 hj0 hy0 hy1 hy2 rfl (.slice (some ⟨W5.heap.size,0,none⟩) 0 0) 0 [] rfl (own_empty hE.out (by omega)) _ (d.params.map Value.string) (by rfl) (Rd.below rp.out.1 (hB5.out.trans (hT7.out.below hB5.out.size (fun _ _ h=>h.elim)))) (fun u hu=>by obtain⟨s,-,rfl⟩:=List.mem_map.1 hu;rfl) (by rw [List.length_map,←hnp.out];unfold maxLen;omega) (by rw [List.length_map,←hnp.out];omega) hT7.out.size ?_;intro v6 w6 hO6 hg6)
     rw [List.nil_append,Nat.zero_add,List.length_map,←hnp.out] at hO6
     obtain⟨a6,c6,rfl⟩:=own_formO hO6
     have hZl:=(Array.getElem?_eq_some_iff.1 hZ.out).1
     have hZ6:=Lib.hid (((Touch.of_grown (S:=fun k=>k=W5.heap.size) hg6 (fun k e=>by simpa [Value.ownBlock,eq_comm] using e)).block (W5.heap.size+1) hZl (fun e=>by omega)).trans hZ.out)
     replace hZ:=hZ6
     clear hZ6 hZl
     have hT6:=Lib.hid (grown_copy (B:=W5.heap.size) hT7.out hg6 (by omega))
     replace hO6:=Lib.hid hO6
     clear hg6
     have hSlo:W5.heap.size≤W5.heap.size+1:=by omega
     obtain⟨b0,b1,b2⟩:=cells3O hZ.out
     obtain⟨f0,f1,f2⟩:=froz3O hZ.out
     replace hC:=hCS.out _ hT6.out
     refine hK.out _ _ hC (fun hHeld=>?_)
     clear hK K hHeld
     try simp only [Act.put,List.setIfInBounds_toArray,List.set_cons_zero,List.set_cons_succ]
     refine wpAnyH_take (i:=6) (oi:=(.mk (some 29) (.build 40 #[(0,(.tmp 24)),(1,(.tmp 28))]) 40 "law.go:62" #[.mk 1 .data,.mk 5 .data] none)) (v:=?_) rfl (by kernel_rfl) (by kernel_rfl) (by kernel_rfl) (fun _ _ _ h=>h) (Or.inl ⟨by rfl,?_⟩) hC ?_
     rotate_left
     ·(intro w hSw;(try dsimp only at hSw);go_simp;try with_reducible rfl)
     try simp only [Act.put,List.setIfInBounds_toArray,List.set_cons_zero,List.set_cons_succ]
     refine wpAnyH_ready (rs:=[8]) (by kernel_rfl) (by simp) (AllReadyH.cons (o:=(.mk none (.store 40 (.tmp 6) (.tmp 29)) 0 "law.go:62" #[.mk 7 .data,.mk 6 .data,.mk 5 .chain,.mk 0 .phase,.mk 1 .phase,.mk 2 .phase,.mk 3 .phase,.mk 4 .phase,.mk 5 .phase,.mk 6 .phase,.mk 7 .phase] none)) rfl (fun K hK=>?_) AllReadyH.nil)
     go_simp
     have hX2:(((w6.setCell ⟨W5.heap.size+1,0,none⟩ (.string d.name)).setCell ⟨W5.heap.size+1,1,none⟩ (.slice a6 np c6)).setCell ⟨W5.heap.size+1,2,none⟩ (.slice none 0 0)).heap[W5.heap.size+1]?=some (.cells #[.string d.name,.slice a6 np c6,.slice none 0 0] 40 (0,0)):=blk_set (i:=2) _ (blk_set (i:=1) _ (blk_set (i:=0) _ hZ.out))
     have hTs:Touch w6 (((w6.setCell ⟨W5.heap.size+1,0,none⟩ (.string d.name)).setCell ⟨W5.heap.size+1,1,none⟩ (.slice a6 np c6)).setCell ⟨W5.heap.size+1,2,none⟩ (.slice none 0 0)) (fun j=>j=W5.heap.size+1):=(((Touch.refl w6 (fun j=>j=W5.heap.size+1)).setCell (a:=⟨W5.heap.size+1,0,none⟩) (fun _=>rfl) _).setCell (a:=⟨W5.heap.size+1,1,none⟩) (fun _=>rfl) _).setCell (a:=⟨W5.heap.size+1,2,none⟩) (fun _=>rfl) _
     have hT2:Touch W5 (((w6.setCell ⟨W5.heap.size+1,0,none⟩ (.string d.name)).setCell ⟨W5.heap.size+1,1,none⟩ (.slice a6 np c6)).setCell ⟨W5.heap.size+1,2,none⟩ (.slice none 0 0)) (fun _=>False):=hT6.out.then hTs (fun j hj e=>by omega)
     have hO2:(((w6.setCell ⟨W5.heap.size+1,0,none⟩ (.string d.name)).setCell ⟨W5.heap.size+1,1,none⟩ (.slice a6 np c6)).setCell ⟨W5.heap.size+1,2,none⟩ (.slice none 0 0)).ownsRow W5.heap.size 9 1 (.slice a6 np c6) np (d.params.map Value.string):=ownsRow_touch hO6.out hTs (fun g hg e=>by subst e;exact own_not_cells hO6.out hZ.out hg)
     obtain⟨Sb,hSbe⟩:∃S,S=W5.heap.size+1:=⟨_,rfl⟩
     replace hSlo:W5.heap.size≤Sb:=by omega
     rw [←hSbe] at hX2 hT2 hO2
     rw [←hSbe]
     generalize (((w6.setCell ⟨Sb,0,none⟩ (.string d.name)).setCell ⟨Sb,1,none⟩ (.slice a6 np c6)).setCell ⟨Sb,2,none⟩ (.slice none 0 0))=w2 at hX2 hT2 hO2 ⊢
     replace hC:=hCS.out _ hT2
     clear b0 b1 b2 f0 f1 f2 hTs hZ hSbe
     refine hK.out _ _ hC (fun hHeld=>?_)
     clear hK K hHeld
     try simp only [Act.put,List.setIfInBounds_toArray,List.set_cons_zero,List.set_cons_succ]
     refine wpAnyH_done (by kernel_rfl) ?_ _
     clear hC hCS
     replace hX2:=Lib.hid hX2
     replace hO2:=Lib.hid hO2
     replace hT2:=Lib.hid hT2
     go_upto_block 2 with fail
     have hW2:Below w0.heap.size w0 w2:=hB5.out.trans (hT2.out.below hB5.out.size (fun j hj e=>e.elim))
     have hF2:w2.heap[F5]?=some (.cells #[.string d.name,.slice ap np cp,.slice ab nb cb] 40 (0,0)):=(hT2.out.block F5 hFl (fun h=>h)).trans hYb.out
     refine own2 (by kernel_rfl) (w0:=w0) (d:=d) (F5:=F5) hF2 (by omega) hW2 rb.out hX2.out (by have:=hB5.out.size;omega) hda.out.2.1 hda.out.2.2 (fun {_ a a1 _} h e=>by cases a;cases a1;cases e;exact h) (Lib.hid ?_)
     intros
     rename_i hx8
     rename World=>w9
     obtain⟨v9,hR9⟩:=hx8
     obtain⟨a9,c9,hv9⟩:=hR9.row.form
     rw [←hnb.out] at hv9
     subst hv9
     have hT9:=hR9.touch
     have hl9:w2.heap.size≤w9.heap.size:=hT9.size
     have hl2:W5.heap.size≤w2.heap.size:=hT2.out.size
     have hlw:w1.heap.size≤wr.heap.size:=hG.out.touch.size
     have hlSb:S0+1+1<wr.heap.size:=by have:=hmid.2;omega
     have hl5:F5=wr.heap.size∧W5.heap.size=wr.heap.size+1:=hF5e.out
     have hSb9:w9.heap[S0+1+1]?=some (.cells #[.slice av k cv] 24 (0,0)):=(hT9.block _ (by omega) (by omega)).trans ((hT2.out.block _ (by omega) (fun h=>h)).trans ((hTa.out.block _ hlSb (fun h=>h)).trans hG.out.blk))
     obtain⟨x0,x1,x2⟩:=cells3O hR9.blk
     have p1:w9.cell? ⟨S0+1+1,0,none⟩=some (.slice av k cv):=by rw [blk_cell hSb9];rfl
     have hTw6:Touch wr w9 (fun j=>j=S0+1+1):=(hTa.out.mono (fun _ _ h=>h.elim)).then ((hT2.out.mono (S':=fun j=>j=S0+1+1) (fun _ _ h=>h.elim)).then hT9 (fun j hj e=>by omega)) (fun j hj e=>e)
     have hv:∀g,(Value.slice av k cv).ownBlock=some g→¬Mid w0 w1 g:=fun g hg e=>by have:=(hG.out.row.lt g hg).1;have:=e.2;omega
     have hTw7:=hTw6.alloc (.cells #[.string d.name,.slice a6 np c6,.slice a9 nb c9] 40)
     have hown7:=Lib.hid (hG.out.row.go (hTw7.mono (fun j _ e=>by rw [e];exact hmid)) hv)
     have hno:∀j,((Value.slice av k cv).ownBlock=some j∨Mid w0 w1 j)→w0.heap.size≤j∧j<wr.heap.size:=fun j hj=>by
      have hbx:=hB.out.size
      rcases hj with hj | hj
      ·have h1:=(hG.out.row.lt j hj).1
       have h2:=(hG.out.row.lt j hj).2
       omega
      ·exact⟨hj.1,by have:=hj.2;omega⟩
     have hO7:=ownsRow_touch (S:=fun j=>j=Sb) hO2.out (hT9.alloc (.cells #[.string d.name,.slice a6 np c6,.slice a9 nb c9] 40)) (fun g hg e=>by subst e;exact own_not_cells hO2.out hX2.out hg)
     have haw:Away (fun j=>(Value.slice av k cv).ownBlock=some j∨Mid w0 w1 j) RdFunC (w9.alloc (.cells #[.string d.name,.slice a6 np c6,.slice a9 nb c9] 40)) [.string d.name,.slice a6 np c6,.slice a9 nb c9] d:=fun w' t'=>
      ⟨_,_,rfl,rdc_own (ownsRow_touch hO7 t' (fun g hg hj=>by have h1:=(hO7.lt g hg).1;have:=(hno g hj).2;omega)),hR9.away ((Touch.refl w9 (fun _=>False)).alloc _) (fun j hj=>⟨(hno j hj).1,by have:=(hno j hj).2;omega⟩) t'⟩
     have hrd7:Hid (RdE 3 (Away (fun j=>(Value.slice av k cv).ownBlock=some j∨Mid w0 w1 j) RdFunC) (w9.alloc (.cells #[.string d.name,.slice a6 np c6,.slice a9 nb c9] 40)) (.slice (some ⟨w9.heap.size,0,none⟩) 1 1) [d]):=Lib.hid (rde_oneO (t:=40) (heap_alloc_new _ _) haw rfl)
     replace hTw7:=Lib.hid hTw7
     replace hSb9:=Lib.hid hSb9
     have hlen:Hid ((P.take k).length=k):=Lib.hid (by rw [List.length_take_of_le (by rw [←hp.out];omega)])
     have hlow:w1.heap.size≤(w9.alloc (.cells #[.string d.name,.slice a6 np c6,.slice a9 nb c9] 40)).heap.size:=by simp;omega
     clear hT9 hR9 hTw6 haw hv hno hO7
     go_wp2_with (at_builtin;refine wpList_append_away _ rfl _ _ 22 rfl w1.heap.size 40 i0 _ 64 Tryz.underlying22 hi0 hz0 hz1 hz2 rfl (by decide) (Mid w0 w1) (.slice av k cv) (P.take k) rfl hown7.out _ [d] rfl hrd7.out plain_funO (by rw [hlen.out];simp;unfold maxLen;omega) (by rw [hlen.out];simp;omega) hlow ?_)
     intro v8 w8 hO8 hT8 hat8
     have hO8:OwnE 3 (Away (fun j=>v8.ownBlock=some j∨Mid w0 w1 j) RdFunC) w8 w1.heap.size 40 v8 (P.take (k+1)):=by
      rw [←take_snocO hd.out]
      exact hO8
     obtain⟨a8,c8,e8⟩:=hO8.form
     rw [List.length_take_of_le (by rw [←hp.out];omega)] at e8
     subst e8
     have hSb8:w8.heap[S0+1+1]?=some (.cells #[.slice av k cv] 24 (0,0)):=(hT8.block _ (by simp;omega) (fun e=>by have:=(hown7.out.lt _ e).1;have:=hmid.2;omega)).trans (at_oldN hSb9.out)
     have f1:w8.frozen? ⟨S0+1+1,0,none⟩=false:=by simp [World.frozen?,hSb8]
     have z1:w8.cell? ⟨S0+1+1,0,none⟩=some (.slice av k cv):=by rw [blk_cell hSb8];rfl
     have hTs:Touch w8 (w8.setCell ⟨S0+1+1,0,none⟩ (.slice a8 (k+1) c8)) (fun j=>j=S0+1+1):=(Touch.refl w8 (fun j=>j=S0+1+1)).setCell (a:=⟨S0+1+1,0,none⟩) (fun _=>rfl) _
     have hfin:Hid (RowAt 3 RdFunC w0 w1 (w8.setCell ⟨S0+1+1,0,none⟩ (.slice a8 (k+1) c8)) (S0+1+1) #[.slice a8 (k+1) c8] 24 40 (.slice a8 (k+1) c8) (P.take (k+1))):=Lib.hid ⟨blk_set (i:=0) _ hSb8,((hG.out.touch.trans hTw7.out).then hT8 (fun j hj e=>absurd (hown7.out.lt j e).1 (by omega))).setCell (a:=⟨S0+1+1,0,none⟩) (fun _=>rfl) _,hO8.go (hTs.mono (fun j _ e=>by rw [e];exact hmid)) (fun g hg e=>by have:=(hO8.lt g hg).1;have:=e.2;omega)⟩
     clear hO8 hT8 hat8 hSb8 hTs hown7 hrd7 x0 x1 x2 p1
     go_wp2_with fail
     go_roundw
     case rel=>exact⟨k+1,.slice a8 (k+1) c8,by omega,by go_num,hfin⟩
     case measure=>simp [intOf];omega
   ·skip
    go_simp
    have hT7:=Lib.hid (show Touch W5 (W5.drew.alloc (.cells #[.string ⟨#[]⟩,.slice none 0 0,.slice none 0 0] 40)) (fun _=>False) from (Touch.refl W5 (fun _=>False)).drew.alloc _)
    have hZ:=Lib.hid (show (W5.drew.alloc (.cells #[.string ⟨#[]⟩,.slice none 0 0,.slice none 0 0] 40)).heap[W5.heap.size]?=some ((.cells #[.string ⟨#[]⟩,.slice none 0 0,.slice none 0 0] 40):Obj) from at_newN rfl)
    replace hC:=hCS.out _ hT7.out
    refine hK.out _ _ hC (fun hHeld=>?_)
    clear hK K hHeld
    try simp only [Act.put,List.setIfInBounds_toArray,List.set_cons_zero,List.set_cons_succ]
    refine wpAnyH_ready (rs:=[2]) (by kernel_rfl) (by simp) (AllReadyH.cons (o:=(.mk (some 25) (.buildSlice 37 0 #[]) 37 "law.go:62" #[] none)) rfl (fun K hK=>?_) AllReadyH.nil)
    go_simp
    have hT2:=Lib.hid (hT7.out.alloc (.cells #[] 9))
    have hE:=Lib.hid (show ((W5.drew.alloc (.cells #[.string ⟨#[]⟩,.slice none 0 0,.slice none 0 0] 40)).alloc (.cells #[] 9)).heap[W5.heap.size+1]?=some ((.cells #[] 9):Obj) from at_newN (by simp))
    replace hZ:=Lib.hid (show ((W5.drew.alloc (.cells #[.string ⟨#[]⟩,.slice none 0 0,.slice none 0 0] 40)).alloc (.cells #[] 9)).heap[W5.heap.size]?=some ((.cells #[.string ⟨#[]⟩,.slice none 0 0,.slice none 0 0] 40):Obj) from at_oldN hZ.out)
    replace hC:=hCS.out _ hT2.out
    refine hK.out _ _ hC (fun hHeld=>?_)
    clear hK K hHeld
    try simp only [Act.put,List.setIfInBounds_toArray,List.set_cons_zero,List.set_cons_succ]
    refine wpAnyH_ready (rs:=[5]) (by kernel_rfl) (by simp) (AllReadyH.cons (o:=(.mk (some 28) (.call (.mk (.builtin Builtin.append) #[(.tmp 25),(.tmp 27)] #[37,37])) 37 "law.go:62" #[.mk 2 .data,.mk 4 .data] none)) rfl (fun K hK=>?_) AllReadyH.nil)
    (refine step_append_rd _ rfl _ _ 37 rfl W5.heap.size 9 j0 (.string ⟨#[]⟩) 16 Tryz.underlying37 hj0 hy0 hy1 hy2 rfl (.slice (some ⟨W5.heap.size+1,0,none⟩) 0 0) 0 [] rfl (own_empty hE.out (by omega)) _ (d.params.map Value.string) (by rfl) (Rd.below rp.out.1 (hB5.out.trans (hT2.out.below hB5.out.size (fun _ _ h=>h.elim)))) (fun u hu=>by obtain⟨s,-,rfl⟩:=List.mem_map.1 hu;rfl) (by rw [List.length_map,←hnp.out];unfold maxLen;omega) (by rw [List.length_map,←hnp.out];omega) hT2.out.size ?_;intro v6 w6 hO6 hg6)
    rw [List.nil_append,Nat.zero_add,List.length_map,←hnp.out] at hO6
    obtain⟨a6,c6,rfl⟩:=own_formO hO6
    have hZl:=(Array.getElem?_eq_some_iff.1 hZ.out).1
    have hZ6:=Lib.hid (((Touch.of_grown (S:=fun k=>k=W5.heap.size+1) hg6 (fun k e=>by simpa [Value.ownBlock,eq_comm] using e)).block (W5.heap.size) hZl (fun e=>by omega)).trans hZ.out)
    replace hZ:=hZ6
    clear hZ6 hZl
    have hT6:=Lib.hid (grown_copy (B:=W5.heap.size+1) hT2.out hg6 (by omega))
    replace hO6:=Lib.hid hO6
    clear hg6
    have hSlo:W5.heap.size≤W5.heap.size:=by omega
    obtain⟨b0,b1,b2⟩:=cells3O hZ.out
    obtain⟨f0,f1,f2⟩:=froz3O hZ.out
    replace hC:=hCS.out _ hT6.out
    refine hK.out _ _ hC (fun hHeld=>?_)
    clear hK K hHeld
    try simp only [Act.put,List.setIfInBounds_toArray,List.set_cons_zero,List.set_cons_succ]
    refine wpAnyH_take (i:=6) (oi:=(.mk (some 29) (.build 40 #[(0,(.tmp 24)),(1,(.tmp 28))]) 40 "law.go:62" #[.mk 1 .data,.mk 5 .data] none)) (v:=?_) rfl (by kernel_rfl) (by kernel_rfl) (by kernel_rfl) (fun _ _ _ h=>h) (Or.inl ⟨by rfl,?_⟩) hC ?_
    rotate_left
    ·(intro w hSw;(try dsimp only at hSw);go_simp;try with_reducible rfl)
    try simp only [Act.put,List.setIfInBounds_toArray,List.set_cons_zero,List.set_cons_succ]
    refine wpAnyH_ready (rs:=[8]) (by kernel_rfl) (by simp) (AllReadyH.cons (o:=(.mk none (.store 40 (.tmp 6) (.tmp 29)) 0 "law.go:62" #[.mk 7 .data,.mk 6 .data,.mk 5 .chain,.mk 0 .phase,.mk 1 .phase,.mk 2 .phase,.mk 3 .phase,.mk 4 .phase,.mk 5 .phase,.mk 6 .phase,.mk 7 .phase] none)) rfl (fun K hK=>?_) AllReadyH.nil)
    go_simp
    have hX2:(((w6.setCell ⟨W5.heap.size,0,none⟩ (.string d.name)).setCell ⟨W5.heap.size,1,none⟩ (.slice a6 np c6)).setCell ⟨W5.heap.size,2,none⟩ (.slice none 0 0)).heap[W5.heap.size]?=some (.cells #[.string d.name,.slice a6 np c6,.slice none 0 0] 40 (0,0)):=blk_set (i:=2) _ (blk_set (i:=1) _ (blk_set (i:=0) _ hZ.out))
    have hTs:Touch w6 (((w6.setCell ⟨W5.heap.size,0,none⟩ (.string d.name)).setCell ⟨W5.heap.size,1,none⟩ (.slice a6 np c6)).setCell ⟨W5.heap.size,2,none⟩ (.slice none 0 0)) (fun j=>j=W5.heap.size):=(((Touch.refl w6 (fun j=>j=W5.heap.size)).setCell (a:=⟨W5.heap.size,0,none⟩) (fun _=>rfl) _).setCell (a:=⟨W5.heap.size,1,none⟩) (fun _=>rfl) _).setCell (a:=⟨W5.heap.size,2,none⟩) (fun _=>rfl) _
    have hT2:Touch W5 (((w6.setCell ⟨W5.heap.size,0,none⟩ (.string d.name)).setCell ⟨W5.heap.size,1,none⟩ (.slice a6 np c6)).setCell ⟨W5.heap.size,2,none⟩ (.slice none 0 0)) (fun _=>False):=hT6.out.then hTs (fun j hj e=>by omega)
    have hO2:(((w6.setCell ⟨W5.heap.size,0,none⟩ (.string d.name)).setCell ⟨W5.heap.size,1,none⟩ (.slice a6 np c6)).setCell ⟨W5.heap.size,2,none⟩ (.slice none 0 0)).ownsRow W5.heap.size 9 1 (.slice a6 np c6) np (d.params.map Value.string):=ownsRow_touch hO6.out hTs (fun g hg e=>by subst e;exact own_not_cells hO6.out hZ.out hg)
    obtain⟨Sb,hSbe⟩:∃S,S=W5.heap.size:=⟨_,rfl⟩
    replace hSlo:W5.heap.size≤Sb:=by omega
    rw [←hSbe] at hX2 hT2 hO2
    rw [←hSbe]
    generalize (((w6.setCell ⟨Sb,0,none⟩ (.string d.name)).setCell ⟨Sb,1,none⟩ (.slice a6 np c6)).setCell ⟨Sb,2,none⟩ (.slice none 0 0))=w2 at hX2 hT2 hO2 ⊢
    replace hC:=hCS.out _ hT2
    clear b0 b1 b2 f0 f1 f2 hTs hZ hSbe
    refine hK.out _ _ hC (fun hHeld=>?_)
    clear hK K hHeld
    try simp only [Act.put,List.setIfInBounds_toArray,List.set_cons_zero,List.set_cons_succ]
    refine wpAnyH_done (by kernel_rfl) ?_ _
    clear hC hCS
    replace hX2:=Lib.hid hX2
    replace hO2:=Lib.hid hO2
    replace hT2:=Lib.hid hT2
    go_upto_block 2 with fail
    have hW2:Below w0.heap.size w0 w2:=hB5.out.trans (hT2.out.below hB5.out.size (fun j hj e=>e.elim))
    have hF2:w2.heap[F5]?=some (.cells #[.string d.name,.slice ap np cp,.slice ab nb cb] 40 (0,0)):=(hT2.out.block F5 hFl (fun h=>h)).trans hYb.out
    refine own2 (by kernel_rfl) (w0:=w0) (d:=d) (F5:=F5) hF2 (by omega) hW2 rb.out hX2.out (by have:=hB5.out.size;omega) hda.out.2.1 hda.out.2.2 (fun {_ a a1 _} h e=>by cases a;cases a1;cases e;exact h) (Lib.hid ?_)
    intros
    rename_i hx8
    rename World=>w9
    obtain⟨v9,hR9⟩:=hx8
    obtain⟨a9,c9,hv9⟩:=hR9.row.form
    rw [←hnb.out] at hv9
    subst hv9
    have hT9:=hR9.touch
    have hl9:w2.heap.size≤w9.heap.size:=hT9.size
    have hl2:W5.heap.size≤w2.heap.size:=hT2.out.size
    have hlw:w1.heap.size≤wr.heap.size:=hG.out.touch.size
    have hlSb:S0+1+1<wr.heap.size:=by have:=hmid.2;omega
    have hl5:F5=wr.heap.size∧W5.heap.size=wr.heap.size+1:=hF5e.out
    have hSb9:w9.heap[S0+1+1]?=some (.cells #[.slice av k cv] 24 (0,0)):=(hT9.block _ (by omega) (by omega)).trans ((hT2.out.block _ (by omega) (fun h=>h)).trans ((hTa.out.block _ hlSb (fun h=>h)).trans hG.out.blk))
    obtain⟨x0,x1,x2⟩:=cells3O hR9.blk
    have p1:w9.cell? ⟨S0+1+1,0,none⟩=some (.slice av k cv):=by rw [blk_cell hSb9];rfl
    have hTw6:Touch wr w9 (fun j=>j=S0+1+1):=(hTa.out.mono (fun _ _ h=>h.elim)).then ((hT2.out.mono (S':=fun j=>j=S0+1+1) (fun _ _ h=>h.elim)).then hT9 (fun j hj e=>by omega)) (fun j hj e=>e)
    have hv:∀g,(Value.slice av k cv).ownBlock=some g→¬Mid w0 w1 g:=fun g hg e=>by have:=(hG.out.row.lt g hg).1;have:=e.2;omega
    have hTw7:=hTw6.alloc (.cells #[.string d.name,.slice a6 np c6,.slice a9 nb c9] 40)
    have hown7:=Lib.hid (hG.out.row.go (hTw7.mono (fun j _ e=>by rw [e];exact hmid)) hv)
    have hno:∀j,((Value.slice av k cv).ownBlock=some j∨Mid w0 w1 j)→w0.heap.size≤j∧j<wr.heap.size:=fun j hj=>by
     have hbx:=hB.out.size
     rcases hj with hj | hj
     ·have h1:=(hG.out.row.lt j hj).1
      have h2:=(hG.out.row.lt j hj).2
      omega
     ·exact⟨hj.1,by have:=hj.2;omega⟩
    have hO7:=ownsRow_touch (S:=fun j=>j=Sb) hO2.out (hT9.alloc (.cells #[.string d.name,.slice a6 np c6,.slice a9 nb c9] 40)) (fun g hg e=>by subst e;exact own_not_cells hO2.out hX2.out hg)
    have haw:Away (fun j=>(Value.slice av k cv).ownBlock=some j∨Mid w0 w1 j) RdFunC (w9.alloc (.cells #[.string d.name,.slice a6 np c6,.slice a9 nb c9] 40)) [.string d.name,.slice a6 np c6,.slice a9 nb c9] d:=fun w' t'=>
     ⟨_,_,rfl,rdc_own (ownsRow_touch hO7 t' (fun g hg hj=>by have h1:=(hO7.lt g hg).1;have:=(hno g hj).2;omega)),hR9.away ((Touch.refl w9 (fun _=>False)).alloc _) (fun j hj=>⟨(hno j hj).1,by have:=(hno j hj).2;omega⟩) t'⟩
    have hrd7:Hid (RdE 3 (Away (fun j=>(Value.slice av k cv).ownBlock=some j∨Mid w0 w1 j) RdFunC) (w9.alloc (.cells #[.string d.name,.slice a6 np c6,.slice a9 nb c9] 40)) (.slice (some ⟨w9.heap.size,0,none⟩) 1 1) [d]):=Lib.hid (rde_oneO (t:=40) (heap_alloc_new _ _) haw rfl)
    replace hTw7:=Lib.hid hTw7
    replace hSb9:=Lib.hid hSb9
    have hlen:Hid ((P.take k).length=k):=Lib.hid (by rw [List.length_take_of_le (by rw [←hp.out];omega)])
    have hlow:w1.heap.size≤(w9.alloc (.cells #[.string d.name,.slice a6 np c6,.slice a9 nb c9] 40)).heap.size:=by simp;omega
    clear hT9 hR9 hTw6 haw hv hno hO7
    go_wp2_with (at_builtin;refine wpList_append_away _ rfl _ _ 22 rfl w1.heap.size 40 i0 _ 64 Tryz.underlying22 hi0 hz0 hz1 hz2 rfl (by decide) (Mid w0 w1) (.slice av k cv) (P.take k) rfl hown7.out _ [d] rfl hrd7.out plain_funO (by rw [hlen.out];simp;unfold maxLen;omega) (by rw [hlen.out];simp;omega) hlow ?_)
    intro v8 w8 hO8 hT8 hat8
    have hO8:OwnE 3 (Away (fun j=>v8.ownBlock=some j∨Mid w0 w1 j) RdFunC) w8 w1.heap.size 40 v8 (P.take (k+1)):=by
     rw [←take_snocO hd.out]
     exact hO8
    obtain⟨a8,c8,e8⟩:=hO8.form
    rw [List.length_take_of_le (by rw [←hp.out];omega)] at e8
    subst e8
    have hSb8:w8.heap[S0+1+1]?=some (.cells #[.slice av k cv] 24 (0,0)):=(hT8.block _ (by simp;omega) (fun e=>by have:=(hown7.out.lt _ e).1;have:=hmid.2;omega)).trans (at_oldN hSb9.out)
    have f1:w8.frozen? ⟨S0+1+1,0,none⟩=false:=by simp [World.frozen?,hSb8]
    have z1:w8.cell? ⟨S0+1+1,0,none⟩=some (.slice av k cv):=by rw [blk_cell hSb8];rfl
    have hTs:Touch w8 (w8.setCell ⟨S0+1+1,0,none⟩ (.slice a8 (k+1) c8)) (fun j=>j=S0+1+1):=(Touch.refl w8 (fun j=>j=S0+1+1)).setCell (a:=⟨S0+1+1,0,none⟩) (fun _=>rfl) _
    have hfin:Hid (RowAt 3 RdFunC w0 w1 (w8.setCell ⟨S0+1+1,0,none⟩ (.slice a8 (k+1) c8)) (S0+1+1) #[.slice a8 (k+1) c8] 24 40 (.slice a8 (k+1) c8) (P.take (k+1))):=Lib.hid ⟨blk_set (i:=0) _ hSb8,((hG.out.touch.trans hTw7.out).then hT8 (fun j hj e=>absurd (hown7.out.lt j e).1 (by omega))).setCell (a:=⟨S0+1+1,0,none⟩) (fun _=>rfl) _,hO8.go (hTs.mono (fun j _ e=>by rw [e];exact hmid)) (fun g hg e=>by have:=(hO8.lt g hg).1;have:=e.2;omega)⟩
    clear hO8 hT8 hat8 hSb8 hTs hown7 hrd7 x0 x1 x2 p1
    go_wp2_with fail
    go_roundw
    case rel=>exact⟨k+1,.slice a8 (k+1) c8,by omega,by go_num,hfin⟩
    case measure=>simp [intOf];omega
  ·obtain rfl:k=p:=by omega
   have j1:decide ((k:Int)<(k:Int))=false:=by simp
   have hend:Hid (P.take k=P):=Lib.hid (by rw [List.take_of_length_le (by rw [←hp.out];exact Nat.le_refl _)])
   have p1:wr.cell? ⟨S0+1+1,0,none⟩=some (.slice av k cv):=by rw [blk_cell hG.out.blk];rfl
   have hRr:wr.heap[S0+1]?=some (.cells #[.slice none 0 0] 24 (0,0)):=(hG.out.touch.block _ hmid1.2 (by omega)).trans hR.out
   have f1:wr.frozen? ⟨S0+1,0,none⟩=false:=by simp [World.frozen?,hRr]
   have z1:wr.cell? ⟨S0+1,0,none⟩=some (.slice none 0 0):=by rw [blk_cell hRr];rfl
   have hTs:Touch wr (wr.setCell ⟨S0+1,0,none⟩ (.slice av k cv)) (fun j=>j=S0+1):=(Touch.refl wr (fun j=>j=S0+1)).setCell (a:=⟨S0+1,0,none⟩) (fun _=>rfl) _
   have hRd:RdE 3 RdFunC (wr.setCell ⟨S0+1,0,none⟩ (.slice av k cv)) (.slice av k cv) P:=by
    rw [←hend.out]
    exact hG.out.row.to hTs (fun g hg e=>by have:=(hG.out.row.lt g hg).1;have:=hmid1.2;omega) (fun j _ e=>by rw [e];exact hmid1)
   have hBf:Below w.heap.size w (wr.setCell ⟨S0+1,0,none⟩ (.slice av k cv)):=by
    have e:=hS0.out
    have t1:Touch w1 wr (fun j=>j=S0+1+1∨j=S0+1):=hG.out.touch.mono (fun j _ h=>.inl h)
    exact hB0.out.trans ((t1.trans (hTs.mono (fun j _ h=>.inr h))).below hB0.out.size (fun j hj h=>by rcases h with h | h<;>omega))
   clear hB1
   go_wp2_with fail
   exact bodyPost_ret (v:=.agg #[.slice av k cv]) (by simp [results,Tryz.results9,go_sem, *]) rfl ⟨_,rfl,hRd,hBf⟩
end
section
open Go.RowKit Go.Maps Go.Shelf Go.WideMaps
attribute [local go_sem] Oper.semAt_some
theorem light_short {P:List Fun}(h:LightP P):∀d∈P,ShortF d:=by
 intro d hd
 obtain⟨h1,h2,h3⟩:=h.2 d hd
 refine⟨by omega,by omega,fun x hx=>by have:=(h3 x hx).1;omega,fun x hx c hc=>?_⟩
 have:=(h3 x hx).2 c hc
 unfold LightI at this
 omega
end
section
open Go.RowKit Go.Maps Go.WideShapes Go.ChangeShapes Go.ChangeAt Go.Deep
def PrgFits (P:List Fun):Prop:=(∀d∈P,d.Fits)∧P.length≤maxLen
theorem cellsPrg:Tryz.prog.cellsOf 24=1:=by kernel_rfl
end
end Go.Proofs.YtknkiaedgeejiaaGreatDoor
