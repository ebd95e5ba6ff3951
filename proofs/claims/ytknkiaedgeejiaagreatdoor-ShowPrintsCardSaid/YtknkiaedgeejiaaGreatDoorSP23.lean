/- Sr14, Sr15, Sr16. -/
import Derived.Test.YtknkiaedgeejiaaGreatDoorSP21
import Derived.Test.YtknkiaedgeejiaaGreatDoorSP22
namespace Go.Proofs.YtknkiaedgeejiaaGreatDoor
set_option linter.unusedVariables false
set_option linter.unusedSimpArgs false
section
open Go.RowKit Go.Maps Go.Shelf Go.WideMaps
attribute [local go_sem] Oper.semAt_some
def anyR (F:Fun→Bool)(G:Blk→Bool)(H:Ins→Bool)(d:Fun):Bool:=F d || d.blocks.any (fun x=>G x || x.code.any H)
theorem first_some5 {B:Prt→Bool}:∀{l:List Prt},(firstBad (fun (s:Unit) x=>(B x,s)) () l).isSome=l.any B
 | []=>rfl
 | x::l=>by
  unfold firstBad
  simp only [List.any_cons]
  cases h:B x
  ·simpa using first_some5
  ·rfl
theorem cat_any5 {α β:Type}{B:β→Bool}{q:α→Bool}:∀{l:List α} {g:Nat→α→List β},(∀i a,(g i a).any B=q a)→(cat g l).any B=l.any q
 | [],_,_=>rfl
 | a::l,g,h=>by
  have ih:=cat_any5 (B:=B) (q:=q) (l:=l) (g:=fun i=>g (i+1)) (fun i a=>h (i+1) a)
  unfold cat at ih ⊢
  rw [List.mapIdx_cons,List.flatten_cons,List.any_append,List.any_cons,h 0 a]
  exact congrArg (q a || ·) ih
theorem parts_any5 {B:Prt→Bool}{F:Fun→Bool}{G:Blk→Bool}{H:Ins→Bool}(hF:∀f d,B (.fn f d)=F d)(hG:∀f b d x,B (.blk f b d x)=G x)(hH:∀f b i d x c,B (.ins f b i d x c)=H c)(P:List Fun):(partsL P).any B=P.any (anyR F G H):=by
 unfold partsL
 refine cat_any5 (fun f d=>?_)
 unfold funL anyR
 rw [List.any_cons,hF]
 congr 1
 refine cat_any5 (fun b x=>?_)
 unfold blkL
 rw [List.any_cons,hG]
 congr 1
 refine cat_any5 (fun i c=>?_)
 simp [hH]
def fn2 (d:Fun):Bool:=!d.params.all isName || !isName d.name
def bk2 (x:Blk):Bool:=!isName x.label
theorem rule2_any (P:List Fun):(ruleAt P 2).isSome=P.any (anyR fn2 bk2 badNamesB):=by
 show ((firstP bad2 P).map Prt.at).isSome=_
 rw [Option.isSome_map]
 unfold firstP
 rw [first_some5]
 exact parts_any5 (fun f d=>by unfold bad2 fn2;exact Bool.or_comm _ _) (fun _ _ _ _=>rfl) (fun _ _ _ _ _ _=>rfl) P
theorem rule9_any (P:List Fun):(ruleAt P 9).isSome=P.any (anyR (fun _=>false) (fun _=>false) badFieldsB):=by
 show ((firstP bad9 P).map Prt.at).isSome=_
 rw [Option.isSome_map]
 unfold firstP
 rw [first_some5]
 exact parts_any5 (fun _ _=>rfl) (fun _ _ _ _=>rfl) (fun _ _ _ _ _ _=>rfl) P
set_option maxRecDepth 20000 in
set_option maxHeartbeats 4000000 in
theorem ofFunc5_9 {P:List Fun}{w:World}{v:Value}(h:RdE 3 RdFun w v P){f:Nat}{d:Fun}(hd:P[f]?=some d):Calls Tryz.prog 58 #[.agg #[v],.int .i64 f,.int .u8 9] w fun e w'=>e=.returned (.bool false)∧Below w.heap.size w w':=by
 obtain⟨g,off,cap,cs,rfl,hgl,⟨vp,vb,rfl,rp,rb⟩,-,hcell⟩:=h.at hd
 obtain⟨aq,cq,rfl⟩:=rp.shape
 obtain⟨ab,cb,rfl⟩:=rb.form
 have hfn:f<P.length:=(List.getElem?_eq_some_iff.1 hd).1
 generalize P.length=n at *
 have i1:(f:Int)<(n:Int):=by omega
 obtain⟨W2,hW2⟩:∃W2,w.alloc (.cells #[.slice (some ⟨g,off,none⟩) n cap] 24)=W2:=⟨_,rfl⟩
 have hX:W2.heap[w.heap.size]?=some (.cells #[.slice (some ⟨g,off,none⟩) n cap] 24 (0,0)):=by rw [←hW2];exact at_newN rfl
 have hw2:Below w.heap.size w W2:=by rw [←hW2];exact (Below.refl _ _).alloc (Nat.le_refl _) _
 have cX:W2.cell? ⟨w.heap.size,0,none⟩=some (.slice (some ⟨g,off,none⟩) n cap):=by rw [blk_cell hX];rfl
 have z0:W2.cell? ⟨g,off+f*3,none⟩=some (.string d.name):=keepB hw2 hgl (hcell 0 _ rfl)
 have z1:=keepB hw2 hgl (hcell 1 _ rfl)
 have z2:=keepB hw2 hgl (hcell 2 _ rfl)
 have hglw:g<W2.heap.size:=Nat.lt_of_lt_of_le hgl hw2.size
 have hXl:w.heap.size<W2.heap.size:=(Array.getElem?_eq_some_iff.1 hX).1
 replace hW2:=Lib.hid hW2
 replace hw2:=Lib.hid hw2
 clear hX h hd hcell rp rb hgl
 go_enter Tryz.func58,Tryz.ntmps58
 go_upto_region 1 with fail
 rw [hW2.out]
 clear hW2
 go_wp2_with fail
 go_ret
 exact⟨rfl,hw2.out.alloc hw2.out.size _⟩
set_option maxRecDepth 20000 in
set_option maxHeartbeats 4000000 in
theorem ofFunc5_2 {P:List Fun}{w:World}{v:Value}(h:RdE 3 RdFun w v P){f:Nat}{d:Fun}(hd:P[f]?=some d)(hf:d.Fits):Calls Tryz.prog 58 #[.agg #[v],.int .i64 f,.int .u8 2] w fun e w'=>e=.returned (.bool (fn2 d))∧Below w.heap.size w w':=by
 obtain⟨g,off,cap,cs,rfl,hgl,⟨vp,vb,rfl,rp,rb⟩,-,hcell⟩:=h.at hd
 obtain⟨aq,cq,rfl⟩:=rp.shape
 obtain⟨ab,cb,rfl⟩:=rb.form
 have hfn:f<P.length:=(List.getElem?_eq_some_iff.1 hd).1
 generalize P.length=n at *
 have i1:(f:Int)<(n:Int):=by omega
 obtain⟨f0,f1,-,f3,-⟩:=hf
 unfold maxLen at f3
 obtain⟨W2,hW2⟩:∃W2,w.alloc (.cells #[.slice (some ⟨g,off,none⟩) n cap] 24)=W2:=⟨_,rfl⟩
 have hX:W2.heap[w.heap.size]?=some (.cells #[.slice (some ⟨g,off,none⟩) n cap] 24 (0,0)):=by rw [←hW2];exact at_newN rfl
 have hw2:Below w.heap.size w W2:=by rw [←hW2];exact (Below.refl _ _).alloc (Nat.le_refl _) _
 have cX:W2.cell? ⟨w.heap.size,0,none⟩=some (.slice (some ⟨g,off,none⟩) n cap):=by rw [blk_cell hX];rfl
 have z0:W2.cell? ⟨g,off+f*3,none⟩=some (.string d.name):=keepB hw2 hgl (hcell 0 _ rfl)
 have z1:=keepB hw2 hgl (hcell 1 _ rfl)
 have z2:=keepB hw2 hgl (hcell 2 _ rfl)
 have hglw:g<W2.heap.size:=Nat.lt_of_lt_of_le hgl hw2.size
 have hXl:w.heap.size<W2.heap.size:=(Array.getElem?_eq_some_iff.1 hX).1
 obtain⟨np,hnp⟩:∃n,n=d.params.length:=⟨_,rfl⟩
 obtain⟨nb,hnb⟩:∃n,n=d.blocks.length:=⟨_,rfl⟩
 rw [←hnp] at z1 f3
 rw [←hnb] at z2
 have hYb:(W2.alloc (.cells #[.string d.name,.slice aq np cq,.slice ab nb cb] 40)).heap[W2.heap.size]?=some (.cells #[.string d.name,.slice aq np cq,.slice ab nb cb] 40 (0,0)):=heap_alloc_new _ _
 have hB3:Below w.heap.size w (W2.alloc (.cells #[.string d.name,.slice aq np cq,.slice ab nb cb] 40)):=hw2.alloc hw2.size _
 have hpC:=Lib.hid (fun k (hk:k<np)=>(by
  obtain⟨s,he⟩:∃s,d.params[k]?=some s:=⟨_,List.getElem?_eq_getElem (by omega)⟩
  obtain⟨b,off,cap,e,hc⟩:=rp.cell he
  exact⟨s,b,off,he,by cases e;rfl,hB3.cell (cell_size hc) |>.trans hc,f1 s (List.mem_of_getElem? he)⟩:∃s b off,d.params[k]?=some s∧aq=some ⟨b,off,none⟩∧(W2.alloc (.cells #[.string d.name,.slice aq np cq,.slice ab nb cb] 40)).cell? ⟨b,off+k,none⟩=some (.string s)∧s.size≤maxLen))
 have kI:=Lib.hid (fun w=>ris_any d.name w f0)
 obtain⟨A,hA⟩:∃A,A=fn2 d:=⟨_,rfl⟩
 rw [←hA]
 unfold fn2 at hA
 replace hA:=Lib.hid hA
 replace hnp:=Lib.hid hnp
 replace hB3:=Lib.hid hB3
 replace hW2:=Lib.hid hW2
 clear hX h hd hcell rp rb hgl f0 f1 hw2 hnb
 go_enter Tryz.func58,Tryz.ntmps58
 go_upto_region 1 with fail
 rw [hW2.out]
 clear hW2
 go_upto_region 2 with fail
 clear cX z0 z1 z2 hglw hXl
 obtain⟨Y,hY⟩:∃Y,Y=W2.heap.size:=⟨_,rfl⟩
 rw [←hY] at hYb ⊢
 generalize (W2.alloc (.cells #[.string d.name,.slice aq np cq,.slice ab nb cb] 40))=W3 at hYb hB3 hpC ⊢
 have y0:W3.cell? ⟨Y,0,none⟩=some (.string d.name):=by rw [blk_cell hYb];rfl
 have y1:W3.cell? ⟨Y,1,none⟩=some (.slice aq np cq):=by rw [blk_cell hYb];rfl
 have hYl:Y<W3.heap.size:=(Array.getElem?_eq_some_iff.1 hYb).1
 clear hYb hY
 go_upto_block 1 with fail
 go_wp2_with fail
 go_loop [8] (fun i=>∃k:Nat,k≤np∧i=.int .i64 k∧Hid ((d.params.take k).all isName=true)) (fun i=>np-(intOf i).toNat)
 case atStart=>exact⟨0,Nat.zero_le _,rfl,Lib.hid (by simp)⟩
 case round=>
  obtain⟨k,hk,rfl,hr⟩:=hrel
  by_cases hkn:k<np
  ·have j1:decide ((k:Int)<(np:Int))=true:=by simpa using hkn
   obtain⟨s,b,o2,he,rfl,hc,hs⟩:=hpC.out k hkn
   have hbl:b<W3.heap.size:=cell_size hc
   have ko:=Lib.hid (fun w=>ris_any s w hs)
   obtain⟨u,hu⟩:∃u,isName s=u:=⟨_,rfl⟩
   rw [hu] at ko
   have hnext:=Lib.hid (fun (h:u=true)=>Lib.hid (by rw [take_snocT he,List.all_append,hr.out];simp [hu,h]:(d.params.take (k+1)).all isName=true))
   have hbad:=Lib.hid (fun (h:u=false)=>(by
    rw [hA.out]
    have:d.params.all isName=false:=by
     rw [List.all_eq_false]
     exact⟨s,List.mem_of_getElem? he,by rw [hu,h];simp⟩
    rw [this]
    rfl:A=true))
   clear hr he hs hu
   cases u with
   | true=>
    go_wp2_with (go_at_call 101;refine Calls.mono (ko.out _) ?_;rintro e w' ⟨rfl,rfl⟩)
    go_round
    case rel=>exact⟨k+1,by omega,by go_num,by first | exact hnext.out rfl | exact hnext.out trivial⟩
    case measure=>simp [intOf];omega
   | false=>
    go_wp2_with (go_at_call 101;refine Calls.mono (ko.out _) ?_;rintro e w' ⟨rfl,rfl⟩)
    go_ret
    exact⟨by rw [show A=true from by first | exact hbad.out rfl | exact hbad.out trivial];rfl,hB3.out⟩
  ·have j1:decide ((k:Int)<(np:Int))=false:=by simp;omega
   obtain rfl:k=np:=by omega
   have hfin:=Lib.hid (show A=!isName d.name from by
    rw [hA.out]
    have h9:=hr.out
    rw [List.take_of_length_le (by rw [←hnp.out];exact Nat.le_refl _)] at h9
    rw [h9]
    rfl)
   clear hr hA
   generalize isName d.name=q at *
   go_wp2_with (go_at_call 101;refine Calls.mono (kI.out _) ?_;rintro e w' ⟨rfl,rfl⟩)
   go_ret
   exact⟨by rw [hfin.out];rfl,hB3.out⟩
set_option maxRecDepth 20000 in
set_option maxHeartbeats 4000000 in
theorem ofBlock5_9 {w:World}{nm:ByteArray}{a1 a2:Option Addr}{n1 c1 n2 c2:Nat}(b:Int):Calls Tryz.prog 59 #[.agg #[.string nm,.slice a1 n1 c1,.slice a2 n2 c2],.int .i64 b,.int .u8 9] w fun e w'=>e=.returned (.bool false)∧Below w.heap.size w w':=by
 go_enter Tryz.func59,Tryz.ntmps59
 go_wp2_with fail
 go_ret
 exact⟨rfl,(Below.refl _ _).alloc (Nat.le_refl _) _⟩
set_option maxRecDepth 20000 in
set_option maxHeartbeats 4000000 in
theorem ofBlock5_2 {w:World}{nm:ByteArray}{a1:Option Addr}{n1 c1:Nat}{vb:Value}{L:List Blk}(rb:RdE 2 RdBlk w vb L){b:Nat}{x:Blk}(hx:L[b]?=some x)(hf:x.label.size≤maxLen):Calls Tryz.prog 59 #[.agg #[.string nm,.slice a1 n1 c1,vb],.int .i64 b,.int .u8 2] w fun e w'=>e=.returned (.bool (bk2 x))∧Below w.heap.size w w':=by
 obtain⟨g,off,cap,cs,rfl,hgl,⟨vc,rfl,rc⟩,-,hcell⟩:=rb.at hx
 have hbn:b<L.length:=(List.getElem?_eq_some_iff.1 hx).1
 generalize L.length=n at *
 have i1:(b:Int)<(n:Int):=by omega
 obtain⟨W2,hW2⟩:∃W2,w.alloc (.cells #[.string nm,.slice a1 n1 c1,.slice (some ⟨g,off,none⟩) n cap] 40)=W2:=⟨_,rfl⟩
 have hX:W2.heap[w.heap.size]?=some (.cells #[.string nm,.slice a1 n1 c1,.slice (some ⟨g,off,none⟩) n cap] 40 (0,0)):=by rw [←hW2];exact at_newN rfl
 have hw2:Below w.heap.size w W2:=by rw [←hW2];exact (Below.refl _ _).alloc (Nat.le_refl _) _
 have cX:W2.cell? ⟨w.heap.size,2,none⟩=some (.slice (some ⟨g,off,none⟩) n cap):=by rw [blk_cell hX];rfl
 have z0:W2.cell? ⟨g,off+b*2,none⟩=some (.string x.label):=keepB hw2 hgl (hcell 0 _ rfl)
 have hglw:g<W2.heap.size:=Nat.lt_of_lt_of_le hgl hw2.size
 have hXl:w.heap.size<W2.heap.size:=(Array.getElem?_eq_some_iff.1 hX).1
 have kI:=Lib.hid (fun w=>ris_any x.label w hf)
 unfold bk2
 replace hW2:=Lib.hid hW2
 replace hw2:=Lib.hid hw2
 clear hX rb hx hcell rc hgl hf
 generalize isName x.label=q at *
 go_enter Tryz.func59,Tryz.ntmps59
 go_upto_region 1 with fail
 rw [hW2.out]
 clear hW2
 go_wp2_with (go_at_call 101;refine Calls.mono (kI.out _) ?_;rintro e w' ⟨rfl,rfl⟩)
 go_ret
 exact⟨rfl,hw2.out⟩
set_option maxRecDepth 20000 in
set_option maxHeartbeats 4000000 in
theorem ofInstr5_2 {w:World}{va:Option Addr}{nv cv:Nat}{nm:ByteArray}{a1:Option Addr}{n1 c1:Nat}{vb:Value}{L:List Blk}(rb:RdE 2 RdBlk w vb L){b i:Nat}{x:Blk}{d:Ins}(hx:L[b]?=some x)(hc:x.code[i]?=some d)(hf:d.Fits)(m:Int):Calls Tryz.prog 60 #[.agg #[.slice va nv cv],.agg #[.string nm,.slice a1 n1 c1,vb],.int .i64 b,.int .i64 i,.int .i64 m,.int .u8 2] w fun e w'=>e=.returned (.bool (badNamesB d))∧Below w.heap.size w w':=by
 obtain⟨g,off,cap,cs,rfl,hgl,⟨vc,rfl,rc⟩,-,hcell⟩:=rb.at hx
 obtain⟨g2,off2,cap2,cs2,rfl,hg2,⟨ga,gl,rfl,ra,rl⟩,-,hcell2⟩:=rc.at hc
 have hbn:b<L.length:=(List.getElem?_eq_some_iff.1 hx).1
 have hin:i<x.code.length:=(List.getElem?_eq_some_iff.1 hc).1
 have kI:=Lib.hid (fun (W:World) (hb:Below w.heap.size w W)=>(badName5_any (Rd.below ra hb) (Rd.below rl hb) hf:Calls Tryz.prog 103 #[.agg #[.int .u8 d.op,.string d.dst,.string d.a,.string d.b,.int .i64 d.n,.string d.fn,ga,gl]] W fun e w'=>e=.returned (.bool (badNamesB d))∧Below W.heap.size W w'))
 obtain⟨xa,ya,rfl⟩:=ra.shape
 obtain⟨xl,yl,rfl⟩:=rl.shape
 generalize L.length=n at *
 generalize x.code.length=nc at *
 generalize d.args.length=na at *
 generalize d.labels.length=nl at *
 have i1:(b:Int)<(n:Int):=by omega
 have i2:(i:Int)<(nc:Int):=by omega
 obtain⟨W2,hW2⟩:∃W2,(w.alloc (.cells #[.slice va nv cv] 24)).alloc (.cells #[.string nm,.slice a1 n1 c1,.slice (some ⟨g,off,none⟩) n cap] 40)=W2:=⟨_,rfl⟩
 have hX:W2.heap[w.heap.size+1]?=some (.cells #[.string nm,.slice a1 n1 c1,.slice (some ⟨g,off,none⟩) n cap] 40 (0,0)):=by rw [←hW2];exact at_newN (by simp)
 have hw2:Below w.heap.size w W2:=by rw [←hW2];exact ((Below.refl _ _).alloc (Nat.le_refl _) _).alloc (by simp) _
 have cX:W2.cell? ⟨w.heap.size+1,2,none⟩=some (.slice (some ⟨g,off,none⟩) n cap):=by rw [blk_cell hX];rfl
 have hXl:w.heap.size+1<W2.heap.size:=(Array.getElem?_eq_some_iff.1 hX).1
 have z1:W2.cell? ⟨g,off+b*2+1,none⟩=some (.slice (some ⟨g2,off2,none⟩) nc cap2):=keepB hw2 hgl (hcell 1 _ rfl)
 have hglw:g<W2.heap.size:=Nat.lt_of_lt_of_le hgl hw2.size
 have y0:W2.cell? ⟨g2,off2+i*8,none⟩=some (.int .u8 d.op):=keepB hw2 hg2 (hcell2 0 _ rfl)
 have y1:=keepB hw2 hg2 (hcell2 1 _ rfl)
 have y2:=keepB hw2 hg2 (hcell2 2 _ rfl)
 have y3:=keepB hw2 hg2 (hcell2 3 _ rfl)
 have y4:=keepB hw2 hg2 (hcell2 4 _ rfl)
 have y5:=keepB hw2 hg2 (hcell2 5 _ rfl)
 have y6:=keepB hw2 hg2 (hcell2 6 _ rfl)
 have y7:=keepB hw2 hg2 (hcell2 7 _ rfl)
 have hg2w:g2<W2.heap.size:=Nat.lt_of_lt_of_le hg2 hw2.size
 have hYb:(W2.alloc (.cells #[.int .u8 d.op,.string d.dst,.string d.a,.string d.b,.int .i64 d.n,.string d.fn,.slice xa na ya,.slice xl nl yl] 46)).heap[W2.heap.size]?=some (.cells #[.int .u8 d.op,.string d.dst,.string d.a,.string d.b,.int .i64 d.n,.string d.fn,.slice xa na ya,.slice xl nl yl] 46 (0,0)):=heap_alloc_new _ _
 have hB3:=Lib.hid (hw2.alloc hw2.size (.cells #[.int .u8 d.op,.string d.dst,.string d.a,.string d.b,.int .i64 d.n,.string d.fn,.slice xa na ya,.slice xl nl yl] 46))
 generalize badNamesB d=q at *
 replace hW2:=Lib.hid hW2
 clear hX rb hx hcell rc hgl hf hcell2 hg2 ra rl hc hw2
 go_enter Tryz.func60,Tryz.ntmps60
 go_upto_region 1 with fail
 rw [hW2.out]
 clear hW2
 go_upto_region 3 with fail
 clear cX z1 hglw y0 y1 y2 y3 y4 y5 y6 y7 hg2w hXl
 obtain⟨Y,hY⟩:∃Y,Y=W2.heap.size:=⟨_,rfl⟩
 rw [←hY] at hYb ⊢
 generalize (W2.alloc (.cells #[.int .u8 d.op,.string d.dst,.string d.a,.string d.b,.int .i64 d.n,.string d.fn,.slice xa na ya,.slice xl nl yl] 46))=W3 at hYb hB3 ⊢
 have y0:W3.cell? ⟨Y,0,none⟩=some (.int .u8 d.op):=by rw [blk_cell hYb];rfl
 have y1:W3.cell? ⟨Y,1,none⟩=some (.string d.dst):=by rw [blk_cell hYb];rfl
 have y2:W3.cell? ⟨Y,2,none⟩=some (.string d.a):=by rw [blk_cell hYb];rfl
 have y3:W3.cell? ⟨Y,3,none⟩=some (.string d.b):=by rw [blk_cell hYb];rfl
 have y4:W3.cell? ⟨Y,4,none⟩=some (.int .i64 d.n):=by rw [blk_cell hYb];rfl
 have y5:W3.cell? ⟨Y,5,none⟩=some (.string d.fn):=by rw [blk_cell hYb];rfl
 have y6:W3.cell? ⟨Y,6,none⟩=some (.slice xa na ya):=by rw [blk_cell hYb];rfl
 have y7:W3.cell? ⟨Y,7,none⟩=some (.slice xl nl yl):=by rw [blk_cell hYb];rfl
 clear hYb hY
 go_wp2_with (go_at_call 103;refine Calls.mono (kI.out _ hB3.out) ?_;rintro e w' ⟨rfl,hb⟩)
 go_ret
 exact⟨rfl,hB3.out.trans (hb.mono hB3.out.size)⟩
set_option maxRecDepth 20000 in
set_option maxHeartbeats 4000000 in
theorem ofInstr5_9 {w:World}{va:Option Addr}{nv cv:Nat}{nm:ByteArray}{a1:Option Addr}{n1 c1:Nat}{vb:Value}{L:List Blk}(rb:RdE 2 RdBlk w vb L){b i:Nat}{x:Blk}{d:Ins}(hx:L[b]?=some x)(hc:x.code[i]?=some d)(hf:d.Fits)(m:Int):Calls Tryz.prog 60 #[.agg #[.slice va nv cv],.agg #[.string nm,.slice a1 n1 c1,vb],.int .i64 b,.int .i64 i,.int .i64 m,.int .u8 9] w fun e w'=>e=.returned (.bool (badFieldsB d))∧Below w.heap.size w w':=by
 obtain⟨g,off,cap,cs,rfl,hgl,⟨vc,rfl,rc⟩,-,hcell⟩:=rb.at hx
 obtain⟨g2,off2,cap2,cs2,rfl,hg2,⟨ga,gl,rfl,ra,rl⟩,-,hcell2⟩:=rc.at hc
 have hbn:b<L.length:=(List.getElem?_eq_some_iff.1 hx).1
 have hin:i<x.code.length:=(List.getElem?_eq_some_iff.1 hc).1
 have kI:=Lib.hid (fun (W:World) (hb:Below w.heap.size w W)=>(badInstr5_any (Rd.below ra hb) (Rd.below rl hb) hf:Calls Tryz.prog 104 #[.agg #[.int .u8 d.op,.string d.dst,.string d.a,.string d.b,.int .i64 d.n,.string d.fn,ga,gl]] W fun e w'=>e=.returned (.bool (badFieldsB d))∧Below W.heap.size W w'))
 obtain⟨xa,ya,rfl⟩:=ra.shape
 obtain⟨xl,yl,rfl⟩:=rl.shape
 generalize L.length=n at *
 generalize x.code.length=nc at *
 generalize d.args.length=na at *
 generalize d.labels.length=nl at *
 have i1:(b:Int)<(n:Int):=by omega
 have i2:(i:Int)<(nc:Int):=by omega
 obtain⟨W2,hW2⟩:∃W2,(w.alloc (.cells #[.slice va nv cv] 24)).alloc (.cells #[.string nm,.slice a1 n1 c1,.slice (some ⟨g,off,none⟩) n cap] 40)=W2:=⟨_,rfl⟩
 have hX:W2.heap[w.heap.size+1]?=some (.cells #[.string nm,.slice a1 n1 c1,.slice (some ⟨g,off,none⟩) n cap] 40 (0,0)):=by rw [←hW2];exact at_newN (by simp)
 have hw2:Below w.heap.size w W2:=by rw [←hW2];exact ((Below.refl _ _).alloc (Nat.le_refl _) _).alloc (by simp) _
 have cX:W2.cell? ⟨w.heap.size+1,2,none⟩=some (.slice (some ⟨g,off,none⟩) n cap):=by rw [blk_cell hX];rfl
 have hXl:w.heap.size+1<W2.heap.size:=(Array.getElem?_eq_some_iff.1 hX).1
 have z1:W2.cell? ⟨g,off+b*2+1,none⟩=some (.slice (some ⟨g2,off2,none⟩) nc cap2):=keepB hw2 hgl (hcell 1 _ rfl)
 have hglw:g<W2.heap.size:=Nat.lt_of_lt_of_le hgl hw2.size
 have y0:W2.cell? ⟨g2,off2+i*8,none⟩=some (.int .u8 d.op):=keepB hw2 hg2 (hcell2 0 _ rfl)
 have y1:=keepB hw2 hg2 (hcell2 1 _ rfl)
 have y2:=keepB hw2 hg2 (hcell2 2 _ rfl)
 have y3:=keepB hw2 hg2 (hcell2 3 _ rfl)
 have y4:=keepB hw2 hg2 (hcell2 4 _ rfl)
 have y5:=keepB hw2 hg2 (hcell2 5 _ rfl)
 have y6:=keepB hw2 hg2 (hcell2 6 _ rfl)
 have y7:=keepB hw2 hg2 (hcell2 7 _ rfl)
 have hg2w:g2<W2.heap.size:=Nat.lt_of_lt_of_le hg2 hw2.size
 have hYb:(W2.alloc (.cells #[.int .u8 d.op,.string d.dst,.string d.a,.string d.b,.int .i64 d.n,.string d.fn,.slice xa na ya,.slice xl nl yl] 46)).heap[W2.heap.size]?=some (.cells #[.int .u8 d.op,.string d.dst,.string d.a,.string d.b,.int .i64 d.n,.string d.fn,.slice xa na ya,.slice xl nl yl] 46 (0,0)):=heap_alloc_new _ _
 have hB3:=Lib.hid (hw2.alloc hw2.size (.cells #[.int .u8 d.op,.string d.dst,.string d.a,.string d.b,.int .i64 d.n,.string d.fn,.slice xa na ya,.slice xl nl yl] 46))
 generalize badFieldsB d=q at *
 replace hW2:=Lib.hid hW2
 clear hX rb hx hcell rc hgl hf hcell2 hg2 ra rl hc hw2
 go_enter Tryz.func60,Tryz.ntmps60
 go_upto_region 1 with fail
 rw [hW2.out]
 clear hW2
 go_upto_region 3 with fail
 clear cX z1 hglw y0 y1 y2 y3 y4 y5 y6 y7 hg2w hXl
 obtain⟨Y,hY⟩:∃Y,Y=W2.heap.size:=⟨_,rfl⟩
 rw [←hY] at hYb ⊢
 generalize (W2.alloc (.cells #[.int .u8 d.op,.string d.dst,.string d.a,.string d.b,.int .i64 d.n,.string d.fn,.slice xa na ya,.slice xl nl yl] 46))=W3 at hYb hB3 ⊢
 have y0:W3.cell? ⟨Y,0,none⟩=some (.int .u8 d.op):=by rw [blk_cell hYb];rfl
 have y1:W3.cell? ⟨Y,1,none⟩=some (.string d.dst):=by rw [blk_cell hYb];rfl
 have y2:W3.cell? ⟨Y,2,none⟩=some (.string d.a):=by rw [blk_cell hYb];rfl
 have y3:W3.cell? ⟨Y,3,none⟩=some (.string d.b):=by rw [blk_cell hYb];rfl
 have y4:W3.cell? ⟨Y,4,none⟩=some (.int .i64 d.n):=by rw [blk_cell hYb];rfl
 have y5:W3.cell? ⟨Y,5,none⟩=some (.string d.fn):=by rw [blk_cell hYb];rfl
 have y6:W3.cell? ⟨Y,6,none⟩=some (.slice xa na ya):=by rw [blk_cell hYb];rfl
 have y7:W3.cell? ⟨Y,7,none⟩=some (.slice xl nl yl):=by rw [blk_cell hYb];rfl
 clear hYb hY
 go_wp2_with (go_at_call 104;refine Calls.mono (kI.out _ hB3.out) ?_;rintro e w' ⟨rfl,hb⟩)
 go_ret
 exact⟨rfl,hB3.out.trans (hb.mono hB3.out.size)⟩
end
section
open Go.RowKit Go.Maps Go.Shelf Go.WideMaps
attribute [local go_sem] Oper.semAt_some
theorem any_at5 {α:Type}{q:α→Bool}{l:List α}{k:Nat}{x:α}(h:l[k]?=some x)(hq:q x=true):l.any q=true:=List.any_eq_true.2 ⟨x,List.mem_of_getElem? h,hq⟩
theorem any_snoc5 {α:Type}{q:α→Bool}{l:List α}{k:Nat}{x:α}(h:l[k]?=some x)(h0:(l.take k).any q=false)(hq:q x=false):(l.take (k+1)).any q=false:=by
 rw [take_snocT h,List.any_append,h0]
 simp [hq]
theorem any_whole5 {α:Type}{q:α→Bool}{l:List α}{k:Nat}(h:k=l.length)(h0:(l.take k).any q=false):l.any q=false:=by
 rwa [List.take_of_length_le (by omega)] at h0
set_option maxRecDepth 20000 in
set_option maxHeartbeats 16000000 in
theorem first5_any {F:Fun→Bool}{G:Blk→Bool}{H:Ins→Bool}{P:List Fun}(hL:LightP P){w:World}{v:Value}(h:RdE 3 RdFun w v P){r:Int}(r1:(r==1)=false)(r4:(r==4)=false)
  (hF:∀W,Below w.heap.size w W→∀(f:Nat) d,P[f]?=some d→Calls Tryz.prog 58 #[.agg #[v],.int .i64 f,.int .u8 r] W fun e W'=>e=.returned (.bool (F d))∧Below W.heap.size W W')
  (hG:∀W,∀d∈P,∀a1 n1 c1 vb,RdE 2 RdBlk W vb d.blocks→∀(b:Nat) x,d.blocks[b]?=some x→Calls Tryz.prog 59 #[.agg #[.string d.name,.slice a1 n1 c1,vb],.int .i64 b,.int .u8 r] W fun e W'=>e=.returned (.bool (G x))∧Below W.heap.size W W')
  (hH:∀W,∀d∈P,∀a1 n1 c1 vb,RdE 2 RdBlk W vb d.blocks→∀(b:Nat) x,d.blocks[b]?=some x→∀(i:Nat) c,x.code[i]?=some c→∀m:Nat,Calls Tryz.prog 60 #[.agg #[v],.agg #[.string d.name,.slice a1 n1 c1,vb],.int .i64 b,.int .i64 i,.int .i64 m,.int .u8 r] W fun e W'=>e=.returned (.bool (H c))∧Below W.heap.size W W'):
  Calls Tryz.prog 21 #[.agg #[v],.int .u8 r] w fun e w'=>(∃p1 p2 p3:Int,e=.returned (.tuple #[.agg #[.int .i64 p1,.int .i64 p2,.int .i64 p3],.bool (P.any (anyR F G H))]))∧Below w.heap.size w w':=by
 obtain⟨ap,cp,rfl⟩:=h.form
 obtain⟨n,hn⟩:∃n,n=P.length:=⟨_,rfl⟩
 have hn70:n≤70:=by rw [hn];exact hL.1
 rw [←hn] at h hF hH ⊢
 obtain⟨W2,hW2⟩:∃W2,(w.alloc (.cells #[.slice ap n cp] 24)).alloc (.cells #[.int .i64 0,.int .i64 0,.int .i64 0] 53)=W2:=⟨_,rfl⟩
 have hX:W2.heap[w.heap.size]?=some (.cells #[.slice ap n cp] 24 (0,0)):=by rw [←hW2];exact at_oldN (at_newN rfl)
 have hN:W2.heap[w.heap.size+1]?=some (.cells #[.int .i64 0,.int .i64 0,.int .i64 0] 53 (0,0)):=by rw [←hW2];exact at_newN (by simp)
 have hw2:Below w.heap.size w W2:=by rw [←hW2];exact ((Below.refl _ _).alloc (Nat.le_refl _) _).alloc (by simp) _
 have hXl:w.heap.size<W2.heap.size:=(Array.getElem?_eq_some_iff.1 hX).1
 have hNl:w.heap.size+1<W2.heap.size:=(Array.getElem?_eq_some_iff.1 hN).1
 have hcX:=Lib.hid (fun (W:World) (hb:Below W2.heap.size W2 W)=>(⟨by rw [blk_cell ((hb.block _ hXl).trans hX)];rfl,Nat.lt_of_lt_of_le hXl hb.size⟩:W.cell? ⟨w.heap.size,0,none⟩=some (.slice ap n cp)∧w.heap.size<W.heap.size))
 have hcN:=Lib.hid (fun (W:World) (hb:Below W2.heap.size W2 W)=>(by
  have e:=(hb.block _ hNl).trans hN
  exact⟨by rw [blk_cell e];rfl,by rw [blk_cell e];rfl,by rw [blk_cell e];rfl,by simp [World.frozen?,e],by simp [World.frozen?,e],by simp [World.frozen?,e],Nat.lt_of_lt_of_le hNl hb.size⟩:W.cell? ⟨w.heap.size+1,0,none⟩=some (.int .i64 0)∧W.cell? ⟨w.heap.size+1,1,none⟩=some (.int .i64 0)∧W.cell? ⟨w.heap.size+1,2,none⟩=some (.int .i64 0)∧W.frozen? ⟨w.heap.size+1,0,none⟩=false∧W.frozen? ⟨w.heap.size+1,1,none⟩=false∧W.frozen? ⟨w.heap.size+1,2,none⟩=false∧w.heap.size+1<W.heap.size))
 have hst:=Lib.hid (fun (W:World) (hb:Below W2.heap.size W2 W) (x y z:Value)=>((((hw2.trans (hb.mono hw2.size)).setCell (p:=⟨w.heap.size+1,0,none⟩) (by dsimp only;omega) x).setCell (p:=⟨w.heap.size+1,1,none⟩) (by dsimp only;omega) y).setCell (p:=⟨w.heap.size+1,2,none⟩) (by dsimp only;omega) z:Below w.heap.size w (((W.setCell ⟨w.heap.size+1,0,none⟩ x).setCell ⟨w.heap.size+1,1,none⟩ y).setCell ⟨w.heap.size+1,2,none⟩ z)))
 obtain⟨X,hXX⟩:∃X,X=P.any (anyR F G H):=⟨_,rfl⟩
 rw [←hXX]
 have hF:=Lib.hid hF
 have hG:=Lib.hid hG
 have hH:=Lib.hid hH
 replace hXX:=Lib.hid hXX
 replace hW2:=Lib.hid hW2
 replace hw2:=Lib.hid hw2
 replace hn:=Lib.hid hn
 replace hL:=Lib.hid hL
 replace h:=Lib.hid h
 clear hX hN hXl hNl
 obtain⟨NB,hNB⟩:∃NB,NB=w.heap.size+1:=⟨_,rfl⟩
 rw [←hNB] at hcN hst
 go_enter Tryz.func21,Tryz.ntmps21
 go_upto_region 1 with fail
 rw [hW2.out,←hNB]
 clear hW2 hNB
 go_upto_block 0 with fail
 go_wp2_with fail
 go_loopw [6,7] (fun m i wr=>∃k m':Nat,m=.int .i64 m'∧i=.int .i64 k∧k≤n∧m'≤k*14000∧Hid ((P.take k).any (anyR F G H)=false)∧Hid (Below W2.heap.size W2 wr)) (fun _ i _=>n-(intOf i).toNat)
 case atStart=>exact⟨0,0,rfl,rfl,Nat.zero_le _,Nat.zero_le _,Lib.hid (by simp),Lib.hid (Below.refl _ _)⟩
 case round=>
  obtain⟨f,m,rfl,rfl,hf,hm,hP,hbr⟩:=hrel
  obtain⟨cX,hXw⟩:=hcX.out wr hbr.out
  by_cases hfn:f<n
  ·have i1:(f:Int)<(n:Int):=by omega
   obtain⟨d,hd⟩:∃d,P[f]?=some d:=⟨_,List.getElem?_eq_getElem (by rw [←hn.out];exact hfn)⟩
   obtain⟨g,off,cap,cs,e,hgl,⟨vp,vb,rfl,rp,rb⟩,-,hcell⟩:=h.out.at hd
   rw [←hn.out] at e
   simp only [Value.slice.injEq] at e
   obtain⟨rfl,-,rfl⟩:=e
   obtain⟨aq,cq,rfl⟩:=rp.shape
   obtain⟨ab,cb,rfl⟩:=rb.form
   obtain⟨np,hnp⟩:∃n,n=d.params.length:=⟨_,rfl⟩
   obtain⟨nb,hnb⟩:∃n,n=d.blocks.length:=⟨_,rfl⟩
   rw [←hnp] at hcell
   rw [←hnb] at hcell rb
   have hlf:=hL.out.2 d (List.mem_of_getElem? hd)
   have hnb70:nb≤70:=by rw [hnb];exact hlf.2.1
   have hlx:=Lib.hid hlf.2.2
   have hcd:=Lib.hid (fun (W:World) (hb:Below W2.heap.size W2 W)=>(by
    have hB:=hw2.out.trans (hb.mono hw2.out.size)
    exact⟨keepB hB hgl (hcell 0 _ rfl),keepB hB hgl (hcell 1 _ rfl),keepB hB hgl (hcell 2 _ rfl),Nat.lt_of_lt_of_le hgl hB.size⟩:W.cell? ⟨g,off+f*3,none⟩=some (.string d.name)∧W.cell? ⟨g,off+f*3+1,none⟩=some (.slice aq np cq)∧W.cell? ⟨g,off+f*3+2,none⟩=some (.slice ab nb cb)∧g<W.heap.size))
   have kF:=Lib.hid (hF.out wr (hw2.out.trans (hbr.out.mono hw2.out.size)) f d hd)
   have hmd:=List.mem_of_getElem? hd
   have kG:=Lib.hid (fun (W:World) (hb:Below W2.heap.size W2 W)=>hG.out W d hmd aq np cq _ (RdE.below (fun _ _ h=>h.below (hw2.out.trans (hb.mono hw2.out.size))) rb (hw2.out.trans (hb.mono hw2.out.size))))
   have kH:=Lib.hid (fun (W:World) (hb:Below W2.heap.size W2 W)=>hH.out W d hmd aq np cq _ (RdE.below (fun _ _ h=>h.below (hw2.out.trans (hb.mono hw2.out.size))) rb (hw2.out.trans (hb.mono hw2.out.size))))
   have hbad:=Lib.hid (fun (hq:anyR F G H d=true)=>(by rw [hXX.out];exact any_at5 hd hq:X=true))
   have hgood:=Lib.hid (fun (hq:anyR F G H d=false)=>Lib.hid (any_snoc5 hd hP.out hq))
   replace rb:=Lib.hid rb
   replace hnb:=Lib.hid hnb
   clear hcell hgl rp hlf hd hP hmd hnp
   go_upto_region 9 with fail
   go_wp2_with fail
   refine kF.out.mono ?_
   rintro e w3 ⟨rfl,hb3⟩
   have hB3:=Lib.hid (hbr.out.trans (hb3.mono hbr.out.size))
   clear kF hb3 cX hXw hbr
   obtain⟨cX,hXw⟩:=hcX.out w3 hB3.out
   obtain⟨z0,z1,z2,hgw⟩:=hcd.out w3 hB3.out
   dsimp only
   cases hFd:F d with
   | true=>
    obtain⟨x0,x1,x2,x3,x4,x5,x6⟩:=hcN.out w3 hB3.out
    have e1:X=true:=hbad.out (by unfold anyR;rw [hFd];rfl)
    subst e1
    have hBz:=Lib.hid (hst.out w3 hB3.out (.int .i64 f) (.int .i64 0) (.int .i64 0))
    go_wp2_with fail
    exact bodyPost_ret (v:=.tuple #[.agg #[.int .i64 f,.int .i64 0,.int .i64 0],.bool true]) (by simp [results,Tryz.results21,go_sem, *]) rfl ⟨⟨_,_,_,rfl⟩,hBz.out⟩
   | false=>
    replace hFd:=Lib.hid hFd
    go_upto_block 2 with fail
    clear cX hXw z0 z1 z2 hgw
    go_wp2_with fail
    go_loopw [6,8] (fun m' i wr=>∃k m2:Nat,m'=.int .i64 m2∧i=.int .i64 k∧k≤nb∧m2≤m+k*200∧Hid ((d.blocks.take k).any (fun x=>G x || x.code.any H)=false)∧Hid (Below W2.heap.size W2 wr)) (fun _ i _=>nb-(intOf i).toNat)
    case atStart=>exact⟨0,m,rfl,rfl,Nat.zero_le _,by omega,Lib.hid (by simp),hB3⟩
    case round=>
     clear hB3
     obtain⟨j,m2,rfl,rfl,hj,hm2,hQ,hbr2⟩:=hrel
     obtain⟨cX,hXw⟩:=hcX.out wr hbr2.out
     obtain⟨z0,z1,z2,hgw⟩:=hcd.out wr hbr2.out
     by_cases hjn:j<nb
     ·have i2:(j:Int)<(nb:Int):=by omega
      obtain⟨x,hx⟩:∃x,d.blocks[j]?=some x:=⟨_,List.getElem?_eq_getElem (by rw [←hnb.out];exact hjn)⟩
      obtain⟨g1,off1,cap1,cs1,e1,hg1,⟨vc,rfl,rc⟩,-,hcell1⟩:=rb.out.at hx
      rw [←hnb.out] at e1
      simp only [Value.slice.injEq] at e1
      obtain⟨rfl,-,rfl⟩:=e1
      obtain⟨ac,cc,rfl⟩:=rc.form
      obtain⟨nc,hnc⟩:∃n,n=x.code.length:=⟨_,rfl⟩
      rw [←hnc] at hcell1
      have hnc2:nc≤200:=by rw [hnc];exact (hlx.out x (List.mem_of_getElem? hx)).1
      have hE1:=Lib.hid (fun (W:World) (hb:Below W2.heap.size W2 W)=>(⟨keepB (hw2.out.trans (hb.mono hw2.out.size)) hg1 (hcell1 1 _ rfl),Nat.lt_of_lt_of_le hg1 (hw2.out.trans (hb.mono hw2.out.size)).size⟩:W.cell? ⟨g1,off1+j*2+1,none⟩=some (.slice ac nc cc)∧g1<W.heap.size))
      have kg:=Lib.hid (kG.out wr hbr2.out j x hx)
      have kh:=Lib.hid (fun (W:World) (hb:Below W2.heap.size W2 W)=>kH.out W hb j x hx)
      have hbad2:=Lib.hid (fun (hq:(G x || x.code.any H)=true)=>hbad.out (by unfold anyR;rw [any_at5 hx hq];simp))
      have hgood2:=Lib.hid (fun (hq:(G x || x.code.any H)=false)=>Lib.hid (any_snoc5 hx hQ.out hq))
      replace hnc:=Lib.hid hnc
      replace hx:=Lib.hid hx
      clear hcell1 hg1 hQ rc
      go_wp2_with fail
      refine kg.out.mono ?_
      rintro e w4 ⟨rfl,hb4⟩
      have hB4:=Lib.hid (hbr2.out.trans (hb4.mono hbr2.out.size))
      clear kg hb4 cX hXw z0 z1 z2 hgw hbr2
      dsimp only
      cases hGx:G x with
      | true=>
       obtain⟨x0,x1,x2,x3,x4,x5,x6⟩:=hcN.out w4 hB4.out
       have e1:X=true:=hbad2.out (by rw [hGx];rfl)
       subst e1
       have hBz:=Lib.hid (hst.out w4 hB4.out (.int .i64 f) (.int .i64 j) (.int .i64 0))
       go_wp2_with fail
       exact bodyPost_ret (v:=.tuple #[.agg #[.int .i64 f,.int .i64 j,.int .i64 0],.bool true]) (by simp [results,Tryz.results21,go_sem, *]) rfl ⟨⟨_,_,_,rfl⟩,hBz.out⟩
      | false=>
       replace hGx:=Lib.hid hGx
       go_upto_block 4 with fail
       go_wp2_with fail
       go_loopw [6,9] (fun m' i wr=>∃k m3:Nat,m'=.int .i64 m3∧i=.int .i64 k∧k≤nc∧m3≤m2+k∧Hid ((x.code.take k).any H=false)∧Hid (Below W2.heap.size W2 wr)) (fun _ i _=>nc-(intOf i).toNat)
       case atStart=>exact⟨0,m2,rfl,rfl,Nat.zero_le _,by omega,Lib.hid (by simp),hB4⟩
       case round=>
        clear hB4
        obtain⟨k,m3,rfl,rfl,hk,hm3,hR,hbr3⟩:=hrel
        obtain⟨cX,hXw⟩:=hcX.out wr hbr3.out
        obtain⟨z0,z1,z2,hgw⟩:=hcd.out wr hbr3.out
        obtain⟨y1,hg1w⟩:=hE1.out wr hbr3.out
        by_cases hkn:k<nc
        ·have i3:(k:Int)<(nc:Int):=by omega
         obtain⟨c,hc⟩:∃c,x.code[k]?=some c:=⟨_,List.getElem?_eq_getElem (by rw [←hnc.out];exact hkn)⟩
         have kc:=Lib.hid (fun (W:World) (hb:Below W2.heap.size W2 W)=>kh.out W hb k c hc m3)
         have hbad3:=Lib.hid (fun (hq:H c=true)=>hbad2.out (by rw [any_at5 hc hq];simp))
         have hgood3:=Lib.hid (fun (hq:H c=false)=>Lib.hid (any_snoc5 hc hR.out hq))
         have hbl:=Lib.hid (fun (n:Nat)=>below_drawn hbr3.out n)
         clear hR hc
         have hC:=(⟨cX,z0,z1,z2⟩:wr.cell? ⟨w.heap.size,0,none⟩=some (.slice (some ⟨g,off,none⟩) n cp)∧wr.cell? ⟨g,off+f*3,none⟩=some (.string d.name)∧wr.cell? ⟨g,off+f*3+1,none⟩=some (.slice aq np cq)∧wr.cell? ⟨g,off+f*3+2,none⟩=some (.slice (some ⟨g1,off1,none⟩) nb cb))
         go_upto_region 19 with fail
         refine wp_region_held_drew (S:=(fun W'=>W'.cell? ⟨w.heap.size,0,none⟩=some (.slice (some ⟨g,off,none⟩) n cp)∧W'.cell? ⟨g,off+f*3,none⟩=some (.string d.name)∧W'.cell? ⟨g,off+f*3+1,none⟩=some (.slice aq np cq)∧W'.cell? ⟨g,off+f*3+2,none⟩=some (.slice (some ⟨g1,off1,none⟩) nb cb))) (by kernel_rfl) hC (fun hHeld=>?_)
         clear hHeld
         refine wpAnyH_take (i:=0) (oi:=(.mk (some 81) (.load 24 (.tmp 2)) 24 "ref.go:287" #[] none)) (v:=?_) rfl (by kernel_rfl) (by kernel_rfl) (by kernel_rfl) (fun _ _ _ h=>h) (Or.inl ⟨by rfl,?_⟩) hC ?_
         rotate_left
         ·(intro w hSw;(try dsimp only at hSw);go_simp;try with_reducible rfl)
         try simp only [Act.put,List.setIfInBounds_toArray,List.set_cons_zero,List.set_cons_succ]
         refine wpAnyH_take (i:=1) (oi:=(.mk (some 82) (.fieldAddr 24 (.tmp 2) 0) 0 "ref.go:287" #[] none)) (v:=?_) rfl (by kernel_rfl) (by kernel_rfl) (by kernel_rfl) (fun _ _ _ h=>h) (Or.inl ⟨by rfl,?_⟩) hC ?_
         rotate_left
         ·(intro w hSw;(try dsimp only at hSw);go_simp;try with_reducible rfl)
         try simp only [Act.put,List.setIfInBounds_toArray,List.set_cons_zero,List.set_cons_succ]
         refine wpAnyH_take (i:=2) (oi:=(.mk (some 83) (.load 22 (.tmp 82)) 22 "ref.go:287" #[.mk 1 .data] none)) (v:=?_) rfl (by kernel_rfl) (by kernel_rfl) (by kernel_rfl) (fun _ _ _ h=>h) (Or.inl ⟨by rfl,?_⟩) hC ?_
         rotate_left
         ·(intro w hSw;(try dsimp only at hSw);go_simp;try with_reducible rfl)
         try simp only [Act.put,List.setIfInBounds_toArray,List.set_cons_zero,List.set_cons_succ]
         refine wpAnyH_take (i:=3) (oi:=(.mk (some 84) (.move (.tmp 7)) 3 "ref.go:287" #[] none)) (v:=?_) rfl (by kernel_rfl) (by kernel_rfl) (by kernel_rfl) (fun _ _ _ h=>h) (Or.inl ⟨by rfl,?_⟩) hC ?_
         rotate_left
         ·(intro w hSw;(try dsimp only at hSw);go_simp;try with_reducible rfl)
         try simp only [Act.put,List.setIfInBounds_toArray,List.set_cons_zero,List.set_cons_succ]
         refine wpAnyH_take (i:=4) (oi:=(.mk (some 85) (.indexAddr 22 (.tmp 83) (.tmp 84)) 0 "ref.go:287" #[.mk 2 .data,.mk 3 .data] none)) (v:=?_) rfl (by kernel_rfl) (by kernel_rfl) (by kernel_rfl) (fun _ _ _ h=>h) (Or.inl ⟨by rfl,?_⟩) hC ?_
         rotate_left
         ·(intro w hSw;(try dsimp only at hSw);go_simp;try with_reducible rfl)
         try simp only [Act.put,List.setIfInBounds_toArray,List.set_cons_zero,List.set_cons_succ]
         refine wpAnyH_take (i:=5) (oi:=(.mk (some 86) (.load 40 (.tmp 85)) 40 "ref.go:287" #[.mk 4 .data] none)) (v:=?_) rfl (by kernel_rfl) (by kernel_rfl) (by kernel_rfl) (fun _ _ _ h=>h) (Or.inl ⟨by rfl,?_⟩) hC ?_
         rotate_left
         ·(intro w hSw;(try dsimp only at hSw);go_simp;try with_reducible rfl)
         try simp only [Act.put,List.setIfInBounds_toArray,List.set_cons_zero,List.set_cons_succ]
         refine wpAnyH_take (i:=6) (oi:=(.mk (some 87) (.move (.tmp 8)) 3 "ref.go:287" #[] none)) (v:=?_) rfl (by kernel_rfl) (by kernel_rfl) (by kernel_rfl) (fun _ _ _ h=>h) (Or.inl ⟨by rfl,?_⟩) hC ?_
         rotate_left
         ·(intro w hSw;(try dsimp only at hSw);go_simp;try with_reducible rfl)
         try simp only [Act.put,List.setIfInBounds_toArray,List.set_cons_zero,List.set_cons_succ]
         refine wpAnyH_take (i:=7) (oi:=(.mk (some 88) (.move (.tmp 9)) 3 "ref.go:287" #[] none)) (v:=?_) rfl (by kernel_rfl) (by kernel_rfl) (by kernel_rfl) (fun _ _ _ h=>h) (Or.inl ⟨by rfl,?_⟩) hC ?_
         rotate_left
         ·(intro w hSw;(try dsimp only at hSw);go_simp;try with_reducible rfl)
         try simp only [Act.put,List.setIfInBounds_toArray,List.set_cons_zero,List.set_cons_succ]
         refine wpAnyH_take (i:=8) (oi:=(.mk (some 89) (.move (.tmp 6)) 3 "ref.go:287" #[] none)) (v:=?_) rfl (by kernel_rfl) (by kernel_rfl) (by kernel_rfl) (fun _ _ _ h=>h) (Or.inl ⟨by rfl,?_⟩) hC ?_
         rotate_left
         ·(intro w hSw;(try dsimp only at hSw);go_simp;try with_reducible rfl)
         try simp only [Act.put,List.setIfInBounds_toArray,List.set_cons_zero,List.set_cons_succ]
         refine wpAnyH_take (i:=9) (oi:=(.mk (some 90) (.move (.tmp 1)) 50 "ref.go:287" #[] none)) (v:=?_) rfl (by kernel_rfl) (by kernel_rfl) (by kernel_rfl) (fun _ _ _ h=>h) (Or.inl ⟨by rfl,?_⟩) hC ?_
         rotate_left
         ·(intro w hSw;(try dsimp only at hSw);go_simp;try with_reducible rfl)
         try simp only [Act.put,List.setIfInBounds_toArray,List.set_cons_zero,List.set_cons_succ]
         refine wpAnyH_ready (rs:=[10]) (by kernel_rfl) (by simp) (AllReadyH.cons (o:=(.mk (some 91) (.call (.mk (.value (.func 60)) #[(.tmp 81),(.tmp 86),(.tmp 87),(.tmp 88),(.tmp 89),(.tmp 90)] #[24,40,3,3,3,50])) 4 "ref.go:287" #[.mk 0 .data,.mk 5 .data,.mk 6 .data,.mk 7 .data,.mk 8 .data,.mk 9 .data] none)) rfl (fun K hK=>?_) AllReadyH.nil)
         go_simp
         (go_at_call 60;refine Calls.mono (kc.out _ hbr3.out.drew) ?_;rintro e w5 ⟨rfl,hb5⟩)
         have hB5:=Lib.hid (hbr3.out.drew.trans (hb5.mono hbr3.out.drew.size))
         clear hb5
         replace hC:=(⟨(hcX.out w5 hB5.out).1,(hcd.out w5 hB5.out).1,(hcd.out w5 hB5.out).2.1,(hcd.out w5 hB5.out).2.2.1⟩:w5.cell? ⟨w.heap.size,0,none⟩=some (.slice (some ⟨g,off,none⟩) n cp)∧w5.cell? ⟨g,off+f*3,none⟩=some (.string d.name)∧w5.cell? ⟨g,off+f*3+1,none⟩=some (.slice aq np cq)∧w5.cell? ⟨g,off+f*3+2,none⟩=some (.slice (some ⟨g1,off1,none⟩) nb cb))
         refine hK.out _ _ hC (fun hHeld=>?_)
         clear hK K hHeld
         try simp only [Act.put,List.setIfInBounds_toArray,List.set_cons_zero,List.set_cons_succ]
         refine wpAnyH_done (by kernel_rfl) ?_ _
         clear hC y1 hg1w
         cases hHc:H c with
         | true=>
          obtain⟨x0,x1,x2,x3,x4,x5,x6⟩:=hcN.out w5 hB5.out
          have e1:X=true:=hbad3.out hHc
          subst e1
          have hBz:=Lib.hid (hst.out w5 hB5.out (.int .i64 f) (.int .i64 j) (.int .i64 k))
          go_wp2_with fail
          exact bodyPost_ret (v:=.tuple #[.agg #[.int .i64 f,.int .i64 j,.int .i64 k],.bool true]) (by simp [results,Tryz.results21,go_sem, *]) rfl ⟨⟨_,_,_,rfl⟩,hBz.out⟩
         | false=>
          have hq:=hgood3.out hHc
          clear hHc
          go_wp2_with fail
          go_roundw
          case rel=>exact⟨k+1,m3+1,by go_num,by go_num,by omega,by omega,hq,hB5⟩
          case measure=>simp [intOf];omega
        ·have i3:decide ((k:Int)<(nc:Int))=false:=by simp;omega
         obtain rfl:k=nc:=by omega
         have hq:=hgood2.out (by rw [hGx.out,any_whole5 hnc.out hR.out];rfl)
         clear hR
         go_wp2_with fail
         go_roundw
         case rel=>exact⟨j+1,m3,rfl,by go_num,by omega,by omega,hq,hbr3⟩
         case measure=>simp [intOf];omega
     ·have i2:decide ((j:Int)<(nb:Int))=false:=by simp;omega
      obtain rfl:j=nb:=by omega
      have hq:=hgood.out (by unfold anyR;rw [hFd.out,any_whole5 hnb.out hQ.out];rfl)
      clear hQ
      go_wp2_with fail
      go_roundw
      case rel=>exact⟨f+1,m2,rfl,by go_num,by omega,by omega,hq,hbr2⟩
      case measure=>simp [intOf];omega
  ·have i1:decide ((f:Int)<(n:Int))=false:=by simp;omega
   obtain rfl:f=n:=by omega
   have e1:X=false:=by rw [hXX.out];exact any_whole5 hn.out hP.out
   subst e1
   obtain⟨x0,x1,x2,x3,x4,x5,x6⟩:=hcN.out wr hbr.out
   have hBz:=Lib.hid (hst.out wr hbr.out (.int .i64 0) (.int .i64 0) (.int .i64 0))
   clear hP
   go_wp2_with fail
   exact bodyPost_ret (v:=.tuple #[.agg #[.int .i64 0,.int .i64 0,.int .i64 0],.bool false]) (by simp [results,Tryz.results21,go_sem, *]) rfl ⟨⟨_,_,_,rfl⟩,hBz.out⟩
end
section
open Go.RowKit Go.Maps Go.Shelf Go.WideMaps
attribute [local go_sem] Oper.semAt_some
theorem toList_neS {x y:ByteArray}(h:x≠y):(x.toList==y.toList)=false:=by
 rw [beq_eq_false_iff_ne]
 intro e
 rw [ByteArray.toList_eq,ByteArray.toList_eq] at e
 exact h (ByteArray.ext (Array.toList_inj.1 e))
theorem textsS_any {w:World}{va vb:Value}{xs ys:List ByteArray}(ha:RdS w va xs)(hb:RdS w vb ys)(hl0':xs.length≤maxLen):
  Calls Tryz.prog 24 #[va,vb] w fun e w'=>e=.returned (.bool (decide (xs=ys)))∧∃n,w'=w.drewN n:=by
 obtain⟨aa,ca,rfl⟩:=ha.form
 obtain⟨ab,cb,rfl⟩:=hb.form
 rw [List.length_map,List.length_map] at *
 have hl:xs.length≤9223372036854775807:=hl0'
 clear hl0'
 by_cases hl0:xs.length=ys.length
 ·have hne:((xs.length:Int) != (ys.length:Int))=false:=by simp [hl0]
  have hlb:=hl
  have hl:=Lib.hid hl0
  have hle:xs.length≤ys.length∧ys.length≤xs.length:=by omega
  clear hl0
  go_enter Tryz.func24,Tryz.ntmps24
  go_wp2
  go_loopw [5] (fun i wr=>∃j n:Nat,j≤xs.length∧i=.int .i64 j∧wr=w.drewN n∧Hid (xs.take j=ys.take j)) (fun i _=>xs.length-(intOf i).toNat)
  case atStart=>exact⟨0,0,Nat.zero_le _,rfl,rfl,Lib.hid rfl⟩
  case round=>
   obtain⟨j,n,hj,rfl,rfl,ht⟩:=hrel
   by_cases hlt:j<xs.length
   ·have hlt':j<ys.length:=by omega
    obtain⟨x,hx⟩:∃k,xs[j]?=some k:=⟨_,List.getElem?_eq_getElem hlt⟩
    obtain⟨y,hy⟩:∃k,ys[j]?=some k:=⟨_,List.getElem?_eq_getElem hlt'⟩
    obtain⟨p,o,cap,e,_,hc⟩:=ha.at (i:=j) (u:=.string x) (by simp [hx])
    obtain⟨p',o',cap',e',_,hc'⟩:=hb.at (i:=j) (u:=.string y) (by simp [hy])
    simp only [Value.slice.injEq] at e e'
    obtain⟨rfl,-,rfl⟩:=e
    obtain⟨rfl,-,rfl⟩:=e'
    have htx:=Lib.hid (take_snoc hx)
    have hty:=Lib.hid (take_snoc hy)
    have hnex0:xs=ys→x=y:=fun e=>by subst e;rw [hx] at hy;exact (Option.some.inj hy)
    have hnex:=Lib.hid hnex0
    clear hnex0 hx hy ha hb hle
    by_cases hxy:x=y
    ·subst hxy
     go_wp2
     go_quiet (fail)
     go_wp2
     exact⟨⟨j+1,n+nq,by omega,by go_num,rfl,Lib.hid (by rw [htx.out,hty.out,ht.out])⟩,by simp [intOf];omega⟩
    ·have hb:(x.toList==y.toList)=false:=toList_neS hxy
     go_wp2
     go_quiet (fail)
     go_wp2
     go_ret
     have hf:¬xs=ys:=fun e=>hxy (hnex.out e)
     exact⟨by simp [hf],n+nq,World.drewN_drewN _ _ _⟩
   ·have:j=xs.length:=by omega
    subst this
    have he:xs=ys:=by
     have h1:=ht.out
     rw [List.take_length,hl.out,List.take_length] at h1
     exact h1
    clear ht hle hl
    go_wp2
    go_ret
    exact⟨by simp [he],n,rfl⟩
 ·have hne:((xs.length:Int) != (ys.length:Int))=true:=by simp;omega
  go_enter Tryz.func24,Tryz.ntmps24
  go_wp2
  go_ret
  refine⟨?_,0,rfl⟩
  have:¬xs=ys:=fun e=>hl0 (by rw [e])
  simp [this]
set_option maxRecDepth 20000 in
set_option maxHeartbeats 8000000 in
theorem sameI_yes {w:World}{d:Ins}{va vl ua ul:Value}(h1:RdS w va d.args)(h2:RdS w vl d.labels)(h3:RdS w ua d.args)(h4:RdS w ul d.labels)(n1:d.args.length≤maxLen)(n2:d.labels.length≤maxLen):Calls Tryz.prog 25 #[.agg (insV d va vl).toArray,.agg (insV d ua ul).toArray] w fun e w'=>e=.returned (.bool true)∧Below w.heap.size w w':=by
 obtain⟨xa,ca,rfl⟩:=h1.shape
 obtain⟨xl,cl,rfl⟩:=h2.shape
 obtain⟨ya,da,rfl⟩:=h3.shape
 obtain⟨yl,dl,rfl⟩:=h4.shape
 obtain⟨W2,hW2⟩:∃W2,(w.alloc (.cells (insV d (.slice xa d.args.length ca) (.slice xl d.labels.length cl)).toArray 46)).alloc (.cells (insV d (.slice ya d.args.length da) (.slice yl d.labels.length dl)).toArray 46)=W2:=⟨_,rfl⟩
 have hX:W2.heap[w.heap.size]?=some (.cells (insV d (.slice xa d.args.length ca) (.slice xl d.labels.length cl)).toArray 46 (0,0)):=by rw [←hW2];exact at_oldN (at_newN rfl)
 have hY:W2.heap[w.heap.size+1]?=some (.cells (insV d (.slice ya d.args.length da) (.slice yl d.labels.length dl)).toArray 46 (0,0)):=by rw [←hW2];exact at_newN (by simp)
 have hB:Below w.heap.size w W2:=by rw [←hW2];exact ((Below.refl _ _).alloc (Nat.le_refl _) _).alloc (by simp) _
 have hXl:w.heap.size<W2.heap.size:=(Array.getElem?_eq_some_iff.1 hX).1
 have hYl:w.heap.size+1<W2.heap.size:=(Array.getElem?_eq_some_iff.1 hY).1
 have x0:W2.cell? ⟨w.heap.size,0,none⟩=some (.int .u8 d.op):=by rw [blk_cell hX];rfl
 have x1:W2.cell? ⟨w.heap.size,1,none⟩=some (.string d.dst):=by rw [blk_cell hX];rfl
 have x2:W2.cell? ⟨w.heap.size,2,none⟩=some (.string d.a):=by rw [blk_cell hX];rfl
 have x3:W2.cell? ⟨w.heap.size,3,none⟩=some (.string d.b):=by rw [blk_cell hX];rfl
 have x4:W2.cell? ⟨w.heap.size,4,none⟩=some (.int .i64 d.n):=by rw [blk_cell hX];rfl
 have x5:W2.cell? ⟨w.heap.size,5,none⟩=some (.string d.fn):=by rw [blk_cell hX];rfl
 have x6:W2.cell? ⟨w.heap.size,6,none⟩=some (.slice xa d.args.length ca):=by rw [blk_cell hX];rfl
 have x7:W2.cell? ⟨w.heap.size,7,none⟩=some (.slice xl d.labels.length cl):=by rw [blk_cell hX];rfl
 have y0:W2.cell? ⟨w.heap.size+1,0,none⟩=some (.int .u8 d.op):=by rw [blk_cell hY];rfl
 have y1:W2.cell? ⟨w.heap.size+1,1,none⟩=some (.string d.dst):=by rw [blk_cell hY];rfl
 have y2:W2.cell? ⟨w.heap.size+1,2,none⟩=some (.string d.a):=by rw [blk_cell hY];rfl
 have y3:W2.cell? ⟨w.heap.size+1,3,none⟩=some (.string d.b):=by rw [blk_cell hY];rfl
 have y4:W2.cell? ⟨w.heap.size+1,4,none⟩=some (.int .i64 d.n):=by rw [blk_cell hY];rfl
 have y5:W2.cell? ⟨w.heap.size+1,5,none⟩=some (.string d.fn):=by rw [blk_cell hY];rfl
 have y6:W2.cell? ⟨w.heap.size+1,6,none⟩=some (.slice ya d.args.length da):=by rw [blk_cell hY];rfl
 have y7:W2.cell? ⟨w.heap.size+1,7,none⟩=some (.slice yl d.labels.length dl):=by rw [blk_cell hY];rfl
 have k1:=Lib.hid (fun (n:Nat)=>textsS_any (Rd.below h1 (below_drawn hB n)) (Rd.below h3 (below_drawn hB n)) n1)
 have k2:=Lib.hid (fun (n:Nat)=>textsS_any (Rd.below h2 (below_drawn hB n)) (Rd.below h4 (below_drawn hB n)) n2)
 have d1:decide (d.args=d.args)=true:=decide_eq_true rfl
 have d2:decide (d.labels=d.labels)=true:=decide_eq_true rfl
 replace hB:=Lib.hid hB
 replace hW2:=Lib.hid hW2
 clear hX hY h1 h2 h3 h4 n1 n2
 go_enter Tryz.func25,Tryz.ntmps25
 go_upto_region 1 with fail
 rw [hW2.out]
 clear hW2
 go_wp2_with fail
 refine Calls.mono (k1.out 0) ?_
 rintro e w' ⟨rfl,k,rfl⟩
 dsimp only
 go_wp2_with fail
 refine Calls.mono (k2.out _) ?_
 rintro e w' ⟨rfl,m,rfl⟩
 dsimp only
 go_wp2_with fail
 go_ret
 exact⟨rfl,below_drawn hB.out _⟩
theorem ins_at5 {w:World}{v:Value}{L:List Ins}{k:Nat}{d:Ins}(h:RdE 8 RdIns w v L)(hk:L[k]?=some d):∃g o cap va vl,v=.slice (some ⟨g,o,none⟩) L.length cap∧g<w.heap.size∧RdS w va d.args∧RdS w vl d.labels∧∀(j:Nat) u,(insV d va vl)[j]?=some u→w.cell? ⟨g,o+k*8+j,none⟩=some u:=by
 obtain⟨g,o,cap,cs,e,hg,⟨va,vl,rfl,ra,rl⟩,-,hc⟩:=h.at hk
 exact⟨g,o,cap,va,vl,e,hg,ra,rl,hc⟩
end
end Go.Proofs.YtknkiaedgeejiaaGreatDoor
