/- NQuestB, NVar, NQuestC. -/
import Derived.Test.YtknkiaedgeejiaaGreatDoorSP6
namespace Go.Proofs.YtknkiaedgeejiaaGreatDoor
set_option linter.unusedVariables false
set_option linter.unusedSimpArgs false
section
open Go.RowKit Go.Maps Go.Shelf
def step3 (l:List ByteArray)(x:Prt):Bool × List ByteArray:=match x with
 | .fn _ d=>twiceL l [d.name]
 | .blk _ _ _ _=>(false,l)
 | .ins _ _ _ _ _ _=>(false,l)
theorem step3_len:∀pre:List Prt,(runSt step3 [] pre).length≤pre.length:=by
 refine snocP (by simp [runSt]) (fun l x ih=>?_)
 rw [runSt_snoc,List.length_append,List.length_singleton]
 cases x with
 | fn f d=>have:=twiceL_len [d.name] (runSt step3 [] l);simp [step3] at this ⊢;omega
 | blk f k d x=>simp [step3];omega
 | ins f k i d x c=>simp [step3];omega
theorem keeps3 {P:List Fun}(hP:POk P){m Bx:Nat}{W0:World}(hm:m=W0.heap.size):Keeps P m W0 130 #[.pointer (some ⟨Bx,0,none⟩)] step3 [] (fun l U W=>∃bm,SetBx Bx l U bm W) where
 calm:=fun s U W W' ⟨bm,h⟩ hT=>⟨bm,h.calm hT⟩
 call:=fun s U x vs W ⟨pre,rest,e,es,hok⟩ hx hbel ⟨bm,hU⟩=>by
  have hl:s.length≤2000000000000000000:=by rw [es];have:=step3_len pre;have:=pre_len hP e;omega
  have hf:=parts_fits hP.fits (partsCalls_at e)
  have hv:PrtV W x vs:=hx.below (by rw [←hm];exact hbel)
  have h1:Calls Tryz.prog 130 #[.agg vs,.pointer (some ⟨Bx,0,none⟩)] W fun e W'=>e=.returned (.bool (step3 s x).1)∧SetBx Bx (step3 s x).2 U bm W'∧Touch W W' (fun k=>k=bm):=by
   cases x with
   | fn f d=>exact c3_fn hf hv hU hl
   | blk f k d x=>exact c3_blk hf hv hU hl
   | ins f k i d x c=>exact c3_ins hf hv hU hl
  refine Calls.mono h1 ?_
  rintro e' W' ⟨rfl,h2,h3⟩
  exact⟨U,rfl,⟨bm,h2⟩,h3.mono (fun k _ hk=>(hU.own k).2 (.inr hk)),fun k hk=>.inl hk⟩
def step7 (s:Option (List ByteArray))(x:Prt):Bool × Option (List ByteArray):=match x,s with
 | .fn _ _,_=>(false,some [])
 | .blk _ _ _ x,some l=>((twiceL l [x.label]).1,some (twiceL l [x.label]).2)
 | .blk _ _ _ _,none=>(false,none)
 | .ins _ _ _ _ _ _,s=>(false,s)
def olen (s:Option (List ByteArray)):Nat:=match s with | some l=>l.length | none=>0
theorem step7_len:∀pre:List Prt,olen (runSt step7 none pre)≤pre.length:=by
 refine snocP (by simp [runSt,olen]) (fun l x ih=>?_)
 rw [runSt_snoc,List.length_append,List.length_singleton]
 generalize runSt step7 none l=s at ih ⊢
 cases x with
 | fn f d=>simp [step7,olen]
 | blk f k d x=>
  cases s with
  | none=>simp [step7,olen]
  | some l2=>have:=twiceL_len [x.label] l2;simp [step7,olen] at this ih ⊢;omega
 | ins f k i d x c=>simp [step7];omega
theorem parts_head {P:List Fun}{x:Prt}{r:List Prt}(h:partsL P=x::r):∃d,x=.fn 0 d:=by
 cases P with
 | nil=>cases h
 | cons d P=>
  refine⟨d,?_⟩
  have:partsL (d::P)=.fn 0 d::(cat (fun b x=>blkL 0 b d x) d.blocks++(P.mapIdx (fun i=>funL (i+1))).flatten):=by
   unfold partsL
   show (List.mapIdx funL (d::P)).flatten=_
   rw [List.mapIdx_cons]
   rfl
  rw [this] at h
  cases h
  rfl
theorem some_stays {σ:Type}{step:Option σ→Prt→Bool × Option σ}(hs:∀l x,∃l',(step (some l) x).2=some l'):∀(pre:List Prt) (l:σ),∃l',runSt step (some l) pre=some l'
 | [],l=>⟨l,rfl⟩
 | x::r,l=>by
  obtain⟨l',e⟩:=hs l x
  obtain⟨l2,e2⟩:=some_stays hs r l'
  exact⟨l2,by show runSt step (step (some l) x).2 r=_;rw [e,e2]⟩
theorem none_fn {σ:Type}{step:Option σ→Prt→Bool × Option σ}(hs:∀l x,∃l',(step (some l) x).2=some l')(hf:∀f d,∃l',(step none (.fn f d)).2=some l'){P:List Fun}{pre rest:List Prt}{x:Prt}(h:partsL P=pre++x::rest)(hn:runSt step none pre=none):∃d,x=.fn 0 d:=by
 cases pre with
 | nil=>exact parts_head h
 | cons y r=>
  obtain⟨d,rfl⟩:=parts_head h
  exfalso
  obtain⟨l',e⟩:=hf 0 d
  obtain⟨l2,e2⟩:=some_stays hs r l'
  have:runSt step none (Prt.fn 0 d::r)=runSt step (step none (Prt.fn 0 d)).2 r:=rfl
  rw [this,e,e2] at hn
  cases hn
def OptBx (Bx:Nat)(s:Option (List ByteArray))(U:Nat→Prop)(W:World):Prop:=match s with
 | none=>W.heap[Bx]?=some (.cells #[.map none] 148 (0,0))∧∀k,U k↔k=Bx
 | some l=>∃bm,SetBx Bx l U bm W
theorem OptBx.calm {Bx:Nat}{s:Option (List ByteArray)}{U:Nat→Prop}{W W':World}(h:OptBx Bx s U W)(hT:Touch W W' (fun k=>¬U k)):OptBx Bx s U W':=by
 cases s with
 | none=>exact⟨(hT.block _ (Array.getElem?_eq_some_iff.1 h.1).1 (fun hn=>hn ((h.2 _).2 rfl))).trans h.1,h.2⟩
 | some l=>obtain⟨bm,h⟩:=h;exact⟨bm,h.calm hT⟩
theorem OptBx.box {Bx:Nat}{s:Option (List ByteArray)}{U:Nat→Prop}{W:World}(h:OptBx Bx s U W):U Bx∧∃ob,W.heap[Bx]?=some (.cells #[.map ob] 148 (0,0)):=by
 cases s with
 | none=>exact⟨(h.2 _).2 rfl,_,h.1⟩
 | some l=>obtain⟨bm,h⟩:=h;exact⟨(h.own _).2 (.inl rfl),_,h.box⟩
theorem keeps7 {P:List Fun}(hP:POk P){m Bx:Nat}{W0:World}(hm:m=W0.heap.size):Keeps P m W0 137 #[.pointer (some ⟨Bx,0,none⟩)] step7 none (OptBx Bx) where
 calm:=fun s U W W' h hT=>h.calm hT
 call:=fun s U x vs W ⟨pre,rest,e,es,hok⟩ hx hbel hU=>by
  have hl:=step7_len pre
  rw [←es] at hl
  have hp:=pre_len hP e
  have hf:=parts_fits hP.fits (partsCalls_at e)
  have hv:PrtV W x vs:=hx.below (by rw [←hm];exact hbel)
  have hnone:s=none→∃d,x=.fn 0 d:=fun hs=>none_fn (step:=step7) (fun l x=>by cases x<;>exact⟨_,rfl⟩) (fun _ _=>⟨_,rfl⟩) e (by rw [←es];exact hs)
  cases x with
  | fn f d=>
   obtain⟨hUB,ob,hb⟩:=hU.box
   refine Calls.mono (c7_fn hv hb) ?_
   rintro e' W' ⟨rfl,bm,hge,h2,h3⟩
   refine⟨fun k=>k=Bx∨k=bm,rfl,⟨bm,h2⟩,h3.mono (fun k _ hk=>by rw [hk];exact hUB),fun k hk=>?_⟩
   rcases hk with rfl | rfl
   ·exact .inl hUB
   ·exact .inr ⟨hge,h2.set.lt⟩
  | blk f k d x=>
   cases s with
   | none=>obtain⟨d',e'⟩:=hnone rfl;cases e'
   | some l=>
    obtain⟨bm,hU⟩:=hU
    refine Calls.mono (c7_blk hf hv hU (by simp [olen] at hl;omega)) ?_
    rintro e' W' ⟨rfl,h2,h3⟩
    exact⟨U,rfl,⟨bm,h2⟩,h3.mono (fun k _ hk=>(hU.own k).2 (.inr hk)),fun k hk=>.inl hk⟩
  | ins f k i d x c=>
   cases s with
   | none=>obtain⟨d',e'⟩:=hnone rfl;cases e'
   | some l=>
    obtain⟨bm,hU⟩:=hU
    refine Calls.mono (c7_ins hf hv hU (by simp [olen] at hl;omega)) ?_
    rintro e' W' ⟨rfl,h2,h3⟩
    exact⟨U,rfl,⟨bm,h2⟩,h3.mono (fun k _ hk=>(hU.own k).2 (.inr hk)),fun k hk=>.inl hk⟩
set_option maxRecDepth 20000 in
set_option maxHeartbeats 2000000 in
theorem q8_any {P:List Fun}(hP:POk P){w:World}{v:Value}(h:RdE 3 RdFun w v P):Calls Tryz.prog 88 #[.agg #[v]] w fun e w'=>e=.returned (ansV (firstBad step8 0 (partsL P)))∧Below w.heap.size w w':=by
 obtain⟨a0,c0,rfl⟩:=h.form
 have hb0:Below w.heap.size w ((w.alloc (.cells #[.slice a0 P.length c0] 91)).alloc (.cells #[.int .i64 0,.int .i64 0,.int .i64 0] 53)):=((Below.refl _ _).alloc (Nat.le_refl _) _).alloc (by simp) _
 have hsz:((w.alloc (.cells #[.slice a0 P.length c0] 91)).alloc (.cells #[.int .i64 0,.int .i64 0,.int .i64 0] 53)).heap.size=w.heap.size+2:=by simp
 have hN:((w.alloc (.cells #[.slice a0 P.length c0] 91)).alloc (.cells #[.int .i64 0,.int .i64 0,.int .i64 0] 53)).heap[w.heap.size+1]?=some (.cells #[.int .i64 0,.int .i64 0,.int .i64 0] 53 (0,0)):=at_newN (by simp)
 have hl:((w.alloc (.cells #[.slice a0 P.length c0] 91)).alloc (.cells #[.int .i64 0,.int .i64 0,.int .i64 0] 53)).cell? ⟨w.heap.size,0,none⟩=some (.slice a0 P.length c0):=by rw [blk_cell (at_oldN (at_newN rfl))];rfl
 have hPb:RdE 3 RdFun ((w.alloc (.cells #[.slice a0 P.length c0] 91)).alloc (.cells #[.int .i64 0,.int .i64 0,.int .i64 0] 53)) (.slice a0 P.length c0) P:=RdE.below (fun _ _ h=>h.below hb0) h hb0
 have hmm:=@run_makeMap Tryz.prog
 unfold ansV ptA
 generalize hfb:firstBad step8 0 (partsL P)=fb
 go_enter Tryz.func88,Tryz.ntmps88
 go_upto_region 1 with fail
 generalize ((w.alloc (.cells #[.slice a0 P.length c0] 91)).alloc (.cells #[.int .i64 0,.int .i64 0,.int .i64 0] 53))=wb at hb0 hsz hN hl hPb ⊢
 obtain⟨wc,hwc⟩:∃wc,wc=wb.alloc (.cells #[.int .i64 0] 3):=⟨_,rfl⟩
 have hbc:Below wb.heap.size wb wc:=by rw [hwc];exact (Below.refl _ _).alloc (Nat.le_refl _) _
 have hI:CntBx (w.heap.size+2) 0 (fun k=>k=w.heap.size+2) wc:=⟨by rw [hwc];exact at_newN (by omega),fun k=>Iff.rfl⟩
 have hw:=where_any (W0:=wb) (keeps8 (Bx:=w.heap.size+2) rfl) (enters_of Tryz.func138 (by kernel_rfl) rfl) rfl hPb hbc (U0:=fun k=>k=w.heap.size+2) (fun k hk=>by rw [hk,hwc];simp;omega) hI hP.l1 hP.l2 hP.l3
 rw [hfb] at hw
 unfold ptA at hw
 have hlc:=keepC hbc hl
 generalize P.length=p at h hw hPb hl hlc ⊢
 replace hb0:=Lib.hid hb0
 replace hN:=Lib.hid hN
 replace hw:=Lib.hid hw
 clear h hPb hfb hI
 replace hbc:=Lib.hid hbc
 go_upto_region 2 with fail
 rw [←hwc]
 replace hwc:=Lib.hid hwc
 go_wp2_with fail
 refine hw.out.mono ?_
 rintro e w2 ⟨rfl,hb2⟩
 have hN2:=(hb2.block _ (Array.getElem?_eq_some_iff.1 hN.out).1).trans hN.out
 have hf:=Lib.hid (show Below w.heap.size w ((((w2.setCell ⟨w.heap.size+1,0,none⟩ (.int .i64 (resAt fb).1)).setCell ⟨w.heap.size+1,1,none⟩ (.int .i64 (resAt fb).2.1)).setCell ⟨w.heap.size+1,2,none⟩ (.int .i64 (resAt fb).2.2))) from (((hb0.out.trans (hb2.mono hb0.out.size)).setCell (p:=⟨w.heap.size+1,0,none⟩) (Nat.le_succ _) _).setCell (p:=⟨w.heap.size+1,1,none⟩) (Nat.le_succ _) _).setCell (p:=⟨w.heap.size+1,2,none⟩) (Nat.le_succ _) _)
 have hN3:=Lib.hid (set_three (v0:=.int .i64 (resAt fb).1) (v1:=.int .i64 (resAt fb).2.1) (v2:=.int .i64 (resAt fb).2.2) hN2)
 have z0:w2.cell? ⟨w.heap.size+1,0,none⟩=some (.int .i64 0):=by rw [blk_cell hN2];rfl
 have z1:w2.cell? ⟨w.heap.size+1,1,none⟩=some (.int .i64 0):=by rw [blk_cell hN2];rfl
 have z2:w2.cell? ⟨w.heap.size+1,2,none⟩=some (.int .i64 0):=by rw [blk_cell hN2];rfl
 have y0:w2.frozen? ⟨w.heap.size+1,0,none⟩=false:=by simp [World.frozen?,hN2]
 have y1:w2.frozen? ⟨w.heap.size+1,1,none⟩=false:=by simp [World.frozen?,hN2]
 have y2:w2.frozen? ⟨w.heap.size+1,2,none⟩=false:=by simp [World.frozen?,hN2]
 clear hb2 hN2 hw hl hlc
 go_wp2_with fail
 generalize (((w2.setCell ⟨w.heap.size+1,0,none⟩ (.int .i64 (resAt fb).1)).setCell ⟨w.heap.size+1,1,none⟩ (.int .i64 (resAt fb).2.1)).setCell ⟨w.heap.size+1,2,none⟩ (.int .i64 (resAt fb).2.2))=w3 at hf hN3 ⊢
 have c0:w3.cell? ⟨w.heap.size+1,0,none⟩=some (.int .i64 (resAt fb).1):=by rw [blk_cell hN3.out];rfl
 have c1:w3.cell? ⟨w.heap.size+1,1,none⟩=some (.int .i64 (resAt fb).2.1):=by rw [blk_cell hN3.out];rfl
 have c2:w3.cell? ⟨w.heap.size+1,2,none⟩=some (.int .i64 (resAt fb).2.2):=by rw [blk_cell hN3.out];rfl
 exact bodyPost_ret (v:=.tuple #[.agg #[.int .i64 (resAt fb).1,.int .i64 (resAt fb).2.1,.int .i64 (resAt fb).2.2],.bool fb.isSome]) (by simp [results,Tryz.results88,go_sem,c0,c1,c2]) rfl ⟨rfl,hf.out⟩
set_option maxRecDepth 20000 in
set_option maxHeartbeats 2000000 in
theorem q7_any {P:List Fun}(hP:POk P){w:World}{v:Value}(h:RdE 3 RdFun w v P):Calls Tryz.prog 87 #[.agg #[v]] w fun e w'=>e=.returned (ansV (firstBad step7 none (partsL P)))∧Below w.heap.size w w':=by
 obtain⟨a0,c0,rfl⟩:=h.form
 have hb0:Below w.heap.size w ((w.alloc (.cells #[.slice a0 P.length c0] 91)).alloc (.cells #[.int .i64 0,.int .i64 0,.int .i64 0] 53)):=((Below.refl _ _).alloc (Nat.le_refl _) _).alloc (by simp) _
 have hsz:((w.alloc (.cells #[.slice a0 P.length c0] 91)).alloc (.cells #[.int .i64 0,.int .i64 0,.int .i64 0] 53)).heap.size=w.heap.size+2:=by simp
 have hN:((w.alloc (.cells #[.slice a0 P.length c0] 91)).alloc (.cells #[.int .i64 0,.int .i64 0,.int .i64 0] 53)).heap[w.heap.size+1]?=some (.cells #[.int .i64 0,.int .i64 0,.int .i64 0] 53 (0,0)):=at_newN (by simp)
 have hl:((w.alloc (.cells #[.slice a0 P.length c0] 91)).alloc (.cells #[.int .i64 0,.int .i64 0,.int .i64 0] 53)).cell? ⟨w.heap.size,0,none⟩=some (.slice a0 P.length c0):=by rw [blk_cell (at_oldN (at_newN rfl))];rfl
 have hPb:RdE 3 RdFun ((w.alloc (.cells #[.slice a0 P.length c0] 91)).alloc (.cells #[.int .i64 0,.int .i64 0,.int .i64 0] 53)) (.slice a0 P.length c0) P:=RdE.below (fun _ _ h=>h.below hb0) h hb0
 have hmm:=@run_makeMap Tryz.prog
 unfold ansV ptA
 generalize hfb:firstBad step7 none (partsL P)=fb
 go_enter Tryz.func87,Tryz.ntmps87
 go_upto_region 1 with fail
 generalize ((w.alloc (.cells #[.slice a0 P.length c0] 91)).alloc (.cells #[.int .i64 0,.int .i64 0,.int .i64 0] 53))=wb at hb0 hsz hN hl hPb ⊢
 obtain⟨wc,hwc⟩:∃wc,wc=wb.alloc (.cells #[.map none] 148):=⟨_,rfl⟩
 have hbc:Below wb.heap.size wb wc:=by rw [hwc];exact (Below.refl _ _).alloc (Nat.le_refl _) _
 have hI:OptBx (w.heap.size+2) none (fun k=>k=w.heap.size+2) wc:=⟨by rw [hwc];exact at_newN (by omega),fun k=>Iff.rfl⟩
 have hw:=where_any (W0:=wb) (keeps7 (Bx:=w.heap.size+2) hP rfl) (enters_of Tryz.func137 (by kernel_rfl) rfl) rfl hPb hbc (U0:=fun k=>k=w.heap.size+2) (fun k hk=>by rw [hk,hwc];simp;omega) hI hP.l1 hP.l2 hP.l3
 rw [hfb] at hw
 unfold ptA at hw
 have hlc:=keepC hbc hl
 generalize P.length=p at h hw hPb hl hlc ⊢
 replace hb0:=Lib.hid hb0
 replace hN:=Lib.hid hN
 replace hw:=Lib.hid hw
 clear h hPb hfb hI
 replace hbc:=Lib.hid hbc
 go_upto_region 2 with fail
 rw [←hwc]
 replace hwc:=Lib.hid hwc
 go_wp2_with fail
 refine hw.out.mono ?_
 rintro e w2 ⟨rfl,hb2⟩
 have hN2:=(hb2.block _ (Array.getElem?_eq_some_iff.1 hN.out).1).trans hN.out
 have hf:=Lib.hid (show Below w.heap.size w ((((w2.setCell ⟨w.heap.size+1,0,none⟩ (.int .i64 (resAt fb).1)).setCell ⟨w.heap.size+1,1,none⟩ (.int .i64 (resAt fb).2.1)).setCell ⟨w.heap.size+1,2,none⟩ (.int .i64 (resAt fb).2.2))) from (((hb0.out.trans (hb2.mono hb0.out.size)).setCell (p:=⟨w.heap.size+1,0,none⟩) (Nat.le_succ _) _).setCell (p:=⟨w.heap.size+1,1,none⟩) (Nat.le_succ _) _).setCell (p:=⟨w.heap.size+1,2,none⟩) (Nat.le_succ _) _)
 have hN3:=Lib.hid (set_three (v0:=.int .i64 (resAt fb).1) (v1:=.int .i64 (resAt fb).2.1) (v2:=.int .i64 (resAt fb).2.2) hN2)
 have z0:w2.cell? ⟨w.heap.size+1,0,none⟩=some (.int .i64 0):=by rw [blk_cell hN2];rfl
 have z1:w2.cell? ⟨w.heap.size+1,1,none⟩=some (.int .i64 0):=by rw [blk_cell hN2];rfl
 have z2:w2.cell? ⟨w.heap.size+1,2,none⟩=some (.int .i64 0):=by rw [blk_cell hN2];rfl
 have y0:w2.frozen? ⟨w.heap.size+1,0,none⟩=false:=by simp [World.frozen?,hN2]
 have y1:w2.frozen? ⟨w.heap.size+1,1,none⟩=false:=by simp [World.frozen?,hN2]
 have y2:w2.frozen? ⟨w.heap.size+1,2,none⟩=false:=by simp [World.frozen?,hN2]
 clear hb2 hN2 hw hl hlc
 go_wp2_with fail
 generalize (((w2.setCell ⟨w.heap.size+1,0,none⟩ (.int .i64 (resAt fb).1)).setCell ⟨w.heap.size+1,1,none⟩ (.int .i64 (resAt fb).2.1)).setCell ⟨w.heap.size+1,2,none⟩ (.int .i64 (resAt fb).2.2))=w3 at hf hN3 ⊢
 have c0:w3.cell? ⟨w.heap.size+1,0,none⟩=some (.int .i64 (resAt fb).1):=by rw [blk_cell hN3.out];rfl
 have c1:w3.cell? ⟨w.heap.size+1,1,none⟩=some (.int .i64 (resAt fb).2.1):=by rw [blk_cell hN3.out];rfl
 have c2:w3.cell? ⟨w.heap.size+1,2,none⟩=some (.int .i64 (resAt fb).2.2):=by rw [blk_cell hN3.out];rfl
 exact bodyPost_ret (v:=.tuple #[.agg #[.int .i64 (resAt fb).1,.int .i64 (resAt fb).2.1,.int .i64 (resAt fb).2.2],.bool fb.isSome]) (by simp [results,Tryz.results87,go_sem,c0,c1,c2]) rfl ⟨rfl,hf.out⟩
set_option maxRecDepth 20000 in
set_option maxHeartbeats 2000000 in
theorem q3_any {P:List Fun}(hP:POk P){w:World}{v:Value}(h:RdE 3 RdFun w v P):Calls Tryz.prog 83 #[.agg #[v]] w fun e w'=>e=.returned (ansV (firstBad step3 [] (partsL P)))∧Below w.heap.size w w':=by
 obtain⟨a0,c0,rfl⟩:=h.form
 have hb0:Below w.heap.size w ((w.alloc (.cells #[.slice a0 P.length c0] 91)).alloc (.cells #[.int .i64 0,.int .i64 0,.int .i64 0] 53)):=((Below.refl _ _).alloc (Nat.le_refl _) _).alloc (by simp) _
 have hsz:((w.alloc (.cells #[.slice a0 P.length c0] 91)).alloc (.cells #[.int .i64 0,.int .i64 0,.int .i64 0] 53)).heap.size=w.heap.size+2:=by simp
 have hN:((w.alloc (.cells #[.slice a0 P.length c0] 91)).alloc (.cells #[.int .i64 0,.int .i64 0,.int .i64 0] 53)).heap[w.heap.size+1]?=some (.cells #[.int .i64 0,.int .i64 0,.int .i64 0] 53 (0,0)):=at_newN (by simp)
 have hl:((w.alloc (.cells #[.slice a0 P.length c0] 91)).alloc (.cells #[.int .i64 0,.int .i64 0,.int .i64 0] 53)).cell? ⟨w.heap.size,0,none⟩=some (.slice a0 P.length c0):=by rw [blk_cell (at_oldN (at_newN rfl))];rfl
 have hPb:RdE 3 RdFun ((w.alloc (.cells #[.slice a0 P.length c0] 91)).alloc (.cells #[.int .i64 0,.int .i64 0,.int .i64 0] 53)) (.slice a0 P.length c0) P:=RdE.below (fun _ _ h=>h.below hb0) h hb0
 have hmm:=@run_makeMap Tryz.prog
 unfold ansV ptA
 generalize hfb:firstBad step3 [] (partsL P)=fb
 go_enter Tryz.func83,Tryz.ntmps83
 go_upto_region 1 with fail
 generalize ((w.alloc (.cells #[.slice a0 P.length c0] 91)).alloc (.cells #[.int .i64 0,.int .i64 0,.int .i64 0] 53))=wb at hb0 hsz hN hl hPb ⊢
 obtain⟨wc,hwc⟩:∃wc,wc=(wb.alloc (.map #[] 0)).alloc (.cells #[.map (some (w.heap.size+2))] 148):=⟨_,rfl⟩
 have hbc:Below wb.heap.size wb wc:=by rw [hwc];exact ((Below.refl _ _).alloc (Nat.le_refl _) _).alloc (by simp) _
 have hI:∃bm,SetBx (w.heap.size+3) [] (fun k=>k=w.heap.size+3∨k=w.heap.size+2) bm wc:=⟨w.heap.size+2,by rw [hwc];exact at_newN (by simp;omega),by rw [hwc];exact (hsz ▸ SetS.new wb).block (by rw [at_oldN (at_newN (by omega)),at_newN (by omega)]),by omega,fun k=>Iff.rfl⟩
 have hw:=where_any (W0:=wb) (keeps3 (Bx:=w.heap.size+3) hP rfl) (enters_of Tryz.func130 (by kernel_rfl) rfl) rfl hPb hbc (U0:=fun k=>k=w.heap.size+3∨k=w.heap.size+2) (fun k hk=>by rw [hwc];simp;omega) hI hP.l1 hP.l2 hP.l3
 rw [hfb] at hw
 unfold ptA at hw
 have hlc:=keepC hbc hl
 generalize P.length=p at h hw hPb hl hlc ⊢
 replace hb0:=Lib.hid hb0
 replace hN:=Lib.hid hN
 replace hw:=Lib.hid hw
 clear h hPb hfb hI
 replace hbc:=Lib.hid hbc
 go_upto_region 2 with fail
 rw [←hwc]
 replace hwc:=Lib.hid hwc
 go_wp2_with fail
 refine hw.out.mono ?_
 rintro e w2 ⟨rfl,hb2⟩
 have hN2:=(hb2.block _ (Array.getElem?_eq_some_iff.1 hN.out).1).trans hN.out
 have hf:=Lib.hid (show Below w.heap.size w ((((w2.setCell ⟨w.heap.size+1,0,none⟩ (.int .i64 (resAt fb).1)).setCell ⟨w.heap.size+1,1,none⟩ (.int .i64 (resAt fb).2.1)).setCell ⟨w.heap.size+1,2,none⟩ (.int .i64 (resAt fb).2.2))) from (((hb0.out.trans (hb2.mono hb0.out.size)).setCell (p:=⟨w.heap.size+1,0,none⟩) (Nat.le_succ _) _).setCell (p:=⟨w.heap.size+1,1,none⟩) (Nat.le_succ _) _).setCell (p:=⟨w.heap.size+1,2,none⟩) (Nat.le_succ _) _)
 have hN3:=Lib.hid (set_three (v0:=.int .i64 (resAt fb).1) (v1:=.int .i64 (resAt fb).2.1) (v2:=.int .i64 (resAt fb).2.2) hN2)
 have z0:w2.cell? ⟨w.heap.size+1,0,none⟩=some (.int .i64 0):=by rw [blk_cell hN2];rfl
 have z1:w2.cell? ⟨w.heap.size+1,1,none⟩=some (.int .i64 0):=by rw [blk_cell hN2];rfl
 have z2:w2.cell? ⟨w.heap.size+1,2,none⟩=some (.int .i64 0):=by rw [blk_cell hN2];rfl
 have y0:w2.frozen? ⟨w.heap.size+1,0,none⟩=false:=by simp [World.frozen?,hN2]
 have y1:w2.frozen? ⟨w.heap.size+1,1,none⟩=false:=by simp [World.frozen?,hN2]
 have y2:w2.frozen? ⟨w.heap.size+1,2,none⟩=false:=by simp [World.frozen?,hN2]
 clear hb2 hN2 hw hl hlc
 go_wp2_with fail
 generalize (((w2.setCell ⟨w.heap.size+1,0,none⟩ (.int .i64 (resAt fb).1)).setCell ⟨w.heap.size+1,1,none⟩ (.int .i64 (resAt fb).2.1)).setCell ⟨w.heap.size+1,2,none⟩ (.int .i64 (resAt fb).2.2))=w3 at hf hN3 ⊢
 have c0:w3.cell? ⟨w.heap.size+1,0,none⟩=some (.int .i64 (resAt fb).1):=by rw [blk_cell hN3.out];rfl
 have c1:w3.cell? ⟨w.heap.size+1,1,none⟩=some (.int .i64 (resAt fb).2.1):=by rw [blk_cell hN3.out];rfl
 have c2:w3.cell? ⟨w.heap.size+1,2,none⟩=some (.int .i64 (resAt fb).2.2):=by rw [blk_cell hN3.out];rfl
 exact bodyPost_ret (v:=.tuple #[.agg #[.int .i64 (resAt fb).1,.int .i64 (resAt fb).2.1,.int .i64 (resAt fb).2.2],.bool fb.isSome]) (by simp [results,Tryz.results83,go_sem,c0,c1,c2]) rfl ⟨rfl,hf.out⟩
end
section
open Go.RowKit Go.Maps Go.Shelf
theorem Touch.newer {W w w':World}{S:Nat→Prop}{bm:Nat}(h:Touch W w S)(hT:Touch w w' (fun k=>k=bm))(hb:W.heap.size≤bm):Touch W w' S:=
 ⟨hT.os.trans h.os,hT.tape.trans h.tape,hT.output.trans h.output,Nat.le_trans h.size hT.size,fun k hk hn=>(hT.block k (Nat.lt_of_lt_of_le hk h.size) (fun e=>by omega)).trans (h.block k hk hn)⟩
theorem cell_off {W W':World}{Bx:Nat}{ob:Option Nat}(hX:W.heap[Bx]?=some (.cells #[.map ob] 148 (0,0)))(hT:Touch W W' (fun k=>k=Bx)){p:Addr}{v:Value}(h:W.cell? p=some v)(hv:v≠ .map ob):W'.cell? p=some v:=by
 have hg:p.block≠Bx:=by
  intro e
  unfold World.cell? at h
  rw [e,hX] at h
  cases hs:p.spot with
  | none=>
   rw [hs] at h
   simp only at h
   rcases Nat.eq_zero_or_pos p.off with e0 | e0
   ·rw [e0] at h
    exact hv (Option.some.inj h).symm
   ·rw [Array.getElem?_eq_none (by simp;omega)] at h
    cases h
  | some s=>
   rw [hs] at h
   simp at h
 rw [←h]
 unfold World.cell?
 rw [hT.block p.block (cell_size h) hg]
theorem rds_off {W W':World}{Bx:Nat}{ob:Option Nat}(hX:W.heap[Bx]?=some (.cells #[.map ob] 148 (0,0)))(hT:Touch W W' (fun k=>k=Bx)){v:Value}{ss:List ByteArray}(h:RdS W v ss):RdS W' v ss:=by
 rcases h with h | ⟨g,off,cap,e,hlt,hc⟩
 ·exact .inl h
 ·refine .inr ⟨g,off,cap,e,Nat.lt_of_lt_of_le hlt hT.size,fun i u hu=>cell_off hX hT (hc i u hu) ?_⟩
  rintro rfl
  obtain⟨s,-,e⟩:=List.mem_map.1 (List.mem_of_getElem? hu)
  cases e
theorem given_len (s:ByteArray):(givenL s).length≤1:=by
 unfold givenL
 split<;>simp
theorem given_fit {s:ByteArray}(h:s.size≤maxLen):∀x∈givenL s,x.size≤maxLen:=by
 unfold givenL
 intro x hx
 split at hx
 ·cases hx
 ·rw [List.mem_singleton.1 hx];exact h
set_option maxRecDepth 20000 in
set_option maxHeartbeats 4000000 in
theorem c15_fn {W:World}{f:Nat}{d:Fun}{vs:Array Value}{Bx:Nat}{ob:Option Nat}(hf:(Prt.fn f d).Fits)(hp4:d.params.length≤1000000)(h:PrtV W (Prt.fn f d) vs)(hX:W.heap[Bx]?=some (.cells #[.map ob] 148 (0,0))):
  Calls Tryz.prog 149 #[.agg vs,.pointer (some ⟨Bx,0,none⟩)] W fun e W'=>e=.returned (.bool (twiceL [] d.params).1)∧∃bm,W.heap.size≤bm∧SetBx Bx (twiceL [] d.params).2 (fun k=>k=Bx∨k=bm) bm W'∧Touch W W' (fun k=>k=Bx):=by
 obtain⟨b,o,rfl,hF⟩:=h
 obtain⟨pa,pc,hp,rp⟩:=hF.params
 have hfit:∀s∈d.params,s.size≤maxLen:=hf.2.1
 have hD:=Lib.hid (fun (W':World) (hT:Touch W W' (fun k=>k=Bx))=>(⟨cell_off hX hT hp (by simp),rds_off hX hT rp⟩:W'.cell? ⟨b,o+1,none⟩=some (.slice pa d.params.length pc)∧RdS W' (.slice pa d.params.length pc) d.params))
 clear hF hp rp hf
 generalize hn:d.params.length=n at hD hp4
 replace hn:=Lib.hid hn
 have hX1:=(box_below W (.cells #[.int .i64 f,.int .i64 0,.int .i64 0,.pointer (some ⟨b,o,none⟩),.pointer none,.pointer none] 144)).block Bx (Array.getElem?_eq_some_iff.1 hX).1
 rw [hX] at hX1
 have hN:(W.alloc (.cells #[.int .i64 f,.int .i64 0,.int .i64 0,.pointer (some ⟨b,o,none⟩),.pointer none,.pointer none] 144)).heap[W.heap.size]?=some (.cells #[.int .i64 f,.int .i64 0,.int .i64 0,.pointer (some ⟨b,o,none⟩),.pointer none,.pointer none] 144 (0,0)):=at_newN rfl
 have hT:Touch W (W.alloc (.cells #[.int .i64 f,.int .i64 0,.int .i64 0,.pointer (some ⟨b,o,none⟩),.pointer none,.pointer none] 144)) (fun k=>k=Bx):=Touch.of_below (box_below W _) _
 have hBx:Bx<W.heap.size:=(Array.getElem?_eq_some_iff.1 hX).1
 clear hX
 have hmm:=@run_makeMap Tryz.prog
 go_enter Tryz.func149,Tryz.ntmps149
 go_upto_region 1 with fail
 generalize (W.alloc (.cells #[.int .i64 f,.int .i64 0,.int .i64 0,.pointer (some ⟨b,o,none⟩),.pointer none,.pointer none] 144))=wb at hX1 hN hT ⊢
 have hlt:=(Array.getElem?_eq_some_iff.1 hN).1
 have s0:wb.cell? ⟨W.heap.size,0,none⟩=some (.int .i64 f):=by rw [blk_cell hN];rfl
 have s1:wb.cell? ⟨W.heap.size,1,none⟩=some (.int .i64 0):=by rw [blk_cell hN];rfl
 have s2:wb.cell? ⟨W.heap.size,2,none⟩=some (.int .i64 0):=by rw [blk_cell hN];rfl
 have s3:wb.cell? ⟨W.heap.size,3,none⟩=some (.pointer (some ⟨b,o,none⟩)):=by rw [blk_cell hN];rfl
 have s4:wb.cell? ⟨W.heap.size,4,none⟩=some (.pointer none):=by rw [blk_cell hN];rfl
 have s5:wb.cell? ⟨W.heap.size,5,none⟩=some (.pointer none):=by rw [blk_cell hN];rfl
 replace hX1:=Lib.hid hX1
 replace hN:=Lib.hid hN
 replace hT:=Lib.hid hT
 go_upto_region 2 with (go_at_call 126;refine Calls.mono isFunc_v ?_;rintro e w2 ⟨rfl,hb⟩)
 have hX2:=Lib.hid ((hb.block Bx (by omega)).trans hX1.out)
 have hN2:=Lib.hid ((hb.block _ hlt).trans hN.out)
 have hT2:=Lib.hid (hT.out.trans (Touch.of_below hb _))
 have hlt2:=Nat.lt_of_lt_of_le hlt hb.size
 have e0:w2.cell? ⟨Bx,0,none⟩=some (.map ob):=by rw [blk_cell hX2.out];rfl
 have y0:w2.frozen? ⟨Bx,0,none⟩=false:=by simp [World.frozen?,hX2.out]
 have e1:(w2.alloc (.map #[] 0)).cell? ⟨Bx,0,none⟩=some (.map ob):=by rw [blk_cell (at_oldN hX2.out)];rfl
 have y1:(w2.alloc (.map #[] 0)).frozen? ⟨Bx,0,none⟩=false:=by simp [World.frozen?,at_oldN hX2.out]
 clear s0 s1 s2 s3 s4 s5 hX1 hN hT hb hlt
 go_upto_region 3 with fail
 have hN4:((w2.alloc (.map #[] 0)).setCell ⟨Bx,0,none⟩ (.map (some w2.heap.size))).heap[W.heap.size]?=some (.cells #[.int .i64 f,.int .i64 0,.int .i64 0,.pointer (some ⟨b,o,none⟩),.pointer none,.pointer none] 144 (0,0)):=(Below.heap_setCell _ _ _ _ (show W.heap.size≠Bx by omega)).trans (at_oldN hN2.out)
 have hM4:SetBx Bx [] (fun k=>k=Bx∨k=w2.heap.size) w2.heap.size ((w2.alloc (.map #[] 0)).setCell ⟨Bx,0,none⟩ (.map (some w2.heap.size))):=
  ⟨set_one (at_oldN hX2.out),(SetS.new w2).block (Below.heap_setCell _ _ _ _ (show w2.heap.size≠Bx by omega)),by omega,fun k=>Iff.rfl⟩
 have hT4:Touch W ((w2.alloc (.map #[] 0)).setCell ⟨Bx,0,none⟩ (.map (some w2.heap.size))) (fun k=>k=Bx):=(hT2.out.alloc _).setCell (a:=⟨Bx,0,none⟩) (fun _=>rfl) _
 have hge:W.heap.size≤w2.heap.size:=by omega
 clear hX2 hN2 hT2 e0 y0 e1 y1 hlt2 hmm
 generalize ((w2.alloc (.map #[] 0)).setCell ⟨Bx,0,none⟩ (.map (some w2.heap.size)))=w4 at hN4 hM4 hT4 ⊢
 generalize w2.heap.size=bm at hM4 hge ⊢
 obtain⟨q1,hR⟩:=hD.out w4 hT4
 have hC:w4.drew.cell? ⟨W.heap.size,3,none⟩=some (.pointer (some ⟨b,o,none⟩))∧w4.drew.cell? ⟨W.heap.size,3,none⟩=some (.pointer (some ⟨b,o,none⟩))∧w4.drew.cell? ⟨W.heap.size,3,none⟩=some (.pointer (some ⟨b,o,none⟩))∧w4.drew.cell? ⟨W.heap.size,3,none⟩=some (.pointer (some ⟨b,o,none⟩))∧w4.drew.cell? ⟨W.heap.size,3,none⟩=some (.pointer (some ⟨b,o,none⟩))∧w4.drew.cell? ⟨W.heap.size,3,none⟩=some (.pointer (some ⟨b,o,none⟩))∧w4.drew.cell? ⟨b,o+1,none⟩=some (.slice pa n pc)∧w4.drew.cell? ⟨Bx,0,none⟩=some (.map (some bm)):=⟨by rw [show w4.drew.cell? ⟨W.heap.size,3,none⟩=w4.cell? ⟨W.heap.size,3,none⟩ from rfl,blk_cell hN4];rfl,by rw [show w4.drew.cell? ⟨W.heap.size,3,none⟩=w4.cell? ⟨W.heap.size,3,none⟩ from rfl,blk_cell hN4];rfl,by rw [show w4.drew.cell? ⟨W.heap.size,3,none⟩=w4.cell? ⟨W.heap.size,3,none⟩ from rfl,blk_cell hN4];rfl,by rw [show w4.drew.cell? ⟨W.heap.size,3,none⟩=w4.cell? ⟨W.heap.size,3,none⟩ from rfl,blk_cell hN4];rfl,by rw [show w4.drew.cell? ⟨W.heap.size,3,none⟩=w4.cell? ⟨W.heap.size,3,none⟩ from rfl,blk_cell hN4];rfl,by rw [show w4.drew.cell? ⟨W.heap.size,3,none⟩=w4.cell? ⟨W.heap.size,3,none⟩ from rfl,blk_cell hN4];rfl,q1,(show w4.cell? ⟨Bx,0,none⟩=some (.map (some bm)) from by rw [blk_cell hM4.box];rfl)⟩
 have hM:Hid (SetBx Bx [] (fun k=>k=Bx∨k=bm) bm w4.drew):=Lib.hid (hM4.below (Below.refl _ _).drew)
 have hT:Hid (Touch W w4.drew (fun k=>k=Bx)):=Lib.hid hT4.drew
 replace hR:RdS w4.drew _ _:=Rd.below hR (Below.refl _ _).drew
 clear hN4 hM4 hT4 hD q1
 refine wp_region_held_drew (S:=(fun w'=>w'.cell? ⟨W.heap.size,3,none⟩=some (.pointer (some ⟨b,o,none⟩))∧w'.cell? ⟨W.heap.size,3,none⟩=some (.pointer (some ⟨b,o,none⟩))∧w'.cell? ⟨W.heap.size,3,none⟩=some (.pointer (some ⟨b,o,none⟩))∧w'.cell? ⟨W.heap.size,3,none⟩=some (.pointer (some ⟨b,o,none⟩))∧w'.cell? ⟨W.heap.size,3,none⟩=some (.pointer (some ⟨b,o,none⟩))∧w'.cell? ⟨W.heap.size,3,none⟩=some (.pointer (some ⟨b,o,none⟩))∧w'.cell? ⟨b,o+1,none⟩=some (.slice pa n pc)∧w'.cell? ⟨Bx,0,none⟩=some (.map (some bm)))) (by kernel_rfl) hC (fun hHeld=>?_)
 clear hHeld
 refine wpAnyH_take (i:=0) (oi:=(.mk (some 7) (.load 148 (.tmp 1)) 148 "rules.go:198" #[] none)) (v:=?_) rfl (by kernel_rfl) (by kernel_rfl) (by kernel_rfl) (fun _ _ _ h=>h) (Or.inl ⟨by rfl,?_⟩) hC ?_
 rotate_left
 ·(intro w hSw;(try dsimp only at hSw);go_simp;try with_reducible rfl)
 try simp only [Act.put,List.setIfInBounds_toArray,List.set_cons_zero,List.set_cons_succ]
 refine wpAnyH_take (i:=1) (oi:=(.mk (some 8) (.fieldAddr 144 (.tmp 2) 1) 0 "rules.go:198" #[] none)) (v:=?_) rfl (by kernel_rfl) (by kernel_rfl) (by kernel_rfl) (fun _ _ _ h=>h) (Or.inl ⟨by rfl,?_⟩) hC ?_
 rotate_left
 ·(intro w hSw;(try dsimp only at hSw);go_simp;try with_reducible rfl)
 try simp only [Act.put,List.setIfInBounds_toArray,List.set_cons_zero,List.set_cons_succ]
 refine wpAnyH_take (i:=2) (oi:=(.mk (some 9) (.load 120 (.tmp 8)) 120 "rules.go:198" #[.mk 1 .data] none)) (v:=?_) rfl (by kernel_rfl) (by kernel_rfl) (by kernel_rfl) (fun _ _ _ h=>h) (Or.inl ⟨by rfl,?_⟩) hC ?_
 rotate_left
 ·(intro w hSw;(try dsimp only at hSw);go_simp;try with_reducible rfl)
 try simp only [Act.put,List.setIfInBounds_toArray,List.set_cons_zero,List.set_cons_succ]
 refine wpAnyH_take (i:=3) (oi:=(.mk (some 10) (.nilCheck (.tmp 9)) 0 "rules.go:198" #[.mk 2 .data] none)) (v:=?_) rfl (by kernel_rfl) (by kernel_rfl) (by kernel_rfl) (fun _ _ _ h=>h) (Or.inl ⟨by rfl,?_⟩) hC ?_
 rotate_left
 ·(intro w hSw;(try dsimp only at hSw);go_simp;try with_reducible rfl)
 try simp only [Act.put,List.setIfInBounds_toArray,List.set_cons_zero,List.set_cons_succ]
 refine wpAnyH_take (i:=4) (oi:=(.mk (some 11) (.fieldAddr 40 (.tmp 10) 1) 0 "rules.go:198" #[.mk 3 .data] none)) (v:=?_) rfl (by kernel_rfl) (by kernel_rfl) (by kernel_rfl) (fun _ _ _ h=>h) (Or.inl ⟨by rfl,?_⟩) hC ?_
 rotate_left
 ·(intro w hSw;(try dsimp only at hSw);go_simp;try with_reducible rfl)
 try simp only [Act.put,List.setIfInBounds_toArray,List.set_cons_zero,List.set_cons_succ]
 refine wpAnyH_take (i:=5) (oi:=(.mk (some 12) (.load 37 (.tmp 11)) 37 "rules.go:198" #[.mk 4 .data] none)) (v:=?_) rfl (by kernel_rfl) (by kernel_rfl) (by kernel_rfl) (fun _ _ _ h=>h) (Or.inl ⟨by rfl,?_⟩) hC ?_
 rotate_left
 ·(intro w hSw;(try dsimp only at hSw);go_simp;try with_reducible rfl)
 try simp only [Act.put,List.setIfInBounds_toArray,List.set_cons_zero,List.set_cons_succ]
 refine wpAnyH_ready (rs:=[6]) (by kernel_rfl) (by simp) (AllReadyH.cons (o:=(.mk (some 13) (.call (.mk (.value (.func 131)) #[(.tmp 7),(.tmp 12)] #[148,37])) 4 "rules.go:198" #[.mk 0 .data,.mk 5 .data] none)) rfl (fun K hK=>?_) AllReadyH.nil)
 go_simp
 (go_at_call 131;refine Calls.mono (twice_any hM.out.set hR hfit (by rw [hn.out];simp;omega)) ?_;rintro e w3 ⟨rfl,hs3,hT3⟩;replace hC:=conj8 (fun h=>cell_apart hM.out.set hT3 h) hC;replace hT:=Lib.hid (hT.out.newer hT3 hge);replace hM:=Lib.hid (hM.out.turned hs3 hT3))
 refine hK.out _ _ hC (fun hHeld=>?_)
 clear hK K hHeld
 try simp only [Act.put,List.setIfInBounds_toArray,List.set_cons_zero,List.set_cons_succ]
 refine wpAnyH_take (i:=7) (oi:=(.mk (some 3) (.assign (.tmp 13)) 4 "rules.go:198" #[.mk 6 .data,.mk 6 .chain,.mk 0 .phase,.mk 1 .phase,.mk 2 .phase,.mk 3 .phase,.mk 4 .phase,.mk 5 .phase,.mk 6 .phase] none)) (v:=?_) rfl (by kernel_rfl) (by kernel_rfl) (by kernel_rfl) (fun _ _ _ h=>h) (Or.inl ⟨by rfl,?_⟩) hC ?_
 rotate_left
 ·(intro w hSw;(try dsimp only at hSw);go_simp;try with_reducible rfl)
 try simp only [Act.put,List.setIfInBounds_toArray,List.set_cons_zero,List.set_cons_succ]
 refine wpAnyH_done (by kernel_rfl) ?_ _
 go_wp2_with fail
 go_ret
 exact⟨rfl,bm,hge,hM.out,hT.out⟩
set_option maxRecDepth 20000 in
set_option maxHeartbeats 4000000 in
theorem c15_blk {W:World}{f k:Nat}{d:Fun}{x:Blk}{vs:Array Value}{Bx bm:Nat}{l:List ByteArray}{U:Nat→Prop}(hf:(Prt.blk f k d x).Fits)(h:PrtV W (Prt.blk f k d x) vs)(hX:SetBx Bx l U bm W)(hll:l.length≤2000000000000000000):
  Calls Tryz.prog 149 #[.agg vs,.pointer (some ⟨Bx,0,none⟩)] W fun e W'=>e=.returned (.bool false)∧SetBx Bx l U bm W'∧Touch W W' (fun k=>k=bm):=by
 obtain⟨b,o,b2,o2,ca,cc,rfl,hF⟩:=BlkBox.mk' h
 have hB0:=box_below W (.cells #[.int .i64 f,.int .i64 k,.int .i64 0,.pointer (some ⟨b,o,none⟩),.pointer (some ⟨b2,o2,none⟩),.pointer none] 144)
 have hM:=hX.below hB0
 have hT:=Touch.of_below hB0 (fun k=>k=bm)
 clear h hX hB0
 go_enter Tryz.func149,Tryz.ntmps149
 go_upto_region 1 with fail
 generalize (W.alloc (.cells #[.int .i64 f,.int .i64 k,.int .i64 0,.pointer (some ⟨b,o,none⟩),.pointer (some ⟨b2,o2,none⟩),.pointer none] 144))=wb at hF hM hT ⊢
 replace hF:=Lib.hid hF
 replace hM:=Lib.hid hM
 replace hT:=Lib.hid hT
 obtain⟨s0,s1,s2,s3,s4,s5,f0,f1⟩:=hF.out
 go_wp2_with ((go_at_call 126;refine Calls.mono (isFunc_v) ?_;rintro e w2 ⟨rfl,hb⟩;replace hF:=Lib.hid (hF.out.keep hb);replace hM:=Lib.hid (hM.out.below hb);replace hT:=Lib.hid (hT.out.trans (Touch.of_below hb _))))
 clear s0 s1 s2 s3 s4 s5 f0 f1
 obtain⟨s0,s1,s2,s3,s4,s5,f0,f1⟩:=hF.out
 go_quiet (fail)
 replace hM:=Lib.hid (hM.out.below (below_drawn (Below.refl _ _) nq))
 replace hT:=Lib.hid (hT.out.trans (Touch.of_below (below_drawn (Below.refl _ _) nq) _))
 go_wp2_with fail
 go_ret
 exact⟨rfl,hM.out,hT.out⟩
set_option maxRecDepth 20000 in
set_option maxHeartbeats 4000000 in
theorem c15_ins {W:World}{f k i:Nat}{d:Fun}{x:Blk}{c:Ins}{vs:Array Value}{Bx bm:Nat}{l:List ByteArray}{U:Nat→Prop}(hf:(Prt.ins f k i d x c).Fits)(h:PrtV W (Prt.ins f k i d x c) vs)(hX:SetBx Bx l U bm W)(hll:l.length≤2000000000000000000):
  Calls Tryz.prog 149 #[.agg vs,.pointer (some ⟨Bx,0,none⟩)] W fun e W'=>e=.returned (.bool (twiceL l (givenL c.dst)).1)∧SetBx Bx (twiceL l (givenL c.dst)).2 U bm W'∧Touch W W' (fun k=>k=bm):=by
 obtain⟨b,o,b2,o2,b3,o3,ca,aa,la,cc,ac,lc,rfl,hF⟩:=InsBox.mk' h
 have hB0:=box_below W (.cells #[.int .i64 f,.int .i64 k,.int .i64 i,.pointer (some ⟨b,o,none⟩),.pointer (some ⟨b2,o2,none⟩),.pointer (some ⟨b3,o3,none⟩)] 144)
 have hM:=hX.below hB0
 have hT:=Touch.of_below hB0 (fun k=>k=bm)
 have hfit:c.dst.size≤maxLen:=hf.2.2.1.2.2.1
 clear h hX hB0
 go_enter Tryz.func149,Tryz.ntmps149
 go_upto_region 1 with fail
 generalize (W.alloc (.cells #[.int .i64 f,.int .i64 k,.int .i64 i,.pointer (some ⟨b,o,none⟩),.pointer (some ⟨b2,o2,none⟩),.pointer (some ⟨b3,o3,none⟩)] 144))=wb at hF hM hT ⊢
 replace hF:=Lib.hid hF
 replace hM:=Lib.hid hM
 replace hT:=Lib.hid hT
 obtain⟨s0,s1,s2,s3,s4,s5,f1,c0,c1,c5,c6,c7,hat,ra,rl,rc⟩:=hF.out
 go_wp2_with ((go_at_call 126;refine Calls.mono (isFunc_v) ?_;rintro e w2 ⟨rfl,hb⟩;replace hF:=Lib.hid (hF.out.keep hb);replace hM:=Lib.hid (hM.out.below hb);replace hT:=Lib.hid (hT.out.trans (Touch.of_below hb _))))
 have hC:w2.drew.cell? ⟨W.heap.size,0,none⟩=some (.int .i64 f)∧w2.drew.cell? ⟨W.heap.size,1,none⟩=some (.int .i64 k)∧w2.drew.cell? ⟨W.heap.size,2,none⟩=some (.int .i64 i)∧w2.drew.cell? ⟨W.heap.size,3,none⟩=some (.pointer (some ⟨b,o,none⟩))∧w2.drew.cell? ⟨W.heap.size,4,none⟩=some (.pointer (some ⟨b2,o2,none⟩))∧w2.drew.cell? ⟨W.heap.size,5,none⟩=some (.pointer (some ⟨b3,o3,none⟩))∧w2.drew.cell? ⟨b3,o3+1,none⟩=some (.string c.dst)∧w2.drew.cell? ⟨Bx,0,none⟩=some (.map (some bm)):=⟨hF.out.s0,hF.out.s1,hF.out.s2,hF.out.s3,hF.out.s4,hF.out.s5,hF.out.c1,(show w2.cell? ⟨Bx,0,none⟩=some (.map (some bm)) from by rw [blk_cell hM.out.box];rfl)⟩
 replace hM:=Lib.hid (hM.out.below (Below.refl _ _).drew)
 replace hT:=Lib.hid hT.out.drew
 clear s0 s1 s2 s3 s4 s5 f1 c0 c1 c5 c6 c7 hat ra rl rc hF
 refine wp_region_held_drew (S:=(fun w'=>w'.cell? ⟨W.heap.size,0,none⟩=some (.int .i64 f)∧w'.cell? ⟨W.heap.size,1,none⟩=some (.int .i64 k)∧w'.cell? ⟨W.heap.size,2,none⟩=some (.int .i64 i)∧w'.cell? ⟨W.heap.size,3,none⟩=some (.pointer (some ⟨b,o,none⟩))∧w'.cell? ⟨W.heap.size,4,none⟩=some (.pointer (some ⟨b2,o2,none⟩))∧w'.cell? ⟨W.heap.size,5,none⟩=some (.pointer (some ⟨b3,o3,none⟩))∧w'.cell? ⟨b3,o3+1,none⟩=some (.string c.dst)∧w'.cell? ⟨Bx,0,none⟩=some (.map (some bm)))) (by kernel_rfl) hC (fun hHeld=>?_)
 clear hHeld
 refine wpAnyH_take (i:=0) (oi:=(.mk (some 14) (.fieldAddr 144 (.tmp 2) 3) 0 "rules.go:200" #[] none)) (v:=?_) rfl (by kernel_rfl) (by kernel_rfl) (by kernel_rfl) (fun _ _ _ h=>h) (Or.inl ⟨by rfl,?_⟩) hC ?_
 rotate_left
 ·(intro w hSw;(try dsimp only at hSw);go_simp;try with_reducible rfl)
 try simp only [Act.put,List.setIfInBounds_toArray,List.set_cons_zero,List.set_cons_succ]
 refine wpAnyH_take (i:=1) (oi:=(.mk (some 15) (.load 135 (.tmp 14)) 135 "rules.go:200" #[.mk 0 .data] none)) (v:=?_) rfl (by kernel_rfl) (by kernel_rfl) (by kernel_rfl) (fun _ _ _ h=>h) (Or.inl ⟨by rfl,?_⟩) hC ?_
 rotate_left
 ·(intro w hSw;(try dsimp only at hSw);go_simp;try with_reducible rfl)
 try simp only [Act.put,List.setIfInBounds_toArray,List.set_cons_zero,List.set_cons_succ]
 refine wpAnyH_take (i:=2) (oi:=(.mk (some 16) (.binOp BinOp.neq 135 (.tmp 15) (.const (Value.pointer none)) 135) 4 "rules.go:200" #[.mk 1 .data] none)) (v:=?_) rfl (by kernel_rfl) (by kernel_rfl) (by kernel_rfl) (fun _ _ _ h=>h) (Or.inl ⟨by rfl,?_⟩) hC ?_
 rotate_left
 ·(intro w hSw;(try dsimp only at hSw);go_simp;try with_reducible rfl)
 try simp only [Act.put,List.setIfInBounds_toArray,List.set_cons_zero,List.set_cons_succ]
 refine wpAnyH_take (i:=3) (oi:=(.mk (some 17) (.move (.tmp 16)) 4 "rules.go:200" #[.mk 2 .data] none)) (v:=?_) rfl (by kernel_rfl) (by kernel_rfl) (by kernel_rfl) (fun _ _ _ h=>h) (Or.inl ⟨by rfl,?_⟩) hC ?_
 rotate_left
 ·(intro w hSw;(try dsimp only at hSw);go_simp;try with_reducible rfl)
 try simp only [Act.put,List.setIfInBounds_toArray,List.set_cons_zero,List.set_cons_succ]
 refine wpAnyH_take (i:=4) (oi:=(.mk (some 18) (.load 148 (.tmp 1)) 148 "rules.go:200" #[.mk 3 .guard] (some (3,true)))) (v:=?_) rfl (by kernel_rfl) (by kernel_rfl) (by kernel_rfl) (fun _ _ _ h=>h) (Or.inl ⟨by rfl,?_⟩) hC ?_
 rotate_left
 ·(intro w hSw;(try dsimp only at hSw);go_simp;try with_reducible rfl)
 try simp only [Act.put,List.setIfInBounds_toArray,List.set_cons_zero,List.set_cons_succ]
 refine wpAnyH_take (i:=5) (oi:=(.mk (some 19) (.fieldAddr 144 (.tmp 2) 3) 0 "rules.go:200" #[.mk 3 .guard] (some (3,true)))) (v:=?_) rfl (by kernel_rfl) (by kernel_rfl) (by kernel_rfl) (fun _ _ _ h=>h) (Or.inl ⟨by rfl,?_⟩) hC ?_
 rotate_left
 ·(intro w hSw;(try dsimp only at hSw);go_simp;try with_reducible rfl)
 try simp only [Act.put,List.setIfInBounds_toArray,List.set_cons_zero,List.set_cons_succ]
 refine wpAnyH_take (i:=6) (oi:=(.mk (some 20) (.load 135 (.tmp 19)) 135 "rules.go:200" #[.mk 5 .data,.mk 3 .guard] (some (3,true)))) (v:=?_) rfl (by kernel_rfl) (by kernel_rfl) (by kernel_rfl) (fun _ _ _ h=>h) (Or.inl ⟨by rfl,?_⟩) hC ?_
 rotate_left
 ·(intro w hSw;(try dsimp only at hSw);go_simp;try with_reducible rfl)
 try simp only [Act.put,List.setIfInBounds_toArray,List.set_cons_zero,List.set_cons_succ]
 refine wpAnyH_take (i:=7) (oi:=(.mk (some 21) (.nilCheck (.tmp 20)) 0 "rules.go:200" #[.mk 6 .data,.mk 3 .guard] (some (3,true)))) (v:=?_) rfl (by kernel_rfl) (by kernel_rfl) (by kernel_rfl) (fun _ _ _ h=>h) (Or.inl ⟨by rfl,?_⟩) hC ?_
 rotate_left
 ·(intro w hSw;(try dsimp only at hSw);go_simp;try with_reducible rfl)
 try simp only [Act.put,List.setIfInBounds_toArray,List.set_cons_zero,List.set_cons_succ]
 refine wpAnyH_take (i:=8) (oi:=(.mk (some 22) (.fieldAddr 46 (.tmp 21) 1) 0 "rules.go:200" #[.mk 7 .data,.mk 3 .guard] (some (3,true)))) (v:=?_) rfl (by kernel_rfl) (by kernel_rfl) (by kernel_rfl) (fun _ _ _ h=>h) (Or.inl ⟨by rfl,?_⟩) hC ?_
 rotate_left
 ·(intro w hSw;(try dsimp only at hSw);go_simp;try with_reducible rfl)
 try simp only [Act.put,List.setIfInBounds_toArray,List.set_cons_zero,List.set_cons_succ]
 refine wpAnyH_take (i:=9) (oi:=(.mk (some 23) (.load 9 (.tmp 22)) 9 "rules.go:200" #[.mk 8 .data,.mk 3 .guard] (some (3,true)))) (v:=?_) rfl (by kernel_rfl) (by kernel_rfl) (by kernel_rfl) (fun _ _ _ h=>h) (Or.inl ⟨by rfl,?_⟩) hC ?_
 rotate_left
 ·(intro w hSw;(try dsimp only at hSw);go_simp;try with_reducible rfl)
 try simp only [Act.put,List.setIfInBounds_toArray,List.set_cons_zero,List.set_cons_succ]
 refine wpAnyH_ready (rs:=[10]) (by kernel_rfl) (by simp) (AllReadyH.cons (o:=(.mk (some 24) (.buildSlice 37 1 #[(0,(.tmp 23))]) 37 "rules.go:200" #[.mk 9 .data,.mk 3 .guard] (some (3,true)))) rfl (fun K hK=>?_) AllReadyH.nil)
 go_simp
 have hb9:=box_below w2.drew (.cells #[.string c.dst] 9);have hR:RdS (w2.drew.alloc (.cells #[.string c.dst] 9)) (.slice (some ⟨w2.drew.heap.size,0,none⟩) 1 1) [c.dst]:=rds_one (at_newN rfl);replace hC:=conj8 (fun h=>keepC hb9 h) hC;replace hM:=Lib.hid (hM.out.below hb9);replace hT:=Lib.hid (hT.out.trans (Touch.of_below hb9 _))
 refine hK.out _ _ hC (fun hHeld=>?_)
 clear hK K hHeld
 try simp only [Act.put,List.setIfInBounds_toArray,List.set_cons_zero,List.set_cons_succ]
 refine wpAnyH_ready (rs:=[11]) (by kernel_rfl) (by simp) (AllReadyH.cons (o:=(.mk (some 25) (.call (.mk (.value (.func 150)) #[(.tmp 24)] #[37])) 37 "rules.go:200" #[.mk 10 .data,.mk 3 .chain,.mk 3 .guard] (some (3,true)))) rfl (fun K hK=>?_) AllReadyH.nil)
 go_simp
 (go_at_call 150;refine Calls.mono (given_one hR hfit) ?_;rintro e w5 ⟨v5,rfl,hR5,hb5⟩;obtain⟨a5,c5,rfl⟩:=hR5.shape;replace hC:=conj8 (fun h=>keepC hb5 h) hC;replace hM:=Lib.hid (hM.out.below hb5);replace hT:=Lib.hid (hT.out.trans (Touch.of_below hb5 _)))
 refine hK.out _ _ hC (fun hHeld=>?_)
 clear hK K hHeld
 try simp only [Act.put,List.setIfInBounds_toArray,List.set_cons_zero,List.set_cons_succ]
 refine wpAnyH_ready (rs:=[12]) (by kernel_rfl) (by simp) (AllReadyH.cons (o:=(.mk (some 26) (.call (.mk (.value (.func 131)) #[(.tmp 18),(.tmp 25)] #[148,37])) 4 "rules.go:200" #[.mk 4 .data,.mk 11 .data,.mk 11 .chain,.mk 3 .guard] (some (3,true)))) rfl (fun K hK=>?_) AllReadyH.nil)
 go_simp
 (go_at_call 131;refine Calls.mono (twice_any hM.out.set hR5 (given_fit hfit) (by have:=given_len c.dst;omega)) ?_;rintro e w3 ⟨rfl,hs3,hT3⟩;replace hC:=conj8 (fun h=>cell_apart hM.out.set hT3 h) hC;replace hT:=Lib.hid (hT.out.trans hT3);replace hM:=Lib.hid (hM.out.turned hs3 hT3))
 refine hK.out _ _ hC (fun hHeld=>?_)
 clear hK K hHeld
 try simp only [Act.put,List.setIfInBounds_toArray,List.set_cons_zero,List.set_cons_succ]
 refine wpAnyH_take (i:=13) (oi:=(.mk (some 27) (.pick (.tmp 17) (.tmp 26) (.const (Value.bool false))) 4 "rules.go:200" #[.mk 3 .data,.mk 12 .data] none)) (v:=?_) rfl (by kernel_rfl) (by kernel_rfl) (by kernel_rfl) (fun _ _ _ h=>h) (Or.inl ⟨by rfl,?_⟩) hC ?_
 rotate_left
 ·(intro w hSw;(try dsimp only at hSw);go_simp;try with_reducible rfl)
 try simp only [Act.put,List.setIfInBounds_toArray,List.set_cons_zero,List.set_cons_succ]
 refine wpAnyH_take (i:=14) (oi:=(.mk (some 3) (.assign (.tmp 27)) 4 "rules.go:200" #[.mk 13 .data,.mk 12 .chain,.mk 0 .phase,.mk 1 .phase,.mk 2 .phase,.mk 3 .phase,.mk 4 .phase,.mk 5 .phase,.mk 6 .phase,.mk 7 .phase,.mk 8 .phase,.mk 9 .phase,.mk 10 .phase,.mk 11 .phase,.mk 12 .phase,.mk 13 .phase] none)) (v:=?_) rfl (by kernel_rfl) (by kernel_rfl) (by kernel_rfl) (fun _ _ _ h=>h) (Or.inl ⟨by rfl,?_⟩) hC ?_
 rotate_left
 ·(intro w hSw;(try dsimp only at hSw);go_simp;try with_reducible rfl)
 try simp only [Act.put,List.setIfInBounds_toArray,List.set_cons_zero,List.set_cons_succ]
 refine wpAnyH_done (by kernel_rfl) ?_ _
 go_wp2_with fail
 go_ret
 exact⟨rfl,hM.out,hT.out⟩
end
section
open Go.RowKit Go.Maps Go.Shelf
def step15 (s:Option (List ByteArray))(x:Prt):Bool × Option (List ByteArray):=match x,s with
 | .fn _ d,_=>((twiceL [] d.params).1,some (twiceL [] d.params).2)
 | .blk _ _ _ _,s=>(false,s)
 | .ins _ _ _ _ _ c,some l=>((twiceL l (givenL c.dst)).1,some (twiceL l (givenL c.dst)).2)
 | .ins _ _ _ _ _ _,none=>(false,none)
theorem parts_fun {P:List Fun}{f:Nat}{d:Fun}(hx:Prt.fn f d∈partsL P):d∈P:=by
 obtain⟨g,y,hd,hx⟩:=mem_cat hx
 unfold funL at hx
 rcases List.mem_cons.1 hx with e | hx
 ·cases e;exact List.mem_of_getElem? hd
 ·obtain⟨b,z,hy,hx⟩:=mem_cat hx
  unfold blkL at hx
  rcases List.mem_cons.1 hx with e | hx
  ·cases e
  ·obtain⟨i,c,hc,hx⟩:=mem_cat hx
   cases List.mem_singleton.1 hx
theorem step15_len {P:List Fun}(hP:POk P):∀pre:List Prt,(∀x∈pre,x∈partsL P)→olen (runSt step15 none pre)≤1000000+pre.length:=by
 refine snocP (by simp [runSt,olen]) (fun l x ih hm=>?_)
 rw [runSt_snoc,List.length_append,List.length_singleton]
 have ih:=ih (fun y hy=>hm y (List.mem_append_left _ hy))
 have hx:=hm x (by simp)
 generalize runSt step15 none l=s at ih ⊢
 cases x with
 | fn f d=>
  have h1:=twiceL_len d.params []
  have h2:=hP.l4 d (parts_fun hx)
  simp [step15,olen] at h1 ⊢
  omega
 | blk f k d x=>simp [step15];omega
 | ins f k i d x c=>
  cases s with
  | none=>simp [step15,olen]
  | some l2=>
   have h1:=twiceL_len (givenL c.dst) l2
   have h2:=given_len c.dst
   simp [step15,olen] at h1 ih ⊢
   omega
theorem keeps15 {P:List Fun}(hP:POk P){m Bx:Nat}{W0:World}(hm:m=W0.heap.size):Keeps P m W0 149 #[.pointer (some ⟨Bx,0,none⟩)] step15 none (OptBx Bx) where
 calm:=fun s U W W' h hT=>h.calm hT
 call:=fun s U x vs W ⟨pre,rest,e,es,hok⟩ hx hbel hU=>by
  have hl:=step15_len hP pre (fun y hy=>by rw [e];exact List.mem_append_left _ hy)
  rw [←es] at hl
  have hp:=pre_len hP e
  have hf:=parts_fits hP.fits (partsCalls_at e)
  have hv:PrtV W x vs:=hx.below (by rw [←hm];exact hbel)
  have hnone:s=none→∃d,x=.fn 0 d:=fun hs=>none_fn (step:=step15) (fun l x=>by cases x<;>exact⟨_,rfl⟩) (fun _ _=>⟨_,rfl⟩) e (by rw [←es];exact hs)
  cases x with
  | fn f d=>
   obtain⟨hUB,ob,hb⟩:=hU.box
   have hd:Prt.fn f d∈partsL P:=by rw [e];simp
   refine Calls.mono (c15_fn hf (hP.l4 d (parts_fun hd)) hv hb) ?_
   rintro e' W' ⟨rfl,bm,hge,h2,h3⟩
   refine⟨fun k=>k=Bx∨k=bm,rfl,⟨bm,h2⟩,h3.mono (fun k _ hk=>by rw [hk];exact hUB),fun k hk=>?_⟩
   rcases hk with rfl | rfl
   ·exact .inl hUB
   ·exact .inr ⟨hge,h2.set.lt⟩
  | blk f k d x=>
   cases s with
   | none=>obtain⟨d',e'⟩:=hnone rfl;cases e'
   | some l=>
    obtain⟨bm,hU⟩:=hU
    refine Calls.mono (c15_blk hf hv hU (by simp [olen] at hl;omega)) ?_
    rintro e' W' ⟨rfl,h2,h3⟩
    exact⟨U,rfl,⟨bm,h2⟩,h3.mono (fun k _ hk=>(hU.own k).2 (.inr hk)),fun k hk=>.inl hk⟩
  | ins f k i d x c=>
   cases s with
   | none=>obtain⟨d',e'⟩:=hnone rfl;cases e'
   | some l=>
    obtain⟨bm,hU⟩:=hU
    refine Calls.mono (c15_ins hf hv hU (by simp [olen] at hl;omega)) ?_
    rintro e' W' ⟨rfl,h2,h3⟩
    exact⟨U,rfl,⟨bm,h2⟩,h3.mono (fun k _ hk=>(hU.own k).2 (.inr hk)),fun k hk=>.inl hk⟩
set_option maxRecDepth 20000 in
set_option maxHeartbeats 2000000 in
theorem q15_any {P:List Fun}(hP:POk P){w:World}{v:Value}(h:RdE 3 RdFun w v P):Calls Tryz.prog 95 #[.agg #[v]] w fun e w'=>e=.returned (ansV (firstBad step15 none (partsL P)))∧Below w.heap.size w w':=by
 obtain⟨a0,c0,rfl⟩:=h.form
 have hb0:Below w.heap.size w ((w.alloc (.cells #[.slice a0 P.length c0] 91)).alloc (.cells #[.int .i64 0,.int .i64 0,.int .i64 0] 53)):=((Below.refl _ _).alloc (Nat.le_refl _) _).alloc (by simp) _
 have hsz:((w.alloc (.cells #[.slice a0 P.length c0] 91)).alloc (.cells #[.int .i64 0,.int .i64 0,.int .i64 0] 53)).heap.size=w.heap.size+2:=by simp
 have hN:((w.alloc (.cells #[.slice a0 P.length c0] 91)).alloc (.cells #[.int .i64 0,.int .i64 0,.int .i64 0] 53)).heap[w.heap.size+1]?=some (.cells #[.int .i64 0,.int .i64 0,.int .i64 0] 53 (0,0)):=at_newN (by simp)
 have hl:((w.alloc (.cells #[.slice a0 P.length c0] 91)).alloc (.cells #[.int .i64 0,.int .i64 0,.int .i64 0] 53)).cell? ⟨w.heap.size,0,none⟩=some (.slice a0 P.length c0):=by rw [blk_cell (at_oldN (at_newN rfl))];rfl
 have hPb:RdE 3 RdFun ((w.alloc (.cells #[.slice a0 P.length c0] 91)).alloc (.cells #[.int .i64 0,.int .i64 0,.int .i64 0] 53)) (.slice a0 P.length c0) P:=RdE.below (fun _ _ h=>h.below hb0) h hb0
 have hmm:=@run_makeMap Tryz.prog
 unfold ansV ptA
 generalize hfb:firstBad step15 none (partsL P)=fb
 go_enter Tryz.func95,Tryz.ntmps95
 go_upto_region 1 with fail
 generalize ((w.alloc (.cells #[.slice a0 P.length c0] 91)).alloc (.cells #[.int .i64 0,.int .i64 0,.int .i64 0] 53))=wb at hb0 hsz hN hl hPb ⊢
 obtain⟨wc,hwc⟩:∃wc,wc=wb.alloc (.cells #[.map none] 148):=⟨_,rfl⟩
 have hbc:Below wb.heap.size wb wc:=by rw [hwc];exact (Below.refl _ _).alloc (Nat.le_refl _) _
 have hI:OptBx (w.heap.size+2) none (fun k=>k=w.heap.size+2) wc:=⟨by rw [hwc];exact at_newN (by omega),fun k=>Iff.rfl⟩
 have hw:=where_any (W0:=wb) (keeps15 (Bx:=w.heap.size+2) hP rfl) (enters_of Tryz.func149 (by kernel_rfl) rfl) rfl hPb hbc (U0:=fun k=>k=w.heap.size+2) (fun k hk=>by rw [hk,hwc];simp;omega) hI hP.l1 hP.l2 hP.l3
 rw [hfb] at hw
 unfold ptA at hw
 have hlc:=keepC hbc hl
 generalize P.length=p at h hw hPb hl hlc ⊢
 replace hb0:=Lib.hid hb0
 replace hN:=Lib.hid hN
 replace hw:=Lib.hid hw
 clear h hPb hfb hI
 replace hbc:=Lib.hid hbc
 go_upto_region 2 with fail
 rw [←hwc]
 replace hwc:=Lib.hid hwc
 go_wp2_with fail
 refine hw.out.mono ?_
 rintro e w2 ⟨rfl,hb2⟩
 have hN2:=(hb2.block _ (Array.getElem?_eq_some_iff.1 hN.out).1).trans hN.out
 have hf:=Lib.hid (show Below w.heap.size w ((((w2.setCell ⟨w.heap.size+1,0,none⟩ (.int .i64 (resAt fb).1)).setCell ⟨w.heap.size+1,1,none⟩ (.int .i64 (resAt fb).2.1)).setCell ⟨w.heap.size+1,2,none⟩ (.int .i64 (resAt fb).2.2))) from (((hb0.out.trans (hb2.mono hb0.out.size)).setCell (p:=⟨w.heap.size+1,0,none⟩) (Nat.le_succ _) _).setCell (p:=⟨w.heap.size+1,1,none⟩) (Nat.le_succ _) _).setCell (p:=⟨w.heap.size+1,2,none⟩) (Nat.le_succ _) _)
 have hN3:=Lib.hid (set_three (v0:=.int .i64 (resAt fb).1) (v1:=.int .i64 (resAt fb).2.1) (v2:=.int .i64 (resAt fb).2.2) hN2)
 have z0:w2.cell? ⟨w.heap.size+1,0,none⟩=some (.int .i64 0):=by rw [blk_cell hN2];rfl
 have z1:w2.cell? ⟨w.heap.size+1,1,none⟩=some (.int .i64 0):=by rw [blk_cell hN2];rfl
 have z2:w2.cell? ⟨w.heap.size+1,2,none⟩=some (.int .i64 0):=by rw [blk_cell hN2];rfl
 have y0:w2.frozen? ⟨w.heap.size+1,0,none⟩=false:=by simp [World.frozen?,hN2]
 have y1:w2.frozen? ⟨w.heap.size+1,1,none⟩=false:=by simp [World.frozen?,hN2]
 have y2:w2.frozen? ⟨w.heap.size+1,2,none⟩=false:=by simp [World.frozen?,hN2]
 clear hb2 hN2 hw hl hlc
 go_wp2_with fail
 generalize (((w2.setCell ⟨w.heap.size+1,0,none⟩ (.int .i64 (resAt fb).1)).setCell ⟨w.heap.size+1,1,none⟩ (.int .i64 (resAt fb).2.1)).setCell ⟨w.heap.size+1,2,none⟩ (.int .i64 (resAt fb).2.2))=w3 at hf hN3 ⊢
 have c0:w3.cell? ⟨w.heap.size+1,0,none⟩=some (.int .i64 (resAt fb).1):=by rw [blk_cell hN3.out];rfl
 have c1:w3.cell? ⟨w.heap.size+1,1,none⟩=some (.int .i64 (resAt fb).2.1):=by rw [blk_cell hN3.out];rfl
 have c2:w3.cell? ⟨w.heap.size+1,2,none⟩=some (.int .i64 (resAt fb).2.2):=by rw [blk_cell hN3.out];rfl
 exact bodyPost_ret (v:=.tuple #[.agg #[.int .i64 (resAt fb).1,.int .i64 (resAt fb).2.1,.int .i64 (resAt fb).2.2],.bool fb.isSome]) (by simp [results,Tryz.results95,go_sem,c0,c1,c2]) rfl ⟨rfl,hf.out⟩
end
end Go.Proofs.YtknkiaedgeejiaaGreatDoor
