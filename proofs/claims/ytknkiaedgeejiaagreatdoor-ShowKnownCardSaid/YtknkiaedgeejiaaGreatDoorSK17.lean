/- NFirst, SwK, SwQ, SwE, SwHv, Sr14, SwJ, Sk2, Sk1, FindB, Sep. -/
import Derived.Test.YtknkiaedgeejiaaGreatDoorSP16
import Derived.Test.YtknkiaedgeejiaaGreatDoorSP15
import Derived.Test.YtknkiaedgeejiaaGreatDoorSP11
import Derived.Test.YtknkiaedgeejiaaGreatDoorSP2
import Derived.Test.YtknkiaedgeejiaaGreatDoorSP1
import Derived.Test.YtknkiaedgeejiaaGreatDoorShelf
import Derived.Test.YtknkiaedgeejiaaGreatDoorProg
namespace Go.Proofs.YtknkiaedgeejiaaGreatDoor
set_option linter.unusedVariables false
set_option linter.unusedSimpArgs false
section
open Go.RowKit Go.Maps Go.Shelf Go.WideMaps
theorem zeroQ (w:World):(zeroValue 86).run Tryz.prog w=.ok .nilFunc w:=by kernel_rfl
def ansW (q:Nat × Nat × Nat)(b:Bool):Value:=.tuple #[.agg #[.int .i64 q.1,.int .i64 q.2.1,.int .i64 q.2.2],.bool b]
theorem ansP_w (x:Option (Nat × Nat × Nat)):ansP x=ansW (x.getD (0,0,0)) x.isSome:=rfl
theorem ruleAt_out {P:List Fun}{k:Nat}(h:k<1∨16<k):ruleAt P k=none:=by
 unfold ruleAt
 split<;>first | omega | rfl
set_option maxRecDepth 20000 in
set_option maxHeartbeats 4000000 in
theorem first_any {P:List Fun}(hP:POkA P){w:World}{v:Value}(h:RdE 3 RdFun w v P){r:Nat}(hr:r<256):Calls Tryz.prog 16 #[.agg #[v],.int .u8 r] w fun e w'=>e=.returned (ansP (ruleAt P r))∧Below w.heap.size w w':=by
 obtain⟨a,c,rfl⟩:=h.form
 obtain⟨n,hn⟩:∃n,n=P.length:=⟨_,rfl⟩
 rw [←hn] at h ⊢
 obtain⟨W2,hW2⟩:∃W2,((w.alloc (.cells #[.slice a n c] 24)).alloc (.cells #[.int .i64 0,.int .i64 0,.int .i64 0] 53))=W2:=⟨_,rfl⟩
 have hb0:Below w.heap.size w W2:=by rw [←hW2];exact ((Below.refl _ _).alloc (Nat.le_refl _) _).alloc (by simp) _
 have hN:W2.heap[w.heap.size+1]?=some (.cells #[.int .i64 0,.int .i64 0,.int .i64 0] 53 (0,0)):=by rw [←hW2];exact at_newN (by simp)
 have hl:W2.cell? ⟨w.heap.size,0,none⟩=some (.slice a n c):=by rw [blk_cell (show W2.heap[w.heap.size]?=_ from by rw [←hW2];exact at_oldN (at_newN rfl))];rfl
 have hsz:W2.heap.size=w.heap.size+2:=by rw [←hW2];simp
 have hkey:keyOf Tryz.prog 50 (.int .u8 r)=some (.int .u8 r):=keyR (WalkArith.wf_u8 (by omega))
 have hask:∀k,1≤k→k≤16→∀w':World,Below w.heap.size w w'→Calls Tryz.prog (qF k) #[.agg #[.slice a n c]] w' fun e w''=>e=.returned (ansP (ruleAt P k))∧Below w'.heap.size w' w'':=fun k h1 h2 w' hb=>ask_any hP h1 h2 (RdE.below (fun _ _ h=>h.below hb) h hb)
 replace hask:=Lib.hid hask
 have hqs:=Lib.hid (fun W=>(questions_any (w:=W) (a:=a) (n:=n) (c:=c)))
 have hb0':=Lib.hid hb0
 replace hN:=Lib.hid hN
 replace hn:=Lib.hid hn
 have hout:=Lib.hid (fun h=>(ruleAt_out h:ruleAt P r=none))
 clear h hb0
 have hkey2:=Lib.hid hkey
 by_cases hrg:1≤r∧r≤16
 ·obtain⟨K,hK⟩:∃K,qF r=K:=⟨_,rfl⟩
  have eg:=qF_enters hrg.1 hrg.2
  have hak:=Lib.hid (hask.out r hrg.1 hrg.2)
  have hfv:=Lib.hid (fun (f:Lit→Option Value) (hf:∀k:Nat,1≤k→k≤16→f (.int .u8 k)=some (qV (.slice a n c) k))=>(by have h1:=hf r hrg.1 hrg.2;unfold qV at h1;rw [hK] at h1;exact h1:f (.int .u8 r)=some (.func (.func K) #[.agg #[.slice a n c]] #[])))
  rw [hK] at eg hak
  rw [ansP_w] at hak ⊢
  unfold ansW at hak ⊢
  obtain⟨q,hq⟩:∃q,(ruleAt P r).getD (0,0,0)=q:=⟨_,rfl⟩
  rw [hq] at hak ⊢
  obtain⟨q1,q2,q3⟩:=q
  simp only at hak ⊢
  generalize (ruleAt P r).isSome=bs at hak ⊢
  replace hK:=Lib.hid hK
  replace hq:=Lib.hid hq
  go_enter Tryz.func16,Tryz.ntmps16
  go_upto_region 1 with fail
  clear hW2
  go_upto_region 2 with (first
   | (go_at_call 33;refine Calls.mono (hqs.out _) ?_;rintro e w3 ⟨b,rfl,hge,⟨f,hM,hf1,hf2⟩,hb3⟩;have hf:=Lib.hid (hfv.out f hf1);replace hM:=Lib.hid hM;clear hf1 hf2)
   | (at_lookup;refine wpList_vmap_ok rfl _ _ _ rfl 50 86 lawR Tryz.underlying88 (zeroQ _) b 16 f hM.out rfl _ _ rfl hkey ?_;rw [hf.out];simp only [Option.getD_some,Option.isSome_some]))
  have hb4:=Lib.hid (hb0'.out.trans (hb3.mono (by omega)))
  have hN4:=Lib.hid ((hb3.block _ (Array.getElem?_eq_some_iff.1 hN.out).1).trans hN.out)
  have hcal:=Lib.hid (hak.out w3 hb4.out)
  clear hl hM hf hb3 hN hkey
  go_wp2_with (refine Calls.mono hcal.out ?_;rintro e w5 ⟨rfl,hb⟩;have hN5:=(hb.block _ (Array.getElem?_eq_some_iff.1 hN4.out).1).trans hN4.out;have hB5:=Lib.hid (hb4.out.trans (hb.mono hb4.out.size));have z0:w5.cell? ⟨w.heap.size+1,0,none⟩=some (.int .i64 0):=(by rw [blk_cell hN5];rfl);have z1:w5.cell? ⟨w.heap.size+1,1,none⟩=some (.int .i64 0):=(by rw [blk_cell hN5];rfl);have z2:w5.cell? ⟨w.heap.size+1,2,none⟩=some (.int .i64 0):=(by rw [blk_cell hN5];rfl);have y0:w5.frozen? ⟨w.heap.size+1,0,none⟩=false:=(by simp [World.frozen?,hN5]);have y1:w5.frozen? ⟨w.heap.size+1,1,none⟩=false:=(by simp [World.frozen?,hN5]);have y2:w5.frozen? ⟨w.heap.size+1,2,none⟩=false:=(by simp [World.frozen?,hN5]);replace hN5:=Lib.hid hN5)
  have hf:=Lib.hid (show Below w.heap.size w (((w5.setCell ⟨w.heap.size+1,0,none⟩ (.int .i64 q1)).setCell ⟨w.heap.size+1,1,none⟩ (.int .i64 q2)).setCell ⟨w.heap.size+1,2,none⟩ (.int .i64 q3)) from ((hB5.out.setCell (p:=⟨w.heap.size+1,0,none⟩) (Nat.le_succ _) _).setCell (p:=⟨w.heap.size+1,1,none⟩) (Nat.le_succ _) _).setCell (p:=⟨w.heap.size+1,2,none⟩) (Nat.le_succ _) _)
  have hN3:=Lib.hid (set_three (v0:=.int .i64 q1) (v1:=.int .i64 q2) (v2:=.int .i64 q3) hN5.out)
  generalize (((w5.setCell ⟨w.heap.size+1,0,none⟩ (.int .i64 q1)).setCell ⟨w.heap.size+1,1,none⟩ (.int .i64 q2)).setCell ⟨w.heap.size+1,2,none⟩ (.int .i64 q3))=w9 at hf hN3 ⊢
  have c0:w9.cell? ⟨w.heap.size+1,0,none⟩=some (.int .i64 q1):=by rw [blk_cell hN3.out];rfl
  have c1:w9.cell? ⟨w.heap.size+1,1,none⟩=some (.int .i64 q2):=by rw [blk_cell hN3.out];rfl
  have c2:w9.cell? ⟨w.heap.size+1,2,none⟩=some (.int .i64 q3):=by rw [blk_cell hN3.out];rfl
  exact bodyPost_ret (v:=.tuple #[.agg #[.int .i64 q1,.int .i64 q2,.int .i64 q3],.bool bs]) (by simp [results,Tryz.results16,go_sem,c0,c1,c2]) rfl ⟨rfl,hf.out⟩
 ·have hno:=hout.out (by omega)
  rw [hno]
  show Calls _ _ _ _ (fun e w'=>e=.returned (.tuple #[.agg #[.int .i64 0,.int .i64 0,.int .i64 0],.bool false])∧Below w.heap.size w w')
  clear hno hout hask
  go_enter Tryz.func16,Tryz.ntmps16
  go_upto_region 1 with fail
  clear hW2
  go_wp2_with (first
   | (go_at_call 33;refine Calls.mono (hqs.out _) ?_;rintro e w3 ⟨b,rfl,hge,⟨f,hM,hf1,hf2⟩,hb3⟩;have hf:=Lib.hid (hf2 r (by omega));replace hM:=Lib.hid hM;have hN5:=(hb3.block _ (by omega)).trans hN.out;have hB5:=Lib.hid (hb0'.out.trans (hb3.mono (by omega)));have z0:w3.cell? ⟨w.heap.size+1,0,none⟩=some (.int .i64 0):=(by rw [blk_cell hN5];rfl);have z1:w3.cell? ⟨w.heap.size+1,1,none⟩=some (.int .i64 0):=(by rw [blk_cell hN5];rfl);have z2:w3.cell? ⟨w.heap.size+1,2,none⟩=some (.int .i64 0):=(by rw [blk_cell hN5];rfl);have y0:w3.frozen? ⟨w.heap.size+1,0,none⟩=false:=(by simp [World.frozen?,hN5]);have y1:w3.frozen? ⟨w.heap.size+1,1,none⟩=false:=(by simp [World.frozen?,hN5]);have y2:w3.frozen? ⟨w.heap.size+1,2,none⟩=false:=(by simp [World.frozen?,hN5]);replace hN5:=Lib.hid hN5;clear hf1 hf2 hb3)
   | (at_lookup;refine wpList_vmap_ok rfl _ _ _ rfl 50 86 lawR Tryz.underlying88 (zeroQ _) b 16 f hM.out rfl _ _ rfl hkey2.out ?_;rw [hf.out];simp only [Option.getD_none,Option.isSome_none]))
  have hf:=Lib.hid (show Below w.heap.size w (((w3.setCell ⟨w.heap.size+1,0,none⟩ (.int .i64 0)).setCell ⟨w.heap.size+1,1,none⟩ (.int .i64 0)).setCell ⟨w.heap.size+1,2,none⟩ (.int .i64 0)) from ((hB5.out.setCell (p:=⟨w.heap.size+1,0,none⟩) (Nat.le_succ _) _).setCell (p:=⟨w.heap.size+1,1,none⟩) (Nat.le_succ _) _).setCell (p:=⟨w.heap.size+1,2,none⟩) (Nat.le_succ _) _)
  have hN3:=Lib.hid (set_three (v0:=.int .i64 0) (v1:=.int .i64 0) (v2:=.int .i64 0) hN5.out)
  generalize (((w3.setCell ⟨w.heap.size+1,0,none⟩ (.int .i64 0)).setCell ⟨w.heap.size+1,1,none⟩ (.int .i64 0)).setCell ⟨w.heap.size+1,2,none⟩ (.int .i64 0))=w9 at hf hN3 ⊢
  have c0:w9.cell? ⟨w.heap.size+1,0,none⟩=some (.int .i64 0):=by rw [blk_cell hN3.out];rfl
  have c1:w9.cell? ⟨w.heap.size+1,1,none⟩=some (.int .i64 0):=by rw [blk_cell hN3.out];rfl
  have c2:w9.cell? ⟨w.heap.size+1,2,none⟩=some (.int .i64 0):=by rw [blk_cell hN3.out];rfl
  exact bodyPost_ret (v:=.tuple #[.agg #[.int .i64 0,.int .i64 0,.int .i64 0],.bool false]) (by simp [results,Tryz.results16,go_sem,c0,c1,c2]) rfl ⟨rfl,hf.out⟩
end
section
open Go.RowKit Go.Maps Go.Shelf Go.WideMaps
theorem pure6 {B:Prt→Bool}:∀{l:List Prt},firstBad (fun (s:Unit) x=>(B x,s)) () l=none→∀x∈l,B x=false
 | [],_=>fun x hx=>by cases hx
 | y::l,h=>fun x hx=>by
  unfold firstBad at h
  simp only at h
  split at h
  ·cases h
  ·rename_i hn
   rcases List.mem_cons.1 hx with rfl | hx
   ·simpa using hn
   ·exact pure6 h x hx
def bodyL6 (f:Nat)(d:Fun):List Prt:=cat (fun b x=>blkL f b d x) d.blocks
theorem in_cat6 {α β:Type}{g:Nat→α→List β}{l:List α}{i:Nat}{z:α}{y:β}(h:l[i]?=some z)(hy:y∈g i z):y∈cat g l:=by
 obtain⟨r,hr⟩:=cat_split (g:=g) h
 rw [hr]
 simp [hy]
theorem in_fn6 {P:List Fun}{f:Nat}{d:Fun}(h:P[f]?=some d):Prt.fn f d∈partsL P:=in_cat6 h (by unfold funL;simp)
theorem body_in6 {P:List Fun}{f:Nat}{d:Fun}(h:P[f]?=some d){y:Prt}(hy:y∈bodyL6 f d):y∈partsL P:=in_cat6 h (by unfold funL;exact List.mem_cons_of_mem _ hy)
theorem in_blk6 {f b:Nat}{d:Fun}{x:Blk}(h:d.blocks[b]?=some x):Prt.blk f b d x∈bodyL6 f d:=in_cat6 h (by unfold blkL;simp)
theorem in_ins6 {f b i:Nat}{d:Fun}{x:Blk}{c:Ins}(h:d.blocks[b]?=some x)(hc:x.code[i]?=some c):Prt.ins f b i d x c∈bodyL6 f d:=in_cat6 h (by unfold blkL;exact List.mem_cons_of_mem _ (in_cat6 hc (by simp)))
theorem none6 {α β:Type}{g:α→β}{o:Option α}(h:o.map g=none):o=none:=by cases o with | none=>rfl | some a=>cases h
structure ShortF (d:Fun):Prop where
 np:d.params.length≤1000
 nb:d.blocks.length≤1000
 nc:∀x∈d.blocks,x.code.length≤1000000
 na:∀x∈d.blocks,∀c∈x.code,c.args.length≤1000∧c.labels.length≤1000
theorem name_size {s:ByteArray}(h:isName s=true):s.size≤64:=by
 unfold isName at h
 simp only [Bool.and_eq_true,decide_eq_true_eq] at h
 exact h.1
theorem oper_size {s:ByteArray}(h:isOperand s=true):s.size≤64:=by
 unfold isOperand at h
 rw [Bool.or_eq_true] at h
 rcases h with h | h
 ·unfold isNull at h
  have e:s.toList=[110,117,108,108]:=by simpa using h
  rw [ByteArray.toList_eq] at e
  have:=congrArg List.length e
  have h9:s.data.toList.length=s.size:=rfl
  simp at this
  omega
 ·exact name_size h
theorem has_size {k:Int}{s:ByteArray}(h0:missB k s=false){p:ByteArray→Bool}(hp:∀s,p s=true→s.size≤64)(h:(hasL k s).all p=true):s.size≤64:=by
 by_cases hk:k=0
 ·subst hk
  have:=miss_none h0
  have h9:(bL s).length=s.size:=rfl
  rw [this] at h9
  simp at h9
  omega
 ·unfold hasL at h
  rw [if_neg hk] at h
  unfold givenL at h
  split at h
  ·rename_i he
   rw [bL_nil] at he
   have h9:(bL s).length=s.size:=rfl
   cases e:bL s with
   | nil=>rw [e] at h9;simp at h9;omega
   | cons _ _=>rw [e] at he;cases he
  ·simp only [List.all_cons,List.all_nil,Bool.and_true] at h
   exact hp s h
theorem list_size {k:Int}{l:List ByteArray}(h0:misB k l.length=false){p:ByteArray→Bool}(hp:∀s,p s=true→s.size≤64)(h:(k != 0&&!l.all p)=false):∀s∈l,s.size≤64:=by
 intro s hs
 by_cases hk:k=0
 ·subst hk
  have:l.length=0:=by
   simp [misB] at h0
   omega
  rw [List.length_eq_zero_iff.1 this] at hs
  cases hs
 ·have h1:(k != 0)=true:=by simpa using hk
  rw [h1,Bool.true_and] at h
  have h2:l.all p=true:=by simpa using h
  exact hp s (List.all_eq_true.1 h2 s hs)
theorem shape_n {op:Int}{s:Shp}(h:shapeN op=some s):0≤s.low∧s.high≤64:=by
 rcases ops_ok h with e | e | e | e | e | e | e | e | e | e | e | e | e | e<;>(rw [e] at h;obtain rfl:=Option.some.inj h;decide)
theorem ins_ok {c:Ins}(h9:badFieldsB c=false)(h2:badNamesB c=false)(ha:c.args.length≤1000)(hl:c.labels.length≤1000):InsOk c:=by
 obtain⟨s,hs,d0,a0,b0,f0,n0,n1,g0,l0,h6⟩:=fields_ok h9
 rw [badNamesB_some hs] at h2
 unfold badNamesS at h2
 simp only [Bool.or_eq_false_iff,Bool.not_eq_false'] at h2
 obtain⟨⟨k1,k2⟩,⟨k3,k4⟩,k5,k6⟩:=h2
 have hsn:=shape_n hs
 have t1:=has_size d0 (fun s=>name_size) k1
 have t2:=has_size f0 (fun s=>name_size) k2
 have t3:=has_size a0 (fun s=>oper_size) k3
 have t4:=has_size b0 (fun s=>oper_size) k4
 have t5:=list_size l0 (fun s=>name_size) k5
 have t6:=list_size g0 (fun s=>oper_size) k6
 exact⟨ha,hl,fun s hs=>by have:=t6 s hs;omega,fun s hs=>by have:=t5 s hs;omega,by omega,by omega,by omega,by omega,by omega,by omega,fun e=>(h6 e).2⟩
theorem fun_ok {P:List Fun}(h2:ruleAt P 2=none)(h9:ruleAt P 9=none)(hs:∀d∈P,ShortF d):∀d∈P,FunOk d:=by
 have r2:=pure6 (none6 h2)
 have r9:=pure6 (none6 h9)
 intro d hd
 obtain⟨f,hf⟩:=List.mem_iff_getElem?.1 hd
 have e1:bad2 (.fn f d)=false:=r2 _ (in_fn6 hf)
 unfold bad2 at e1
 simp only [Bool.or_eq_false_iff,Bool.not_eq_false'] at e1
 have hsd:=hs d hd
 refine⟨hsd.np,fun s hs=>by have:=name_size (List.all_eq_true.1 e1.2 s hs);omega,by have:=name_size e1.1;omega,hsd.nb,fun x hx=>?_⟩
 obtain⟨b,hb⟩:=List.mem_iff_getElem?.1 hx
 have e2:bad2 (.blk f b d x)=false:=r2 _ (body_in6 hf (in_blk6 hb))
 unfold bad2 at e2
 simp only [Bool.not_eq_false'] at e2
 refine⟨by have:=name_size e2;omega,hsd.nc x hx,fun c hc=>?_⟩
 obtain⟨i,hi⟩:=List.mem_iff_getElem?.1 hc
 have e3:badNamesB c=false:=r2 _ (body_in6 hf (in_ins6 hb hi))
 have e4:badFieldsB c=false:=r9 _ (body_in6 hf (in_ins6 hb hi))
 exact⟨ins_ok e4 e3 (hsd.na x hx c hc).1 (hsd.na x hx c hc).2,e4⟩
def brokenP (P:List Fun):Bool:=(ruleAt P 2).isSome || (ruleAt P 9).isSome
def showE (P:List Fun):Nat:=if brokenP P then 5 else if 1048576<(progT P).length then 2 else 0
def showS (P:List Fun):ByteArray:=if brokenP P then ⟨#[]⟩ else if 1048576<(progT P).length then ⟨#[]⟩ else ⟨(progT P).toArray⟩
theorem RdE.mono6 {α:Type}{c:Nat}{R R':World→List Value→α→Prop}{w:World}{v:Value}{L:List α}(hR:∀cs d,R w cs d→R' w cs d)(h:RdE c R w v L):RdE c R' w v L:=by
 rcases h with h | ⟨b,off,cap,e,hb,hc⟩
 ·exact .inl h
 ·exact .inr ⟨b,off,cap,e,hb,fun i d hd=>by
   obtain⟨cs,h1,h2,h3⟩:=hc i d hd
   exact⟨cs,hR cs d h1,h2,h3⟩⟩
theorem RdFunC.plain {w:World}{cs:List Value}{d:Fun}(h:RdFunC w cs d):RdFun w cs d:=by
 obtain⟨vp,vb,e,h1,h2⟩:=h
 refine⟨vp,vb,e,h1.1,RdE.mono6 (fun cs x hx=>?_) h2⟩
 obtain⟨vc,e,h3⟩:=hx
 refine⟨vc,e,RdE.mono6 (fun cs c hc=>?_) h3⟩
 obtain⟨va,vl,e,h4,h5⟩:=hc
 exact⟨va,vl,e,h4.1,h5.1⟩
end
section
open Go.RowKit Go.Maps Go.Shelf Go.WideMaps
attribute [local go_sem] Oper.semAt_some
theorem first6 {P:List Fun}(hP:POkA P){w:World}{v:Value}(h:RdE 3 RdFun w v P){r:Nat}(hr:r<256):Calls Tryz.prog 16 #[.agg #[v],.int .u8 r] w fun e w'=>(∃q1 q2 q3:Nat,e=.returned (.tuple #[.agg #[.int .i64 q1,.int .i64 q2,.int .i64 q3],.bool (ruleAt P r).isSome]))∧Below w.heap.size w w':=by
 refine Calls.mono (first_any hP h hr) ?_
 rintro e w' ⟨rfl,hb⟩
 exact⟨⟨_,_,_,rfl⟩,hb⟩
set_option maxRecDepth 20000 in
set_option maxHeartbeats 16000000 in
theorem print_any {P:List Fun}(hP:POkA P)(hs:∀d∈P,ShortF d)(hpl:P.length≤1000000){w:World}{v:Value}(h:RdE 3 RdFunC w v P):Calls Tryz.prog 10 #[.agg #[v]] w fun e w'=>e=.returned (.tuple #[.string (showS P),.int .i64 (showE P)])∧Below w.heap.size w w':=by
 obtain⟨ap,cp,rfl⟩:=h.form
 obtain⟨n,hn⟩:∃n,n=P.length:=⟨_,rfl⟩
 rw [←hn] at h hpl ⊢
 have hpl':=RdE.mono6 (fun cs d=>RdFunC.plain) h
 obtain⟨W2,hW2⟩:∃W2,w.alloc (.cells #[.slice ap n cp] 24)=W2:=⟨_,rfl⟩
 have hX:W2.heap[w.heap.size]?=some (.cells #[.slice ap n cp] 24 (0,0)):=by rw [←hW2];exact at_newN rfl
 have hw2:Below w.heap.size w W2:=by rw [←hW2];exact (Below.refl _ _).alloc (Nat.le_refl _) _
 have hfst:=Lib.hid (fun (W:World) (hb:Below w.heap.size w W) (r:Nat) (hr:r<256)=>first6 hP (RdE.below (fun _ _ x=>RdFun.below x hb) hpl' hb) hr)
 have hcX:=Lib.hid (fun (W:World) (hn:Nu W2 W)=>(by rw [blk_cell (hn.1.lies hX (by decide))];rfl:W.cell? ⟨w.heap.size,0,none⟩=some (.slice ap n cp)))
 obtain⟨SS,hSS⟩:∃S,S=showS P:=⟨_,rfl⟩
 obtain⟨SE,hSE⟩:∃S,S=showE P:=⟨_,rfl⟩
 rw [←hSS,←hSE]
 replace hSS:=Lib.hid hSS
 replace hSE:=Lib.hid hSE
 replace hW2:=Lib.hid hW2
 replace hw2:=Lib.hid hw2
 replace hn:=Lib.hid hn
 replace hs:=Lib.hid hs
 replace h:=Lib.hid h
 clear hX hpl' hP
 go_enter Tryz.func10,Tryz.ntmps10
 go_upto_region 1 with fail
 rw [hW2.out]
 clear hW2
 have hr3:(W2.alloc (.cells #[.int .u8 2,.int .u8 9] 50)).heap[W2.heap.size]?=some (.cells #[.int .u8 2,.int .u8 9] 50 (0,0)):=heap_alloc_new _ _
 have hb3:Below W2.heap.size W2 (W2.alloc (.cells #[.int .u8 2,.int .u8 9] 50)):=(Below.refl _ _).alloc (Nat.le_refl _) _
 obtain⟨R,hR⟩:∃R,R=W2.heap.size:=⟨_,rfl⟩
 go_upto_block 0 with fail
 rw [←hR] at hr3 ⊢
 have hN3:=Lib.hid (Nu.of_below hb3)
 have hB3:=Lib.hid (hw2.out.trans (hb3.mono hw2.out.size))
 clear hb3 hR
 generalize (W2.alloc (.cells #[.int .u8 2,.int .u8 9] 50))=W3 at hr3 hN3 hB3 ⊢
 have hcR:=Lib.hid (fun (W:World) (hb:Below W3.heap.size W3 W)=>(by
  have e:=(hb.block R (Array.getElem?_eq_some_iff.1 hr3).1).trans hr3
  exact⟨by rw [blk_cell e];rfl,by rw [blk_cell e];rfl,(Array.getElem?_eq_some_iff.1 e).1⟩:W.cell? ⟨R,0,none⟩=some (.int .u8 2)∧W.cell? ⟨R,1,none⟩=some (.int .u8 9)∧R<W.heap.size))
 clear hr3
 go_wp2_with fail
 go_loopw [13] (fun i wr=>∃k:Nat,i=.int .i64 k∧k≤2∧Hid (Below W3.heap.size W3 wr)∧Hid ((1≤k→ruleAt P 2=none)∧(2≤k→ruleAt P 9=none))) (fun i _=>2-(intOf i).toNat)
 case atStart=>exact⟨0,rfl,by decide,Lib.hid (Below.refl _ _),Lib.hid ⟨fun h=>by omega,fun h=>by omega⟩⟩
 case round=>
  obtain⟨k,rfl,hk,hB,hz⟩:=hrel
  by_cases hk2:k<2
  ·have i1:(k:Int)<2:=by omega
   obtain⟨r,hr,hr2⟩:∃r:Nat,wr.cell? ⟨R,k,none⟩=some (.int .u8 r)∧((k=0∧r=2)∨(k=1∧r=9)):=by
    rcases (by omega:k=0∨k=1) with rfl | rfl
    ·exact⟨2,(hcR.out wr hB.out).1,.inl ⟨rfl,rfl⟩⟩
    ·exact⟨9,(hcR.out wr hB.out).2.1,.inr ⟨rfl,rfl⟩⟩
   have hRl:=(hcR.out wr hB.out).2.2
   have hBw:=Lib.hid (hB3.out.trans (hB.out.mono hB3.out.size))
   have cX:=hcX.out wr (hN3.out.trans (Nu.of_below hB.out))
   have hcall:=Lib.hid (hfst.out wr hBw.out r (by omega))
   replace hr2:=Lib.hid hr2
   replace hB:=Lib.hid hB
   replace hz:=Lib.hid hz
   go_wp2_with fail
   refine hcall.out.mono ?_
   rintro e w5 ⟨⟨q1,q2,q3,rfl⟩,hb5⟩
   have hB5:=Lib.hid (hB.out.out.trans (hb5.mono hB.out.out.size))
   dsimp only
   clear hcall hr cX hRl hb5
   cases hx:(ruleAt P r).isSome with
   | true=>
    have hbk:brokenP P=true:=by
     unfold brokenP
     rcases hr2.out with ⟨-,rfl⟩ | ⟨-,rfl⟩<;>rw [hx]<;>simp
    have e1:SS=⟨#[]⟩:=by rw [hSS.out];unfold showS;rw [if_pos hbk]
    have e2:SE=5:=by rw [hSE.out];unfold showE;rw [if_pos hbk]
    subst e1 e2
    have hBe:=Lib.hid (hB3.out.trans (hB5.out.mono hB3.out.size))
    have hfin:=Lib.hid (hBe.out.alloc hBe.out.size (.cells #[.int .i64 q1,.int .i64 q2,.int .i64 q3] 53))
    clear hx hbk
    go_wp2_with fail
    go_ret2
    exact⟨rfl,hfin.out⟩
   | false=>
    have hno:ruleAt P r=none:=by simpa using hx
    have hz2:=Lib.hid (show (1≤k+1→ruleAt P 2=none)∧(2≤k+1→ruleAt P 9=none) from by
     rcases hr2.out with ⟨rfl,rfl⟩ | ⟨rfl,rfl⟩
     ·exact⟨fun _=>hno,fun h=>by omega⟩
     ·exact⟨fun _=>hz.out.out.1 (by omega),fun _=>hno⟩)
    have hB6:=Lib.hid (hB5.out.alloc hB5.out.size (.cells #[.int .i64 q1,.int .i64 q2,.int .i64 q3] 53))
    clear hx hno
    go_wp2_with fail
    go_roundw
    case rel=>exact⟨k+1,by go_num,by omega,hB6,hz2⟩
    case measure=>simp [intOf];omega
  ·have i1:decide ((k:Int)<2)=false:=by simp;omega
   obtain rfl:k=2:=by omega
   have hn2:=hz.out.1 (by decide)
   have hn9:=hz.out.2 (by decide)
   have hBw:=Lib.hid (hB3.out.trans (hB.out.mono hB3.out.size))
   have hNw:=Lib.hid (hN3.out.trans (Nu.of_below hB.out))
   have hbk:brokenP P=false:=by unfold brokenP;rw [hn2,hn9];rfl
   have hok:=Lib.hid (fun_ok hn2 hn9 hs.out)
   replace hbk:=Lib.hid hbk
   replace hB:=Lib.hid hB
   clear hz hn2 hn9 hcR hfst
   go_wp2_with fail
   refine (forms_any _).mono ?_
   rintro e w4 ⟨mb,f,rfl,hge,hM,hall,hb4⟩
   dsimp only
   have hNf:=Nu.of_below hb4
   have hB4:=hBw.out.trans (hb4.mono hBw.out.size)
   have hb:Below w4.heap.size w4 (w4.alloc (.cells #[.pointer none,.slice none 0 0,.map (some mb)] 64)):=(Below.refl _ _).alloc (Nat.le_refl _) _
   have hw0:WrAt w.heap.size w4.heap.size [] (.map (some mb)) (w4.alloc (.cells #[.pointer none,.slice none 0 0,.map (some mb)] 64)):=⟨⟨_,_,.inl rfl,heap_alloc_new _ _,World.ownsRow_nil _ _ _ _,by simp [Value.ownBlock],fun _=>rfl⟩,hB4.size⟩
   have hM5:=hM.nu (Nu.of_below hb)
   have hall5:=Lib.hid (fun κ h1 h2=>(by obtain⟨v,e1,e2⟩:=hall κ h1 h2;exact⟨v,e1,e2.keep (Stays.of_below hb)⟩:∃v,f (.int .u8 (κ:Nat))=some v∧FormAt (w4.alloc (.cells #[.pointer none,.slice none 0 0,.map (some mb)] 64)) v (formG κ) (formR κ) 2010))
   have hN5:=Lib.hid (hNw.out.trans (hNf.trans (Nu.of_below hb)))
   have hB5:=Lib.hid (hB4.trans (hb.mono hB4.size))
   have cX:=hcX.out _ hN5.out
   replace hw0:=Lib.hid hw0
   replace hM5:=Lib.hid hM5
   clear hge hM hall hb4 hNf hB4 hb
   obtain⟨b,hbe⟩:∃b,b=w4.heap.size:=⟨_,rfl⟩
   go_upto_block 2 with fail
   rw [←hbe] at hw0 ⊢
   clear hbe
   generalize (w4.alloc (.cells #[.pointer none,.slice none 0 0,.map (some mb)] 64))=W5 at hw0 hM5 hall5 hN5 hB5 cX ⊢
   go_wp2_with fail
   clear cX
   go_loopw [31] (fun i wr=>∃j:Nat,i=.int .i64 j∧j≤n∧Hid (WrAt w.heap.size b (progT (P.take j)) (.map (some mb)) wr∧Below w.heap.size w wr∧Nu W5 wr∧(progT (P.take j)).length≤1048576)) (fun i _=>n-(intOf i).toNat)
   case atStart=>exact⟨0,rfl,Nat.zero_le _,Lib.hid ⟨hw0.out,hB5.out,Nu.refl _,by simp [progT]⟩⟩
   case round=>
    clear hw0
    obtain⟨j,rfl,hj,hI⟩:=hrel
    by_cases hjn:j<n
    ·have i2:(j:Int)<(n:Int):=by omega
     obtain⟨d,hd⟩:∃d,P[j]?=some d:=⟨_,List.getElem?_eq_getElem (by rw [←hn.out];exact hjn)⟩
     obtain⟨g,off,cap,cs,e,hgl,⟨vp,vb,rfl,rp,rb⟩,-,hcell⟩:=h.out.at hd
     rw [←hn.out] at e
     simp only [Value.slice.injEq] at e
     obtain⟨rfl,-,rfl⟩:=e
     obtain⟨a1,c1,rfl,hc1,-⟩:=rp.cells
     obtain⟨a2,c2,rfl⟩:=rb.form
     have e0:wr.cell? ⟨g,off+j*3,none⟩=some (.string d.name):=keepB hI.out.2.1 hgl (hcell 0 _ rfl)
     have e1:=keepB hI.out.2.1 hgl (hcell 1 _ rfl)
     have e2:=keepB hI.out.2.1 hgl (hcell 2 _ rfl)
     have hgw:g<wr.heap.size:=Nat.lt_of_lt_of_le hgl hI.out.2.1.size
     have hbd:Below wr.heap.size wr (wr.alloc (.cells #[.string d.name,.slice a1 d.params.length c1,.slice a2 d.blocks.length c2] 40)):=(Below.refl _ _).alloc (Nat.le_refl _) _
     have hZ:(wr.alloc (.cells #[.string d.name,.slice a1 d.params.length c1,.slice a2 d.blocks.length c2] 40)).heap[wr.heap.size]?=some (.cells #[.string d.name,.slice a1 d.params.length c1,.slice a2 d.blocks.length c2] 40 (0,0)):=heap_alloc_new _ _
     have hNd:=hI.out.2.2.1.trans (Nu.of_below hbd)
     have hfn:=Lib.hid (func_any (wP:=w) (hI.out.2.1.trans (hbd.mono hI.out.2.1.size)) (hI.out.1.below hbd) (hM5.out.nu hNd) (fun κ h1 h2=>by obtain⟨v,e1,e2⟩:=hall5.out κ h1 h2;exact⟨v,e1,e2.keep hNd.1⟩) rp rb (hok.out d (List.mem_of_getElem? hd)) hI.out.2.2.2)
     replace hNd:=Lib.hid hNd
     replace hd:=Lib.hid hd
     replace hI:=Lib.hid hI
     replace rp:=Lib.hid rp
     replace rb:=Lib.hid rb
     obtain⟨Z,hZe⟩:∃Z,Z=wr.heap.size:=⟨_,rfl⟩
     clear hcell hgl hc1
     go_upto_region 12 with fail
     rw [←hZe] at hZ ⊢
     clear hZe e0 e1 e2 hgw hbd
     generalize (wr.alloc (.cells #[.string d.name,.slice a1 d.params.length c1,.slice a2 d.blocks.length c2] 40))=Wd at hZ hNd hfn ⊢
     obtain⟨z0,z1,z2⟩:Wd.cell? ⟨Z,0,none⟩=some (.string d.name)∧Wd.cell? ⟨Z,1,none⟩=some (.slice a1 d.params.length c1)∧Wd.cell? ⟨Z,2,none⟩=some (.slice a2 d.blocks.length c2):=⟨by rw [blk_cell hZ];rfl,by rw [blk_cell hZ];rfl,by rw [blk_cell hZ];rfl⟩
     clear hZ
     go_wp2_with fail
     refine hfn.out.mono ?_
     rintro e w6 ⟨rfl,L',hF6,hcase⟩
     dsimp only
     have hlg:=Lib.hid (long6_any hF6.us.at_)
     replace hF6:=Lib.hid hF6
     replace hcase:=Lib.hid hcase
     clear hfn z0 z1 z2
     go_wp2_with fail
     refine hlg.out.mono ?_
     rintro e w7 ⟨rfl,hw7⟩
     obtain rfl:=hw7.symm
     clear hw7 hlg
     dsimp only
     by_cases hq:1048576<L'.length
     ·have i3:decide ((1048576:Int)<(L'.length:Int))=true:=by simp;omega
      have hpr:∃R,progT P=L'++R:=by
       have e3:P=P.take j++d::P.drop (j+1):=by
        obtain⟨hj2,hj3⟩:=List.getElem?_eq_some_iff.1 hd.out
        rw [←hj3,←List.drop_eq_getElem_cons hj2,List.take_append_drop]
       have e4:progT P=(progT (P.take j)++funT d)++progT (P.drop (j+1)):=by
        conv=>lhs;rw [e3]
        simp [progT]
       rcases hcase.out with e5 | ⟨-,R1,e5⟩
       ·exact⟨_,by rw [e4,e5]⟩
       ·exact⟨R1++progT (P.drop (j+1)),by rw [e4,e5,List.append_assoc]⟩
      have hlp:1048576<(progT P).length:=by
       obtain⟨R1,e5⟩:=hpr
       rw [e5,List.length_append]
       omega
      have e1:SS=⟨#[]⟩:=by rw [hSS.out];unfold showS;rw [if_neg (by rw [hbk.out];decide),if_pos hlp]
      have e2:SE=2:=by rw [hSE.out];unfold showE;rw [if_neg (by rw [hbk.out];decide),if_pos hlp]
      subst e1 e2
      have hfin:=Lib.hid hF6.out.bel
      clear hF6 hcase hpr hlp
      go_wp2_with fail
      go_ret2
      exact⟨rfl,hfin.out⟩
     ·have i3:decide ((1048576:Int)<(L'.length:Int))=false:=by simp;omega
      have hI7:=Lib.hid (show WrAt w.heap.size b (progT (P.take (j+1))) (.map (some mb)) w6∧Below w.heap.size w w6∧Nu W5 w6∧(progT (P.take (j+1))).length≤1048576 from by
       have e4:progT (P.take (j+1))=L':=by
        rcases hcase.out with e5 | ⟨e5,-⟩
        ·rw [e5,take_snocT hd.out]
         simp [progT]
        ·exact absurd e5 hq
       rw [e4]
       exact⟨hF6.out.us.at_,hF6.out.bel,hNd.out.trans hF6.out.nu,by omega⟩)
      clear hF6 hcase
      go_wp2_with fail
      go_roundw
      case rel=>exact⟨j+1,by go_num,by omega,hI7⟩
      case measure=>simp [intOf];omega
    ·have i2:decide ((j:Int)<(n:Int))=false:=by simp;omega
     obtain rfl:j=n:=by omega
     have eP:P.take j=P:=List.take_of_length_le (by rw [←hn.out];exact Nat.le_refl _)
     obtain⟨h1,h2,-,h4⟩:=hI.out
     rw [eP] at h1 h4
     have e1:SS=⟨(progT P).toArray⟩:=by rw [hSS.out];unfold showS;rw [if_neg (by rw [hbk.out];decide),if_neg (by omega)]
     have e2:SE=0:=by rw [hSE.out];unfold showE;rw [if_neg (by rw [hbk.out];decide),if_neg (by omega)]
     subst e1 e2
     have htx:=Lib.hid (wtext_any h1 h2.size)
     replace h2:=Lib.hid h2
     replace hI:=Lib.hid hI
     clear h1 h4
     go_wp2_with fail
     refine htx.out.mono ?_
     rintro e w6 ⟨rfl,hb6⟩
     dsimp only
     have hfin:=Lib.hid (h2.out.trans hb6)
     clear htx hb6
     go_wp2_with fail
     go_ret2
     exact⟨rfl,hfin.out⟩
end
section
open Go.RowKit Go.Maps Go.Shelf Go.WideMaps
theorem rde6_block {α:Type}{c:Nat}{R:World→List Value→α→Prop}{w:World}{b n:Nat}{t:TypeId}{cs:Array Value}{L:List α}(h:w.heap[b]?=some (.cells cs t (0,0)))(hn:n=L.length)(hL:∀i d,L[i]?=some d→∃l,R w l d∧l.length=c∧∀j u,l[j]?=some u→cs[i*c+j]?=some u):RdE c R w (.slice (some ⟨b,0,none⟩) n n) L:=by
 subst hn
 refine .inr ⟨b,0,_,rfl,(Array.getElem?_eq_some_iff.1 h).1,fun i d hi=>?_⟩
 obtain⟨l,h1,h2,h3⟩:=hL i d hi
 exact⟨l,h1,h2,fun j u hj=>by rw [blk_cell h,Nat.zero_add];exact h3 j u hj⟩
theorem at6_row {cs:Array Value}{l:List Value}{k n:Nat}(h:(cs.toList.drop k).take n=l){j:Nat}{u:Value}(hj:l[j]?=some u):cs[k+j]?=some u:=by
 subst h
 rw [List.getElem?_take] at hj
 split at hj
 ·rw [List.getElem?_drop] at hj
  simpa using hj
 ·cases hj
theorem rdc_block {w:World}{b:Nat}{ss:List ByteArray}{t:TypeId}(h:w.heap[b]?=some (.cells (ss.map Value.string).toArray t (0,0))):RdC w (.slice (some ⟨b,0,none⟩) ss.length ss.length) ss:=by
 refine RdC.of (Array.getElem?_eq_some_iff.1 h).1 (Nat.le_refl _) (fun j s hj=>?_)
 rw [blk_cell h]
 simp [hj]
def exP:List Fun:=[⟨⟨#[102]⟩,[⟨#[112]⟩,⟨#[113]⟩],[⟨⟨#[97]⟩,[⟨6,⟨#[104]⟩,⟨#[]⟩,⟨#[]⟩,0,⟨#[]⟩,[⟨#[120]⟩,⟨#[110,117,108,108]⟩],[⟨#[97]⟩,⟨#[98]⟩]⟩]⟩]⟩]
theorem exP_ok:POkA exP:=by
 refine⟨⟨?_,?_,?_,?_,?_⟩,?_⟩
 ·simp [exP,Fun.Fits,Blk.Fits,Ins.Fits,maxLen]
  decide
 all_goals simp [exP]
theorem exP_short:∀d∈exP,ShortF d:=by
 intro d hd
 rw [List.mem_singleton.1 hd]
 refine⟨by decide,by decide,fun x hx=>?_,fun x hx c hc=>?_⟩
 ·rw [List.mem_singleton.1 hx];decide
 ·rw [List.mem_singleton.1 hx] at hc
  rw [List.mem_singleton.1 hc];decide
theorem exP_E:showE exP=0:=by decide +kernel
theorem exP_S:showS exP=⟨#[102,117,110,99,32,102,40,112,44,32,113,41,32,123,10,97,58,10,32,32,104,32,61,32,112,104,105,32,91,97,58,32,120,44,32,98,58,32,110,117,108,108,93,10,125,10]⟩:=by decide +kernel
theorem exP_read {W:World}{s:Nat}(h0:W.heap[s]?=some (.cells #[.string ⟨#[112]⟩,.string ⟨#[113]⟩] 9 (0,0)))(h1:W.heap[s+1]?=some (.cells #[.string ⟨#[120]⟩,.string ⟨#[110,117,108,108]⟩] 9 (0,0)))(h2:W.heap[s+1+1]?=some (.cells #[.string ⟨#[97]⟩,.string ⟨#[98]⟩] 9 (0,0)))(h3:W.heap[s+1+1+1]?=some (.cells #[.int .u8 6,.string ⟨#[104]⟩,.string ⟨#[]⟩,.string ⟨#[]⟩,.int .i64 0,.string ⟨#[]⟩,.slice (some ⟨s+1,0,none⟩) 2 2,.slice (some ⟨s+1+1,0,none⟩) 2 2] 46 (0,0)))(h4:W.heap[s+1+1+1+1]?=some (.cells #[.string ⟨#[97]⟩,.slice (some ⟨s+1+1+1,0,none⟩) 1 1] 43 (0,0)))(h5:W.heap[s+1+1+1+1+1]?=some (.cells #[.string ⟨#[102]⟩,.slice (some ⟨s,0,none⟩) 2 2,.slice (some ⟨s+1+1+1+1,0,none⟩) 1 1] 40 (0,0))):RdE 3 RdFunC W (.slice (some ⟨s+1+1+1+1+1,0,none⟩) 1 1) exP:=by
 refine rde6_block h5 rfl (fun i d hi=>?_)
 obtain⟨rfl,rfl⟩:=one_at6 hi
 refine⟨_,⟨.slice (some ⟨s,0,none⟩) 2 2,.slice (some ⟨s+1+1+1+1,0,none⟩) 1 1,rfl,rdc_block (ss:=[⟨#[112]⟩,⟨#[113]⟩]) h0,?_⟩,rfl,fun j u hj=>?_⟩
 ·refine rde6_block h4 rfl (fun i d hi=>?_)
  obtain⟨rfl,rfl⟩:=one_at6 hi
  refine⟨_,⟨.slice (some ⟨s+1+1+1,0,none⟩) 1 1,rfl,?_⟩,rfl,fun j u hj=>?_⟩
  ·refine rde6_block h3 rfl (fun i d hi=>?_)
   obtain⟨rfl,rfl⟩:=one_at6 hi
   exact⟨_,⟨.slice (some ⟨s+1,0,none⟩) 2 2,.slice (some ⟨s+1+1,0,none⟩) 2 2,rfl,rdc_block (ss:=[⟨#[120]⟩,⟨#[110,117,108,108]⟩]) h1,rdc_block (ss:=[⟨#[97]⟩,⟨#[98]⟩]) h2⟩,rfl,fun j u hj=>at6_row (n:=8) rfl hj⟩
  ·exact at6_row (n:=2) rfl hj
 ·exact at6_row (n:=3) rfl hj
set_option maxRecDepth 20000 in
set_option maxHeartbeats 4000000 in
theorem tells_any (w:World):Calls Tryz.prog 8 #[] w fun e w'=>e=.returned (.bool true)∧Below w.heap.size w w':=by
 obtain⟨W6,hW6⟩:∃W6,((((((w.alloc (.cells #[.string ⟨#[112]⟩,.string ⟨#[113]⟩] 9)).alloc (.cells #[.string ⟨#[120]⟩,.string ⟨#[110,117,108,108]⟩] 9)).alloc (.cells #[.string ⟨#[97]⟩,.string ⟨#[98]⟩] 9)).alloc (.cells #[.int .u8 6,.string ⟨#[104]⟩,.string ⟨#[]⟩,.string ⟨#[]⟩,.int .i64 0,.string ⟨#[]⟩,.slice (some ⟨w.heap.size+1,0,none⟩) 2 2,.slice (some ⟨w.heap.size+1+1,0,none⟩) 2 2] 46)).alloc (.cells #[.string ⟨#[97]⟩,.slice (some ⟨w.heap.size+1+1+1,0,none⟩) 1 1] 43)).alloc (.cells #[.string ⟨#[102]⟩,.slice (some ⟨w.heap.size,0,none⟩) 2 2,.slice (some ⟨w.heap.size+1+1+1+1,0,none⟩) 1 1] 40))=W6:=⟨_,rfl⟩
 have hR:RdE 3 RdFunC W6 (.slice (some ⟨w.heap.size+1+1+1+1+1,0,none⟩) 1 1) exP:=by
  rw [←hW6]
  exact exP_read (s:=w.heap.size) (at_oldN (at_oldN (at_oldN (at_oldN (at_oldN (at_newN rfl)))))) (at_oldN (at_oldN (at_oldN (at_oldN (at_newN (by simp)))))) (at_oldN (at_oldN (at_oldN (at_newN (by simp))))) (at_oldN (at_oldN (at_newN (by simp)))) (at_oldN (at_newN (by simp))) (at_newN (by simp))
 have hB:Below w.heap.size w W6:=by
  rw [←hW6]
  exact (((((Below.refl _ _).alloc (Nat.le_refl _) _).alloc (by simp) _).alloc (by simp;omega) _).alloc (by simp;omega) _).alloc (by simp;omega) _ |>.alloc (by simp;omega) _
 have hp:=Lib.hid (print_any exP_ok exP_short (by decide) hR)
 rw [exP_E,exP_S] at hp
 replace hB:=Lib.hid hB
 replace hW6:=Lib.hid hW6
 clear hR
 go_enter Tryz.func8,Tryz.ntmps8
 go_wp2_with fail
 rw [hW6.out]
 clear hW6
 refine hp.out.mono ?_
 rintro e w2 ⟨rfl,hb2⟩
 dsimp only
 go_wp2_with fail
 go_ret
 exact⟨rfl,hB.out.trans (hb2.mono hB.out.size)⟩
end
section
open Go.RowKit Go.Maps Go.Shelf
def LightI (c:Ins):Prop:=c.args.length≤20∧c.labels.length≤20
def LightB (x:Blk):Prop:=x.code.length≤200∧∀c∈x.code,LightI c
def LightF (d:Fun):Prop:=d.params.length≤20∧d.blocks.length≤70∧∀x∈d.blocks,LightB x
def LightP (P:List Fun):Prop:=P.length≤70∧∀d∈P,LightF d
theorem LightP.ok {P:List Fun}(h:LightP P)(hf:∀d∈P,d.Fits):POkA P:=by
 refine⟨⟨hf,by have:=h.1;omega,fun d hd=>by have:=(h.2 d hd).2.1;omega,fun d hd x hx=>by have:=((h.2 d hd).2.2 x hx).1;omega,fun d hd=>by have:=(h.2 d hd).1;omega⟩,fun d hd x hx c hc=>by have:=(((h.2 d hd).2.2 x hx).2 c hc).1;omega⟩
end
section
open Go.RowKit Go.Maps Go.Shelf Go.WideMaps
attribute [local go_sem] Oper.semAt_some
def anyR (F:Fun→Bool)(G:Blk→Bool)(H:Ins→Bool)(d:Fun):Bool:=F d || d.blocks.any (fun x=>G x || x.code.any H)
theorem first_some5 {B:Prt→Bool}:∀{l:List Prt},(firstBad (fun (s:Unit) x=>(B x,s)) () l).isSome=l.any B
 | []=>rfl
 | x::l=>by
  unfold firstBad
  simp only [List.any_cons]
  cases h:B x
  ·simpa using first_some5
  ·rfl
theorem cat_any5 {α β:Type}{B:β→Bool}{q:α→Bool}:∀{l:List α} {g:Nat→α→List β},(∀i a,(g i a).any B=q a)→(cat g l).any B=l.any q
 | [],_,_=>rfl
 | a::l,g,h=>by
  have ih:=cat_any5 (B:=B) (q:=q) (l:=l) (g:=fun i=>g (i+1)) (fun i a=>h (i+1) a)
  unfold cat at ih ⊢
  rw [List.mapIdx_cons,List.flatten_cons,List.any_append,List.any_cons,h 0 a]
  exact congrArg (q a || ·) ih
theorem parts_any5 {B:Prt→Bool}{F:Fun→Bool}{G:Blk→Bool}{H:Ins→Bool}(hF:∀f d,B (.fn f d)=F d)(hG:∀f b d x,B (.blk f b d x)=G x)(hH:∀f b i d x c,B (.ins f b i d x c)=H c)(P:List Fun):(partsL P).any B=P.any (anyR F G H):=by
 unfold partsL
 refine cat_any5 (fun f d=>?_)
 unfold funL anyR
 rw [List.any_cons,hF]
 congr 1
 refine cat_any5 (fun b x=>?_)
 unfold blkL
 rw [List.any_cons,hG]
 congr 1
 refine cat_any5 (fun i c=>?_)
 simp [hH]
def fn2 (d:Fun):Bool:=!d.params.all isName || !isName d.name
def bk2 (x:Blk):Bool:=!isName x.label
theorem rule2_any (P:List Fun):(ruleAt P 2).isSome=P.any (anyR fn2 bk2 badNamesB):=by
 show ((firstP bad2 P).map Prt.at).isSome=_
 rw [Option.isSome_map]
 unfold firstP
 rw [first_some5]
 exact parts_any5 (fun f d=>by unfold bad2 fn2;exact Bool.or_comm _ _) (fun _ _ _ _=>rfl) (fun _ _ _ _ _ _=>rfl) P
theorem rule9_any (P:List Fun):(ruleAt P 9).isSome=P.any (anyR (fun _=>false) (fun _=>false) badFieldsB):=by
 show ((firstP bad9 P).map Prt.at).isSome=_
 rw [Option.isSome_map]
 unfold firstP
 rw [first_some5]
 exact parts_any5 (fun _ _=>rfl) (fun _ _ _ _=>rfl) (fun _ _ _ _ _ _=>rfl) P
end
section
open Go.RowKit Go.Maps Go.Shelf Go.WideMaps
def scanB (st:Nat × Nat × UInt8)(c:UInt8):Option (Nat × Nat × UInt8):=
 if c.toNat=10 then (if st.2.1=0∨st.2.2.toNat=32 then none else some (st.1+1,0,c))
 else if (c.toNat≠32∧(c.toNat<33∨126<c.toNat))∨(c.toNat=32∧1<st.2.1∧st.2.2.toNat=32) then none else some (st.1,st.2.1+1,c)
def scanT:List UInt8→Nat × Nat × UInt8→Option (Nat × Nat × UInt8)
 | [],st=>some st
 | c::r,st=>(scanB st c).bind (scanT r)
theorem scan_app (a b:List UInt8)(st:Nat × Nat × UInt8):scanT (a++b) st=(scanT a st).bind (scanT b):=by
 induction a generalizing st with
 | nil=>rfl
 | cons c r ih=>
  simp only [List.cons_append,scanT]
  cases scanB st c with
  | none=>rfl
  | some st'=>exact ih st'
def Wd6 (l:List UInt8):Prop:=l≠[]∧∀g p q,∃z:UInt8,z.toNat≠32∧scanT l (g,p,q)=some (g,p+l.length,z)
theorem Wd6.one {c:UInt8}(h1:33≤c.toNat)(h2:c.toNat≤126):Wd6 [c]:=by
 refine⟨by simp,fun g p q=>⟨c,by omega,?_⟩⟩
 simp only [scanT,scanB]
 rw [if_neg (by omega),if_neg (by omega)]
 rfl
theorem Wd6.app {a b:List UInt8}(ha:Wd6 a)(hb:Wd6 b):Wd6 (a++b):=by
 refine⟨by simp [ha.1],fun g p q=>?_⟩
 obtain⟨z,h1,h2⟩:=ha.2 g p q
 obtain⟨y,h3,h4⟩:=hb.2 g (p+a.length) z
 refine⟨y,h3,?_⟩
 rw [scan_app,h2]
 show scanT b _=_
 rw [h4,List.length_append,Nat.add_assoc]
theorem Wd6.all:∀{l:List UInt8},l≠[]→(∀c∈l,33≤c.toNat∧c.toNat≤126)→Wd6 l
 | [],h,_=>absurd rfl h
 | [c],_,h=>Wd6.one (h c (by simp)).1 (h c (by simp)).2
 | c::d::r,_,h=>Wd6.app (a:=[c]) (Wd6.one (h c (by simp)).1 (h c (by simp)).2) (Wd6.all (l:=d::r) (by simp) (fun x hx=>h x (List.mem_cons_of_mem _ hx)))
end
section
open Go.RowKit Go.Maps Go.Shelf Go.WideMaps
attribute [local go_sem] Oper.semAt_some
def oneP (d:Ins):List Fun:=[⟨⟨#[109,97,105,110]⟩,[],[⟨⟨#[97]⟩,[d]⟩]⟩]
theorem one_read {W:World}{b2 b3 b4:Nat}{d:Ins}{va vl:Value}(ha:RdC W va d.args)(hl:RdC W vl d.labels)(h2:W.heap[b2]?=some (.cells (insV d va vl).toArray 46 (0,0)))(h3:W.heap[b3]?=some (.cells #[.string ⟨#[97]⟩,.slice (some ⟨b2,0,none⟩) 1 1] 43 (0,0)))(h4:W.heap[b4]?=some (.cells #[.string ⟨#[109,97,105,110]⟩,.slice none 0 0,.slice (some ⟨b3,0,none⟩) 1 1] 40 (0,0))):RdE 3 RdFunC W (.slice (some ⟨b4,0,none⟩) 1 1) (oneP d):=by
 refine rde6_block h4 rfl (fun i x hi=>?_)
 obtain⟨rfl,rfl⟩:=one_at6 hi
 refine⟨_,⟨.slice none 0 0,.slice (some ⟨b3,0,none⟩) 1 1,rfl,RdC.nil _,?_⟩,rfl,fun j u hj=>at6_row (n:=3) rfl hj⟩
 refine rde6_block h3 rfl (fun i x hi=>?_)
 obtain⟨rfl,rfl⟩:=one_at6 hi
 refine⟨_,⟨.slice (some ⟨b2,0,none⟩) 1 1,rfl,?_⟩,rfl,fun j u hj=>at6_row (n:=2) rfl hj⟩
 refine rde6_block h2 rfl (fun i x hi=>?_)
 obtain⟨rfl,rfl⟩:=one_at6 hi
 exact⟨_,⟨va,vl,rfl,ha,hl⟩,rfl,fun j u hj=>at6_row (n:=8) rfl hj⟩
set_option maxRecDepth 20000 in
set_option maxHeartbeats 4000000 in
theorem one_any {w:World}{d:Ins}{va vl:Value}(ha:RdC w va d.args)(hl:RdC w vl d.labels):Calls Tryz.prog 14 #[.agg (insV d va vl).toArray] w fun e w'=>(∃v,e=.returned (.agg #[v])∧RdE 3 RdFunC w' v (oneP d))∧Below w.heap.size w w':=by
 have ha0:=Lib.hid ha
 have hl0:=Lib.hid hl
 obtain⟨aa,ca,rfl⟩:=ha.1.shape
 obtain⟨al,cl,rfl⟩:=hl.1.shape
 generalize d.args.length=na at *
 generalize d.labels.length=nl at *
 obtain⟨W2,hW2⟩:∃W2,(w.alloc (.cells (insV d (.slice aa na ca) (.slice al nl cl)).toArray 46)).alloc (.cells #[.slice none 0 0] 24)=W2:=⟨_,rfl⟩
 have hX:W2.heap[w.heap.size]?=some (.cells (insV d (.slice aa na ca) (.slice al nl cl)).toArray 46 (0,0)):=by rw [←hW2];exact at_oldN (at_newN rfl)
 have hY:W2.heap[w.heap.size+1]?=some (.cells #[.slice none 0 0] 24 (0,0)):=by rw [←hW2];exact at_newN (by simp)
 have hB:Below w.heap.size w W2:=by rw [←hW2];exact ((Below.refl _ _).alloc (Nat.le_refl _) _).alloc (by simp) _
 have hz:W2.heap.size=w.heap.size+2:=by rw [←hW2];simp
 have c0:W2.cell? ⟨w.heap.size,0,none⟩=some (.int .u8 d.op):=by rw [blk_cell hX];rfl
 have c1:W2.cell? ⟨w.heap.size,1,none⟩=some (.string d.dst):=by rw [blk_cell hX];rfl
 have c2:W2.cell? ⟨w.heap.size,2,none⟩=some (.string d.a):=by rw [blk_cell hX];rfl
 have c3:W2.cell? ⟨w.heap.size,3,none⟩=some (.string d.b):=by rw [blk_cell hX];rfl
 have c4:W2.cell? ⟨w.heap.size,4,none⟩=some (.int .i64 d.n):=by rw [blk_cell hX];rfl
 have c5:W2.cell? ⟨w.heap.size,5,none⟩=some (.string d.fn):=by rw [blk_cell hX];rfl
 have c6:W2.cell? ⟨w.heap.size,6,none⟩=some (.slice aa na ca):=by rw [blk_cell hX];rfl
 have c7:W2.cell? ⟨w.heap.size,7,none⟩=some (.slice al nl cl):=by rw [blk_cell hX];rfl
 have hXl:w.heap.size<W2.heap.size:=by omega
 obtain⟨X,hXe⟩:∃X,X=w.heap.size:=⟨_,rfl⟩
 obtain⟨Y,hYe⟩:∃Y,Y=w.heap.size+1:=⟨_,rfl⟩
 rw [←hYe] at hY
 rw [←hXe] at c0 c1 c2 c3 c4 c5 c6 c7 hXl
 have hYl:Y<W2.heap.size:=by omega
 have hfacts:=Lib.hid (fun (A B C:Obj)=>(by
  have h:=at_oldN (o:=C) (at_oldN (o:=B) (at_oldN (o:=A) hY))
  exact⟨by rw [blk_cell h];rfl,by simp [World.frozen?,h]⟩:(((W2.alloc A).alloc B).alloc C).cell? ⟨Y,0,none⟩=some (.slice none 0 0)∧(((W2.alloc A).alloc B).alloc C).frozen? ⟨Y,0,none⟩=false))
 obtain⟨W5,hW5⟩:∃W5,((W2.alloc (.cells #[.int .u8 d.op,.string d.dst,.string d.a,.string d.b,.int .i64 d.n,.string d.fn,.slice aa na ca,.slice al nl cl] 46)).alloc (.cells #[.string ⟨#[97]⟩,.slice (some ⟨W2.heap.size,0,none⟩) 1 1] 43)).alloc (.cells #[.string ⟨#[109,97,105,110]⟩,.slice none 0 0,.slice (some ⟨W2.heap.size+1,0,none⟩) 1 1] 40)=W5:=⟨_,rfl⟩
 have f:=hfacts.out (.cells #[.int .u8 d.op,.string d.dst,.string d.a,.string d.b,.int .i64 d.n,.string d.fn,.slice aa na ca,.slice al nl cl] 46) (.cells #[.string ⟨#[97]⟩,.slice (some ⟨W2.heap.size,0,none⟩) 1 1] 43) (.cells #[.string ⟨#[109,97,105,110]⟩,.slice none 0 0,.slice (some ⟨W2.heap.size+1,0,none⟩) 1 1] 40)
 obtain⟨f1,f2⟩:=f
 have g2:W5.heap[W2.heap.size]?=some (.cells #[.int .u8 d.op,.string d.dst,.string d.a,.string d.b,.int .i64 d.n,.string d.fn,.slice aa na ca,.slice al nl cl] 46 (0,0)):=by rw [←hW5];exact at_oldN (at_oldN (at_newN rfl))
 have g3:W5.heap[W2.heap.size+1]?=some (.cells #[.string ⟨#[97]⟩,.slice (some ⟨W2.heap.size,0,none⟩) 1 1] 43 (0,0)):=by rw [←hW5];exact at_oldN (at_newN (by simp))
 have g4:W5.heap[W2.heap.size+1+1]?=some (.cells #[.string ⟨#[109,97,105,110]⟩,.slice none 0 0,.slice (some ⟨W2.heap.size+1,0,none⟩) 1 1] 40 (0,0)):=by rw [←hW5];exact at_newN (by simp)
 have hB5:Below w.heap.size w W5:=by rw [←hW5];exact ((hB.alloc hB.size _).alloc (by simp;omega) _).alloc (by simp;omega) _
 have hT:Touch W5 (W5.setCell ⟨Y,0,none⟩ (.slice (some ⟨W2.heap.size+1+1,0,none⟩) 1 1)) (fun j=>j=Y):=(Touch.refl W5 (fun j=>j=Y)).setCell (a:=⟨Y,0,none⟩) (fun _=>rfl) _
 have hlt:=fun (b:Nat) (o:Obj) (h:W5.heap[b]?=some o) (hb:b≠Y)=>(hT.block b (Array.getElem?_eq_some_iff.1 h).1 hb).trans h
 have hBf:Below w.heap.size w (W5.setCell ⟨Y,0,none⟩ (.slice (some ⟨W2.heap.size+1+1,0,none⟩) 1 1)):=hB5.setCell (p:=⟨Y,0,none⟩) (by dsimp only;omega) _
 have hfin:=Lib.hid (one_read (d:=d) (ha0.out.below hBf) (hl0.out.below hBf) (hlt _ _ g2 (by omega)) (hlt _ _ g3 (by omega)) (hlt _ _ g4 (by omega)))
 have hBf:=Lib.hid hBf
 replace hW2:=Lib.hid hW2
 replace hW5:=Lib.hid hW5
 replace hXe:=Lib.hid hXe
 replace hYe:=Lib.hid hYe
 replace hz:=Lib.hid hz
 clear hX hY hB hfacts g2 g3 g4 hB5 hT hlt ha hl
 go_enter Tryz.func14,Tryz.ntmps14
 go_upto_region 1 with fail
 rw [hW2.out,←hYe.out,←hXe.out]
 clear hW2
 go_wp2_with fail
 rw [hW5.out]
 exact bodyPost_ret (v:=.agg #[.slice (some ⟨W2.heap.size+1+1,0,none⟩) 1 1]) (by
  have e1:(W5.setCell ⟨Y,0,none⟩ (.slice (some ⟨W2.heap.size+1+1,0,none⟩) 1 1)).cell? ⟨Y,0,none⟩=some (.slice (some ⟨W2.heap.size+1+1,0,none⟩) 1 1):=World.cell?_setCell_same _ _ _ (u:=.slice none 0 0) (by rw [←hW5.out];exact f1)
  simp [results,Tryz.results14,go_sem,e1]) rfl ⟨⟨_,rfl,hfin.out⟩,hBf.out⟩
end
section
open Go.RowKit Go.Maps Go.Shelf Go.WideMaps
def kCode:List Ins:=[⟨1,⟨#[120]⟩,⟨#[]⟩,⟨#[]⟩,2,⟨#[]⟩,[],[]⟩,
 ⟨2,⟨#[109]⟩,⟨#[]⟩,⟨#[]⟩,64,⟨#[]⟩,[],[]⟩,
 ⟨3,⟨#[122]⟩,⟨#[]⟩,⟨#[]⟩,0,⟨#[]⟩,[],[]⟩,
 ⟨4,⟨#[102]⟩,⟨#[]⟩,⟨#[]⟩,0,⟨#[109,97,105,110]⟩,[],[]⟩,
 ⟨5,⟨#[99]⟩,⟨#[110,117,108,108]⟩,⟨#[]⟩,0,⟨#[]⟩,[],[]⟩,
 ⟨6,⟨#[104]⟩,⟨#[]⟩,⟨#[]⟩,0,⟨#[]⟩,[⟨#[120]⟩,⟨#[110,117,108,108]⟩],[⟨#[97]⟩,⟨#[98]⟩]⟩,
 ⟨7,⟨#[100]⟩,⟨#[120]⟩,⟨#[]⟩,10,⟨#[]⟩,[],[]⟩,
 ⟨8,⟨#[108]⟩,⟨#[100]⟩,⟨#[]⟩,0,⟨#[]⟩,[],[]⟩,
 ⟨9,⟨#[]⟩,⟨#[120]⟩,⟨#[110,117,108,108]⟩,0,⟨#[]⟩,[],[]⟩,
 ⟨10,⟨#[114]⟩,⟨#[]⟩,⟨#[]⟩,0,⟨#[103]⟩,[⟨#[120]⟩,⟨#[121]⟩],[]⟩,
 ⟨10,⟨#[]⟩,⟨#[]⟩,⟨#[]⟩,0,⟨#[103]⟩,[],[]⟩,
 ⟨11,⟨#[105]⟩,⟨#[102]⟩,⟨#[]⟩,0,⟨#[]⟩,[⟨#[110,117,108,108]⟩],[]⟩,
 ⟨11,⟨#[]⟩,⟨#[102]⟩,⟨#[]⟩,0,⟨#[]⟩,[],[]⟩,
 ⟨12,⟨#[]⟩,⟨#[]⟩,⟨#[]⟩,0,⟨#[]⟩,[],[⟨#[97]⟩,⟨#[98]⟩]⟩,
 ⟨13,⟨#[]⟩,⟨#[]⟩,⟨#[]⟩,0,⟨#[]⟩,[],[⟨#[97]⟩]⟩,
 ⟨14,⟨#[]⟩,⟨#[120]⟩,⟨#[]⟩,0,⟨#[]⟩,[],[]⟩,
 ⟨14,⟨#[]⟩,⟨#[]⟩,⟨#[]⟩,0,⟨#[]⟩,[],[]⟩]
def kMain:List Fun:=[⟨⟨#[109,97,105,110]⟩,[],[⟨⟨#[97]⟩,kCode⟩,⟨⟨#[98]⟩,[]⟩]⟩,⟨⟨#[103]⟩,[⟨#[112]⟩],[]⟩]
def kText:ByteArray:=⟨#[102,117,110,99,32,109,97,105,110,40,41,32,123,10,97,58,10,32,32,120,32,61,32,97,108,108,111,99,97,32,50,10,32,32,109,32,61,32,109,97,108,108,111,99,32,54,52,10,32,32,122,32,61,32,110,117,108,108,10,32,32,102,32,61,32,97,100,100,114,32,109,97,105,110,10,32,32,99,32,61,32,99,111,112,121,32,110,117,108,108,10,32,32,104,32,61,32,112,104,105,32,91,97,58,32,120,44,32,98,58,32,110,117,108,108,93,10,32,32,100,32,61,32,102,105,101,108,100,32,120,32,49,48,10,32,32,108,32,61,32,108,111,97,100,32,100,10,32,32,115,116,111,114,101,32,120,44,32,110,117,108,108,10,32,32,114,32,61,32,99,97,108,108,32,103,40,120,44,32,121,41,10,32,32,99,97,108,108,32,103,40,41,10,32,32,105,32,61,32,105,99,97,108,108,32,102,40,110,117,108,108,41,10,32,32,105,99,97,108,108,32,102,40,41,10,32,32,98,114,32,97,32,98,10,32,32,103,111,116,111,32,97,10,32,32,114,101,116,32,120,10,32,32,114,101,116,10,98,58,10,125,10,102,117,110,99,32,103,40,112,41,32,123,10,125,10]⟩
def kNo:List (List Fun):=[[⟨⟨#[49]⟩,[],[]⟩],
 [⟨⟨#[110,117,108,108]⟩,[],[]⟩],
 [⟨⟨#[102]⟩,[⟨#[]⟩],[]⟩],
 [⟨⟨#[102]⟩,[],[⟨⟨#[]⟩,[]⟩]⟩],
 oneP ⟨0,⟨#[]⟩,⟨#[]⟩,⟨#[]⟩,0,⟨#[]⟩,[],[]⟩,
 oneP ⟨14,⟨#[]⟩,⟨#[]⟩,⟨#[120]⟩,0,⟨#[]⟩,[],[]⟩,
 oneP ⟨5,⟨#[120]⟩,⟨#[]⟩,⟨#[]⟩,0,⟨#[]⟩,[],[]⟩,
 oneP ⟨1,⟨#[120]⟩,⟨#[]⟩,⟨#[]⟩,0,⟨#[]⟩,[],[]⟩,
 oneP ⟨5,⟨#[110,117,108,108]⟩,⟨#[120]⟩,⟨#[]⟩,0,⟨#[]⟩,[],[]⟩,
 oneP ⟨6,⟨#[120]⟩,⟨#[]⟩,⟨#[]⟩,0,⟨#[]⟩,[⟨#[121]⟩],[]⟩]
def smI (c:Ins):Bool:=decide (0≤c.op)&&(decide (c.op<256)&&(decide (c.dst.size≤1000)&&(decide (c.a.size≤1000)&&(decide (c.b.size≤1000)&&((Lit.int .i64 c.n).wf&&(decide (c.fn.size≤1000)&&(c.args.all (fun s=>decide (s.size≤1000))&&(c.labels.all (fun s=>decide (s.size≤1000))&&(decide (c.args.length≤1000)&&decide (c.labels.length≤1000))))))))))
def smB (x:Blk):Bool:=decide (x.label.size≤1000)&&(decide (x.code.length≤200000)&&x.code.all smI)
def smF (d:Fun):Bool:=decide (d.name.size≤1000)&&(d.params.all (fun s=>decide (s.size≤1000))&&(decide (d.params.length≤1000)&&(decide (d.blocks.length≤1000)&&d.blocks.all smB)))
def smP (P:List Fun):Bool:=decide (P.length≤1000)&&P.all smF
theorem sm_ins {c:Ins}(h:smI c=true):c.Fits∧c.args.length≤1000∧c.labels.length≤1000:=by
 unfold smI at h
 simp only [Bool.and_eq_true,decide_eq_true_eq,List.all_eq_true] at h
 obtain⟨h0,h1,h2,h3,h4,h5,h6,h7,h8,h9,h10⟩:=h
 refine⟨⟨h0,h1,?_,?_,?_,h5,?_,fun s hs=>?_,fun s hs=>?_,?_,?_⟩,h9,h10⟩
 all_goals unfold maxLen
 all_goals first | omega | (have:=h7 s hs;omega) | (have:=h8 s hs;omega)
theorem sm_blk {x:Blk}(h:smB x=true):x.Fits∧x.code.length≤200000∧∀c∈x.code,c.args.length≤1000∧c.labels.length≤1000:=by
 unfold smB at h
 simp only [Bool.and_eq_true,decide_eq_true_eq,List.all_eq_true] at h
 obtain⟨h0,h1,h2⟩:=h
 refine⟨⟨by unfold maxLen;omega,fun c hc=>(sm_ins (h2 c hc)).1,by unfold maxLen;omega⟩,h1,fun c hc=>(sm_ins (h2 c hc)).2⟩
theorem sm_ok {P:List Fun}(h:smP P=true):POkA P∧(∀d∈P,ShortF d)∧P.length≤1000000:=by
 unfold smP at h
 simp only [Bool.and_eq_true,decide_eq_true_eq,List.all_eq_true] at h
 obtain⟨h0,h1⟩:=h
 have hF:∀d∈P,d.Fits∧d.params.length≤1000∧d.blocks.length≤1000∧∀x∈d.blocks,x.code.length≤200000∧∀c∈x.code,c.args.length≤1000∧c.labels.length≤1000:=by
  intro d hd
  have h2:=h1 d hd
  unfold smF at h2
  simp only [Bool.and_eq_true,decide_eq_true_eq,List.all_eq_true] at h2
  obtain⟨k0,k1,k2,k3,k4⟩:=h2
  exact⟨⟨by unfold maxLen;omega,fun s hs=>by have:=k1 s hs;unfold maxLen;omega,fun x hx=>(sm_blk (k4 x hx)).1,by unfold maxLen;omega,by unfold maxLen;omega⟩,k2,k3,fun x hx=>(sm_blk (k4 x hx)).2⟩
 refine⟨⟨⟨fun d hd=>(hF d hd).1,by omega,fun d hd=>by have:=(hF d hd).2.2.1;omega,fun d hd x hx=>by have:=((hF d hd).2.2.2 x hx).1;omega,fun d hd=>by have:=(hF d hd).2.1;omega⟩,fun d hd x hx c hc=>by have:=(((hF d hd).2.2.2 x hx).2 c hc).1;omega⟩,fun d hd=>⟨(hF d hd).2.1,(hF d hd).2.2.1,fun x hx=>by have:=((hF d hd).2.2.2 x hx).1;omega,fun x hx c hc=>((hF d hd).2.2.2 x hx).2 c hc⟩,by omega⟩
theorem kMain_sm:smP kMain=true:=by decide +kernel
theorem kMain_E:showE kMain=0:=by decide +kernel
theorem kMain_S:showS kMain=kText:=by decide +kernel
theorem kNo_sm:∀P∈kNo,smP P=true:=by decide +kernel
theorem kNo_E:∀P∈kNo,showE P=5:=by decide +kernel
theorem kNo_S:∀P∈kNo,showS P=⟨#[]⟩:=by decide +kernel
theorem kNil_E:showE []=0:=by decide +kernel
theorem kNil_S:showS []=⟨#[]⟩:=by decide +kernel
def kLong (c:Ins):List Fun:=[⟨⟨#[102]⟩,[],[⟨⟨#[97]⟩,List.replicate 131072 c⟩]⟩]
def kRet (s:ByteArray):Ins:=⟨14,⟨#[]⟩,s,⟨#[]⟩,0,⟨#[]⟩,[],[]⟩
theorem kLong_sm {c:Ins}(h:smI c=true):smP (kLong c)=true:=by
 have h1:(List.replicate 131072 c).all smI=true:=by rw [List.all_eq_true];intro x hx;rw [List.eq_of_mem_replicate hx];exact h
 have h2:(List.replicate 131072 c).length=131072:=List.length_replicate
 unfold kLong
 generalize List.replicate 131072 c=L at h1 h2
 have h3:decide (L.length≤200000)=true:=by rw [h2];rfl
 have h4:smB ⟨⟨#[97]⟩,L⟩=true:=by unfold smB;dsimp only;rw [h1,h3];rfl
 have h5:[(⟨⟨#[97]⟩,L⟩:Blk)].all smB=true:=by simp only [List.all_cons,List.all_nil,h4,Bool.and_true]
 have h6:smF ⟨⟨#[102]⟩,[],[⟨⟨#[97]⟩,L⟩]⟩=true:=by unfold smF;dsimp only;rw [h5];rfl
 unfold smP
 simp only [List.all_cons,List.all_nil,h6,Bool.and_true]
 rfl
theorem flat_rep (c:Ins):∀n:Nat,(((List.replicate n c).map insT).flatten).length=n*(insT c).length
 | 0=>by simp
 | n+1=>by
  rw [List.replicate_succ,List.map_cons,List.flatten_cons,List.length_append,flat_rep c n,Nat.succ_mul]
  omega
theorem kLong_len (c:Ins):(progT (kLong c)).length=131072*(insT c).length+16:=by
 have h:=flat_rep c 131072
 unfold kLong
 generalize List.replicate 131072 c=L at h
 generalize 131072*(insT c).length=N at h ⊢
 unfold progT funT blkT
 simp only [List.map_cons,List.map_nil,List.flatten_cons,List.flatten_nil,List.append_nil,List.length_append,h]
 have e1:(headT ⟨⟨#[102]⟩,[],[⟨⟨#[97]⟩,L⟩]⟩).length=11:=rfl
 rw [e1]
 show 11+(1+2+N)+2=N+16
 omega
theorem kLong_fine {c:Ins}(h2:badNamesB c=false)(h9:badFieldsB c=false):brokenP (kLong c)=false:=by
 have a2:(List.replicate 131072 c).any badNamesB=false:=by rw [List.any_eq_false];intro x hx;rw [List.eq_of_mem_replicate hx,h2];simp
 have a9:(List.replicate 131072 c).any badFieldsB=false:=by rw [List.any_eq_false];intro x hx;rw [List.eq_of_mem_replicate hx,h9];simp
 have n1:isName ⟨#[102]⟩=true:=by decide +kernel
 have n2:isName ⟨#[97]⟩=true:=by decide +kernel
 unfold brokenP
 rw [rule2_any,rule9_any]
 unfold kLong
 generalize List.replicate 131072 c=L at a2 a9
 simp only [List.any_cons,List.any_nil,anyR,a2,a9,fn2,bk2,n1,n2,List.all_nil,Bool.not_true,Bool.or_false,Bool.or_self]
theorem kRet1:smI (kRet ⟨#[]⟩)=true∧badNamesB (kRet ⟨#[]⟩)=false∧badFieldsB (kRet ⟨#[]⟩)=false∧(insT (kRet ⟨#[]⟩)).length=6:=by decide +kernel
theorem kRet2:smI (kRet ⟨#[120,120]⟩)=true∧badNamesB (kRet ⟨#[120,120]⟩)=false∧badFieldsB (kRet ⟨#[120,120]⟩)=false∧(insT (kRet ⟨#[120,120]⟩)).length=9:=by decide +kernel
theorem kLong1_E:showE (kLong (kRet ⟨#[]⟩))=0:=by
 unfold showE
 rw [kLong_fine kRet1.2.1 kRet1.2.2.1,kLong_len,kRet1.2.2.2]
 rfl
theorem kLong1_S:(showS (kLong (kRet ⟨#[]⟩))).size=786448:=by
 unfold showS
 rw [kLong_fine kRet1.2.1 kRet1.2.2.1,if_neg (by decide),if_neg (by rw [kLong_len,kRet1.2.2.2];decide)]
 show (progT (kLong (kRet ⟨#[]⟩))).toArray.size=_
 rw [List.size_toArray,kLong_len,kRet1.2.2.2]
theorem kLong2_E:showE (kLong (kRet ⟨#[120,120]⟩))=2:=by
 unfold showE
 rw [kLong_fine kRet2.2.1 kRet2.2.2.1,kLong_len,kRet2.2.2.2]
 rfl
theorem kLong2_S:showS (kLong (kRet ⟨#[120,120]⟩))=⟨#[]⟩:=by
 unfold showS
 rw [kLong_fine kRet2.2.1 kRet2.2.2.1,if_neg (by decide),if_pos (by rw [kLong_len,kRet2.2.2.2];decide)]
end
section
def findB (n:Nat):Code→Option Code
 | .seq a b=>(findB n a).or (findB n b)
 | .cond _ a b=>(findB n a).or (findB n b)
 | .loop a=>findB n a
 | .block k a=>if k=n then some (.block k a) else findB n a
 | _=>none
def Func.blockOf (f:Func)(n:Nat):Option Code:=f.body.bind (findB n)
end
section
open Go.RowKit Go.Maps
theorem Touch.then {a b c:World}{S S':Nat→Prop}(h:Touch a b S)(g:Touch b c S')(hs:∀k,k<a.heap.size→S' k→S k):Touch a c S:=
 ⟨g.os.trans h.os,g.tape.trans h.tape,g.output.trans h.output,Nat.le_trans h.size g.size,fun k hk hn=>(g.block k (Nat.lt_of_lt_of_le hk h.size) (fun s=>hn (hs k hk s))).trans (h.block k hk hn)⟩
section
variable {α:Type} {c:Nat} {R R':World→List Value→α→Prop} {w w':World} {base:Nat} {e:TypeId} {v:Value} {L:List α} {No No':Nat→Prop}
def Away (No:Nat→Prop)(R:World→List Value→α→Prop)(w:World)(cs:List Value)(d:α):Prop:=∀w',Touch w w' No→R w' cs d
theorem Away.rd {cs:List Value}{d:α}(h:Away No R w cs d):R w cs d:=h w (Touch.refl _ _)
theorem Away.move {cs:List Value}{d:α}(h:Away No R w cs d)(t:Touch w w' No)(hs:∀k,k<w.heap.size→No' k→No k):Away No' R w' cs d:=fun _ t'=>h _ (t.then t' hs)
theorem OwnE.imp (h:OwnE c R w base e v L)(hR:∀cs d,R w cs d→R' w cs d):OwnE c R' w base e v L:=by
 obtain⟨xs,h1,h2⟩:=h
 exact⟨xs,h1,fun i d hi=>by obtain⟨cs,k1,k2,k3⟩:=h2 i d hi;exact⟨cs,hR cs d k1,k2,k3⟩⟩
theorem RdE.imp (h:RdE c R w v L)(hR:∀cs d,R w cs d→R' w cs d):RdE c R' w v L:=by
 refine or_map h id ?_
 rintro⟨b,off,cap,e,hlt,hc⟩
 refine⟨b,off,cap,e,hlt,fun i d hi=>?_⟩
 obtain⟨cs,h1,h2,h3⟩:=hc i d hi
 exact⟨cs,hR cs d h1,h2,h3⟩
theorem OwnE.move (h:OwnE c (Away No R) w base e v L)(t:Touch w w' No)(hv:∀g,v.ownBlock=some g→¬No g)(hs:∀k,k<w.heap.size→No' k→No k):OwnE c (Away No' R) w' base e v L:=by
 obtain⟨xs,h1,h2⟩:=h
 exact⟨xs,ownsRow_touch h1 t hv,fun i d hi=>by obtain⟨cs,k1,k2,k3⟩:=h2 i d hi;exact⟨cs,k1.move t hs,k2,k3⟩⟩
theorem OwnE.go {B:Nat→Prop}(h:OwnE c (Away (fun k=>v.ownBlock=some k∨B k) R) w base e v L)(t:Touch w w' B)(hv:∀g,v.ownBlock=some g→¬B g):OwnE c (Away (fun k=>v.ownBlock=some k∨B k) R) w' base e v L:=by
 obtain⟨xs,h1,h2⟩:=h
 exact⟨xs,ownsRow_touch h1 t hv,fun i d hi=>by obtain⟨cs,k1,k2,k3⟩:=h2 i d hi;exact⟨cs,k1.move (t.mono fun k _ hk=>.inr hk) (fun k _ hk=>hk),k2,k3⟩⟩
theorem OwnE.to {B:Nat→Prop}(h:OwnE c (Away (fun k=>v.ownBlock=some k∨B k) R) w base e v L)(t:Touch w w' No)(hv:∀g,v.ownBlock=some g→¬No g)(hs:∀k,k<w.heap.size→No k→B k):RdE c R w' v L:=by
 obtain⟨xs,h1,h2⟩:=h
 exact OwnE.rd (base:=base) (e:=e) ⟨xs,ownsRow_touch h1 t hv,fun i d hi=>by obtain⟨cs,k1,k2,k3⟩:=h2 i d hi;exact⟨cs,k1 _ (t.mono fun k hk hn=>.inr (hs k hk hn)),k2,k3⟩⟩
end
end
end Go.Proofs.YtknkiaedgeejiaaGreatDoor
