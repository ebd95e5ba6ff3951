/- NFirst, SwK, SwQ, SwE, SwJ, SwX. -/
import Derived.Test.YtknkiaedgeejiaaGreatDoorSL16
import Derived.Test.YtknkiaedgeejiaaGreatDoorSL15
import Derived.Test.YtknkiaedgeejiaaGreatDoorSL1
namespace Go.Proofs.YtknkiaedgeejiaaGreatDoor
set_option linter.unusedVariables false
set_option linter.unusedSimpArgs false
section
open Go.RowKit Go.Maps Go.Shelf Go.WideMaps
theorem zeroQ (w:World):(zeroValue 86).run Tryz.prog w=.ok .nilFunc w:=by kernel_rfl
def ansW (q:Nat × Nat × Nat)(b:Bool):Value:=.tuple #[.agg #[.int .i64 q.1,.int .i64 q.2.1,.int .i64 q.2.2],.bool b]
theorem ansP_w (x:Option (Nat × Nat × Nat)):ansP x=ansW (x.getD (0,0,0)) x.isSome:=rfl
theorem ruleAt_out {P:List Fun}{k:Nat}(h:k<1∨16<k):ruleAt P k=none:=by
 unfold ruleAt
 split<;>first | omega | rfl
set_option maxRecDepth 20000 in
set_option maxHeartbeats 4000000 in
theorem first_any {P:List Fun}(hP:POkA P){w:World}{v:Value}(h:RdE 3 RdFun w v P){r:Nat}(hr:r<256):Calls Tryz.prog 16 #[.agg #[v],.int .u8 r] w fun e w'=>e=.returned (ansP (ruleAt P r))∧Below w.heap.size w w':=by
 obtain⟨a,c,rfl⟩:=h.form
 obtain⟨n,hn⟩:∃n,n=P.length:=⟨_,rfl⟩
 rw [←hn] at h ⊢
 obtain⟨W2,hW2⟩:∃W2,((w.alloc (.cells #[.slice a n c] 24)).alloc (.cells #[.int .i64 0,.int .i64 0,.int .i64 0] 53))=W2:=⟨_,rfl⟩
 have hb0:Below w.heap.size w W2:=by rw [←hW2];exact ((Below.refl _ _).alloc (Nat.le_refl _) _).alloc (by simp) _
 have hN:W2.heap[w.heap.size+1]?=some (.cells #[.int .i64 0,.int .i64 0,.int .i64 0] 53 (0,0)):=by rw [←hW2];exact at_newN (by simp)
 have hl:W2.cell? ⟨w.heap.size,0,none⟩=some (.slice a n c):=by rw [blk_cell (show W2.heap[w.heap.size]?=_ from by rw [←hW2];exact at_oldN (at_newN rfl))];rfl
 have hsz:W2.heap.size=w.heap.size+2:=by rw [←hW2];simp
 have hkey:keyOf Tryz.prog 50 (.int .u8 r)=some (.int .u8 r):=keyR (WalkArith.wf_u8 (by omega))
 have hask:∀k,1≤k→k≤16→∀w':World,Below w.heap.size w w'→Calls Tryz.prog (qF k) #[.agg #[.slice a n c]] w' fun e w''=>e=.returned (ansP (ruleAt P k))∧Below w'.heap.size w' w'':=fun k h1 h2 w' hb=>ask_any hP h1 h2 (RdE.below (fun _ _ h=>h.below hb) h hb)
 replace hask:=Lib.hid hask
 have hqs:=Lib.hid (fun W=>(questions_any (w:=W) (a:=a) (n:=n) (c:=c)))
 have hb0':=Lib.hid hb0
 replace hN:=Lib.hid hN
 replace hn:=Lib.hid hn
 have hout:=Lib.hid (fun h=>(ruleAt_out h:ruleAt P r=none))
 clear h hb0
 have hkey2:=Lib.hid hkey
 by_cases hrg:1≤r∧r≤16
 ·obtain⟨K,hK⟩:∃K,qF r=K:=⟨_,rfl⟩
  have eg:=qF_enters hrg.1 hrg.2
  have hak:=Lib.hid (hask.out r hrg.1 hrg.2)
  have hfv:=Lib.hid (fun (f:Lit→Option Value) (hf:∀k:Nat,1≤k→k≤16→f (.int .u8 k)=some (qV (.slice a n c) k))=>(by have h1:=hf r hrg.1 hrg.2;unfold qV at h1;rw [hK] at h1;exact h1:f (.int .u8 r)=some (.func (.func K) #[.agg #[.slice a n c]] #[])))
  rw [hK] at eg hak
  rw [ansP_w] at hak ⊢
  unfold ansW at hak ⊢
  obtain⟨q,hq⟩:∃q,(ruleAt P r).getD (0,0,0)=q:=⟨_,rfl⟩
  rw [hq] at hak ⊢
  obtain⟨q1,q2,q3⟩:=q
  simp only at hak ⊢
  generalize (ruleAt P r).isSome=bs at hak ⊢
  replace hK:=Lib.hid hK
  replace hq:=Lib.hid hq
  go_enter Tryz.func16,Tryz.ntmps16
  go_upto_region 1 with fail
  clear hW2
  go_upto_region 2 with (first
   | (go_at_call 33;refine Calls.mono (hqs.out _) ?_;rintro e w3 ⟨b,rfl,hge,⟨f,hM,hf1,hf2⟩,hb3⟩;have hf:=Lib.hid (hfv.out f hf1);replace hM:=Lib.hid hM;clear hf1 hf2)
   | (at_lookup;refine wpList_vmap_ok rfl _ _ _ rfl 50 86 lawR Tryz.underlying88 (zeroQ _) b 16 f hM.out rfl _ _ rfl hkey ?_;rw [hf.out];simp only [Option.getD_some,Option.isSome_some]))
  have hb4:=Lib.hid (hb0'.out.trans (hb3.mono (by omega)))
  have hN4:=Lib.hid ((hb3.block _ (Array.getElem?_eq_some_iff.1 hN.out).1).trans hN.out)
  have hcal:=Lib.hid (hak.out w3 hb4.out)
  clear hl hM hf hb3 hN hkey
  go_wp2_with (refine Calls.mono hcal.out ?_;rintro e w5 ⟨rfl,hb⟩;have hN5:=(hb.block _ (Array.getElem?_eq_some_iff.1 hN4.out).1).trans hN4.out;have hB5:=Lib.hid (hb4.out.trans (hb.mono hb4.out.size));have z0:w5.cell? ⟨w.heap.size+1,0,none⟩=some (.int .i64 0):=(by rw [blk_cell hN5];rfl);have z1:w5.cell? ⟨w.heap.size+1,1,none⟩=some (.int .i64 0):=(by rw [blk_cell hN5];rfl);have z2:w5.cell? ⟨w.heap.size+1,2,none⟩=some (.int .i64 0):=(by rw [blk_cell hN5];rfl);have y0:w5.frozen? ⟨w.heap.size+1,0,none⟩=false:=(by simp [World.frozen?,hN5]);have y1:w5.frozen? ⟨w.heap.size+1,1,none⟩=false:=(by simp [World.frozen?,hN5]);have y2:w5.frozen? ⟨w.heap.size+1,2,none⟩=false:=(by simp [World.frozen?,hN5]);replace hN5:=Lib.hid hN5)
  have hf:=Lib.hid (show Below w.heap.size w (((w5.setCell ⟨w.heap.size+1,0,none⟩ (.int .i64 q1)).setCell ⟨w.heap.size+1,1,none⟩ (.int .i64 q2)).setCell ⟨w.heap.size+1,2,none⟩ (.int .i64 q3)) from ((hB5.out.setCell (p:=⟨w.heap.size+1,0,none⟩) (Nat.le_succ _) _).setCell (p:=⟨w.heap.size+1,1,none⟩) (Nat.le_succ _) _).setCell (p:=⟨w.heap.size+1,2,none⟩) (Nat.le_succ _) _)
  have hN3:=Lib.hid (set_three (v0:=.int .i64 q1) (v1:=.int .i64 q2) (v2:=.int .i64 q3) hN5.out)
  generalize (((w5.setCell ⟨w.heap.size+1,0,none⟩ (.int .i64 q1)).setCell ⟨w.heap.size+1,1,none⟩ (.int .i64 q2)).setCell ⟨w.heap.size+1,2,none⟩ (.int .i64 q3))=w9 at hf hN3 ⊢
  have c0:w9.cell? ⟨w.heap.size+1,0,none⟩=some (.int .i64 q1):=by rw [blk_cell hN3.out];rfl
  have c1:w9.cell? ⟨w.heap.size+1,1,none⟩=some (.int .i64 q2):=by rw [blk_cell hN3.out];rfl
  have c2:w9.cell? ⟨w.heap.size+1,2,none⟩=some (.int .i64 q3):=by rw [blk_cell hN3.out];rfl
  exact bodyPost_ret (v:=.tuple #[.agg #[.int .i64 q1,.int .i64 q2,.int .i64 q3],.bool bs]) (by simp [results,Tryz.results16,go_sem,c0,c1,c2]) rfl ⟨rfl,hf.out⟩
 ·have hno:=hout.out (by omega)
  rw [hno]
  show Calls _ _ _ _ (fun e w'=>e=.returned (.tuple #[.agg #[.int .i64 0,.int .i64 0,.int .i64 0],.bool false])∧Below w.heap.size w w')
  clear hno hout hask
  go_enter Tryz.func16,Tryz.ntmps16
  go_upto_region 1 with fail
  clear hW2
  go_wp2_with (first
   | (go_at_call 33;refine Calls.mono (hqs.out _) ?_;rintro e w3 ⟨b,rfl,hge,⟨f,hM,hf1,hf2⟩,hb3⟩;have hf:=Lib.hid (hf2 r (by omega));replace hM:=Lib.hid hM;have hN5:=(hb3.block _ (by omega)).trans hN.out;have hB5:=Lib.hid (hb0'.out.trans (hb3.mono (by omega)));have z0:w3.cell? ⟨w.heap.size+1,0,none⟩=some (.int .i64 0):=(by rw [blk_cell hN5];rfl);have z1:w3.cell? ⟨w.heap.size+1,1,none⟩=some (.int .i64 0):=(by rw [blk_cell hN5];rfl);have z2:w3.cell? ⟨w.heap.size+1,2,none⟩=some (.int .i64 0):=(by rw [blk_cell hN5];rfl);have y0:w3.frozen? ⟨w.heap.size+1,0,none⟩=false:=(by simp [World.frozen?,hN5]);have y1:w3.frozen? ⟨w.heap.size+1,1,none⟩=false:=(by simp [World.frozen?,hN5]);have y2:w3.frozen? ⟨w.heap.size+1,2,none⟩=false:=(by simp [World.frozen?,hN5]);replace hN5:=Lib.hid hN5;clear hf1 hf2 hb3)
   | (at_lookup;refine wpList_vmap_ok rfl _ _ _ rfl 50 86 lawR Tryz.underlying88 (zeroQ _) b 16 f hM.out rfl _ _ rfl hkey2.out ?_;rw [hf.out];simp only [Option.getD_none,Option.isSome_none]))
  have hf:=Lib.hid (show Below w.heap.size w (((w3.setCell ⟨w.heap.size+1,0,none⟩ (.int .i64 0)).setCell ⟨w.heap.size+1,1,none⟩ (.int .i64 0)).setCell ⟨w.heap.size+1,2,none⟩ (.int .i64 0)) from ((hB5.out.setCell (p:=⟨w.heap.size+1,0,none⟩) (Nat.le_succ _) _).setCell (p:=⟨w.heap.size+1,1,none⟩) (Nat.le_succ _) _).setCell (p:=⟨w.heap.size+1,2,none⟩) (Nat.le_succ _) _)
  have hN3:=Lib.hid (set_three (v0:=.int .i64 0) (v1:=.int .i64 0) (v2:=.int .i64 0) hN5.out)
  generalize (((w3.setCell ⟨w.heap.size+1,0,none⟩ (.int .i64 0)).setCell ⟨w.heap.size+1,1,none⟩ (.int .i64 0)).setCell ⟨w.heap.size+1,2,none⟩ (.int .i64 0))=w9 at hf hN3 ⊢
  have c0:w9.cell? ⟨w.heap.size+1,0,none⟩=some (.int .i64 0):=by rw [blk_cell hN3.out];rfl
  have c1:w9.cell? ⟨w.heap.size+1,1,none⟩=some (.int .i64 0):=by rw [blk_cell hN3.out];rfl
  have c2:w9.cell? ⟨w.heap.size+1,2,none⟩=some (.int .i64 0):=by rw [blk_cell hN3.out];rfl
  exact bodyPost_ret (v:=.tuple #[.agg #[.int .i64 0,.int .i64 0,.int .i64 0],.bool false]) (by simp [results,Tryz.results16,go_sem,c0,c1,c2]) rfl ⟨rfl,hf.out⟩
end
section
open Go.RowKit Go.Maps Go.Shelf Go.WideMaps
theorem pure6 {B:Prt→Bool}:∀{l:List Prt},firstBad (fun (s:Unit) x=>(B x,s)) () l=none→∀x∈l,B x=false
 | [],_=>fun x hx=>by cases hx
 | y::l,h=>fun x hx=>by
  unfold firstBad at h
  simp only at h
  split at h
  ·cases h
  ·rename_i hn
   rcases List.mem_cons.1 hx with rfl | hx
   ·simpa using hn
   ·exact pure6 h x hx
def bodyL6 (f:Nat)(d:Fun):List Prt:=cat (fun b x=>blkL f b d x) d.blocks
theorem in_cat6 {α β:Type}{g:Nat→α→List β}{l:List α}{i:Nat}{z:α}{y:β}(h:l[i]?=some z)(hy:y∈g i z):y∈cat g l:=by
 obtain⟨r,hr⟩:=cat_split (g:=g) h
 rw [hr]
 simp [hy]
theorem in_fn6 {P:List Fun}{f:Nat}{d:Fun}(h:P[f]?=some d):Prt.fn f d∈partsL P:=in_cat6 h (by unfold funL;simp)
theorem body_in6 {P:List Fun}{f:Nat}{d:Fun}(h:P[f]?=some d){y:Prt}(hy:y∈bodyL6 f d):y∈partsL P:=in_cat6 h (by unfold funL;exact List.mem_cons_of_mem _ hy)
theorem in_blk6 {f b:Nat}{d:Fun}{x:Blk}(h:d.blocks[b]?=some x):Prt.blk f b d x∈bodyL6 f d:=in_cat6 h (by unfold blkL;simp)
theorem in_ins6 {f b i:Nat}{d:Fun}{x:Blk}{c:Ins}(h:d.blocks[b]?=some x)(hc:x.code[i]?=some c):Prt.ins f b i d x c∈bodyL6 f d:=in_cat6 h (by unfold blkL;exact List.mem_cons_of_mem _ (in_cat6 hc (by simp)))
theorem none6 {α β:Type}{g:α→β}{o:Option α}(h:o.map g=none):o=none:=by cases o with | none=>rfl | some a=>cases h
structure ShortF (d:Fun):Prop where
 np:d.params.length≤1000
 nb:d.blocks.length≤1000
 nc:∀x∈d.blocks,x.code.length≤1000000
 na:∀x∈d.blocks,∀c∈x.code,c.args.length≤1000∧c.labels.length≤1000
theorem name_size {s:ByteArray}(h:isName s=true):s.size≤64:=by
 unfold isName at h
 simp only [Bool.and_eq_true,decide_eq_true_eq] at h
 exact h.1
theorem oper_size {s:ByteArray}(h:isOperand s=true):s.size≤64:=by
 unfold isOperand at h
 rw [Bool.or_eq_true] at h
 rcases h with h | h
 ·unfold isNull at h
  have e:s.toList=[110,117,108,108]:=by simpa using h
  rw [ByteArray.toList_eq] at e
  have:=congrArg List.length e
  have h9:s.data.toList.length=s.size:=rfl
  simp at this
  omega
 ·exact name_size h
theorem has_size {k:Int}{s:ByteArray}(h0:missB k s=false){p:ByteArray→Bool}(hp:∀s,p s=true→s.size≤64)(h:(hasL k s).all p=true):s.size≤64:=by
 by_cases hk:k=0
 ·subst hk
  have:=miss_none h0
  have h9:(bL s).length=s.size:=rfl
  rw [this] at h9
  simp at h9
  omega
 ·unfold hasL at h
  rw [if_neg hk] at h
  unfold givenL at h
  split at h
  ·rename_i he
   rw [bL_nil] at he
   have h9:(bL s).length=s.size:=rfl
   cases e:bL s with
   | nil=>rw [e] at h9;simp at h9;omega
   | cons _ _=>rw [e] at he;cases he
  ·simp only [List.all_cons,List.all_nil,Bool.and_true] at h
   exact hp s h
theorem list_size {k:Int}{l:List ByteArray}(h0:misB k l.length=false){p:ByteArray→Bool}(hp:∀s,p s=true→s.size≤64)(h:(k != 0&&!l.all p)=false):∀s∈l,s.size≤64:=by
 intro s hs
 by_cases hk:k=0
 ·subst hk
  have:l.length=0:=by
   simp [misB] at h0
   omega
  rw [List.length_eq_zero_iff.1 this] at hs
  cases hs
 ·have h1:(k != 0)=true:=by simpa using hk
  rw [h1,Bool.true_and] at h
  have h2:l.all p=true:=by simpa using h
  exact hp s (List.all_eq_true.1 h2 s hs)
theorem shape_n {op:Int}{s:Shp}(h:shapeN op=some s):0≤s.low∧s.high≤64:=by
 rcases ops_ok h with e | e | e | e | e | e | e | e | e | e | e | e | e | e<;>(rw [e] at h;obtain rfl:=Option.some.inj h;decide)
theorem ins_ok {c:Ins}(h9:badFieldsB c=false)(h2:badNamesB c=false)(ha:c.args.length≤1000)(hl:c.labels.length≤1000):InsOk c:=by
 obtain⟨s,hs,d0,a0,b0,f0,n0,n1,g0,l0,h6⟩:=fields_ok h9
 rw [badNamesB_some hs] at h2
 unfold badNamesS at h2
 simp only [Bool.or_eq_false_iff,Bool.not_eq_false'] at h2
 obtain⟨⟨k1,k2⟩,⟨k3,k4⟩,k5,k6⟩:=h2
 have hsn:=shape_n hs
 have t1:=has_size d0 (fun s=>name_size) k1
 have t2:=has_size f0 (fun s=>name_size) k2
 have t3:=has_size a0 (fun s=>oper_size) k3
 have t4:=has_size b0 (fun s=>oper_size) k4
 have t5:=list_size l0 (fun s=>name_size) k5
 have t6:=list_size g0 (fun s=>oper_size) k6
 exact⟨ha,hl,fun s hs=>by have:=t6 s hs;omega,fun s hs=>by have:=t5 s hs;omega,by omega,by omega,by omega,by omega,by omega,by omega,fun e=>(h6 e).2⟩
theorem fun_ok {P:List Fun}(h2:ruleAt P 2=none)(h9:ruleAt P 9=none)(hs:∀d∈P,ShortF d):∀d∈P,FunOk d:=by
 have r2:=pure6 (none6 h2)
 have r9:=pure6 (none6 h9)
 intro d hd
 obtain⟨f,hf⟩:=List.mem_iff_getElem?.1 hd
 have e1:bad2 (.fn f d)=false:=r2 _ (in_fn6 hf)
 unfold bad2 at e1
 simp only [Bool.or_eq_false_iff,Bool.not_eq_false'] at e1
 have hsd:=hs d hd
 refine⟨hsd.np,fun s hs=>by have:=name_size (List.all_eq_true.1 e1.2 s hs);omega,by have:=name_size e1.1;omega,hsd.nb,fun x hx=>?_⟩
 obtain⟨b,hb⟩:=List.mem_iff_getElem?.1 hx
 have e2:bad2 (.blk f b d x)=false:=r2 _ (body_in6 hf (in_blk6 hb))
 unfold bad2 at e2
 simp only [Bool.not_eq_false'] at e2
 refine⟨by have:=name_size e2;omega,hsd.nc x hx,fun c hc=>?_⟩
 obtain⟨i,hi⟩:=List.mem_iff_getElem?.1 hc
 have e3:badNamesB c=false:=r2 _ (body_in6 hf (in_ins6 hb hi))
 have e4:badFieldsB c=false:=r9 _ (body_in6 hf (in_ins6 hb hi))
 exact⟨ins_ok e4 e3 (hsd.na x hx c hc).1 (hsd.na x hx c hc).2,e4⟩
def brokenP (P:List Fun):Bool:=(ruleAt P 2).isSome || (ruleAt P 9).isSome
def showE (P:List Fun):Nat:=if brokenP P then 5 else if 1048576<(progT P).length then 2 else 0
def showS (P:List Fun):ByteArray:=if brokenP P then ⟨#[]⟩ else if 1048576<(progT P).length then ⟨#[]⟩ else ⟨(progT P).toArray⟩
theorem RdE.mono6 {α:Type}{c:Nat}{R R':World→List Value→α→Prop}{w:World}{v:Value}{L:List α}(hR:∀cs d,R w cs d→R' w cs d)(h:RdE c R w v L):RdE c R' w v L:=by
 rcases h with h | ⟨b,off,cap,e,hb,hc⟩
 ·exact .inl h
 ·exact .inr ⟨b,off,cap,e,hb,fun i d hd=>by
   obtain⟨cs,h1,h2,h3⟩:=hc i d hd
   exact⟨cs,hR cs d h1,h2,h3⟩⟩
theorem RdFunC.plain {w:World}{cs:List Value}{d:Fun}(h:RdFunC w cs d):RdFun w cs d:=by
 obtain⟨vp,vb,e,h1,h2⟩:=h
 refine⟨vp,vb,e,h1.1,RdE.mono6 (fun cs x hx=>?_) h2⟩
 obtain⟨vc,e,h3⟩:=hx
 refine⟨vc,e,RdE.mono6 (fun cs c hc=>?_) h3⟩
 obtain⟨va,vl,e,h4,h5⟩:=hc
 exact⟨va,vl,e,h4.1,h5.1⟩
end
section
open Go.RowKit Go.Maps Go.Shelf Go.WideMaps
attribute [local go_sem] Oper.semAt_some
theorem first6 {P:List Fun}(hP:POkA P){w:World}{v:Value}(h:RdE 3 RdFun w v P){r:Nat}(hr:r<256):Calls Tryz.prog 16 #[.agg #[v],.int .u8 r] w fun e w'=>(∃q1 q2 q3:Nat,e=.returned (.tuple #[.agg #[.int .i64 q1,.int .i64 q2,.int .i64 q3],.bool (ruleAt P r).isSome]))∧Below w.heap.size w w':=by
 refine Calls.mono (first_any hP h hr) ?_
 rintro e w' ⟨rfl,hb⟩
 exact⟨⟨_,_,_,rfl⟩,hb⟩
set_option maxRecDepth 20000 in
set_option maxHeartbeats 16000000 in
theorem print_any {P:List Fun}(hP:POkA P)(hs:∀d∈P,ShortF d)(hpl:P.length≤1000000){w:World}{v:Value}(h:RdE 3 RdFunC w v P):Calls Tryz.prog 10 #[.agg #[v]] w fun e w'=>e=.returned (.tuple #[.string (showS P),.int .i64 (showE P)])∧Below w.heap.size w w':=by
 obtain⟨ap,cp,rfl⟩:=h.form
 obtain⟨n,hn⟩:∃n,n=P.length:=⟨_,rfl⟩
 rw [←hn] at h hpl ⊢
 have hpl':=RdE.mono6 (fun cs d=>RdFunC.plain) h
 obtain⟨W2,hW2⟩:∃W2,w.alloc (.cells #[.slice ap n cp] 24)=W2:=⟨_,rfl⟩
 have hX:W2.heap[w.heap.size]?=some (.cells #[.slice ap n cp] 24 (0,0)):=by rw [←hW2];exact at_newN rfl
 have hw2:Below w.heap.size w W2:=by rw [←hW2];exact (Below.refl _ _).alloc (Nat.le_refl _) _
 have hfst:=Lib.hid (fun (W:World) (hb:Below w.heap.size w W) (r:Nat) (hr:r<256)=>first6 hP (RdE.below (fun _ _ x=>RdFun.below x hb) hpl' hb) hr)
 have hcX:=Lib.hid (fun (W:World) (hn:Nu W2 W)=>(by rw [blk_cell (hn.1.lies hX (by decide))];rfl:W.cell? ⟨w.heap.size,0,none⟩=some (.slice ap n cp)))
 obtain⟨SS,hSS⟩:∃S,S=showS P:=⟨_,rfl⟩
 obtain⟨SE,hSE⟩:∃S,S=showE P:=⟨_,rfl⟩
 rw [←hSS,←hSE]
 replace hSS:=Lib.hid hSS
 replace hSE:=Lib.hid hSE
 replace hW2:=Lib.hid hW2
 replace hw2:=Lib.hid hw2
 replace hn:=Lib.hid hn
 replace hs:=Lib.hid hs
 replace h:=Lib.hid h
 clear hX hpl' hP
 go_enter Tryz.func10,Tryz.ntmps10
 go_upto_region 1 with fail
 rw [hW2.out]
 clear hW2
 have hr3:(W2.alloc (.cells #[.int .u8 2,.int .u8 9] 50)).heap[W2.heap.size]?=some (.cells #[.int .u8 2,.int .u8 9] 50 (0,0)):=heap_alloc_new _ _
 have hb3:Below W2.heap.size W2 (W2.alloc (.cells #[.int .u8 2,.int .u8 9] 50)):=(Below.refl _ _).alloc (Nat.le_refl _) _
 obtain⟨R,hR⟩:∃R,R=W2.heap.size:=⟨_,rfl⟩
 go_upto_block 0 with fail
 rw [←hR] at hr3 ⊢
 have hN3:=Lib.hid (Nu.of_below hb3)
 have hB3:=Lib.hid (hw2.out.trans (hb3.mono hw2.out.size))
 clear hb3 hR
 generalize (W2.alloc (.cells #[.int .u8 2,.int .u8 9] 50))=W3 at hr3 hN3 hB3 ⊢
 have hcR:=Lib.hid (fun (W:World) (hb:Below W3.heap.size W3 W)=>(by
  have e:=(hb.block R (Array.getElem?_eq_some_iff.1 hr3).1).trans hr3
  exact⟨by rw [blk_cell e];rfl,by rw [blk_cell e];rfl,(Array.getElem?_eq_some_iff.1 e).1⟩:W.cell? ⟨R,0,none⟩=some (.int .u8 2)∧W.cell? ⟨R,1,none⟩=some (.int .u8 9)∧R<W.heap.size))
 clear hr3
 go_wp2_with fail
 go_loopw [13] (fun i wr=>∃k:Nat,i=.int .i64 k∧k≤2∧Hid (Below W3.heap.size W3 wr)∧Hid ((1≤k→ruleAt P 2=none)∧(2≤k→ruleAt P 9=none))) (fun i _=>2-(intOf i).toNat)
 case atStart=>exact⟨0,rfl,by decide,Lib.hid (Below.refl _ _),Lib.hid ⟨fun h=>by omega,fun h=>by omega⟩⟩
 case round=>
  obtain⟨k,rfl,hk,hB,hz⟩:=hrel
  by_cases hk2:k<2
  ·have i1:(k:Int)<2:=by omega
   obtain⟨r,hr,hr2⟩:∃r:Nat,wr.cell? ⟨R,k,none⟩=some (.int .u8 r)∧((k=0∧r=2)∨(k=1∧r=9)):=by
    rcases (by omega:k=0∨k=1) with rfl | rfl
    ·exact⟨2,(hcR.out wr hB.out).1,.inl ⟨rfl,rfl⟩⟩
    ·exact⟨9,(hcR.out wr hB.out).2.1,.inr ⟨rfl,rfl⟩⟩
   have hRl:=(hcR.out wr hB.out).2.2
   have hBw:=Lib.hid (hB3.out.trans (hB.out.mono hB3.out.size))
   have cX:=hcX.out wr (hN3.out.trans (Nu.of_below hB.out))
   have hcall:=Lib.hid (hfst.out wr hBw.out r (by omega))
   replace hr2:=Lib.hid hr2
   replace hB:=Lib.hid hB
   replace hz:=Lib.hid hz
   go_wp2_with fail
   refine hcall.out.mono ?_
   rintro e w5 ⟨⟨q1,q2,q3,rfl⟩,hb5⟩
   have hB5:=Lib.hid (hB.out.out.trans (hb5.mono hB.out.out.size))
   dsimp only
   clear hcall hr cX hRl hb5
   cases hx:(ruleAt P r).isSome with
   | true=>
    have hbk:brokenP P=true:=by
     unfold brokenP
     rcases hr2.out with ⟨-,rfl⟩ | ⟨-,rfl⟩<;>rw [hx]<;>simp
    have e1:SS=⟨#[]⟩:=by rw [hSS.out];unfold showS;rw [if_pos hbk]
    have e2:SE=5:=by rw [hSE.out];unfold showE;rw [if_pos hbk]
    subst e1 e2
    have hBe:=Lib.hid (hB3.out.trans (hB5.out.mono hB3.out.size))
    have hfin:=Lib.hid (hBe.out.alloc hBe.out.size (.cells #[.int .i64 q1,.int .i64 q2,.int .i64 q3] 53))
    clear hx hbk
    go_wp2_with fail
    go_ret2
    exact⟨rfl,hfin.out⟩
   | false=>
    have hno:ruleAt P r=none:=by simpa using hx
    have hz2:=Lib.hid (show (1≤k+1→ruleAt P 2=none)∧(2≤k+1→ruleAt P 9=none) from by
     rcases hr2.out with ⟨rfl,rfl⟩ | ⟨rfl,rfl⟩
     ·exact⟨fun _=>hno,fun h=>by omega⟩
     ·exact⟨fun _=>hz.out.out.1 (by omega),fun _=>hno⟩)
    have hB6:=Lib.hid (hB5.out.alloc hB5.out.size (.cells #[.int .i64 q1,.int .i64 q2,.int .i64 q3] 53))
    clear hx hno
    go_wp2_with fail
    go_roundw
    case rel=>exact⟨k+1,by go_num,by omega,hB6,hz2⟩
    case measure=>simp [intOf];omega
  ·have i1:decide ((k:Int)<2)=false:=by simp;omega
   obtain rfl:k=2:=by omega
   have hn2:=hz.out.1 (by decide)
   have hn9:=hz.out.2 (by decide)
   have hBw:=Lib.hid (hB3.out.trans (hB.out.mono hB3.out.size))
   have hNw:=Lib.hid (hN3.out.trans (Nu.of_below hB.out))
   have hbk:brokenP P=false:=by unfold brokenP;rw [hn2,hn9];rfl
   have hok:=Lib.hid (fun_ok hn2 hn9 hs.out)
   replace hbk:=Lib.hid hbk
   replace hB:=Lib.hid hB
   clear hz hn2 hn9 hcR hfst
   go_wp2_with fail
   refine (forms_any _).mono ?_
   rintro e w4 ⟨mb,f,rfl,hge,hM,hall,hb4⟩
   dsimp only
   have hNf:=Nu.of_below hb4
   have hB4:=hBw.out.trans (hb4.mono hBw.out.size)
   have hb:Below w4.heap.size w4 (w4.alloc (.cells #[.pointer none,.slice none 0 0,.map (some mb)] 64)):=(Below.refl _ _).alloc (Nat.le_refl _) _
   have hw0:WrAt w.heap.size w4.heap.size [] (.map (some mb)) (w4.alloc (.cells #[.pointer none,.slice none 0 0,.map (some mb)] 64)):=⟨⟨_,_,.inl rfl,heap_alloc_new _ _,World.ownsRow_nil _ _ _ _,by simp [Value.ownBlock],fun _=>rfl⟩,hB4.size⟩
   have hM5:=hM.nu (Nu.of_below hb)
   have hall5:=Lib.hid (fun κ h1 h2=>(by obtain⟨v,e1,e2⟩:=hall κ h1 h2;exact⟨v,e1,e2.keep (Stays.of_below hb)⟩:∃v,f (.int .u8 (κ:Nat))=some v∧FormAt (w4.alloc (.cells #[.pointer none,.slice none 0 0,.map (some mb)] 64)) v (formG κ) (formR κ) 2010))
   have hN5:=Lib.hid (hNw.out.trans (hNf.trans (Nu.of_below hb)))
   have hB5:=Lib.hid (hB4.trans (hb.mono hB4.size))
   have cX:=hcX.out _ hN5.out
   replace hw0:=Lib.hid hw0
   replace hM5:=Lib.hid hM5
   clear hge hM hall hb4 hNf hB4 hb
   obtain⟨b,hbe⟩:∃b,b=w4.heap.size:=⟨_,rfl⟩
   go_upto_block 2 with fail
   rw [←hbe] at hw0 ⊢
   clear hbe
   generalize (w4.alloc (.cells #[.pointer none,.slice none 0 0,.map (some mb)] 64))=W5 at hw0 hM5 hall5 hN5 hB5 cX ⊢
   go_wp2_with fail
   clear cX
   go_loopw [31] (fun i wr=>∃j:Nat,i=.int .i64 j∧j≤n∧Hid (WrAt w.heap.size b (progT (P.take j)) (.map (some mb)) wr∧Below w.heap.size w wr∧Nu W5 wr∧(progT (P.take j)).length≤1048576)) (fun i _=>n-(intOf i).toNat)
   case atStart=>exact⟨0,rfl,Nat.zero_le _,Lib.hid ⟨hw0.out,hB5.out,Nu.refl _,by simp [progT]⟩⟩
   case round=>
    clear hw0
    obtain⟨j,rfl,hj,hI⟩:=hrel
    by_cases hjn:j<n
    ·have i2:(j:Int)<(n:Int):=by omega
     obtain⟨d,hd⟩:∃d,P[j]?=some d:=⟨_,List.getElem?_eq_getElem (by rw [←hn.out];exact hjn)⟩
     obtain⟨g,off,cap,cs,e,hgl,⟨vp,vb,rfl,rp,rb⟩,-,hcell⟩:=h.out.at hd
     rw [←hn.out] at e
     simp only [Value.slice.injEq] at e
     obtain⟨rfl,-,rfl⟩:=e
     obtain⟨a1,c1,rfl,hc1,-⟩:=rp.cells
     obtain⟨a2,c2,rfl⟩:=rb.form
     have e0:wr.cell? ⟨g,off+j*3,none⟩=some (.string d.name):=keepB hI.out.2.1 hgl (hcell 0 _ rfl)
     have e1:=keepB hI.out.2.1 hgl (hcell 1 _ rfl)
     have e2:=keepB hI.out.2.1 hgl (hcell 2 _ rfl)
     have hgw:g<wr.heap.size:=Nat.lt_of_lt_of_le hgl hI.out.2.1.size
     have hbd:Below wr.heap.size wr (wr.alloc (.cells #[.string d.name,.slice a1 d.params.length c1,.slice a2 d.blocks.length c2] 40)):=(Below.refl _ _).alloc (Nat.le_refl _) _
     have hZ:(wr.alloc (.cells #[.string d.name,.slice a1 d.params.length c1,.slice a2 d.blocks.length c2] 40)).heap[wr.heap.size]?=some (.cells #[.string d.name,.slice a1 d.params.length c1,.slice a2 d.blocks.length c2] 40 (0,0)):=heap_alloc_new _ _
     have hNd:=hI.out.2.2.1.trans (Nu.of_below hbd)
     have hfn:=Lib.hid (func_any (wP:=w) (hI.out.2.1.trans (hbd.mono hI.out.2.1.size)) (hI.out.1.below hbd) (hM5.out.nu hNd) (fun κ h1 h2=>by obtain⟨v,e1,e2⟩:=hall5.out κ h1 h2;exact⟨v,e1,e2.keep hNd.1⟩) rp rb (hok.out d (List.mem_of_getElem? hd)) hI.out.2.2.2)
     replace hNd:=Lib.hid hNd
     replace hd:=Lib.hid hd
     replace hI:=Lib.hid hI
     replace rp:=Lib.hid rp
     replace rb:=Lib.hid rb
     obtain⟨Z,hZe⟩:∃Z,Z=wr.heap.size:=⟨_,rfl⟩
     clear hcell hgl hc1
     go_upto_region 12 with fail
     rw [←hZe] at hZ ⊢
     clear hZe e0 e1 e2 hgw hbd
     generalize (wr.alloc (.cells #[.string d.name,.slice a1 d.params.length c1,.slice a2 d.blocks.length c2] 40))=Wd at hZ hNd hfn ⊢
     obtain⟨z0,z1,z2⟩:Wd.cell? ⟨Z,0,none⟩=some (.string d.name)∧Wd.cell? ⟨Z,1,none⟩=some (.slice a1 d.params.length c1)∧Wd.cell? ⟨Z,2,none⟩=some (.slice a2 d.blocks.length c2):=⟨by rw [blk_cell hZ];rfl,by rw [blk_cell hZ];rfl,by rw [blk_cell hZ];rfl⟩
     clear hZ
     go_wp2_with fail
     refine hfn.out.mono ?_
     rintro e w6 ⟨rfl,L',hF6,hcase⟩
     dsimp only
     have hlg:=Lib.hid (long6_any hF6.us.at_)
     replace hF6:=Lib.hid hF6
     replace hcase:=Lib.hid hcase
     clear hfn z0 z1 z2
     go_wp2_with fail
     refine hlg.out.mono ?_
     rintro e w7 ⟨rfl,hw7⟩
     obtain rfl:=hw7.symm
     clear hw7 hlg
     dsimp only
     by_cases hq:1048576<L'.length
     ·have i3:decide ((1048576:Int)<(L'.length:Int))=true:=by simp;omega
      have hpr:∃R,progT P=L'++R:=by
       have e3:P=P.take j++d::P.drop (j+1):=by
        obtain⟨hj2,hj3⟩:=List.getElem?_eq_some_iff.1 hd.out
        rw [←hj3,←List.drop_eq_getElem_cons hj2,List.take_append_drop]
       have e4:progT P=(progT (P.take j)++funT d)++progT (P.drop (j+1)):=by
        conv=>lhs;rw [e3]
        simp [progT]
       rcases hcase.out with e5 | ⟨-,R1,e5⟩
       ·exact⟨_,by rw [e4,e5]⟩
       ·exact⟨R1++progT (P.drop (j+1)),by rw [e4,e5,List.append_assoc]⟩
      have hlp:1048576<(progT P).length:=by
       obtain⟨R1,e5⟩:=hpr
       rw [e5,List.length_append]
       omega
      have e1:SS=⟨#[]⟩:=by rw [hSS.out];unfold showS;rw [if_neg (by rw [hbk.out];decide),if_pos hlp]
      have e2:SE=2:=by rw [hSE.out];unfold showE;rw [if_neg (by rw [hbk.out];decide),if_pos hlp]
      subst e1 e2
      have hfin:=Lib.hid hF6.out.bel
      clear hF6 hcase hpr hlp
      go_wp2_with fail
      go_ret2
      exact⟨rfl,hfin.out⟩
     ·have i3:decide ((1048576:Int)<(L'.length:Int))=false:=by simp;omega
      have hI7:=Lib.hid (show WrAt w.heap.size b (progT (P.take (j+1))) (.map (some mb)) w6∧Below w.heap.size w w6∧Nu W5 w6∧(progT (P.take (j+1))).length≤1048576 from by
       have e4:progT (P.take (j+1))=L':=by
        rcases hcase.out with e5 | ⟨e5,-⟩
        ·rw [e5,take_snocT hd.out]
         simp [progT]
        ·exact absurd e5 hq
       rw [e4]
       exact⟨hF6.out.us.at_,hF6.out.bel,hNd.out.trans hF6.out.nu,by omega⟩)
      clear hF6 hcase
      go_wp2_with fail
      go_roundw
      case rel=>exact⟨j+1,by go_num,by omega,hI7⟩
      case measure=>simp [intOf];omega
    ·have i2:decide ((j:Int)<(n:Int))=false:=by simp;omega
     obtain rfl:j=n:=by omega
     have eP:P.take j=P:=List.take_of_length_le (by rw [←hn.out];exact Nat.le_refl _)
     obtain⟨h1,h2,-,h4⟩:=hI.out
     rw [eP] at h1 h4
     have e1:SS=⟨(progT P).toArray⟩:=by rw [hSS.out];unfold showS;rw [if_neg (by rw [hbk.out];decide),if_neg (by omega)]
     have e2:SE=0:=by rw [hSE.out];unfold showE;rw [if_neg (by rw [hbk.out];decide),if_neg (by omega)]
     subst e1 e2
     have htx:=Lib.hid (wtext_any h1 h2.size)
     replace h2:=Lib.hid h2
     replace hI:=Lib.hid hI
     clear h1 h4
     go_wp2_with fail
     refine htx.out.mono ?_
     rintro e w6 ⟨rfl,hb6⟩
     dsimp only
     have hfin:=Lib.hid (h2.out.trans hb6)
     clear htx hb6
     go_wp2_with fail
     go_ret2
     exact⟨rfl,hfin.out⟩
end
section
open Go.RowKit Go.Maps Go.Shelf Go.WideMaps
theorem rde6_block {α:Type}{c:Nat}{R:World→List Value→α→Prop}{w:World}{b n:Nat}{t:TypeId}{cs:Array Value}{L:List α}(h:w.heap[b]?=some (.cells cs t (0,0)))(hn:n=L.length)(hL:∀i d,L[i]?=some d→∃l,R w l d∧l.length=c∧∀j u,l[j]?=some u→cs[i*c+j]?=some u):RdE c R w (.slice (some ⟨b,0,none⟩) n n) L:=by
 subst hn
 refine .inr ⟨b,0,_,rfl,(Array.getElem?_eq_some_iff.1 h).1,fun i d hi=>?_⟩
 obtain⟨l,h1,h2,h3⟩:=hL i d hi
 exact⟨l,h1,h2,fun j u hj=>by rw [blk_cell h,Nat.zero_add];exact h3 j u hj⟩
theorem at6_row {cs:Array Value}{l:List Value}{k n:Nat}(h:(cs.toList.drop k).take n=l){j:Nat}{u:Value}(hj:l[j]?=some u):cs[k+j]?=some u:=by
 subst h
 rw [List.getElem?_take] at hj
 split at hj
 ·rw [List.getElem?_drop] at hj
  simpa using hj
 ·cases hj
theorem rdc_block {w:World}{b:Nat}{ss:List ByteArray}{t:TypeId}(h:w.heap[b]?=some (.cells (ss.map Value.string).toArray t (0,0))):RdC w (.slice (some ⟨b,0,none⟩) ss.length ss.length) ss:=by
 refine RdC.of (Array.getElem?_eq_some_iff.1 h).1 (Nat.le_refl _) (fun j s hj=>?_)
 rw [blk_cell h]
 simp [hj]
def exP:List Fun:=[⟨⟨#[102]⟩,[⟨#[112]⟩,⟨#[113]⟩],[⟨⟨#[97]⟩,[⟨6,⟨#[104]⟩,⟨#[]⟩,⟨#[]⟩,0,⟨#[]⟩,[⟨#[120]⟩,⟨#[110,117,108,108]⟩],[⟨#[97]⟩,⟨#[98]⟩]⟩]⟩]⟩]
theorem exP_ok:POkA exP:=by
 refine⟨⟨?_,?_,?_,?_,?_⟩,?_⟩
 ·simp [exP,Fun.Fits,Blk.Fits,Ins.Fits,maxLen]
  decide
 all_goals simp [exP]
theorem exP_short:∀d∈exP,ShortF d:=by
 intro d hd
 rw [List.mem_singleton.1 hd]
 refine⟨by decide,by decide,fun x hx=>?_,fun x hx c hc=>?_⟩
 ·rw [List.mem_singleton.1 hx];decide
 ·rw [List.mem_singleton.1 hx] at hc
  rw [List.mem_singleton.1 hc];decide
theorem exP_E:showE exP=0:=by decide +kernel
theorem exP_S:showS exP=⟨#[102,117,110,99,32,102,40,112,44,32,113,41,32,123,10,97,58,10,32,32,104,32,61,32,112,104,105,32,91,97,58,32,120,44,32,98,58,32,110,117,108,108,93,10,125,10]⟩:=by decide +kernel
theorem exP_read {W:World}{s:Nat}(h0:W.heap[s]?=some (.cells #[.string ⟨#[112]⟩,.string ⟨#[113]⟩] 9 (0,0)))(h1:W.heap[s+1]?=some (.cells #[.string ⟨#[120]⟩,.string ⟨#[110,117,108,108]⟩] 9 (0,0)))(h2:W.heap[s+1+1]?=some (.cells #[.string ⟨#[97]⟩,.string ⟨#[98]⟩] 9 (0,0)))(h3:W.heap[s+1+1+1]?=some (.cells #[.int .u8 6,.string ⟨#[104]⟩,.string ⟨#[]⟩,.string ⟨#[]⟩,.int .i64 0,.string ⟨#[]⟩,.slice (some ⟨s+1,0,none⟩) 2 2,.slice (some ⟨s+1+1,0,none⟩) 2 2] 46 (0,0)))(h4:W.heap[s+1+1+1+1]?=some (.cells #[.string ⟨#[97]⟩,.slice (some ⟨s+1+1+1,0,none⟩) 1 1] 43 (0,0)))(h5:W.heap[s+1+1+1+1+1]?=some (.cells #[.string ⟨#[102]⟩,.slice (some ⟨s,0,none⟩) 2 2,.slice (some ⟨s+1+1+1+1,0,none⟩) 1 1] 40 (0,0))):RdE 3 RdFunC W (.slice (some ⟨s+1+1+1+1+1,0,none⟩) 1 1) exP:=by
 refine rde6_block h5 rfl (fun i d hi=>?_)
 obtain⟨rfl,rfl⟩:=one_at6 hi
 refine⟨_,⟨.slice (some ⟨s,0,none⟩) 2 2,.slice (some ⟨s+1+1+1+1,0,none⟩) 1 1,rfl,rdc_block (ss:=[⟨#[112]⟩,⟨#[113]⟩]) h0,?_⟩,rfl,fun j u hj=>?_⟩
 ·refine rde6_block h4 rfl (fun i d hi=>?_)
  obtain⟨rfl,rfl⟩:=one_at6 hi
  refine⟨_,⟨.slice (some ⟨s+1+1+1,0,none⟩) 1 1,rfl,?_⟩,rfl,fun j u hj=>?_⟩
  ·refine rde6_block h3 rfl (fun i d hi=>?_)
   obtain⟨rfl,rfl⟩:=one_at6 hi
   exact⟨_,⟨.slice (some ⟨s+1,0,none⟩) 2 2,.slice (some ⟨s+1+1,0,none⟩) 2 2,rfl,rdc_block (ss:=[⟨#[120]⟩,⟨#[110,117,108,108]⟩]) h1,rdc_block (ss:=[⟨#[97]⟩,⟨#[98]⟩]) h2⟩,rfl,fun j u hj=>at6_row (n:=8) rfl hj⟩
  ·exact at6_row (n:=2) rfl hj
 ·exact at6_row (n:=3) rfl hj
set_option maxRecDepth 20000 in
set_option maxHeartbeats 4000000 in
theorem tells_any (w:World):Calls Tryz.prog 8 #[] w fun e w'=>e=.returned (.bool true)∧Below w.heap.size w w':=by
 obtain⟨W6,hW6⟩:∃W6,((((((w.alloc (.cells #[.string ⟨#[112]⟩,.string ⟨#[113]⟩] 9)).alloc (.cells #[.string ⟨#[120]⟩,.string ⟨#[110,117,108,108]⟩] 9)).alloc (.cells #[.string ⟨#[97]⟩,.string ⟨#[98]⟩] 9)).alloc (.cells #[.int .u8 6,.string ⟨#[104]⟩,.string ⟨#[]⟩,.string ⟨#[]⟩,.int .i64 0,.string ⟨#[]⟩,.slice (some ⟨w.heap.size+1,0,none⟩) 2 2,.slice (some ⟨w.heap.size+1+1,0,none⟩) 2 2] 46)).alloc (.cells #[.string ⟨#[97]⟩,.slice (some ⟨w.heap.size+1+1+1,0,none⟩) 1 1] 43)).alloc (.cells #[.string ⟨#[102]⟩,.slice (some ⟨w.heap.size,0,none⟩) 2 2,.slice (some ⟨w.heap.size+1+1+1+1,0,none⟩) 1 1] 40))=W6:=⟨_,rfl⟩
 have hR:RdE 3 RdFunC W6 (.slice (some ⟨w.heap.size+1+1+1+1+1,0,none⟩) 1 1) exP:=by
  rw [←hW6]
  exact exP_read (s:=w.heap.size) (at_oldN (at_oldN (at_oldN (at_oldN (at_oldN (at_newN rfl)))))) (at_oldN (at_oldN (at_oldN (at_oldN (at_newN (by simp)))))) (at_oldN (at_oldN (at_oldN (at_newN (by simp))))) (at_oldN (at_oldN (at_newN (by simp)))) (at_oldN (at_newN (by simp))) (at_newN (by simp))
 have hB:Below w.heap.size w W6:=by
  rw [←hW6]
  exact (((((Below.refl _ _).alloc (Nat.le_refl _) _).alloc (by simp) _).alloc (by simp;omega) _).alloc (by simp;omega) _).alloc (by simp;omega) _ |>.alloc (by simp;omega) _
 have hp:=Lib.hid (print_any exP_ok exP_short (by decide) hR)
 rw [exP_E,exP_S] at hp
 replace hB:=Lib.hid hB
 replace hW6:=Lib.hid hW6
 clear hR
 go_enter Tryz.func8,Tryz.ntmps8
 go_wp2_with fail
 rw [hW6.out]
 clear hW6
 refine hp.out.mono ?_
 rintro e w2 ⟨rfl,hb2⟩
 dsimp only
 go_wp2_with fail
 go_ret
 exact⟨rfl,hB.out.trans (hb2.mono hB.out.size)⟩
end
section
open Go.RowKit Go.Maps Go.Shelf Go.WideMaps
def scanB (st:Nat × Nat × UInt8)(c:UInt8):Option (Nat × Nat × UInt8):=
 if c.toNat=10 then (if st.2.1=0∨st.2.2.toNat=32 then none else some (st.1+1,0,c))
 else if (c.toNat≠32∧(c.toNat<33∨126<c.toNat))∨(c.toNat=32∧1<st.2.1∧st.2.2.toNat=32) then none else some (st.1,st.2.1+1,c)
def scanT:List UInt8→Nat × Nat × UInt8→Option (Nat × Nat × UInt8)
 | [],st=>some st
 | c::r,st=>(scanB st c).bind (scanT r)
theorem scan_app (a b:List UInt8)(st:Nat × Nat × UInt8):scanT (a++b) st=(scanT a st).bind (scanT b):=by
 induction a generalizing st with
 | nil=>rfl
 | cons c r ih=>
  simp only [List.cons_append,scanT]
  cases scanB st c with
  | none=>rfl
  | some st'=>exact ih st'
def Wd6 (l:List UInt8):Prop:=l≠[]∧∀g p q,∃z:UInt8,z.toNat≠32∧scanT l (g,p,q)=some (g,p+l.length,z)
theorem Wd6.one {c:UInt8}(h1:33≤c.toNat)(h2:c.toNat≤126):Wd6 [c]:=by
 refine⟨by simp,fun g p q=>⟨c,by omega,?_⟩⟩
 simp only [scanT,scanB]
 rw [if_neg (by omega),if_neg (by omega)]
 rfl
theorem Wd6.app {a b:List UInt8}(ha:Wd6 a)(hb:Wd6 b):Wd6 (a++b):=by
 refine⟨by simp [ha.1],fun g p q=>?_⟩
 obtain⟨z,h1,h2⟩:=ha.2 g p q
 obtain⟨y,h3,h4⟩:=hb.2 g (p+a.length) z
 refine⟨y,h3,?_⟩
 rw [scan_app,h2]
 show scanT b _=_
 rw [h4,List.length_append,Nat.add_assoc]
theorem Wd6.gap {a b:List UInt8}(ha:Wd6 a)(hb:Wd6 b):Wd6 (a++[32]++b):=by
 refine⟨by simp [ha.1],fun g p q=>?_⟩
 obtain⟨z,h1,h2⟩:=ha.2 g p q
 obtain⟨y,h3,h4⟩:=hb.2 g (p+a.length+1) 32
 refine⟨y,h3,?_⟩
 rw [scan_app,scan_app,h2]
 have e:scanT [32] (g,p+a.length,z)=some (g,p+a.length+1,32):=by
  simp only [scanT,scanB]
  rw [if_neg (by decide),if_neg (by intro h;rcases h with h | h;exact h.1 (by decide);exact h1 h.2.2)]
  rfl
 show ((scanT [32] (g,p+a.length,z)).bind (scanT b))=_
 rw [e]
 show scanT b _=_
 have e2:p+a.length+1+b.length=p+(a++[32]++b).length:=by simp;omega
 rw [h4,e2]
theorem Wd6.all:∀{l:List UInt8},l≠[]→(∀c∈l,33≤c.toNat∧c.toNat≤126)→Wd6 l
 | [],h,_=>absurd rfl h
 | [c],_,h=>Wd6.one (h c (by simp)).1 (h c (by simp)).2
 | c::d::r,_,h=>Wd6.app (a:=[c]) (Wd6.one (h c (by simp)).1 (h c (by simp)).2) (Wd6.all (l:=d::r) (by simp) (fun x hx=>h x (List.mem_cons_of_mem _ hx)))
theorem Wd6.join32:∀{l:List (List UInt8)},l≠[]→(∀x∈l,Wd6 x)→Wd6 (Lib.join l [32])
 | [],h,_=>absurd rfl h
 | [x],_,h=>by rw [join1];exact h x (by simp)
 | x::y::r,_,h=>by
  rw [join_cons2]
  exact Wd6.gap (h x (by simp)) (Wd6.join32 (l:=y::r) (by simp) (fun z hz=>h z (List.mem_cons_of_mem _ hz)))
theorem Wd6.joinC:∀{l:List (List UInt8)},l≠[]→(∀x∈l,Wd6 x)→Wd6 (Lib.join l [44,32])
 | [],h,_=>absurd rfl h
 | [x],_,h=>by rw [join1];exact h x (by simp)
 | x::y::r,_,h=>by
  rw [join_cons2]
  have h1:Wd6 (x++[44]):=Wd6.app (h x (by simp)) (Wd6.one (by decide) (by decide))
  have h2:=Wd6.gap h1 (Wd6.joinC (l:=y::r) (by simp) (fun z hz=>h z (List.mem_cons_of_mem _ hz)))
  simpa using h2
theorem Wd6.brk {o c:UInt8}(ho:33≤o.toNat∧o.toNat≤126)(hc:33≤c.toNat∧c.toNat≤126){l:List (List UInt8)}(h:∀x∈l,Wd6 x):Wd6 (brkT o c l):=by
 unfold brkT
 have h1:=Wd6.one ho.1 ho.2
 have h2:=Wd6.one hc.1 hc.2
 by_cases hl:l=[]
 ·subst hl
  exact Wd6.app h1 h2
 ·have:=(Wd6.app h1 (Wd6.joinC hl h)).app h2
  simpa using this
theorem Wd6.line {l:List UInt8}(h:Wd6 l)(g:Nat)(q:UInt8):scanT (l++[10]) (g,0,q)=some (g+1,0,10):=by
 obtain⟨z,h1,h2⟩:=h.2 g 0 q
 rw [scan_app,h2]
 show scanT [10] _=_
 have:l.length≠0:=fun e=>h.1 (List.length_eq_zero_iff.1 e)
 simp only [scanT,scanB]
 rw [if_pos (by decide),if_neg (by intro e;rcases e with e | e;omega;exact h1 e)]
 rfl
theorem Wd6.line2 {l:List UInt8}(h:Wd6 l)(g:Nat)(q:UInt8):scanT ([32,32]++l++[10]) (g,0,q)=some (g+1,0,10):=by
 obtain⟨z,h1,h2⟩:=h.2 g 2 32
 rw [scan_app,scan_app]
 have s1:scanB (g,0,q) 32=some (g,1,32):=by
  unfold scanB
  rw [if_neg (by decide),if_neg (by intro h;rcases h with h | h;exact h.1 (by decide);have:=h.2.1;simp at this)]
 have s2:scanB (g,1,32) 32=some (g,2,32):=by
  unfold scanB
  rw [if_neg (by decide),if_neg (by intro h;rcases h with h | h;exact h.1 (by decide);have:=h.2.1;simp at this)]
 have e:scanT [32,32] (g,0,q)=some (g,2,32):=by
  show (scanB (g,0,q) 32).bind (scanT [32])=_
  rw [s1]
  show (scanB (g,1,32) 32).bind (scanT [])=_
  rw [s2]
  rfl
 rw [e]
 show ((scanT l (g,2,32)).bind (scanT [10]))=_
 rw [h2]
 show scanT [10] _=_
 simp only [scanT,scanB]
 rw [if_pos (by decide),if_neg (by intro e;rcases e with e | e;omega;exact h1 e)]
 rfl
theorem letter6 {b:UInt8}(h:nmLetterB b=true):33≤b.toNat∧b.toNat≤126:=by
 unfold nmLetterB at h
 simp only [Bool.or_eq_true,Bool.and_eq_true,decide_eq_true_eq,beq_iff_eq] at h
 rcases h with (⟨h1,h2⟩ | ⟨h1,h2⟩) | h
 ·have h3:=UInt8.le_iff_toNat_le.1 h1
  have h4:=UInt8.le_iff_toNat_le.1 h2
  simp at h3 h4
  omega
 ·have h3:=UInt8.le_iff_toNat_le.1 h1
  have h4:=UInt8.le_iff_toNat_le.1 h2
  simp at h3 h4
  omega
 ·subst h
  decide
theorem okb6 {b:UInt8}(h:nmOkB b=true):33≤b.toNat∧b.toNat≤126:=by
 unfold nmOkB at h
 simp only [Bool.or_eq_true,Bool.and_eq_true,decide_eq_true_eq,beq_iff_eq] at h
 rcases h with h | h | ⟨h1,h2⟩
 ·exact letter6 h
 ·subst h
  decide
 ·have h3:=UInt8.le_iff_toNat_le.1 h1
  have h4:=UInt8.le_iff_toNat_le.1 h2
  simp at h3 h4
  omega
theorem name_wd {s:ByteArray}(h:isName s=true):Wd6 (bL s):=by
 unfold isName at h
 simp only [Bool.and_eq_true] at h
 obtain⟨-,-,h1,h2⟩:=h
 refine Wd6.all (fun e=>?_) (fun c hc=>okb6 (List.all_eq_true.1 h2 c hc))
 have e2:s.data.toList=[]:=e
 rw [e2] at h1
 cases h1
theorem oper_wd {s:ByteArray}(h:isOperand s=true):Wd6 (bL s):=by
 unfold isOperand at h
 rw [Bool.or_eq_true] at h
 rcases h with h | h
 ·unfold isNull at h
  have e:s.toList=[110,117,108,108]:=by simpa using h
  rw [ByteArray.toList_eq] at e
  show Wd6 s.data.toList
  rw [e]
  exact Wd6.all (by simp) (by decide)
 ·exact name_wd h
theorem dec_wd (n:Nat):Wd6 (Lib.decDigits n):=by
 induction n using Nat.strongRecOn with
 | ind n ih=>
  rw [Lib.decDigits]
  split
  ·rename_i h
   have h1:(UInt8.ofNat (48+n)).toNat=48+n:=by simp;omega
   exact Wd6.one (by omega) (by omega)
  ·rename_i h
   have h1:(UInt8.ofNat (48+n%10)).toNat=48+n%10:=by simp;omega
   exact Wd6.app (ih (n/10) (by omega)) (Wd6.one (by omega) (by omega))
theorem word_wd (op:Int):Wd6 (wordT op):=by
 unfold wordT
 by_cases h1:op=1
 ·rw [if_pos h1];exact Wd6.all (by simp) (by decide)
 rw [if_neg h1]
 by_cases h2:op=2
 ·rw [if_pos h2];exact Wd6.all (by simp) (by decide)
 rw [if_neg h2]
 by_cases h3:op=3
 ·rw [if_pos h3];exact Wd6.all (by simp) (by decide)
 rw [if_neg h3]
 by_cases h4:op=4
 ·rw [if_pos h4];exact Wd6.all (by simp) (by decide)
 rw [if_neg h4]
 by_cases h5:op=5
 ·rw [if_pos h5];exact Wd6.all (by simp) (by decide)
 rw [if_neg h5]
 by_cases h6:op=6
 ·rw [if_pos h6];exact Wd6.all (by simp) (by decide)
 rw [if_neg h6]
 by_cases h7:op=7
 ·rw [if_pos h7];exact Wd6.all (by simp) (by decide)
 rw [if_neg h7]
 by_cases h8:op=8
 ·rw [if_pos h8];exact Wd6.all (by simp) (by decide)
 rw [if_neg h8]
 by_cases h9:op=9
 ·rw [if_pos h9];exact Wd6.all (by simp) (by decide)
 rw [if_neg h9]
 by_cases h10:op=10
 ·rw [if_pos h10];exact Wd6.all (by simp) (by decide)
 rw [if_neg h10]
 by_cases h11:op=11
 ·rw [if_pos h11];exact Wd6.all (by simp) (by decide)
 rw [if_neg h11]
 by_cases h12:op=12
 ·rw [if_pos h12];exact Wd6.all (by simp) (by decide)
 rw [if_neg h12]
 by_cases h13:op=13
 ·rw [if_pos h13];exact Wd6.all (by simp) (by decide)
 rw [if_neg h13]
 exact Wd6.all (by simp) (by decide)
theorem has_wd {k:Int}{s:ByteArray}(hk:k=2)(h0:missB k s=false){p:ByteArray→Bool}(hp:∀s,p s=true→Wd6 (bL s))(h:(hasL k s).all p=true):Wd6 (bL s):=by
 subst hk
 have hne:=miss_must h0
 unfold hasL at h
 rw [if_neg (by decide)] at h
 unfold givenL at h
 rw [if_neg (by rw [bL_nil];cases e:bL s with | nil=>exact absurd e hne | cons _ _=>simp)] at h
 simp only [List.all_cons,List.all_nil,Bool.and_true] at h
 exact hp s h
theorem may_wd {k:Int}{s:ByteArray}(hk:k=1)(hne:bL s≠[]){p:ByteArray→Bool}(hp:∀s,p s=true→Wd6 (bL s))(h:(hasL k s).all p=true):Wd6 (bL s):=by
 subst hk
 unfold hasL at h
 rw [if_neg (by decide)] at h
 unfold givenL at h
 rw [if_neg (by rw [bL_nil];cases e:bL s with | nil=>exact absurd e hne | cons _ _=>simp)] at h
 simp only [List.all_cons,List.all_nil,Bool.and_true] at h
 exact hp s h
theorem list_wd {k:Int}{l:List ByteArray}(hk:k≠0){p:ByteArray→Bool}(hp:∀s,p s=true→Wd6 (bL s))(h:(k != 0&&!l.all p)=false):∀x∈l.map bL,Wd6 x:=by
 have h1:(k != 0)=true:=by simpa using hk
 rw [h1,Bool.true_and] at h
 have h2:l.all p=true:=by simpa using h
 intro x hx
 obtain⟨s,hs,rfl⟩:=List.mem_map.1 hx
 exact hp s (List.all_eq_true.1 h2 s hs)
theorem pair_wd {d:Ins}(h1:∀x∈d.labels.map bL,Wd6 x)(h2:∀x∈d.args.map bL,Wd6 x):∀x∈pairT d,Wd6 x:=by
 intro x hx
 unfold pairT at hx
 obtain⟨k,hk⟩:=List.mem_iff_getElem?.1 hx
 rw [List.getElem?_zipWith] at hk
 cases e1:d.labels[k]? with
 | none=>rw [e1] at hk;simp at hk
 | some a=>
  cases e2:d.args[k]? with
  | none=>rw [e1,e2] at hk;simp at hk
  | some b=>
   rw [e1,e2] at hk
   simp only [Option.some.injEq] at hk
   subst hk
   have i1:=h1 (bL a) (List.mem_map.2 ⟨a,List.mem_of_getElem? e1,rfl⟩)
   have i2:=h2 (bL b) (List.mem_map.2 ⟨b,List.mem_of_getElem? e2,rfl⟩)
   have:=Wd6.gap (Wd6.app i1 (Wd6.one (c:=58) (by decide) (by decide))) i2
   simpa using this
theorem ins_wd {c:Ins}(h9:badFieldsB c=false)(h2:badNamesB c=false):wordsT c≠[]∧∀x∈wordsT c,Wd6 x:=by
 obtain⟨s,hs,d0,a0,b0,f0,n0,n1,g0,l0,h6⟩:=fields_ok h9
 rw [badNamesB_some hs] at h2
 unfold badNamesS at h2
 simp only [Bool.or_eq_false_iff,Bool.not_eq_false'] at h2
 obtain⟨⟨k1,k2⟩,⟨k3,k4⟩,k5,k6⟩:=h2
 have N:=fun s=>@name_wd s
 have O:=fun s=>@oper_wd s
 have w61:Wd6 [61]:=Wd6.one (by decide) (by decide)
 have W:=word_wd
 have D:=dec_wd
 rcases ops_ok hs with e | e | e | e | e | e | e | e | e | e | e | e | e | e
 all_goals (rw [e] at hs;obtain rfl:=Option.some.inj hs;clear hs)
 ·rw [words_val e rfl,rest_1 e]
  refine⟨by simp,fun x hx=>?_⟩
  simp only [List.mem_append,List.mem_cons,List.not_mem_nil,or_false] at hx
  have hd:=has_wd rfl d0 N k1
  rcases hx with (rfl | rfl) | rfl | rfl
  ·exact hd
  ·exact w61
  ·exact W _
  ·exact D _
 ·rw [words_val e rfl,rest_2 e]
  refine⟨by simp,fun x hx=>?_⟩
  simp only [List.mem_append,List.mem_cons,List.not_mem_nil,or_false] at hx
  have hd:=has_wd rfl d0 N k1
  rcases hx with (rfl | rfl) | rfl | rfl
  ·exact hd
  ·exact w61
  ·exact W _
  ·exact D _
 ·rw [words_val e rfl,rest_3 e]
  refine⟨by simp,fun x hx=>?_⟩
  simp only [List.mem_append,List.mem_cons,List.not_mem_nil,or_false] at hx
  have hd:=has_wd rfl d0 N k1
  rcases hx with (rfl | rfl) | rfl
  ·exact hd
  ·exact w61
  ·exact W _
 ·rw [words_val e rfl,rest_4 e]
  refine⟨by simp,fun x hx=>?_⟩
  simp only [List.mem_append,List.mem_cons,List.not_mem_nil,or_false] at hx
  have hd:=has_wd rfl d0 N k1
  rcases hx with (rfl | rfl) | rfl | rfl
  ·exact hd
  ·exact w61
  ·exact W _
  ·exact has_wd rfl f0 N k2
 ·rw [words_val e rfl,rest_5 e]
  refine⟨by simp,fun x hx=>?_⟩
  simp only [List.mem_append,List.mem_cons,List.not_mem_nil,or_false] at hx
  have hd:=has_wd rfl d0 N k1
  rcases hx with (rfl | rfl) | rfl | rfl
  ·exact hd
  ·exact w61
  ·exact W _
  ·exact has_wd rfl a0 O k3
 ·rw [words_val e rfl,rest_6 e]
  refine⟨by simp,fun x hx=>?_⟩
  simp only [List.mem_append,List.mem_cons,List.not_mem_nil,or_false] at hx
  have hd:=has_wd rfl d0 N k1
  rcases hx with (rfl | rfl) | rfl | rfl
  ·exact hd
  ·exact w61
  ·exact W _
  ·exact Wd6.brk (by decide) (by decide) (pair_wd (list_wd (by decide) N k5) (list_wd (by decide) O k6))
 ·rw [words_val e rfl,rest_7 e]
  refine⟨by simp,fun x hx=>?_⟩
  simp only [List.mem_append,List.mem_cons,List.not_mem_nil,or_false] at hx
  have hd:=has_wd rfl d0 N k1
  rcases hx with (rfl | rfl) | rfl | rfl | rfl
  ·exact hd
  ·exact w61
  ·exact W _
  ·exact has_wd rfl a0 O k3
  ·exact D _
 ·rw [words_val e rfl,rest_8 e]
  refine⟨by simp,fun x hx=>?_⟩
  simp only [List.mem_append,List.mem_cons,List.not_mem_nil,or_false] at hx
  have hd:=has_wd rfl d0 N k1
  rcases hx with (rfl | rfl) | rfl | rfl
  ·exact hd
  ·exact w61
  ·exact W _
  ·exact has_wd rfl a0 O k3
 ·rw [words_bare e rfl,rest_9 e]
  refine⟨by simp,fun x hx=>?_⟩
  simp only [List.mem_cons,List.not_mem_nil,or_false] at hx
  rcases hx with rfl | rfl | rfl
  ·exact W _
  ·exact Wd6.app (has_wd rfl a0 O k3) (Wd6.one (by decide) (by decide))
  ·exact has_wd rfl b0 O k4
 ·have hc:=Wd6.app (has_wd rfl f0 N k2) (Wd6.brk (o:=40) (c:=41) (by decide) (by decide) (list_wd (by decide) O k6))
  by_cases hz:bL c.dst=[]
  ·rw [words_bare e (by rw [hz];rfl),rest_10 e]
   refine⟨by simp,fun x hx=>?_⟩
   simp only [List.mem_cons,List.not_mem_nil,or_false] at hx
   rcases hx with rfl | rfl
   ·exact W _
   ·exact hc
  ·rw [words_val e (by cases hq:bL c.dst with | nil=>exact absurd hq hz | cons _ _=>rfl),rest_10 e]
   refine⟨by simp,fun x hx=>?_⟩
   simp only [List.mem_append,List.mem_cons,List.not_mem_nil,or_false] at hx
   rcases hx with (rfl | rfl) | rfl | rfl
   ·exact may_wd rfl hz N k1
   ·exact w61
   ·exact W _
   ·exact hc
 ·have hc:=Wd6.app (has_wd rfl a0 O k3) (Wd6.brk (o:=40) (c:=41) (by decide) (by decide) (list_wd (by decide) O k6))
  by_cases hz:bL c.dst=[]
  ·rw [words_bare e (by rw [hz];rfl),rest_11 e]
   refine⟨by simp,fun x hx=>?_⟩
   simp only [List.mem_cons,List.not_mem_nil,or_false] at hx
   rcases hx with rfl | rfl
   ·exact W _
   ·exact hc
  ·rw [words_val e (by cases hq:bL c.dst with | nil=>exact absurd hq hz | cons _ _=>rfl),rest_11 e]
   refine⟨by simp,fun x hx=>?_⟩
   simp only [List.mem_append,List.mem_cons,List.not_mem_nil,or_false] at hx
   rcases hx with (rfl | rfl) | rfl | rfl
   ·exact may_wd rfl hz N k1
   ·exact w61
   ·exact W _
   ·exact hc
 ·rw [words_bare e rfl,rest_12 e]
  refine⟨by simp,fun x hx=>?_⟩
  rcases List.mem_cons.1 hx with rfl | hx
  ·exact W _
  ·exact list_wd (by decide) N k5 x hx
 ·rw [words_bare e rfl,rest_13 e]
  refine⟨by simp,fun x hx=>?_⟩
  rcases List.mem_cons.1 hx with rfl | hx
  ·exact W _
  ·exact list_wd (by decide) N k5 x hx
 ·rw [words_bare e rfl,rest_14 e]
  refine⟨by simp,fun x hx=>?_⟩
  rcases List.mem_cons.1 hx with rfl | hx
  ·exact W _
  ·by_cases hz:bL c.a=[]
   ·rw [if_pos hz] at hx;cases hx
   ·rw [if_neg hz] at hx
    rw [List.mem_singleton.1 hx]
    exact may_wd rfl hz O k3
def linesF (d:Fun):Nat:=2+(d.blocks.map (fun x=>1+x.code.length)).sum
def linesP (P:List Fun):Nat:=(P.map linesF).sum
theorem code_scan:∀(l:List Ins),(∀c∈l,badFieldsB c=false∧badNamesB c=false)→∀g q,∃q',scanT (l.map insT).flatten (g,0,q)=some (g+l.length,0,q')
 | [],_,g,q=>⟨q,rfl⟩
 | c::r,h,g,q=>by
  obtain⟨h1,h2⟩:=h c (by simp)
  obtain⟨hw,hx⟩:=ins_wd h1 h2
  have e:=(Wd6.join32 hw hx).line2 g q
  obtain⟨q',e2⟩:=code_scan r (fun z hz=>h z (List.mem_cons_of_mem _ hz)) (g+1) 10
  refine⟨q',?_⟩
  rw [List.map_cons,List.flatten_cons,scan_app]
  have e0:insT c=[32,32]++Lib.join (wordsT c) [32]++[10]:=rfl
  rw [e0,e]
  show scanT _ (g+1,0,10)=_
  rw [e2,List.length_cons]
  congr 2
  omega
theorem label_wd {s:ByteArray}(h:isName s=true):Wd6 (bL s++[58]):=Wd6.app (name_wd h) (Wd6.one (by decide) (by decide))
theorem blk_scan {x:Blk}(h:isName x.label=true)(hc:∀c∈x.code,badFieldsB c=false∧badNamesB c=false)(g:Nat)(q:UInt8):∃q',scanT (blkT x) (g,0,q)=some (g+(1+x.code.length),0,q'):=by
 have e:=(label_wd h).line g q
 obtain⟨q',e2⟩:=code_scan x.code hc (g+1) 10
 refine⟨q',?_⟩
 have e3:blkT x=(bL x.label++[58]++[10])++(x.code.map insT).flatten:=by unfold blkT;simp
 rw [e3,scan_app,e]
 show scanT _ (g+1,0,10)=_
 rw [e2]
 congr 2
 omega
theorem blks_scan:∀(l:List Blk),(∀x∈l,isName x.label=true∧∀c∈x.code,badFieldsB c=false∧badNamesB c=false)→∀g q,∃q',scanT (l.map blkT).flatten (g,0,q)=some (g+(l.map (fun x=>1+x.code.length)).sum,0,q')
 | [],_,g,q=>⟨q,rfl⟩
 | x::r,h,g,q=>by
  obtain⟨q1,e1⟩:=blk_scan (h x (by simp)).1 (h x (by simp)).2 g q
  obtain⟨q',e2⟩:=blks_scan r (fun z hz=>h z (List.mem_cons_of_mem _ hz)) (g+(1+x.code.length)) q1
  refine⟨q',?_⟩
  rw [List.map_cons,List.flatten_cons,scan_app,e1]
  show scanT _ (g+(1+x.code.length),0,q1)=_
  rw [e2,List.map_cons,List.sum_cons]
  congr 2
  omega
theorem fun_scan {d:Fun}(hn:isName d.name=true)(hp:d.params.all isName=true)(hb:∀x∈d.blocks,isName x.label=true∧∀c∈x.code,badFieldsB c=false∧badNamesB c=false)(g:Nat)(q:UInt8):∃q',scanT (funT d) (g,0,q)=some (g+linesF d,0,q'):=by
 have w1:Wd6 [102,117,110,99]:=Wd6.all (by simp) (by decide)
 have w2:Wd6 (bL d.name++brkT 40 41 (d.params.map bL)):=Wd6.app (name_wd hn) (Wd6.brk (by decide) (by decide) (fun x hx=>by
  obtain⟨s,hs,rfl⟩:=List.mem_map.1 hx
  exact name_wd (List.all_eq_true.1 hp s hs)))
 have w3:Wd6 [123]:=Wd6.one (by decide) (by decide)
 have e:=((w1.gap w2).gap w3).line g q
 obtain⟨q1,e1⟩:=blks_scan d.blocks hb (g+1) 10
 have e2:=(Wd6.one (c:=125) (by decide) (by decide)).line (g+1+(d.blocks.map (fun x=>1+x.code.length)).sum) q1
 refine⟨10,?_⟩
 have e3:funT d=([102,117,110,99]++[32]++(bL d.name++brkT 40 41 (d.params.map bL))++[32]++[123]++[10])++(d.blocks.map blkT).flatten++([125]++[10]):=by
  unfold funT headT
  simp
 rw [e3,scan_app,scan_app,e]
 show ((scanT _ (g+1,0,10)).bind (scanT ([125]++[10])))=_
 rw [e1]
 show scanT _ (g+1+(d.blocks.map (fun x=>1+x.code.length)).sum,0,q1)=_
 rw [e2]
 unfold linesF
 congr 2
 omega
theorem prog_scan:∀(P:List Fun),(∀d∈P,isName d.name=true∧d.params.all isName=true∧∀x∈d.blocks,isName x.label=true∧∀c∈x.code,badFieldsB c=false∧badNamesB c=false)→∀g q,∃q',scanT (progT P) (g,0,q)=some (g+linesP P,0,q')
 | [],_,g,q=>⟨q,rfl⟩
 | d::r,h,g,q=>by
  obtain⟨h1,h2,h3⟩:=h d (by simp)
  obtain⟨q1,e1⟩:=fun_scan h1 h2 h3 g q
  obtain⟨q',e2⟩:=prog_scan r (fun z hz=>h z (List.mem_cons_of_mem _ hz)) (g+linesF d) q1
  refine⟨q',?_⟩
  have e3:progT (d::r)=funT d++progT r:=by unfold progT;simp
  rw [e3,scan_app,e1]
  show scanT _ (g+linesF d,0,q1)=_
  rw [e2]
  unfold linesP
  rw [List.map_cons,List.sum_cons]
  congr 2
  omega
theorem prog_lines {P:List Fun}(h2:ruleAt P 2=none)(h9:ruleAt P 9=none):∃q',scanT (progT P) (0,0,0)=some (linesP P,0,q'):=by
 have r2:=pure6 (none6 h2)
 have r9:=pure6 (none6 h9)
 have:=prog_scan P (fun d hd=>by
  obtain⟨f,hf⟩:=List.mem_iff_getElem?.1 hd
  have e1:bad2 (.fn f d)=false:=r2 _ (in_fn6 hf)
  unfold bad2 at e1
  simp only [Bool.or_eq_false_iff,Bool.not_eq_false'] at e1
  refine⟨e1.1,e1.2,fun x hx=>?_⟩
  obtain⟨b,hb⟩:=List.mem_iff_getElem?.1 hx
  have e2:bad2 (.blk f b d x)=false:=r2 _ (body_in6 hf (in_blk6 hb))
  unfold bad2 at e2
  simp only [Bool.not_eq_false'] at e2
  refine⟨e2,fun c hc=>?_⟩
  obtain⟨i,hi⟩:=List.mem_iff_getElem?.1 hc
  exact⟨r9 _ (body_in6 hf (in_ins6 hb hi)),r2 _ (body_in6 hf (in_ins6 hb hi))⟩) 0 0
 simpa using this
end
section
open Go.RowKit Go.Maps Go.WideShapes Go.ChangeShapes Go.ChangeAt Go.Deep
section
variable {H:Type} {enc:TypeId × Value→H} {P:Program} {w:World}
theorem rd_strs_c {t e:TypeId}{n:Nat}{cs:List Value}{x:DataW H × List MemPlace}(ht:P.underlying t=some (.slice e))(he:P.underlying e=some .string)(hc:P.cellsOf e=1)
  (hn:DataW.trod enc P w 0 (fun _=>true) true n t cs=some x):∃v ss,cs=[v]∧RdC w v ss∧(∀s∈ss,s.size≤maxLen)∧ss.length≤maxLen:=by
 rcases open_strs ht he hc hn with ⟨e1,_⟩ | ⟨a',len,cap,m,Sx,e1,_,hl,hm,hmm,_,hx⟩
 ·exact⟨_,[],e1,⟨Or.inl ⟨rfl,Or.inl rfl⟩,_,_,rfl,Nat.le_refl _⟩,(fun x h=>by cases h),Nat.zero_le _⟩
 ·simp only [if_true] at hmm
  refine⟨_,(List.range len).map Sx,e1,⟨?_,some a',cap,by simp,by simp;omega⟩,fun x hx'=>?_,by simp;omega⟩
  ·have:=rd_of (w:=w) (v:=.slice (some a') len cap) (X:=fun i=>.string (Sx i)) rfl (by omega:len≤m) (fun i hi=>(hx i hi).1) (by
    by_cases h0:len=0
    ·exact Or.inr h0
    ·left
     have h1:=(hx 0 (by omega)).1
     unfold World.cell? at h1
     split at h1
     ·rename_i h2
      have:=(Array.getElem?_eq_some_iff.1 h2).1
      unfold Addr.add at this
      split at this<;>simpa using this
     ·cases h1)
   rw [RdS,List.map_map]
   exact this
  ·obtain⟨i,hi,rfl⟩:=List.mem_map.1 hx'
   rw [List.mem_range] at hi
   exact (hx i (by omega)).2
end
section
variable {H:Type} {enc:TypeId × Value→H} {w:World}
theorem rd_ins_c {n:Nat}{cs:List Value}{x:DataW H × List MemPlace}(hn:DataW.trod enc Tryz.prog w 0 (fun _=>true) true n 46 cs=some x):∃d:Ins,RdInsC w cs d∧d.Fits:=by
 obtain⟨xs,m,rfl,rfl,hl,hxl,hf⟩:=DataW.trod_struct Tryz.underlying46 hn
 rw [cellsIns] at hl
 obtain⟨c0,c1,c2,c3,c4,c5,c6,c7,rfl⟩:=list8 hl
 have hg:=fun i f hi v hv=>field_one (by kernel_rfl) hxl hf (i:=i) (f:=f) hi (v:=v) hv
 obtain⟨y0,h0⟩:=hg 0 _ rfl _ rfl
 obtain⟨y1,h1⟩:=hg 1 _ rfl _ rfl
 obtain⟨y2,h2⟩:=hg 2 _ rfl _ rfl
 obtain⟨y3,h3⟩:=hg 3 _ rfl _ rfl
 obtain⟨y4,h4⟩:=hg 4 _ rfl _ rfl
 obtain⟨y5,h5⟩:=hg 5 _ rfl _ rfl
 obtain⟨y6,h6⟩:=hg 6 _ rfl _ rfl
 obtain⟨y7,h7⟩:=hg 7 _ rfl _ rfl
 obtain⟨op,e0,-,w0⟩:=DataW.trod_int Tryz.underlying44 h0
 obtain⟨s1,e1,-,w1⟩:=DataW.trod_string Tryz.underlying9 h1
 obtain⟨s2,e2,-,w2⟩:=DataW.trod_string Tryz.underlying9 h2
 obtain⟨s3,e3,-,w3⟩:=DataW.trod_string Tryz.underlying9 h3
 obtain⟨nn,e4,-,w4⟩:=DataW.trod_int Tryz.underlying3 h4
 obtain⟨s5,e5,-,w5⟩:=DataW.trod_string Tryz.underlying9 h5
 obtain⟨v6,ss6,e6,r6,w6,l6⟩:=rd_strs_c Tryz.underlying37 Tryz.underlying9 cellsStr h6
 obtain⟨v7,ss7,e7,r7,w7,l7⟩:=rd_strs_c Tryz.underlying37 Tryz.underlying9 cellsStr h7
 simp only [List.cons.injEq,and_true] at e0 e1 e2 e3 e4 e5 e6 e7
 subst e0 e1 e2 e3 e4 e5 e6 e7
 exact⟨⟨op,s1,s2,s3,nn,s5,ss6,ss7⟩,⟨c6,c7,rfl,r6,r7⟩,(u8_bounds w0).1,(u8_bounds w0).2,w1,w2,w3,w4,w5,w6,w7,l6,l7⟩
theorem rd_blk_c {n:Nat}{cs:List Value}{x:DataW H × List MemPlace}(hn:DataW.trod enc Tryz.prog w 0 (fun _=>true) true n 43 cs=some x):∃d:Blk,RdBlkC w cs d∧d.Fits:=by
 obtain⟨xs,m,rfl,rfl,hl,hxl,hf⟩:=DataW.trod_struct Tryz.underlying43 hn
 rw [cellsBlk] at hl
 obtain⟨c0,c1,rfl⟩:=list2 hl
 have hg:=fun i f hi v hv=>field_one (by kernel_rfl) hxl hf (i:=i) (f:=f) hi (v:=v) hv
 obtain⟨y0,h0⟩:=hg 0 _ rfl _ rfl
 obtain⟨y1,h1⟩:=hg 1 _ rfl _ rfl
 obtain⟨s,e0,-,w0⟩:=DataW.trod_string Tryz.underlying9 h0
 obtain⟨v,L,e1,r1,w1,l1⟩:=rd_elems_in (R:=RdInsC) (F:=Ins.Fits) Tryz.underlying41 cellsIns (by decide) (fun n cs x h=>rd_ins_c h) h1
 simp only [List.cons.injEq,and_true] at e0 e1
 subst e0 e1
 exact⟨⟨s,L⟩,⟨c1,rfl,r1⟩,w0,w1,l1⟩
theorem rd_fun_c {n:Nat}{cs:List Value}{x:DataW H × List MemPlace}(hn:DataW.trod enc Tryz.prog w 0 (fun _=>true) true n 40 cs=some x):∃d:Fun,RdFunC w cs d∧d.Fits:=by
 obtain⟨xs,m,rfl,rfl,hl,hxl,hf⟩:=DataW.trod_struct Tryz.underlying40 hn
 rw [cellsFun] at hl
 obtain⟨c0,c1,c2,rfl⟩:=list3 hl
 have hg:=fun i f hi v hv=>field_one (by kernel_rfl) hxl hf (i:=i) (f:=f) hi (v:=v) hv
 obtain⟨y0,h0⟩:=hg 0 _ rfl _ rfl
 obtain⟨y1,h1⟩:=hg 1 _ rfl _ rfl
 obtain⟨y2,h2⟩:=hg 2 _ rfl _ rfl
 obtain⟨s,e0,-,w0⟩:=DataW.trod_string Tryz.underlying9 h0
 obtain⟨v6,ss6,e1,r1,w1,l1⟩:=rd_strs_c Tryz.underlying37 Tryz.underlying9 cellsStr h1
 obtain⟨v,L,e2,r2,w2,l2⟩:=rd_elems_in (R:=RdBlkC) (F:=Blk.Fits) Tryz.underlying38 cellsBlk (by decide) (fun n cs x h=>rd_blk_c h) h2
 simp only [List.cons.injEq,and_true] at e0 e1 e2
 subst e0 e1 e2
 exact⟨⟨s,ss6,L⟩,⟨c1,c2,rfl,r1,r2⟩,w0,w1,w2,l1,l2⟩
end
end
end Go.Proofs.YtknkiaedgeejiaaGreatDoor
