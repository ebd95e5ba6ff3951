/- NFirst, SwK, SwQ, SwE, Sr1, Sr2. -/
import Derived.Test.YtknkiaedgeejiaaGreatDoorSP16
import Derived.Test.YtknkiaedgeejiaaGreatDoorSP15
namespace Go.Proofs.YtknkiaedgeejiaaGreatDoor
set_option linter.unusedVariables false
set_option linter.unusedSimpArgs false
section
open Go.RowKit Go.Maps Go.Shelf Go.WideMaps
theorem zeroQ (w:World):(zeroValue 86).run Tryz.prog w=.ok .nilFunc w:=by kernel_rfl
def ansW (q:Nat × Nat × Nat)(b:Bool):Value:=.tuple #[.agg #[.int .i64 q.1,.int .i64 q.2.1,.int .i64 q.2.2],.bool b]
theorem ansP_w (x:Option (Nat × Nat × Nat)):ansP x=ansW (x.getD (0,0,0)) x.isSome:=rfl
theorem ruleAt_out {P:List Fun}{k:Nat}(h:k<1∨16<k):ruleAt P k=none:=by
 unfold ruleAt
 split<;>first | omega | rfl
set_option maxRecDepth 20000 in
set_option maxHeartbeats 4000000 in
theorem first_any {P:List Fun}(hP:POkA P){w:World}{v:Value}(h:RdE 3 RdFun w v P){r:Nat}(hr:r<256):Calls Tryz.prog 16 #[.agg #[v],.int .u8 r] w fun e w'=>e=.returned (ansP (ruleAt P r))∧Below w.heap.size w w':=by
 obtain⟨a,c,rfl⟩:=h.form
 obtain⟨n,hn⟩:∃n,n=P.length:=⟨_,rfl⟩
 rw [←hn] at h ⊢
 obtain⟨W2,hW2⟩:∃W2,((w.alloc (.cells #[.slice a n c] 24)).alloc (.cells #[.int .i64 0,.int .i64 0,.int .i64 0] 53))=W2:=⟨_,rfl⟩
 have hb0:Below w.heap.size w W2:=by rw [←hW2];exact ((Below.refl _ _).alloc (Nat.le_refl _) _).alloc (by simp) _
 have hN:W2.heap[w.heap.size+1]?=some (.cells #[.int .i64 0,.int .i64 0,.int .i64 0] 53 (0,0)):=by rw [←hW2];exact at_newN (by simp)
 have hl:W2.cell? ⟨w.heap.size,0,none⟩=some (.slice a n c):=by rw [blk_cell (show W2.heap[w.heap.size]?=_ from by rw [←hW2];exact at_oldN (at_newN rfl))];rfl
 have hsz:W2.heap.size=w.heap.size+2:=by rw [←hW2];simp
 have hkey:keyOf Tryz.prog 50 (.int .u8 r)=some (.int .u8 r):=keyR (WalkArith.wf_u8 (by omega))
 have hask:∀k,1≤k→k≤16→∀w':World,Below w.heap.size w w'→Calls Tryz.prog (qF k) #[.agg #[.slice a n c]] w' fun e w''=>e=.returned (ansP (ruleAt P k))∧Below w'.heap.size w' w'':=fun k h1 h2 w' hb=>ask_any hP h1 h2 (RdE.below (fun _ _ h=>h.below hb) h hb)
 replace hask:=Lib.hid hask
 have hqs:=Lib.hid (fun W=>(questions_any (w:=W) (a:=a) (n:=n) (c:=c)))
 have hb0':=Lib.hid hb0
 replace hN:=Lib.hid hN
 replace hn:=Lib.hid hn
 have hout:=Lib.hid (fun h=>(ruleAt_out h:ruleAt P r=none))
 clear h hb0
 have hkey2:=Lib.hid hkey
 by_cases hrg:1≤r∧r≤16
 ·obtain⟨K,hK⟩:∃K,qF r=K:=⟨_,rfl⟩
  have eg:=qF_enters hrg.1 hrg.2
  have hak:=Lib.hid (hask.out r hrg.1 hrg.2)
  have hfv:=Lib.hid (fun (f:Lit→Option Value) (hf:∀k:Nat,1≤k→k≤16→f (.int .u8 k)=some (qV (.slice a n c) k))=>(by have h1:=hf r hrg.1 hrg.2;unfold qV at h1;rw [hK] at h1;exact h1:f (.int .u8 r)=some (.func (.func K) #[.agg #[.slice a n c]] #[])))
  rw [hK] at eg hak
  rw [ansP_w] at hak ⊢
  unfold ansW at hak ⊢
  obtain⟨q,hq⟩:∃q,(ruleAt P r).getD (0,0,0)=q:=⟨_,rfl⟩
  rw [hq] at hak ⊢
  obtain⟨q1,q2,q3⟩:=q
  simp only at hak ⊢
  generalize (ruleAt P r).isSome=bs at hak ⊢
  replace hK:=Lib.hid hK
  replace hq:=Lib.hid hq
  go_enter Tryz.func16,Tryz.ntmps16
  go_upto_region 1 with fail
  clear hW2
  go_upto_region 2 with (first
   | (go_at_call 33;refine Calls.mono (hqs.out _) ?_;rintro e w3 ⟨b,rfl,hge,⟨f,hM,hf1,hf2⟩,hb3⟩;have hf:=Lib.hid (hfv.out f hf1);replace hM:=Lib.hid hM;clear hf1 hf2)
   | (at_lookup;refine wpList_vmap_ok rfl _ _ _ rfl 50 86 lawR Tryz.underlying88 (zeroQ _) b 16 f hM.out rfl _ _ rfl hkey ?_;rw [hf.out];simp only [Option.getD_some,Option.isSome_some]))
  have hb4:=Lib.hid (hb0'.out.trans (hb3.mono (by omega)))
  have hN4:=Lib.hid ((hb3.block _ (Array.getElem?_eq_some_iff.1 hN.out).1).trans hN.out)
  have hcal:=Lib.hid (hak.out w3 hb4.out)
  clear hl hM hf hb3 hN hkey
  go_wp2_with (refine Calls.mono hcal.out ?_;rintro e w5 ⟨rfl,hb⟩;have hN5:=(hb.block _ (Array.getElem?_eq_some_iff.1 hN4.out).1).trans hN4.out;have hB5:=Lib.hid (hb4.out.trans (hb.mono hb4.out.size));have z0:w5.cell? ⟨w.heap.size+1,0,none⟩=some (.int .i64 0):=(by rw [blk_cell hN5];rfl);have z1:w5.cell? ⟨w.heap.size+1,1,none⟩=some (.int .i64 0):=(by rw [blk_cell hN5];rfl);have z2:w5.cell? ⟨w.heap.size+1,2,none⟩=some (.int .i64 0):=(by rw [blk_cell hN5];rfl);have y0:w5.frozen? ⟨w.heap.size+1,0,none⟩=false:=(by simp [World.frozen?,hN5]);have y1:w5.frozen? ⟨w.heap.size+1,1,none⟩=false:=(by simp [World.frozen?,hN5]);have y2:w5.frozen? ⟨w.heap.size+1,2,none⟩=false:=(by simp [World.frozen?,hN5]);replace hN5:=Lib.hid hN5)
  have hf:=Lib.hid (show Below w.heap.size w (((w5.setCell ⟨w.heap.size+1,0,none⟩ (.int .i64 q1)).setCell ⟨w.heap.size+1,1,none⟩ (.int .i64 q2)).setCell ⟨w.heap.size+1,2,none⟩ (.int .i64 q3)) from ((hB5.out.setCell (p:=⟨w.heap.size+1,0,none⟩) (Nat.le_succ _) _).setCell (p:=⟨w.heap.size+1,1,none⟩) (Nat.le_succ _) _).setCell (p:=⟨w.heap.size+1,2,none⟩) (Nat.le_succ _) _)
  have hN3:=Lib.hid (set_three (v0:=.int .i64 q1) (v1:=.int .i64 q2) (v2:=.int .i64 q3) hN5.out)
  generalize (((w5.setCell ⟨w.heap.size+1,0,none⟩ (.int .i64 q1)).setCell ⟨w.heap.size+1,1,none⟩ (.int .i64 q2)).setCell ⟨w.heap.size+1,2,none⟩ (.int .i64 q3))=w9 at hf hN3 ⊢
  have c0:w9.cell? ⟨w.heap.size+1,0,none⟩=some (.int .i64 q1):=by rw [blk_cell hN3.out];rfl
  have c1:w9.cell? ⟨w.heap.size+1,1,none⟩=some (.int .i64 q2):=by rw [blk_cell hN3.out];rfl
  have c2:w9.cell? ⟨w.heap.size+1,2,none⟩=some (.int .i64 q3):=by rw [blk_cell hN3.out];rfl
  exact bodyPost_ret (v:=.tuple #[.agg #[.int .i64 q1,.int .i64 q2,.int .i64 q3],.bool bs]) (by simp [results,Tryz.results16,go_sem,c0,c1,c2]) rfl ⟨rfl,hf.out⟩
 ·have hno:=hout.out (by omega)
  rw [hno]
  show Calls _ _ _ _ (fun e w'=>e=.returned (.tuple #[.agg #[.int .i64 0,.int .i64 0,.int .i64 0],.bool false])∧Below w.heap.size w w')
  clear hno hout hask
  go_enter Tryz.func16,Tryz.ntmps16
  go_upto_region 1 with fail
  clear hW2
  go_wp2_with (first
   | (go_at_call 33;refine Calls.mono (hqs.out _) ?_;rintro e w3 ⟨b,rfl,hge,⟨f,hM,hf1,hf2⟩,hb3⟩;have hf:=Lib.hid (hf2 r (by omega));replace hM:=Lib.hid hM;have hN5:=(hb3.block _ (by omega)).trans hN.out;have hB5:=Lib.hid (hb0'.out.trans (hb3.mono (by omega)));have z0:w3.cell? ⟨w.heap.size+1,0,none⟩=some (.int .i64 0):=(by rw [blk_cell hN5];rfl);have z1:w3.cell? ⟨w.heap.size+1,1,none⟩=some (.int .i64 0):=(by rw [blk_cell hN5];rfl);have z2:w3.cell? ⟨w.heap.size+1,2,none⟩=some (.int .i64 0):=(by rw [blk_cell hN5];rfl);have y0:w3.frozen? ⟨w.heap.size+1,0,none⟩=false:=(by simp [World.frozen?,hN5]);have y1:w3.frozen? ⟨w.heap.size+1,1,none⟩=false:=(by simp [World.frozen?,hN5]);have y2:w3.frozen? ⟨w.heap.size+1,2,none⟩=false:=(by simp [World.frozen?,hN5]);replace hN5:=Lib.hid hN5;clear hf1 hf2 hb3)
   | (at_lookup;refine wpList_vmap_ok rfl _ _ _ rfl 50 86 lawR Tryz.underlying88 (zeroQ _) b 16 f hM.out rfl _ _ rfl hkey2.out ?_;rw [hf.out];simp only [Option.getD_none,Option.isSome_none]))
  have hf:=Lib.hid (show Below w.heap.size w (((w3.setCell ⟨w.heap.size+1,0,none⟩ (.int .i64 0)).setCell ⟨w.heap.size+1,1,none⟩ (.int .i64 0)).setCell ⟨w.heap.size+1,2,none⟩ (.int .i64 0)) from ((hB5.out.setCell (p:=⟨w.heap.size+1,0,none⟩) (Nat.le_succ _) _).setCell (p:=⟨w.heap.size+1,1,none⟩) (Nat.le_succ _) _).setCell (p:=⟨w.heap.size+1,2,none⟩) (Nat.le_succ _) _)
  have hN3:=Lib.hid (set_three (v0:=.int .i64 0) (v1:=.int .i64 0) (v2:=.int .i64 0) hN5.out)
  generalize (((w3.setCell ⟨w.heap.size+1,0,none⟩ (.int .i64 0)).setCell ⟨w.heap.size+1,1,none⟩ (.int .i64 0)).setCell ⟨w.heap.size+1,2,none⟩ (.int .i64 0))=w9 at hf hN3 ⊢
  have c0:w9.cell? ⟨w.heap.size+1,0,none⟩=some (.int .i64 0):=by rw [blk_cell hN3.out];rfl
  have c1:w9.cell? ⟨w.heap.size+1,1,none⟩=some (.int .i64 0):=by rw [blk_cell hN3.out];rfl
  have c2:w9.cell? ⟨w.heap.size+1,2,none⟩=some (.int .i64 0):=by rw [blk_cell hN3.out];rfl
  exact bodyPost_ret (v:=.tuple #[.agg #[.int .i64 0,.int .i64 0,.int .i64 0],.bool false]) (by simp [results,Tryz.results16,go_sem,c0,c1,c2]) rfl ⟨rfl,hf.out⟩
end
section
open Go.RowKit Go.Maps Go.Shelf Go.WideMaps
theorem pure6 {B:Prt→Bool}:∀{l:List Prt},firstBad (fun (s:Unit) x=>(B x,s)) () l=none→∀x∈l,B x=false
 | [],_=>fun x hx=>by cases hx
 | y::l,h=>fun x hx=>by
  unfold firstBad at h
  simp only at h
  split at h
  ·cases h
  ·rename_i hn
   rcases List.mem_cons.1 hx with rfl | hx
   ·simpa using hn
   ·exact pure6 h x hx
def bodyL6 (f:Nat)(d:Fun):List Prt:=cat (fun b x=>blkL f b d x) d.blocks
theorem in_cat6 {α β:Type}{g:Nat→α→List β}{l:List α}{i:Nat}{z:α}{y:β}(h:l[i]?=some z)(hy:y∈g i z):y∈cat g l:=by
 obtain⟨r,hr⟩:=cat_split (g:=g) h
 rw [hr]
 simp [hy]
theorem in_fn6 {P:List Fun}{f:Nat}{d:Fun}(h:P[f]?=some d):Prt.fn f d∈partsL P:=in_cat6 h (by unfold funL;simp)
theorem body_in6 {P:List Fun}{f:Nat}{d:Fun}(h:P[f]?=some d){y:Prt}(hy:y∈bodyL6 f d):y∈partsL P:=in_cat6 h (by unfold funL;exact List.mem_cons_of_mem _ hy)
theorem in_blk6 {f b:Nat}{d:Fun}{x:Blk}(h:d.blocks[b]?=some x):Prt.blk f b d x∈bodyL6 f d:=in_cat6 h (by unfold blkL;simp)
theorem in_ins6 {f b i:Nat}{d:Fun}{x:Blk}{c:Ins}(h:d.blocks[b]?=some x)(hc:x.code[i]?=some c):Prt.ins f b i d x c∈bodyL6 f d:=in_cat6 h (by unfold blkL;exact List.mem_cons_of_mem _ (in_cat6 hc (by simp)))
theorem none6 {α β:Type}{g:α→β}{o:Option α}(h:o.map g=none):o=none:=by cases o with | none=>rfl | some a=>cases h
structure ShortF (d:Fun):Prop where
 np:d.params.length≤1000
 nb:d.blocks.length≤1000
 nc:∀x∈d.blocks,x.code.length≤1000000
 na:∀x∈d.blocks,∀c∈x.code,c.args.length≤1000∧c.labels.length≤1000
theorem name_size {s:ByteArray}(h:isName s=true):s.size≤64:=by
 unfold isName at h
 simp only [Bool.and_eq_true,decide_eq_true_eq] at h
 exact h.1
theorem oper_size {s:ByteArray}(h:isOperand s=true):s.size≤64:=by
 unfold isOperand at h
 rw [Bool.or_eq_true] at h
 rcases h with h | h
 ·unfold isNull at h
  have e:s.toList=[110,117,108,108]:=by simpa using h
  rw [ByteArray.toList_eq] at e
  have:=congrArg List.length e
  have h9:s.data.toList.length=s.size:=rfl
  simp at this
  omega
 ·exact name_size h
theorem has_size {k:Int}{s:ByteArray}(h0:missB k s=false){p:ByteArray→Bool}(hp:∀s,p s=true→s.size≤64)(h:(hasL k s).all p=true):s.size≤64:=by
 by_cases hk:k=0
 ·subst hk
  have:=miss_none h0
  have h9:(bL s).length=s.size:=rfl
  rw [this] at h9
  simp at h9
  omega
 ·unfold hasL at h
  rw [if_neg hk] at h
  unfold givenL at h
  split at h
  ·rename_i he
   rw [bL_nil] at he
   have h9:(bL s).length=s.size:=rfl
   cases e:bL s with
   | nil=>rw [e] at h9;simp at h9;omega
   | cons _ _=>rw [e] at he;cases he
  ·simp only [List.all_cons,List.all_nil,Bool.and_true] at h
   exact hp s h
theorem list_size {k:Int}{l:List ByteArray}(h0:misB k l.length=false){p:ByteArray→Bool}(hp:∀s,p s=true→s.size≤64)(h:(k != 0&&!l.all p)=false):∀s∈l,s.size≤64:=by
 intro s hs
 by_cases hk:k=0
 ·subst hk
  have:l.length=0:=by
   simp [misB] at h0
   omega
  rw [List.length_eq_zero_iff.1 this] at hs
  cases hs
 ·have h1:(k != 0)=true:=by simpa using hk
  rw [h1,Bool.true_and] at h
  have h2:l.all p=true:=by simpa using h
  exact hp s (List.all_eq_true.1 h2 s hs)
theorem shape_n {op:Int}{s:Shp}(h:shapeN op=some s):0≤s.low∧s.high≤64:=by
 rcases ops_ok h with e | e | e | e | e | e | e | e | e | e | e | e | e | e<;>(rw [e] at h;obtain rfl:=Option.some.inj h;decide)
theorem ins_ok {c:Ins}(h9:badFieldsB c=false)(h2:badNamesB c=false)(ha:c.args.length≤1000)(hl:c.labels.length≤1000):InsOk c:=by
 obtain⟨s,hs,d0,a0,b0,f0,n0,n1,g0,l0,h6⟩:=fields_ok h9
 rw [badNamesB_some hs] at h2
 unfold badNamesS at h2
 simp only [Bool.or_eq_false_iff,Bool.not_eq_false'] at h2
 obtain⟨⟨k1,k2⟩,⟨k3,k4⟩,k5,k6⟩:=h2
 have hsn:=shape_n hs
 have t1:=has_size d0 (fun s=>name_size) k1
 have t2:=has_size f0 (fun s=>name_size) k2
 have t3:=has_size a0 (fun s=>oper_size) k3
 have t4:=has_size b0 (fun s=>oper_size) k4
 have t5:=list_size l0 (fun s=>name_size) k5
 have t6:=list_size g0 (fun s=>oper_size) k6
 exact⟨ha,hl,fun s hs=>by have:=t6 s hs;omega,fun s hs=>by have:=t5 s hs;omega,by omega,by omega,by omega,by omega,by omega,by omega,fun e=>(h6 e).2⟩
theorem fun_ok {P:List Fun}(h2:ruleAt P 2=none)(h9:ruleAt P 9=none)(hs:∀d∈P,ShortF d):∀d∈P,FunOk d:=by
 have r2:=pure6 (none6 h2)
 have r9:=pure6 (none6 h9)
 intro d hd
 obtain⟨f,hf⟩:=List.mem_iff_getElem?.1 hd
 have e1:bad2 (.fn f d)=false:=r2 _ (in_fn6 hf)
 unfold bad2 at e1
 simp only [Bool.or_eq_false_iff,Bool.not_eq_false'] at e1
 have hsd:=hs d hd
 refine⟨hsd.np,fun s hs=>by have:=name_size (List.all_eq_true.1 e1.2 s hs);omega,by have:=name_size e1.1;omega,hsd.nb,fun x hx=>?_⟩
 obtain⟨b,hb⟩:=List.mem_iff_getElem?.1 hx
 have e2:bad2 (.blk f b d x)=false:=r2 _ (body_in6 hf (in_blk6 hb))
 unfold bad2 at e2
 simp only [Bool.not_eq_false'] at e2
 refine⟨by have:=name_size e2;omega,hsd.nc x hx,fun c hc=>?_⟩
 obtain⟨i,hi⟩:=List.mem_iff_getElem?.1 hc
 have e3:badNamesB c=false:=r2 _ (body_in6 hf (in_ins6 hb hi))
 have e4:badFieldsB c=false:=r9 _ (body_in6 hf (in_ins6 hb hi))
 exact⟨ins_ok e4 e3 (hsd.na x hx c hc).1 (hsd.na x hx c hc).2,e4⟩
def brokenP (P:List Fun):Bool:=(ruleAt P 2).isSome || (ruleAt P 9).isSome
def showE (P:List Fun):Nat:=if brokenP P then 5 else if 1048576<(progT P).length then 2 else 0
def showS (P:List Fun):ByteArray:=if brokenP P then ⟨#[]⟩ else if 1048576<(progT P).length then ⟨#[]⟩ else ⟨(progT P).toArray⟩
theorem RdE.mono6 {α:Type}{c:Nat}{R R':World→List Value→α→Prop}{w:World}{v:Value}{L:List α}(hR:∀cs d,R w cs d→R' w cs d)(h:RdE c R w v L):RdE c R' w v L:=by
 rcases h with h | ⟨b,off,cap,e,hb,hc⟩
 ·exact .inl h
 ·exact .inr ⟨b,off,cap,e,hb,fun i d hd=>by
   obtain⟨cs,h1,h2,h3⟩:=hc i d hd
   exact⟨cs,hR cs d h1,h2,h3⟩⟩
theorem RdFunC.plain {w:World}{cs:List Value}{d:Fun}(h:RdFunC w cs d):RdFun w cs d:=by
 obtain⟨vp,vb,e,h1,h2⟩:=h
 refine⟨vp,vb,e,h1.1,RdE.mono6 (fun cs x hx=>?_) h2⟩
 obtain⟨vc,e,h3⟩:=hx
 refine⟨vc,e,RdE.mono6 (fun cs c hc=>?_) h3⟩
 obtain⟨va,vl,e,h4,h5⟩:=hc
 exact⟨va,vl,e,h4.1,h5.1⟩
end
section
open Go.RowKit Go.Maps Go.Shelf Go.WideMaps
attribute [local go_sem] Oper.semAt_some
theorem first6 {P:List Fun}(hP:POkA P){w:World}{v:Value}(h:RdE 3 RdFun w v P){r:Nat}(hr:r<256):Calls Tryz.prog 16 #[.agg #[v],.int .u8 r] w fun e w'=>(∃q1 q2 q3:Nat,e=.returned (.tuple #[.agg #[.int .i64 q1,.int .i64 q2,.int .i64 q3],.bool (ruleAt P r).isSome]))∧Below w.heap.size w w':=by
 refine Calls.mono (first_any hP h hr) ?_
 rintro e w' ⟨rfl,hb⟩
 exact⟨⟨_,_,_,rfl⟩,hb⟩
set_option maxRecDepth 20000 in
set_option maxHeartbeats 16000000 in
theorem print_any {P:List Fun}(hP:POkA P)(hs:∀d∈P,ShortF d)(hpl:P.length≤1000000){w:World}{v:Value}(h:RdE 3 RdFunC w v P):Calls Tryz.prog 10 #[.agg #[v]] w fun e w'=>e=.returned (.tuple #[.string (showS P),.int .i64 (showE P)])∧Below w.heap.size w w':=by
 obtain⟨ap,cp,rfl⟩:=h.form
 obtain⟨n,hn⟩:∃n,n=P.length:=⟨_,rfl⟩
 rw [←hn] at h hpl ⊢
 have hpl':=RdE.mono6 (fun cs d=>RdFunC.plain) h
 obtain⟨W2,hW2⟩:∃W2,w.alloc (.cells #[.slice ap n cp] 24)=W2:=⟨_,rfl⟩
 have hX:W2.heap[w.heap.size]?=some (.cells #[.slice ap n cp] 24 (0,0)):=by rw [←hW2];exact at_newN rfl
 have hw2:Below w.heap.size w W2:=by rw [←hW2];exact (Below.refl _ _).alloc (Nat.le_refl _) _
 have hfst:=Lib.hid (fun (W:World) (hb:Below w.heap.size w W) (r:Nat) (hr:r<256)=>first6 hP (RdE.below (fun _ _ x=>RdFun.below x hb) hpl' hb) hr)
 have hcX:=Lib.hid (fun (W:World) (hn:Nu W2 W)=>(by rw [blk_cell (hn.1.lies hX (by decide))];rfl:W.cell? ⟨w.heap.size,0,none⟩=some (.slice ap n cp)))
 obtain⟨SS,hSS⟩:∃S,S=showS P:=⟨_,rfl⟩
 obtain⟨SE,hSE⟩:∃S,S=showE P:=⟨_,rfl⟩
 rw [←hSS,←hSE]
 replace hSS:=Lib.hid hSS
 replace hSE:=Lib.hid hSE
 replace hW2:=Lib.hid hW2
 replace hw2:=Lib.hid hw2
 replace hn:=Lib.hid hn
 replace hs:=Lib.hid hs
 replace h:=Lib.hid h
 clear hX hpl' hP
 go_enter Tryz.func10,Tryz.ntmps10
 go_upto_region 1 with fail
 rw [hW2.out]
 clear hW2
 have hr3:(W2.alloc (.cells #[.int .u8 2,.int .u8 9] 50)).heap[W2.heap.size]?=some (.cells #[.int .u8 2,.int .u8 9] 50 (0,0)):=heap_alloc_new _ _
 have hb3:Below W2.heap.size W2 (W2.alloc (.cells #[.int .u8 2,.int .u8 9] 50)):=(Below.refl _ _).alloc (Nat.le_refl _) _
 obtain⟨R,hR⟩:∃R,R=W2.heap.size:=⟨_,rfl⟩
 go_upto_block 0 with fail
 rw [←hR] at hr3 ⊢
 have hN3:=Lib.hid (Nu.of_below hb3)
 have hB3:=Lib.hid (hw2.out.trans (hb3.mono hw2.out.size))
 clear hb3 hR
 generalize (W2.alloc (.cells #[.int .u8 2,.int .u8 9] 50))=W3 at hr3 hN3 hB3 ⊢
 have hcR:=Lib.hid (fun (W:World) (hb:Below W3.heap.size W3 W)=>(by
  have e:=(hb.block R (Array.getElem?_eq_some_iff.1 hr3).1).trans hr3
  exact⟨by rw [blk_cell e];rfl,by rw [blk_cell e];rfl,(Array.getElem?_eq_some_iff.1 e).1⟩:W.cell? ⟨R,0,none⟩=some (.int .u8 2)∧W.cell? ⟨R,1,none⟩=some (.int .u8 9)∧R<W.heap.size))
 clear hr3
 go_wp2_with fail
 go_loopw [13] (fun i wr=>∃k:Nat,i=.int .i64 k∧k≤2∧Hid (Below W3.heap.size W3 wr)∧Hid ((1≤k→ruleAt P 2=none)∧(2≤k→ruleAt P 9=none))) (fun i _=>2-(intOf i).toNat)
 case atStart=>exact⟨0,rfl,by decide,Lib.hid (Below.refl _ _),Lib.hid ⟨fun h=>by omega,fun h=>by omega⟩⟩
 case round=>
  obtain⟨k,rfl,hk,hB,hz⟩:=hrel
  by_cases hk2:k<2
  ·have i1:(k:Int)<2:=by omega
   obtain⟨r,hr,hr2⟩:∃r:Nat,wr.cell? ⟨R,k,none⟩=some (.int .u8 r)∧((k=0∧r=2)∨(k=1∧r=9)):=by
    rcases (by omega:k=0∨k=1) with rfl | rfl
    ·exact⟨2,(hcR.out wr hB.out).1,.inl ⟨rfl,rfl⟩⟩
    ·exact⟨9,(hcR.out wr hB.out).2.1,.inr ⟨rfl,rfl⟩⟩
   have hRl:=(hcR.out wr hB.out).2.2
   have hBw:=Lib.hid (hB3.out.trans (hB.out.mono hB3.out.size))
   have cX:=hcX.out wr (hN3.out.trans (Nu.of_below hB.out))
   have hcall:=Lib.hid (hfst.out wr hBw.out r (by omega))
   replace hr2:=Lib.hid hr2
   replace hB:=Lib.hid hB
   replace hz:=Lib.hid hz
   go_wp2_with fail
   refine hcall.out.mono ?_
   rintro e w5 ⟨⟨q1,q2,q3,rfl⟩,hb5⟩
   have hB5:=Lib.hid (hB.out.out.trans (hb5.mono hB.out.out.size))
   dsimp only
   clear hcall hr cX hRl hb5
   cases hx:(ruleAt P r).isSome with
   | true=>
    have hbk:brokenP P=true:=by
     unfold brokenP
     rcases hr2.out with ⟨-,rfl⟩ | ⟨-,rfl⟩<;>rw [hx]<;>simp
    have e1:SS=⟨#[]⟩:=by rw [hSS.out];unfold showS;rw [if_pos hbk]
    have e2:SE=5:=by rw [hSE.out];unfold showE;rw [if_pos hbk]
    subst e1 e2
    have hBe:=Lib.hid (hB3.out.trans (hB5.out.mono hB3.out.size))
    have hfin:=Lib.hid (hBe.out.alloc hBe.out.size (.cells #[.int .i64 q1,.int .i64 q2,.int .i64 q3] 53))
    clear hx hbk
    go_wp2_with fail
    go_ret2
    exact⟨rfl,hfin.out⟩
   | false=>
    have hno:ruleAt P r=none:=by simpa using hx
    have hz2:=Lib.hid (show (1≤k+1→ruleAt P 2=none)∧(2≤k+1→ruleAt P 9=none) from by
     rcases hr2.out with ⟨rfl,rfl⟩ | ⟨rfl,rfl⟩
     ·exact⟨fun _=>hno,fun h=>by omega⟩
     ·exact⟨fun _=>hz.out.out.1 (by omega),fun _=>hno⟩)
    have hB6:=Lib.hid (hB5.out.alloc hB5.out.size (.cells #[.int .i64 q1,.int .i64 q2,.int .i64 q3] 53))
    clear hx hno
    go_wp2_with fail
    go_roundw
    case rel=>exact⟨k+1,by go_num,by omega,hB6,hz2⟩
    case measure=>simp [intOf];omega
  ·have i1:decide ((k:Int)<2)=false:=by simp;omega
   obtain rfl:k=2:=by omega
   have hn2:=hz.out.1 (by decide)
   have hn9:=hz.out.2 (by decide)
   have hBw:=Lib.hid (hB3.out.trans (hB.out.mono hB3.out.size))
   have hNw:=Lib.hid (hN3.out.trans (Nu.of_below hB.out))
   have hbk:brokenP P=false:=by unfold brokenP;rw [hn2,hn9];rfl
   have hok:=Lib.hid (fun_ok hn2 hn9 hs.out)
   replace hbk:=Lib.hid hbk
   replace hB:=Lib.hid hB
   clear hz hn2 hn9 hcR hfst
   go_wp2_with fail
   refine (forms_any _).mono ?_
   rintro e w4 ⟨mb,f,rfl,hge,hM,hall,hb4⟩
   dsimp only
   have hNf:=Nu.of_below hb4
   have hB4:=hBw.out.trans (hb4.mono hBw.out.size)
   have hb:Below w4.heap.size w4 (w4.alloc (.cells #[.pointer none,.slice none 0 0,.map (some mb)] 64)):=(Below.refl _ _).alloc (Nat.le_refl _) _
   have hw0:WrAt w.heap.size w4.heap.size [] (.map (some mb)) (w4.alloc (.cells #[.pointer none,.slice none 0 0,.map (some mb)] 64)):=⟨⟨_,_,.inl rfl,heap_alloc_new _ _,World.ownsRow_nil _ _ _ _,by simp [Value.ownBlock],fun _=>rfl⟩,hB4.size⟩
   have hM5:=hM.nu (Nu.of_below hb)
   have hall5:=Lib.hid (fun κ h1 h2=>(by obtain⟨v,e1,e2⟩:=hall κ h1 h2;exact⟨v,e1,e2.keep (Stays.of_below hb)⟩:∃v,f (.int .u8 (κ:Nat))=some v∧FormAt (w4.alloc (.cells #[.pointer none,.slice none 0 0,.map (some mb)] 64)) v (formG κ) (formR κ) 2010))
   have hN5:=Lib.hid (hNw.out.trans (hNf.trans (Nu.of_below hb)))
   have hB5:=Lib.hid (hB4.trans (hb.mono hB4.size))
   have cX:=hcX.out _ hN5.out
   replace hw0:=Lib.hid hw0
   replace hM5:=Lib.hid hM5
   clear hge hM hall hb4 hNf hB4 hb
   obtain⟨b,hbe⟩:∃b,b=w4.heap.size:=⟨_,rfl⟩
   go_upto_block 2 with fail
   rw [←hbe] at hw0 ⊢
   clear hbe
   generalize (w4.alloc (.cells #[.pointer none,.slice none 0 0,.map (some mb)] 64))=W5 at hw0 hM5 hall5 hN5 hB5 cX ⊢
   go_wp2_with fail
   clear cX
   go_loopw [31] (fun i wr=>∃j:Nat,i=.int .i64 j∧j≤n∧Hid (WrAt w.heap.size b (progT (P.take j)) (.map (some mb)) wr∧Below w.heap.size w wr∧Nu W5 wr∧(progT (P.take j)).length≤1048576)) (fun i _=>n-(intOf i).toNat)
   case atStart=>exact⟨0,rfl,Nat.zero_le _,Lib.hid ⟨hw0.out,hB5.out,Nu.refl _,by simp [progT]⟩⟩
   case round=>
    clear hw0
    obtain⟨j,rfl,hj,hI⟩:=hrel
    by_cases hjn:j<n
    ·have i2:(j:Int)<(n:Int):=by omega
     obtain⟨d,hd⟩:∃d,P[j]?=some d:=⟨_,List.getElem?_eq_getElem (by rw [←hn.out];exact hjn)⟩
     obtain⟨g,off,cap,cs,e,hgl,⟨vp,vb,rfl,rp,rb⟩,-,hcell⟩:=h.out.at hd
     rw [←hn.out] at e
     simp only [Value.slice.injEq] at e
     obtain⟨rfl,-,rfl⟩:=e
     obtain⟨a1,c1,rfl,hc1,-⟩:=rp.cells
     obtain⟨a2,c2,rfl⟩:=rb.form
     have e0:wr.cell? ⟨g,off+j*3,none⟩=some (.string d.name):=keepB hI.out.2.1 hgl (hcell 0 _ rfl)
     have e1:=keepB hI.out.2.1 hgl (hcell 1 _ rfl)
     have e2:=keepB hI.out.2.1 hgl (hcell 2 _ rfl)
     have hgw:g<wr.heap.size:=Nat.lt_of_lt_of_le hgl hI.out.2.1.size
     have hbd:Below wr.heap.size wr (wr.alloc (.cells #[.string d.name,.slice a1 d.params.length c1,.slice a2 d.blocks.length c2] 40)):=(Below.refl _ _).alloc (Nat.le_refl _) _
     have hZ:(wr.alloc (.cells #[.string d.name,.slice a1 d.params.length c1,.slice a2 d.blocks.length c2] 40)).heap[wr.heap.size]?=some (.cells #[.string d.name,.slice a1 d.params.length c1,.slice a2 d.blocks.length c2] 40 (0,0)):=heap_alloc_new _ _
     have hNd:=hI.out.2.2.1.trans (Nu.of_below hbd)
     have hfn:=Lib.hid (func_any (wP:=w) (hI.out.2.1.trans (hbd.mono hI.out.2.1.size)) (hI.out.1.below hbd) (hM5.out.nu hNd) (fun κ h1 h2=>by obtain⟨v,e1,e2⟩:=hall5.out κ h1 h2;exact⟨v,e1,e2.keep hNd.1⟩) rp rb (hok.out d (List.mem_of_getElem? hd)) hI.out.2.2.2)
     replace hNd:=Lib.hid hNd
     replace hd:=Lib.hid hd
     replace hI:=Lib.hid hI
     replace rp:=Lib.hid rp
     replace rb:=Lib.hid rb
     obtain⟨Z,hZe⟩:∃Z,Z=wr.heap.size:=⟨_,rfl⟩
     clear hcell hgl hc1
     go_upto_region 12 with fail
     rw [←hZe] at hZ ⊢
     clear hZe e0 e1 e2 hgw hbd
     generalize (wr.alloc (.cells #[.string d.name,.slice a1 d.params.length c1,.slice a2 d.blocks.length c2] 40))=Wd at hZ hNd hfn ⊢
     obtain⟨z0,z1,z2⟩:Wd.cell? ⟨Z,0,none⟩=some (.string d.name)∧Wd.cell? ⟨Z,1,none⟩=some (.slice a1 d.params.length c1)∧Wd.cell? ⟨Z,2,none⟩=some (.slice a2 d.blocks.length c2):=⟨by rw [blk_cell hZ];rfl,by rw [blk_cell hZ];rfl,by rw [blk_cell hZ];rfl⟩
     clear hZ
     go_wp2_with fail
     refine hfn.out.mono ?_
     rintro e w6 ⟨rfl,L',hF6,hcase⟩
     dsimp only
     have hlg:=Lib.hid (long6_any hF6.us.at_)
     replace hF6:=Lib.hid hF6
     replace hcase:=Lib.hid hcase
     clear hfn z0 z1 z2
     go_wp2_with fail
     refine hlg.out.mono ?_
     rintro e w7 ⟨rfl,hw7⟩
     obtain rfl:=hw7.symm
     clear hw7 hlg
     dsimp only
     by_cases hq:1048576<L'.length
     ·have i3:decide ((1048576:Int)<(L'.length:Int))=true:=by simp;omega
      have hpr:∃R,progT P=L'++R:=by
       have e3:P=P.take j++d::P.drop (j+1):=by
        obtain⟨hj2,hj3⟩:=List.getElem?_eq_some_iff.1 hd.out
        rw [←hj3,←List.drop_eq_getElem_cons hj2,List.take_append_drop]
       have e4:progT P=(progT (P.take j)++funT d)++progT (P.drop (j+1)):=by
        conv=>lhs;rw [e3]
        simp [progT]
       rcases hcase.out with e5 | ⟨-,R1,e5⟩
       ·exact⟨_,by rw [e4,e5]⟩
       ·exact⟨R1++progT (P.drop (j+1)),by rw [e4,e5,List.append_assoc]⟩
      have hlp:1048576<(progT P).length:=by
       obtain⟨R1,e5⟩:=hpr
       rw [e5,List.length_append]
       omega
      have e1:SS=⟨#[]⟩:=by rw [hSS.out];unfold showS;rw [if_neg (by rw [hbk.out];decide),if_pos hlp]
      have e2:SE=2:=by rw [hSE.out];unfold showE;rw [if_neg (by rw [hbk.out];decide),if_pos hlp]
      subst e1 e2
      have hfin:=Lib.hid hF6.out.bel
      clear hF6 hcase hpr hlp
      go_wp2_with fail
      go_ret2
      exact⟨rfl,hfin.out⟩
     ·have i3:decide ((1048576:Int)<(L'.length:Int))=false:=by simp;omega
      have hI7:=Lib.hid (show WrAt w.heap.size b (progT (P.take (j+1))) (.map (some mb)) w6∧Below w.heap.size w w6∧Nu W5 w6∧(progT (P.take (j+1))).length≤1048576 from by
       have e4:progT (P.take (j+1))=L':=by
        rcases hcase.out with e5 | ⟨e5,-⟩
        ·rw [e5,take_snocT hd.out]
         simp [progT]
        ·exact absurd e5 hq
       rw [e4]
       exact⟨hF6.out.us.at_,hF6.out.bel,hNd.out.trans hF6.out.nu,by omega⟩)
      clear hF6 hcase
      go_wp2_with fail
      go_roundw
      case rel=>exact⟨j+1,by go_num,by omega,hI7⟩
      case measure=>simp [intOf];omega
    ·have i2:decide ((j:Int)<(n:Int))=false:=by simp;omega
     obtain rfl:j=n:=by omega
     have eP:P.take j=P:=List.take_of_length_le (by rw [←hn.out];exact Nat.le_refl _)
     obtain⟨h1,h2,-,h4⟩:=hI.out
     rw [eP] at h1 h4
     have e1:SS=⟨(progT P).toArray⟩:=by rw [hSS.out];unfold showS;rw [if_neg (by rw [hbk.out];decide),if_neg (by omega)]
     have e2:SE=0:=by rw [hSE.out];unfold showE;rw [if_neg (by rw [hbk.out];decide),if_neg (by omega)]
     subst e1 e2
     have htx:=Lib.hid (wtext_any h1 h2.size)
     replace h2:=Lib.hid h2
     replace hI:=Lib.hid hI
     clear h1 h4
     go_wp2_with fail
     refine htx.out.mono ?_
     rintro e w6 ⟨rfl,hb6⟩
     dsimp only
     have hfin:=Lib.hid (h2.out.trans hb6)
     clear htx hb6
     go_wp2_with fail
     go_ret2
     exact⟨rfl,hfin.out⟩
end
section
open Go.RowKit Go.Maps Go.Shelf Go.WideMaps
theorem rde6_block {α:Type}{c:Nat}{R:World→List Value→α→Prop}{w:World}{b n:Nat}{t:TypeId}{cs:Array Value}{L:List α}(h:w.heap[b]?=some (.cells cs t (0,0)))(hn:n=L.length)(hL:∀i d,L[i]?=some d→∃l,R w l d∧l.length=c∧∀j u,l[j]?=some u→cs[i*c+j]?=some u):RdE c R w (.slice (some ⟨b,0,none⟩) n n) L:=by
 subst hn
 refine .inr ⟨b,0,_,rfl,(Array.getElem?_eq_some_iff.1 h).1,fun i d hi=>?_⟩
 obtain⟨l,h1,h2,h3⟩:=hL i d hi
 exact⟨l,h1,h2,fun j u hj=>by rw [blk_cell h,Nat.zero_add];exact h3 j u hj⟩
theorem at6_row {cs:Array Value}{l:List Value}{k n:Nat}(h:(cs.toList.drop k).take n=l){j:Nat}{u:Value}(hj:l[j]?=some u):cs[k+j]?=some u:=by
 subst h
 rw [List.getElem?_take] at hj
 split at hj
 ·rw [List.getElem?_drop] at hj
  simpa using hj
 ·cases hj
theorem rdc_block {w:World}{b:Nat}{ss:List ByteArray}{t:TypeId}(h:w.heap[b]?=some (.cells (ss.map Value.string).toArray t (0,0))):RdC w (.slice (some ⟨b,0,none⟩) ss.length ss.length) ss:=by
 refine RdC.of (Array.getElem?_eq_some_iff.1 h).1 (Nat.le_refl _) (fun j s hj=>?_)
 rw [blk_cell h]
 simp [hj]
def exP:List Fun:=[⟨⟨#[102]⟩,[⟨#[112]⟩,⟨#[113]⟩],[⟨⟨#[97]⟩,[⟨6,⟨#[104]⟩,⟨#[]⟩,⟨#[]⟩,0,⟨#[]⟩,[⟨#[120]⟩,⟨#[110,117,108,108]⟩],[⟨#[97]⟩,⟨#[98]⟩]⟩]⟩]⟩]
theorem exP_ok:POkA exP:=by
 refine⟨⟨?_,?_,?_,?_,?_⟩,?_⟩
 ·simp [exP,Fun.Fits,Blk.Fits,Ins.Fits,maxLen]
  decide
 all_goals simp [exP]
theorem exP_short:∀d∈exP,ShortF d:=by
 intro d hd
 rw [List.mem_singleton.1 hd]
 refine⟨by decide,by decide,fun x hx=>?_,fun x hx c hc=>?_⟩
 ·rw [List.mem_singleton.1 hx];decide
 ·rw [List.mem_singleton.1 hx] at hc
  rw [List.mem_singleton.1 hc];decide
theorem exP_E:showE exP=0:=by decide +kernel
theorem exP_S:showS exP=⟨#[102,117,110,99,32,102,40,112,44,32,113,41,32,123,10,97,58,10,32,32,104,32,61,32,112,104,105,32,91,97,58,32,120,44,32,98,58,32,110,117,108,108,93,10,125,10]⟩:=by decide +kernel
theorem exP_read {W:World}{s:Nat}(h0:W.heap[s]?=some (.cells #[.string ⟨#[112]⟩,.string ⟨#[113]⟩] 9 (0,0)))(h1:W.heap[s+1]?=some (.cells #[.string ⟨#[120]⟩,.string ⟨#[110,117,108,108]⟩] 9 (0,0)))(h2:W.heap[s+1+1]?=some (.cells #[.string ⟨#[97]⟩,.string ⟨#[98]⟩] 9 (0,0)))(h3:W.heap[s+1+1+1]?=some (.cells #[.int .u8 6,.string ⟨#[104]⟩,.string ⟨#[]⟩,.string ⟨#[]⟩,.int .i64 0,.string ⟨#[]⟩,.slice (some ⟨s+1,0,none⟩) 2 2,.slice (some ⟨s+1+1,0,none⟩) 2 2] 46 (0,0)))(h4:W.heap[s+1+1+1+1]?=some (.cells #[.string ⟨#[97]⟩,.slice (some ⟨s+1+1+1,0,none⟩) 1 1] 43 (0,0)))(h5:W.heap[s+1+1+1+1+1]?=some (.cells #[.string ⟨#[102]⟩,.slice (some ⟨s,0,none⟩) 2 2,.slice (some ⟨s+1+1+1+1,0,none⟩) 1 1] 40 (0,0))):RdE 3 RdFunC W (.slice (some ⟨s+1+1+1+1+1,0,none⟩) 1 1) exP:=by
 refine rde6_block h5 rfl (fun i d hi=>?_)
 obtain⟨rfl,rfl⟩:=one_at6 hi
 refine⟨_,⟨.slice (some ⟨s,0,none⟩) 2 2,.slice (some ⟨s+1+1+1+1,0,none⟩) 1 1,rfl,rdc_block (ss:=[⟨#[112]⟩,⟨#[113]⟩]) h0,?_⟩,rfl,fun j u hj=>?_⟩
 ·refine rde6_block h4 rfl (fun i d hi=>?_)
  obtain⟨rfl,rfl⟩:=one_at6 hi
  refine⟨_,⟨.slice (some ⟨s+1+1+1,0,none⟩) 1 1,rfl,?_⟩,rfl,fun j u hj=>?_⟩
  ·refine rde6_block h3 rfl (fun i d hi=>?_)
   obtain⟨rfl,rfl⟩:=one_at6 hi
   exact⟨_,⟨.slice (some ⟨s+1,0,none⟩) 2 2,.slice (some ⟨s+1+1,0,none⟩) 2 2,rfl,rdc_block (ss:=[⟨#[120]⟩,⟨#[110,117,108,108]⟩]) h1,rdc_block (ss:=[⟨#[97]⟩,⟨#[98]⟩]) h2⟩,rfl,fun j u hj=>at6_row (n:=8) rfl hj⟩
  ·exact at6_row (n:=2) rfl hj
 ·exact at6_row (n:=3) rfl hj
set_option maxRecDepth 20000 in
set_option maxHeartbeats 4000000 in
theorem tells_any (w:World):Calls Tryz.prog 8 #[] w fun e w'=>e=.returned (.bool true)∧Below w.heap.size w w':=by
 obtain⟨W6,hW6⟩:∃W6,((((((w.alloc (.cells #[.string ⟨#[112]⟩,.string ⟨#[113]⟩] 9)).alloc (.cells #[.string ⟨#[120]⟩,.string ⟨#[110,117,108,108]⟩] 9)).alloc (.cells #[.string ⟨#[97]⟩,.string ⟨#[98]⟩] 9)).alloc (.cells #[.int .u8 6,.string ⟨#[104]⟩,.string ⟨#[]⟩,.string ⟨#[]⟩,.int .i64 0,.string ⟨#[]⟩,.slice (some ⟨w.heap.size+1,0,none⟩) 2 2,.slice (some ⟨w.heap.size+1+1,0,none⟩) 2 2] 46)).alloc (.cells #[.string ⟨#[97]⟩,.slice (some ⟨w.heap.size+1+1+1,0,none⟩) 1 1] 43)).alloc (.cells #[.string ⟨#[102]⟩,.slice (some ⟨w.heap.size,0,none⟩) 2 2,.slice (some ⟨w.heap.size+1+1+1+1,0,none⟩) 1 1] 40))=W6:=⟨_,rfl⟩
 have hR:RdE 3 RdFunC W6 (.slice (some ⟨w.heap.size+1+1+1+1+1,0,none⟩) 1 1) exP:=by
  rw [←hW6]
  exact exP_read (s:=w.heap.size) (at_oldN (at_oldN (at_oldN (at_oldN (at_oldN (at_newN rfl)))))) (at_oldN (at_oldN (at_oldN (at_oldN (at_newN (by simp)))))) (at_oldN (at_oldN (at_oldN (at_newN (by simp))))) (at_oldN (at_oldN (at_newN (by simp)))) (at_oldN (at_newN (by simp))) (at_newN (by simp))
 have hB:Below w.heap.size w W6:=by
  rw [←hW6]
  exact (((((Below.refl _ _).alloc (Nat.le_refl _) _).alloc (by simp) _).alloc (by simp;omega) _).alloc (by simp;omega) _).alloc (by simp;omega) _ |>.alloc (by simp;omega) _
 have hp:=Lib.hid (print_any exP_ok exP_short (by decide) hR)
 rw [exP_E,exP_S] at hp
 replace hB:=Lib.hid hB
 replace hW6:=Lib.hid hW6
 clear hR
 go_enter Tryz.func8,Tryz.ntmps8
 go_wp2_with fail
 rw [hW6.out]
 clear hW6
 refine hp.out.mono ?_
 rintro e w2 ⟨rfl,hb2⟩
 dsimp only
 go_wp2_with fail
 go_ret
 exact⟨rfl,hB.out.trans (hb2.mono hB.out.size)⟩
end
section
open Go.RowKit Go.Maps Go.Shelf Go.WideMaps
attribute [local go_sem] Oper.semAt_some
theorem join_snoc (sep:List UInt8):∀(l:List (List UInt8)) (x:List UInt8),l≠[]→Lib.join (l++[x]) sep=Lib.join l sep++sep++x
 | [],_,h=>absurd rfl h
 | [y],x,_=>by
  show Lib.join (y::x::[]) sep=_
  rw [join_cons2,join1,join1]
 | y::z::r,x,_=>by
  have ih:=join_snoc sep (z::r) x (by simp)
  show Lib.join (y::z::(r++[x])) sep=_
  rw [join_cons2,join_cons2]
  have e:Lib.join (z::(r++[x])) sep=Lib.join ((z::r)++[x]) sep:=rfl
  rw [e,ih]
  simp
def ltB (ws:List ByteArray):List UInt8:=40::Lib.join (ws.map bL) [44,32]
theorem lt_len {ws:List ByteArray}(hn:ws.length≤1000)(hs:∀s∈ws,s.size≤1600):(ltB ws).length≤3300001:=by
 have:=join_len [44,32] 1600 (by decide) (ws.map bL) (fun x hx=>by
  obtain⟨s,h,rfl⟩:=List.mem_map.1 hx
  exact hs s h)
 rw [List.length_map] at this
 unfold ltB
 rw [List.length_cons]
 omega
set_option maxRecDepth 20000 in
set_option maxHeartbeats 4000000 in
theorem list6_any {w:World}{v:Value}{ws:List ByteArray}(h:RdS w v ws)(hn:ws.length≤1000)(hs:∀s∈ws,s.size≤1600):Calls Tryz.prog 22 #[v] w fun e w'=>(∃s,e=.returned (.string s)∧bL s=brkT 40 41 (ws.map bL))∧w'=w:=by
 obtain⟨a,c,rfl⟩:=h.shape
 obtain⟨n,hne⟩:∃n,n=ws.length:=⟨_,rfl⟩
 rw [←hne] at h hn ⊢
 have hcell:=Lib.hid (fun k (hk:k<n)=>(by
  obtain⟨s,he⟩:∃s,ws[k]?=some s:=⟨_,List.getElem?_eq_getElem (by rw [←hne];exact hk)⟩
  obtain⟨b,off,cap,e,hc⟩:=h.cell he
  exact⟨s,b,off,he,by cases e;rfl,hc⟩:∃s b off,ws[k]?=some s∧a=some ⟨b,off,none⟩∧w.cell? ⟨b,off+k,none⟩=some (.string s)))
 have hwl:ws.length≤1000:=by rw [←hne];exact hn
 replace hne:=Lib.hid hne
 clear h
 go_enter Tryz.func22,Tryz.ntmps22
 go_upto_block 0 with fail
 go_wp2_with fail
 go_loopw [3,4] (fun s i wr=>∃k:Nat,∃S:ByteArray,s=.string S∧i=.int .i64 k∧k≤n∧Hid (bL S=ltB (ws.take k))∧wr=w) (fun _ i _=>n-(intOf i).toNat)
 case atStart=>exact⟨0,_,rfl,rfl,Nat.zero_le _,Lib.hid rfl,rfl⟩
 case round=>
  obtain⟨k,S,rfl,rfl,hk,hS,rfl⟩:=hrel
  by_cases hkn:k<n
  ·have i1:(k:Int)<(n:Int):=by omega
   obtain⟨s,b,off,he,rfl,hc⟩:=hcell.out k hkn
   have hSl:S.size≤3300001:=by
    have h9:(bL S).length=S.size:=rfl
    rw [←h9,hS.out]
    exact lt_len (by rw [List.length_take];omega) (fun z hz=>hs z (List.mem_of_mem_take hz))
   have hsl:=hs s (List.mem_of_getElem? he)
   have hbl:b<wr.heap.size:=cell_size hc
   by_cases hk0:0<k
   ·have g1:decide ((k:Int) > 0)=true:=by simp;omega
    have q1:¬9223372036854775807<S.size+2:=by omega
    have q2:¬9223372036854775807<S.size+2+s.size:=by omega
    have hS2:=Lib.hid (show bL (S++⟨#[44,32]⟩++s)=ltB (ws.take (k+1)) from by
     rw [bL_app,bL_app,hS.out,take_snocT he]
     unfold ltB
     rw [List.map_append,List.map_cons,List.map_nil,join_snoc _ _ _ (by intro e;have h1:((ws.take k).map bL).length=0:=(by rw [e];rfl);rw [List.length_map,List.length_take] at h1;have h2:=hne.out;omega)]
     simp
     rfl)
    clear hS he hSl hsl
    go_wp2_with fail
    go_roundw
    case rel=>exact⟨k+1,_,rfl,by go_num,by omega,hS2,by first | rfl | trivial⟩
    case measure=>simp [intOf];omega
   ·have hk00:=Lib.hid (show k=0 from by omega)
    have g1:decide ((k:Int) > 0)=false:=by simp;omega
    have q1:¬9223372036854775807<S.size+s.size:=by omega
    have hS2:=Lib.hid (show bL (S++s)=ltB (ws.take (k+1)) from by
     rw [bL_app,hS.out,take_snocT he,hk00.out]
     unfold ltB
     simp [join1,Lib.join])
    clear hS he hSl hsl
    go_wp2_with fail
    go_roundw
    case rel=>exact⟨k+1,_,rfl,by go_num,by omega,hS2,by first | rfl | trivial⟩
    case measure=>simp [intOf];omega
  ·have i1:decide ((k:Int)<(n:Int))=false:=by simp;omega
   obtain rfl:k=n:=by omega
   have e0:ws.take k=ws:=List.take_of_length_le (by rw [←hne.out];exact Nat.le_refl _)
   have hSl:S.size≤3300001:=by
    have h9:(bL S).length=S.size:=rfl
    rw [←h9,hS.out,e0]
    exact lt_len (by rw [←hne.out];exact hn) hs
   have q1:¬9223372036854775807<S.size+1:=by omega
   have hR:=Lib.hid (show bL (S++⟨#[41]⟩)=brkT 40 41 (ws.map bL) from by
    rw [bL_app,hS.out,e0]
    rfl)
   clear hS hSl
   go_wp2_with fail
   go_ret
   exact⟨⟨_,rfl,hR.out⟩,rfl⟩
end
section
open Go.RowKit Go.Maps Go.Shelf Go.WideMaps
attribute [local go_sem] Oper.semAt_some
def dgB (n:Nat):ByteArray:=⟨#[UInt8.ofNat (48+n)]⟩
theorem digit_run {n:Nat}(hn:n<10)(w:World):(Instr.slice 9 (.string ⟨#[48,49,50,51,52,53,54,55,56,57]⟩) (some (.int .i64 (n:Int))) (some (.int .i64 ((n:Int)+1))) none).run Tryz.prog w=.ok (.string (dgB n)) w:=by
 rcases (by omega:n=0∨n=1∨n=2∨n=3∨n=4∨n=5∨n=6∨n=7∨n=8∨n=9) with rfl | rfl | rfl | rfl | rfl | rfl | rfl | rfl | rfl | rfl
 all_goals kernel_rfl
set_option maxRecDepth 20000 in
set_option maxHeartbeats 1000000 in
theorem dec6_one {n:Nat}(hn:n<10)(w:World):Calls Tryz.prog 61 #[.int .i64 n] w fun e w'=>(∃s,e=.returned (.string s)∧bL s=Lib.decDigits n∧s.size≤2)∧Below w.heap.size w w':=by
 have g1:decide ((n:Int)<10)=true:=by simp;omega
 have v1:n<10:=hn
 have m1:IntKind.i64.wrap ((n:Int)+1)=(n:Int)+1:=by rw [IntKind.wrap_i64];omega
 have hd:=fun w=>digit_run hn w
 have hR:=Lib.hid (show bL (dgB n)=Lib.decDigits n from by rw [Lib.decDigits,dif_pos hn];rfl)
 go_enter Tryz.func61,Tryz.ntmps61
 go_wp2_with fail
 go_ret
 exact⟨⟨_,rfl,hR.out,by show 1≤2;decide⟩,Below.refl _ _⟩
set_option maxRecDepth 20000 in
set_option maxHeartbeats 1000000 in
theorem dec6_any {n:Nat}(hn:n<100)(w:World):Calls Tryz.prog 61 #[.int .i64 n] w fun e w'=>(∃s,e=.returned (.string s)∧bL s=Lib.decDigits n∧s.size≤2)∧Below w.heap.size w w':=by
 by_cases h10:n<10
 ·exact dec6_one h10 w
 ·have g1:decide ((n:Int)<10)=false:=by simp;omega
  obtain⟨q,hq⟩:∃q,q=n/10:=⟨_,rfl⟩
  obtain⟨r,hr⟩:∃r,r=n%10:=⟨_,rfl⟩
  have hq10:q<10:=by omega
  have hr10:r<10:=by omega
  have hd:=fun w=>digit_run hr10 w
  have m1:IntKind.i64.wrap ((r:Int)+1)=(r:Int)+1:=by rw [IntKind.wrap_i64];omega
  have m5:IntKind.i64.wrap (q:Int)=(q:Int):=by rw [IntKind.wrap_i64];omega
  have e1:Int.tdiv (n:Int) 10=(q:Int):=by rw [hq];simp [Int.tdiv]
  have e2:Int.tmod (n:Int) 10=(r:Int):=by rw [hr];simp [Int.tmod]
  have hD:Lib.decDigits n=Lib.decDigits q++[UInt8.ofNat (48+r)]:=by rw [Lib.decDigits,dif_neg h10,hq,hr]
  replace hD:=Lib.hid hD
  have hrec:=Lib.hid (fun W=>dec6_one hq10 W)
  have v1:¬(n<10):=h10
  have hC:True:=trivial
  clear hq hr
  go_enter Tryz.func61,Tryz.ntmps61
  go_upto_region 3 with fail
  refine wp_region_held_drew (S:=(fun _=>True)) (by kernel_rfl) hC (fun hHeld=>?_)
  clear hHeld
  refine wpAnyH_take (i:=0) (oi:=(.mk (some 9) (.move (.tmp 0)) 3 "ref.go:14" #[] none)) (v:=?_) rfl (by kernel_rfl) (by kernel_rfl) (by kernel_rfl) (fun _ _ _ h=>h) (Or.inl ⟨by rfl,?_⟩) hC ?_
  rotate_left
  ·(intro w hSw;(try dsimp only at hSw);go_simp;try with_reducible rfl)
  try simp only [Act.put,List.setIfInBounds_toArray,List.set_cons_zero,List.set_cons_succ]
  refine wpAnyH_take (i:=1) (oi:=(.mk (some 10) (.binOp BinOp.quo 3 (.tmp 9) (.const (Value.int IntKind.i64 10)) 3) 3 "ref.go:14" #[.mk 0 .data] none)) (v:=?_) rfl (by kernel_rfl) (by kernel_rfl) (by kernel_rfl) (fun _ _ _ h=>h) (Or.inl ⟨by rfl,?_⟩) hC ?_
  rotate_left
  ·(intro w hSw;(try dsimp only at hSw);go_simp;try with_reducible rfl)
  try simp only [Act.put,List.setIfInBounds_toArray,List.set_cons_zero,List.set_cons_succ]
  refine wpAnyH_take (i:=3) (oi:=(.mk (some 12) (.move (.tmp 0)) 3 "ref.go:14" #[] none)) (v:=?_) rfl (by kernel_rfl) (by kernel_rfl) (by kernel_rfl) (fun _ _ _ h=>h) (Or.inl ⟨by rfl,?_⟩) hC ?_
  rotate_left
  ·(intro w hSw;(try dsimp only at hSw);go_simp;try with_reducible rfl)
  try simp only [Act.put,List.setIfInBounds_toArray,List.set_cons_zero,List.set_cons_succ]
  refine wpAnyH_take (i:=4) (oi:=(.mk (some 13) (.binOp BinOp.rem 3 (.tmp 12) (.const (Value.int IntKind.i64 10)) 3) 3 "ref.go:14" #[.mk 3 .data] none)) (v:=?_) rfl (by kernel_rfl) (by kernel_rfl) (by kernel_rfl) (fun _ _ _ h=>h) (Or.inl ⟨by rfl,?_⟩) hC ?_
  rotate_left
  ·(intro w hSw;(try dsimp only at hSw);go_simp;try with_reducible rfl)
  try simp only [Act.put,List.setIfInBounds_toArray,List.set_cons_zero,List.set_cons_succ]
  refine wpAnyH_take (i:=5) (oi:=(.mk (some 14) (.move (.tmp 0)) 3 "ref.go:14" #[] none)) (v:=?_) rfl (by kernel_rfl) (by kernel_rfl) (by kernel_rfl) (fun _ _ _ h=>h) (Or.inl ⟨by rfl,?_⟩) hC ?_
  rotate_left
  ·(intro w hSw;(try dsimp only at hSw);go_simp;try with_reducible rfl)
  try simp only [Act.put,List.setIfInBounds_toArray,List.set_cons_zero,List.set_cons_succ]
  refine wpAnyH_take (i:=6) (oi:=(.mk (some 15) (.binOp BinOp.rem 3 (.tmp 14) (.const (Value.int IntKind.i64 10)) 3) 3 "ref.go:14" #[.mk 5 .data] none)) (v:=?_) rfl (by kernel_rfl) (by kernel_rfl) (by kernel_rfl) (fun _ _ _ h=>h) (Or.inl ⟨by rfl,?_⟩) hC ?_
  rotate_left
  ·(intro w hSw;(try dsimp only at hSw);go_simp;try with_reducible rfl)
  try simp only [Act.put,List.setIfInBounds_toArray,List.set_cons_zero,List.set_cons_succ]
  refine wpAnyH_take (i:=7) (oi:=(.mk (some 16) (.binOp BinOp.add 3 (.tmp 15) (.const (Value.int IntKind.i64 1)) 3) 3 "ref.go:14" #[.mk 6 .data] none)) (v:=?_) rfl (by kernel_rfl) (by kernel_rfl) (by kernel_rfl) (fun _ _ _ h=>h) (Or.inl ⟨by rfl,?_⟩) hC ?_
  rotate_left
  ·(intro w hSw;(try dsimp only at hSw);go_simp;try with_reducible rfl)
  try simp only [Act.put,List.setIfInBounds_toArray,List.set_cons_zero,List.set_cons_succ]
  refine wpAnyH_take (i:=8) (oi:=(.mk (some 17) (.slice 9 (.const (Value.string (ByteArray.mk #[48,49,50,51,52,53,54,55,56,57]))) (some (.tmp 13)) (some (.tmp 16)) none) 9 "ref.go:14" #[.mk 4 .data,.mk 7 .data] none)) (v:=?_) rfl (by kernel_rfl) (by kernel_rfl) (by kernel_rfl) (fun _ _ _ h=>h) (Or.inl ⟨by rfl,?_⟩) hC ?_
  rotate_left
  ·(intro w hSw;(try dsimp only at hSw);go_simp;try with_reducible rfl)
  try simp only [Act.put,List.setIfInBounds_toArray,List.set_cons_zero,List.set_cons_succ]
  refine wpAnyH_ready (rs:=[2]) (by kernel_rfl) (by simp) (AllReadyH.cons (o:=(.mk (some 11) (.call (.mk (.value (.func 61)) #[(.tmp 10)] #[3])) 9 "ref.go:14" #[.mk 1 .data] none)) rfl (fun K hK=>?_) AllReadyH.nil)
  go_simp
  (go_at_call 61;refine Calls.mono (hrec.out _) ?_;rintro e w3 ⟨⟨s3,rfl,hs3,hz3⟩,hb⟩)
  have hB3:=Lib.hid (show Below w.heap.size w w3 from (Below.drew (Below.refl w.heap.size w)).trans hb)
  have q1:¬9223372036854775807<s3.size+(dgB r).size:=by show ¬9223372036854775807<s3.size+1;omega
  have hfin:=Lib.hid (show bL (s3++dgB r)=Lib.decDigits n∧(s3++dgB r).size≤2 from by
   have h1:bL (s3++dgB r)=Lib.decDigits n:=by
    rw [bL_app,hs3,hD.out]
    rfl
   have h2:(bL (s3++dgB r)).length=(s3++dgB r).size:=rfl
   exact⟨h1,by rw [←h2,h1];exact dec_len n hn⟩)
  clear hb
  refine hK.out _ _ hC (fun hHeld=>?_)
  clear hK K hHeld
  try simp only [Act.put,List.setIfInBounds_toArray,List.set_cons_zero,List.set_cons_succ]
  refine wpAnyH_take (i:=9) (oi:=(.mk (some 18) (.binOp BinOp.add 9 (.tmp 11) (.tmp 17) 9) 9 "ref.go:14" #[.mk 2 .data,.mk 8 .data] none)) (v:=?_) rfl (by kernel_rfl) (by kernel_rfl) (by kernel_rfl) (fun _ _ _ h=>h) (Or.inl ⟨by rfl,?_⟩) hC ?_
  rotate_left
  ·(intro w hSw;(try dsimp only at hSw);go_simp;try with_reducible rfl)
  try simp only [Act.put,List.setIfInBounds_toArray,List.set_cons_zero,List.set_cons_succ]
  refine wpAnyH_take (i:=10) (oi:=(.mk (some 2) (.assign (.tmp 18)) 9 "ref.go:14" #[.mk 9 .data,.mk 2 .chain,.mk 0 .phase,.mk 1 .phase,.mk 2 .phase,.mk 3 .phase,.mk 4 .phase,.mk 5 .phase,.mk 6 .phase,.mk 7 .phase,.mk 8 .phase,.mk 9 .phase] none)) (v:=?_) rfl (by kernel_rfl) (by kernel_rfl) (by kernel_rfl) (fun _ _ _ h=>h) (Or.inl ⟨by rfl,?_⟩) hC ?_
  rotate_left
  ·(intro w hSw;(try dsimp only at hSw);go_simp;try with_reducible rfl)
  try simp only [Act.put,List.setIfInBounds_toArray,List.set_cons_zero,List.set_cons_succ]
  refine wpAnyH_done (by kernel_rfl) ?_ _
  go_wp2_with fail
  go_ret
  exact⟨⟨_,rfl,hfin.out.1,hfin.out.2⟩,hB3.out⟩
end
end Go.Proofs.YtknkiaedgeejiaaGreatDoor
