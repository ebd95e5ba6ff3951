/- NUsed. -/
import Derived.Test.YtknkiaedgeejiaaGreatDoorSP9
import Derived.Deep.AppendLies
namespace Go.Proofs.YtknkiaedgeejiaaGreatDoor
set_option linter.unusedVariables false
set_option linter.unusedSimpArgs false
section
open Go.RowKit Go.Maps Go.Shelf
attribute [local go_sem] Oper.semAt_some
theorem step_append_rd {P:Program}{ops:Array Oper}{o:Oper}{a:Act}{K:Act→World→Prop}{Q:Exit→Act→World→Prop}{E:Prop}(w:World)(hgd:o.guard=none)(s x:Operand)(t:TypeId)
  (ho:o.op=.call {callee:=.builtin .append,args:=#[s,x],argTypes:=#[t,t]})
  (base:Nat) (e:TypeId) (i:TypeInfo) (z:Value) (bytes:Nat) (ht:P.underlying t=some (.slice e)) (hi:P.info? e=some i) (hz:i.zero=some z)
  (hsize:i.size=1) (hby:i.bytes=bytes) (hzs:z.cells.size=1)
  (v:Value) (n:Nat) (xs:List Value) (hs:a.eval s=v) (hown:w.ownsRow base e 1 v n xs)
  (sv:Value) (news:List Value) (hx:a.eval x=sv) (hrd:Rd w sv news) (h1:∀u∈news,u.oneCell'=true)
  (h63:n+news.length≤maxLen) (hbytes:(n+news.length)*bytes≤140737488355328) (hbase:base≤w.heap.size)
  (h:∀v' w',w'.ownsRow base e 1 v' (n+news.length) (xs++news)→w.grownBy w' v.ownBlock→K (a.put o.dst v') w'):
  if Region.wanted o (yielded ops a.tmps)=true then Oper.wp P o a w K Q else E:=by
 have hw:Region.wanted o (yielded ops a.tmps)=true:=by simp [Region.wanted,hgd]
 rw [if_pos hw]
 have key:∀(ad:Addr) (m c:Nat),sv=.slice (some ad) m c→news.length=m*1→(∀j u,news[j]?=some u→w.cell? (ad.add j)=some u)→o.wp P a w K Q:=by
  intro ad m c e1 hl hnews
  obtain⟨v',w',hr,h2,h3,_,h5⟩:=run_append_own_at (P:=P) w base t o.type e i z 1 bytes ht hi hz hsize hby hzs (by decide) v n xs hown ad m c news hl hnews h1 (by rw [Nat.mul_one] at hl;omega) (by rw [Nat.mul_one] at hl;rw [←hl];exact hbytes) hbase
  unfold Oper.wp execOp
  simp only [ho,resolve,invoke,builtin,Sem.run_bind,Sem.run_pure,Result.andThen_ok,List.map_toArray,List.map_cons,List.map_nil,hs,hx,e1,hr]
  exact h v' w' (by rw [Nat.mul_one] at hl;rw [hl];exact h2) h3
 rcases hrd with ⟨rfl,rfl | ⟨ad,c,rfl⟩⟩ | ⟨b,off,cap,rfl,hlt,hc⟩
 ·have hrun:=run_append_owned_none (P:=P) (w:=w) base t o.type e i 1 ht hi v n xs hown
  unfold Oper.wp
  simp [execOp,ho,resolve,invoke,builtin,hs,hx,hrun,Result.andThen]
  exact h v w (by simpa using hown) (World.grownBy.refl w _)
 ·exact key ad 0 c rfl (by simp) (fun j u hu=>by simp at hu)
 ·exact key ⟨b,off,none⟩ news.length cap rfl (by simp) (fun j u hj=>by
   have e2:(⟨b,off,none⟩:Addr).add j=⟨b,off+j,none⟩:=by
    unfold Addr.add
    split<;>simp_all
   rw [e2];exact hc j u hj)
def usedB (s:ByteArray):Bool:=!s.toList.isEmpty&&!isNull s
def usesL (c:Ins):List ByteArray:=(c.a::c.b::c.args).filter usedB
theorem used_call (v:Option Addr)(w:World):Calls Tryz.prog 153 #[.pointer v] w fun e w'=>e=.returned (.func (.func 171) #[] #[.pointer (some ⟨w.heap.size,0,none⟩)])∧w'=w.alloc (.cells #[.pointer v] 135):=by
 go_enter Tryz.func153,Tryz.ntmps153
 go_wp2
 go_ret
 exact⟨rfl,rfl⟩
theorem conj4 {w w':World}{p1 p2 p3 p4:Addr}{v1 v2 v3 v4:Value}(hk:∀{p:Addr} {v:Value},w.cell? p=some v→w'.cell? p=some v)
  (h:w.cell? p1=some v1∧w.cell? p2=some v2∧w.cell? p3=some v3∧w.cell? p4=some v4):
  w'.cell? p1=some v1∧w'.cell? p2=some v2∧w'.cell? p3=some v3∧w'.cell? p4=some v4:=
 ⟨hk h.1,hk h.2.1,hk h.2.2.1,hk h.2.2.2⟩
theorem drop_at {α:Type}{l:List α}{k:Nat}{x:α}(h:l[k]?=some x):l.drop k=x::l.drop (k+1):=by
 obtain⟨hk,e⟩:=List.getElem?_eq_some_iff.1 h
 rw [List.drop_eq_getElem_cons hk,e]
theorem keepT {w w':World}{p:Addr}{v:Value}(h:Touch w w' (fun _=>False))(hc:w.cell? p=some v):w'.cell? p=some v:=by
 rw [←hc]
 unfold World.cell?
 rw [h.block p.block (cell_size hc) (fun h=>h)]
theorem row_of_block {w:World}{g base:Nat}{cs:List Value}{t:TypeId}(h:w.heap[g]?=some (.cells cs.toArray t (0,0)))(hb:base≤g)(hl:cs.length≤maxLen):w.ownsRow base t 1 (.slice (some ⟨g,0,none⟩) cs.length cs.length) cs.length cs:=
 ⟨by simp,.inr ⟨g,cs.length,cs.toArray,rfl,hb,h,Nat.le_refl _,hl,by simp,by simp⟩⟩
theorem rds_row {w:World}{base n:Nat}{v:Value}{ss:List ByteArray}{t:TypeId}(h:w.ownsRow base t 1 v n (ss.map Value.string)):RdS w v ss:=by
 have hn:n=ss.length:=by have:=h.1;simp at this;omega
 rcases h.2 with ⟨rfl,h0⟩ | ⟨g,cap,cur,rfl,h1,h2,h3,h4,h5,h6⟩
 ·exact .inl ⟨List.map_eq_nil_iff.2 (List.eq_nil_of_length_eq_zero (by omega)),.inl rfl⟩
 ·refine Or.inr ⟨g,0,cap,by simp [hn],(h.lt g rfl).2,fun k u hu=>?_⟩
  have:=h.cells (g:=g) rfl k u hu
  rw [add0] at this
  rw [Nat.zero_add]
  exact this
theorem rangeFunc_calm {α:Type}{F:Fence}{n:Nat}{P:Program}{g:Operand}{ps:Array Tmp}{assign body:Code}{Q:Exit→Act→World→Prop}{a:Act}{w:World}
  (hro:F.round=none) (h1:1≤n) {gf:Nat} {lb:Array Value} (hg:a.eval g=.func (.func gf) #[] lb) (hFg:F.fn gf) (eg:∀args w,(callFunc gf args).run P w=.ok (.enter gf args) w)
  (Is:List α→α→Array Value→World→Prop) (Kp:World→World→Prop) (I:List α→World→Prop) (Ix:World→Prop) (Ax:List α→α→Act→World→Prop) (all:List α)
  (hsz:∀pre x vs W,Is pre x vs W→vs.size=ps.size)
  (hcalm:∀pre W W',I pre W→Touch W W' (fun _=>False)→I pre W')
  (hI:∀pre W r,I pre W→W.heap[w.heap.size+1]?=some (.loop r)→∀r',I pre (W.putObj (w.heap.size+1) (.loop r')))
  (hIx:∀W r,Ix W→W.heap[w.heap.size+1]?=some (.loop r)→∀r',Ix (W.putObj (w.heap.size+1) (.loop r')))
  (hAx:∀pre x a' W r,Ax pre x a' W→W.heap[w.heap.size+1]?=some (.loop r)→∀r',Ax pre x a' (W.putObj (w.heap.size+1) (.loop r')))
  (hKt:∀{A B C:World},Kp A B→Kp B C→Kp A C) (hKp:∀W r r',W.heap[w.heap.size+1]?=some (.loop r)→Kp W (W.putObj (w.heap.size+1) (.loop r')))
  (h0:∀r,I [] ((w.alloc (.deferred (some []))).alloc (.loop r)))
  (hseq:∀(J:List α→World→Prop) (Jx:World→Prop) (r:Loop),(∀pre W W',J pre W→Touch W W' (fun _=>False)→J pre W')→(∀pre x vs W1,Is pre x vs W1→J pre W1→YieldAt F (n-1-1) P (w.heap.size+1) vs W1 fun e W'=>(e=.returned (.bool true)∧J (pre++[x]) W'∧Kp W1 W')∨(e=.returned (.bool false)∧Jx W'))→
   J [] ((w.alloc (.deferred (some []))).alloc (.loop r))→CallsIn F (n-1) P gf (#[.func (.yield (w.heap.size+1)) #[] #[]]++lb) ((w.alloc (.deferred (some []))).alloc (.loop r)) fun e W'=>(∃v,e=.returned v)∧(J all W'∨Jx W'))
  (hassign:∀pre x vs W (K:Act→World→Prop),Is pre x vs W→I pre W→w.heap.size+2≤W.heap.size→(∀a' W',Ax pre x a' W'→W'.heap[w.heap.size]?=W.heap[w.heap.size]?→W'.heap[w.heap.size+1]?=W.heap[w.heap.size+1]?→Kp W W'→K a' W')→
   assign.wpIn (F.inRound (w.heap.size+1)) (n-1-1) P (Exit.then K (fun _ _ _=>False)) {tmps:=(ps.zip vs).foldl (fun t (p,v)=>t.setIfInBounds p v) a.tmps,defers:=[]} W)
  (hbody:∀pre x a' W,Ax pre x a' W→w.heap.size+2≤W.heap.size→body.wpIn (F.inRound (w.heap.size+1)) (n-1-1) P (leftP w.heap.size (w.heap.size+1) (I (pre++[x])) Ix Kp W) a' W)
  (hdone:∀W,I all W→W.heap[w.heap.size]?=some (.deferred (some []))→Q .normal {a with defers:={target:=.collected w.heap.size,args:=#[]}::a.defers} W)
  (hstop:∀W,Ix W→W.heap[w.heap.size]?=some (.deferred (some []))→Code.ret.wpIn F n P Q {a with defers:={target:=.collected w.heap.size,args:=#[]}::a.defers} W):
  (Code.rangeFunc g ps assign body).wpIn F n P Q a w:=by
 refine wpIn_rangeFunc ?_
 intro fn hfn
 rw [hro]
 obtain⟨rc,hrc⟩:∃rc:LoopState→Option Code→Loop,rc=fun st pe=>{state:=st,pending:=pe,fn,tmps:=a.tmps,params:=ps,assign,body,defers:=w.heap.size}:=⟨_,rfl⟩
 obtain⟨W1,hW1⟩:∃W1,(w.alloc (.deferred (some []))).alloc (.loop (rc .ready none))=W1:=⟨_,rfl⟩
 have hL1:W1.heap[w.heap.size+1]?=some (.loop (rc .ready none)):=by rw [←hW1];exact at_newN (by simp)
 have hD1:W1.heap[w.heap.size]?=some (.deferred (some [])):=by rw [←hW1];exact at_oldN (at_newN rfl)
 refine⟨w.heap.size+1,[{target:=.collected w.heap.size,args:=#[]}],W1,{target:=.fn (.func gf) lb,args:=#[.func (.yield (w.heap.size+1)) #[] #[]]},W1,gf,
  #[.func (.yield (w.heap.size+1)) #[] #[]]++lb,W1,?_,?_,?_,?_,fun _=>h1,?_⟩
 ·rw [←hW1,hrc];exact run_enterLoop_outer _ _ _ _ _
 ·simp only [resolve,hg]
  simp [go_sem]
 ·intro f' hf';simp [Target.leads] at hf';subst hf';exact hFg
 ·simp [invoke,go_sem,eg]
 ·have hq:=hseq (fun pre W=>I pre W∧W.heap[w.heap.size+1]?=some (.loop (rc .ready none))∧W.heap[w.heap.size]?=some (.deferred (some [])))
   (fun W=>Ix W∧W.heap[w.heap.size+1]?=some (.loop (rc .done (some .ret)))∧W.heap[w.heap.size]?=some (.deferred (some []))) (rc .ready none) ?calm ?_ (by rw [hW1];exact⟨by rw [←hW1];exact h0 _,hL1,hD1⟩)
  case calm=>
   rintro pre Wa Wb ⟨k1,k2,k3⟩ hT
   exact⟨hcalm _ _ _ k1 hT,(hT.block _ (Array.getElem?_eq_some_iff.1 k2).1 (fun h=>h)).trans k2,(hT.block _ (Array.getElem?_eq_some_iff.1 k3).1 (fun h=>h)).trans k3⟩
  ·rw [hW1] at hq
   refine hq.mono ?_
   rintro e W2 ⟨⟨v,rfl⟩,⟨hi,hl,hd⟩ | ⟨hi,hl,hd⟩⟩
   ·exact⟨none,_,by have:=run_endLoop (P:=P) hl (by rw [hrc];simp);rw [hrc] at this;exact this,hdone _ (hI _ _ _ hi hl _) ((World.putObj_heap_other (by omega)).trans hd)⟩
   ·exact⟨some .ret,_,by have:=run_endLoop (P:=P) hl (by rw [hrc];simp);rw [hrc] at this;exact this,hstop _ (hIx _ _ hi hl _) ((World.putObj_heap_other (by omega)).trans hd)⟩
  ·rintro pre x vs W hx ⟨hi,hl,hd⟩
   have hlt:=(Array.getElem?_eq_some_iff.1 hl).1
   have hy:=run_yield (P:=P) (args:=vs) hl (by rw [hrc];exact hsz pre x vs W hx)
   rw [hrc] at hy
   refine⟨fn,_,assign,body,hy,roundIn_of_wpIn hfn (hassign pre x vs W _ hx hi (by omega) ?_)⟩
   intro a' Wa hax hda hla hka
   rw [hl] at hla
   rw [hd] at hda
   have hlta:=(Array.getElem?_eq_some_iff.1 hla).1
   refine⟨_,run_beginRound hla (by rw [hrc]),?_⟩
   obtain⟨Wb,hWb⟩:∃Wb,Wa.putObj (w.heap.size+1) (.loop {rc .ready none with state:=.busy})=Wb:=⟨_,rfl⟩
   have hlb:Wb.heap[w.heap.size+1]?=some (.loop {rc .ready none with state:=.busy}):=by rw [←hWb];exact World.putObj_heap_same hlta
   have hdb:Wb.heap[w.heap.size]?=some (.deferred (some [])):=by rw [←hWb];exact (World.putObj_heap_other (by omega)).trans hda
   have hkb:Kp Wa Wb:=by rw [←hWb];exact hKp _ _ _ hla
   have haxb:Ax pre x a' Wb:=by rw [←hWb];exact hAx _ _ _ _ _ hax hla _
   rw [hWb]
   refine wpIn_mono (hbody pre x a' Wb haxb (by have:=(Array.getElem?_eq_some_iff.1 hlb).1;omega)) ?_
   rintro e a3 W3 hp
   cases e with
   | normal=>
    obtain⟨k1,k2,k3,k4⟩:=hp
    rw [hlb] at k2
    rw [hdb] at k1
    have:=run_endRound (P:=P) none k2
    rw [hrc] at this
    refine⟨_,_,this,.inl ⟨rfl,⟨hI _ _ _ k3 k2 _,?_,(World.putObj_heap_other (by omega)).trans k1⟩,hKt hka (hKt hkb (hKt k4 (hKp _ _ _ k2)))⟩⟩
    rw [World.putObj_heap_same (Array.getElem?_eq_some_iff.1 k2).1,hrc]
    rfl
   | ret=>
    obtain⟨k1,k2,k3⟩:=hp
    rw [hlb] at k2
    rw [hdb] at k1
    have:=run_endRound (P:=P) (some .ret) k2
    rw [hrc] at this
    refine⟨_,_,this,.inr ⟨rfl,hIx _ _ k3 k2 _,?_,(World.putObj_heap_other (by omega)).trans k1⟩⟩
    rw [World.putObj_heap_same (Array.getElem?_eq_some_iff.1 k2).1,hrc]
    rfl
   | exit id=>exact hp.elim
   | goto t=>exact hp.elim
   | panic ch=>exact hp.elim
   | outgrown=>exact hp.elim
set_option maxRecDepth 100000 in
set_option maxHeartbeats 4000000 in
theorem used_in (n:Nat)(hn:1≤n)(r:Nat)(J:List ByteArray→World→Prop)(Jx:World→Prop){c:Ins}{W:World}{Bu b3 o3 Lb:Nat}(hbox:W.heap[Bu]?=some (.cells #[.pointer (some ⟨b3,o3,none⟩)] 135 (0,0)))(hI:InsAt W b3 o3 c)(hal:c.args.length≤4000000000000)(hLb:Lb<W.heap.size)
  (hcalm:∀pre W1 W2,J pre W1→Touch W1 W2 (fun _=>False)→J pre W2)
  (hY:∀pre x rest W1,usesL c=pre++x::rest→J pre W1→YieldAt Fence.wide (n-1) Tryz.prog r #[.string x] W1 fun e W'=>
   (e=.returned (.bool true)∧J (pre++[x]) W'∧Touch W1 W' (fun k=>k=Lb))∨(e=.returned (.bool false)∧Jx W'))
  (h0:J [] W):
  CallsIn Fence.wide n Tryz.prog 171 #[.func (.yield r) #[] #[],.pointer (some ⟨Bu,0,none⟩)] W fun e W'=>(∃v,e=.returned v)∧(J (usesL c) W'∨Jx W'):=by
 obtain⟨aa,ac,la,lc,r1,-,-,-,c2,c3,-,-,c6,-⟩:=hI.cells
 have cb:W.cell? ⟨Bu,0,none⟩=some (.pointer (some ⟨b3,o3,none⟩)):=by rw [blk_cell hbox];rfl
 obtain⟨i0,hi0,hz0,hz1,hz2⟩:=info_parts infoStrN
 have hC:W.drew.cell? ⟨Bu,0,none⟩=some (.pointer (some ⟨b3,o3,none⟩))∧W.drew.cell? ⟨b3,o3+2,none⟩=some (.string c.a)∧W.drew.cell? ⟨b3,o3+3,none⟩=some (.string c.b)∧W.drew.cell? ⟨b3,o3+6,none⟩=some (.slice aa c.args.length ac):=⟨cb,c2,c3,c6⟩
 have hC0:Hid (W.cell? ⟨Bu,0,none⟩=some (.pointer (some ⟨b3,o3,none⟩))∧W.cell? ⟨b3,o3+2,none⟩=some (.string c.a)∧W.cell? ⟨b3,o3+3,none⟩=some (.string c.b)∧W.cell? ⟨b3,o3+6,none⟩=some (.slice aa c.args.length ac)):=Lib.hid ⟨cb,c2,c3,c6⟩
 replace r1:RdS W.drew _ _:=Rd.below r1 (Below.refl _ _).drew
 have hT:=Lib.hid ((Touch.refl W (fun _=>False)).drew)
 have hU:∃L,L=c.a::c.b::c.args:=⟨_,rfl⟩
 obtain⟨L,hL⟩:=hU
 have hUL:=Lib.hid (show usesL c=L.filter usedB from by rw [hL];rfl)
 have hJ0:=Lib.hid h0
 generalize usesL c=U at hUL hY ⊢
 obtain⟨m,hm⟩:∃m,m=c.args.length:=⟨_,rfl⟩
 have hLm:L.length=m+2:=by rw [hL,hm];simp
 have hmm:m≤4000000000000:=by omega
 rw [←hm] at hC r1 hC0
 have hargs:=Lib.hid (show [Value.string c.a,Value.string c.b]++c.args.map Value.string=L.map Value.string from by rw [hL];rfl)
 have hal2:(c.args.map Value.string).length=m:=by rw [List.length_map,hm]
 replace hL:=Lib.hid hL
 replace hm:=Lib.hid hm
 replace hLm:=Lib.hid hLm
 replace hcalm:=Lib.hid hcalm
 replace hY:=Lib.hid hY
 clear c2 c3 c6 cb hbox hI hal h0
 refine callsIn_of_wp Tryz.func171 rfl trivial ?_ rfl
 simp only [Tryz.ntmps171,List.size_toArray,List.length_cons,List.length_nil,Nat.reduceAdd,Nat.reduceSub,Array.replicate_succ,Array.replicate_zero,List.push_toArray,List.append_toArray,List.nil_append,List.cons_append]
 gi_wp2
 refine wpIn_wide.2 ?_
 refine wp_region_held_drew (S:=(fun w'=>w'.cell? ⟨Bu,0,none⟩=some (.pointer (some ⟨b3,o3,none⟩))∧w'.cell? ⟨b3,o3+2,none⟩=some (.string c.a)∧w'.cell? ⟨b3,o3+3,none⟩=some (.string c.b)∧w'.cell? ⟨b3,o3+6,none⟩=some (.slice aa m ac))) (by kernel_rfl) hC (fun hHeld=>?_)
 clear hHeld
 refine wpAnyH_take (i:=0) (oi:=(.mk (some 5) (.load 135 (.tmp 1)) 135 "names.go:104" #[] none)) (v:=?_) rfl (by kernel_rfl) (by kernel_rfl) (by kernel_rfl) (fun _ _ _ h=>h) (Or.inl ⟨by rfl,?_⟩) hC ?_
 rotate_left
 ·(intro w hSw;(try dsimp only at hSw);go_simp;try with_reducible rfl)
 try simp only [Act.put,List.setIfInBounds_toArray,List.set_cons_zero,List.set_cons_succ]
 refine wpAnyH_take (i:=1) (oi:=(.mk (some 6) (.nilCheck (.tmp 5)) 0 "names.go:104" #[.mk 0 .data] none)) (v:=?_) rfl (by kernel_rfl) (by kernel_rfl) (by kernel_rfl) (fun _ _ _ h=>h) (Or.inl ⟨by rfl,?_⟩) hC ?_
 rotate_left
 ·(intro w hSw;(try dsimp only at hSw);go_simp;try with_reducible rfl)
 try simp only [Act.put,List.setIfInBounds_toArray,List.set_cons_zero,List.set_cons_succ]
 refine wpAnyH_take (i:=2) (oi:=(.mk (some 7) (.fieldAddr 46 (.tmp 6) 2) 0 "names.go:104" #[.mk 1 .data] none)) (v:=?_) rfl (by kernel_rfl) (by kernel_rfl) (by kernel_rfl) (fun _ _ _ h=>h) (Or.inl ⟨by rfl,?_⟩) hC ?_
 rotate_left
 ·(intro w hSw;(try dsimp only at hSw);go_simp;try with_reducible rfl)
 try simp only [Act.put,List.setIfInBounds_toArray,List.set_cons_zero,List.set_cons_succ]
 refine wpAnyH_take (i:=3) (oi:=(.mk (some 8) (.load 9 (.tmp 7)) 9 "names.go:104" #[.mk 2 .data] none)) (v:=?_) rfl (by kernel_rfl) (by kernel_rfl) (by kernel_rfl) (fun _ _ _ h=>h) (Or.inl ⟨by rfl,?_⟩) hC ?_
 rotate_left
 ·(intro w hSw;(try dsimp only at hSw);go_simp;try with_reducible rfl)
 try simp only [Act.put,List.setIfInBounds_toArray,List.set_cons_zero,List.set_cons_succ]
 refine wpAnyH_take (i:=4) (oi:=(.mk (some 9) (.load 135 (.tmp 1)) 135 "names.go:104" #[] none)) (v:=?_) rfl (by kernel_rfl) (by kernel_rfl) (by kernel_rfl) (fun _ _ _ h=>h) (Or.inl ⟨by rfl,?_⟩) hC ?_
 rotate_left
 ·(intro w hSw;(try dsimp only at hSw);go_simp;try with_reducible rfl)
 try simp only [Act.put,List.setIfInBounds_toArray,List.set_cons_zero,List.set_cons_succ]
 refine wpAnyH_take (i:=5) (oi:=(.mk (some 10) (.nilCheck (.tmp 9)) 0 "names.go:104" #[.mk 4 .data] none)) (v:=?_) rfl (by kernel_rfl) (by kernel_rfl) (by kernel_rfl) (fun _ _ _ h=>h) (Or.inl ⟨by rfl,?_⟩) hC ?_
 rotate_left
 ·(intro w hSw;(try dsimp only at hSw);go_simp;try with_reducible rfl)
 try simp only [Act.put,List.setIfInBounds_toArray,List.set_cons_zero,List.set_cons_succ]
 refine wpAnyH_take (i:=6) (oi:=(.mk (some 11) (.fieldAddr 46 (.tmp 10) 3) 0 "names.go:104" #[.mk 5 .data] none)) (v:=?_) rfl (by kernel_rfl) (by kernel_rfl) (by kernel_rfl) (fun _ _ _ h=>h) (Or.inl ⟨by rfl,?_⟩) hC ?_
 rotate_left
 ·(intro w hSw;(try dsimp only at hSw);go_simp;try with_reducible rfl)
 try simp only [Act.put,List.setIfInBounds_toArray,List.set_cons_zero,List.set_cons_succ]
 refine wpAnyH_take (i:=7) (oi:=(.mk (some 12) (.load 9 (.tmp 11)) 9 "names.go:104" #[.mk 6 .data] none)) (v:=?_) rfl (by kernel_rfl) (by kernel_rfl) (by kernel_rfl) (fun _ _ _ h=>h) (Or.inl ⟨by rfl,?_⟩) hC ?_
 rotate_left
 ·(intro w hSw;(try dsimp only at hSw);go_simp;try with_reducible rfl)
 try simp only [Act.put,List.setIfInBounds_toArray,List.set_cons_zero,List.set_cons_succ]
 refine wpAnyH_take (i:=9) (oi:=(.mk (some 14) (.load 135 (.tmp 1)) 135 "names.go:104" #[] none)) (v:=?_) rfl (by kernel_rfl) (by kernel_rfl) (by kernel_rfl) (fun _ _ _ h=>h) (Or.inl ⟨by rfl,?_⟩) hC ?_
 rotate_left
 ·(intro w hSw;(try dsimp only at hSw);go_simp;try with_reducible rfl)
 try simp only [Act.put,List.setIfInBounds_toArray,List.set_cons_zero,List.set_cons_succ]
 refine wpAnyH_take (i:=10) (oi:=(.mk (some 15) (.nilCheck (.tmp 14)) 0 "names.go:104" #[.mk 9 .data] none)) (v:=?_) rfl (by kernel_rfl) (by kernel_rfl) (by kernel_rfl) (fun _ _ _ h=>h) (Or.inl ⟨by rfl,?_⟩) hC ?_
 rotate_left
 ·(intro w hSw;(try dsimp only at hSw);go_simp;try with_reducible rfl)
 try simp only [Act.put,List.setIfInBounds_toArray,List.set_cons_zero,List.set_cons_succ]
 refine wpAnyH_take (i:=11) (oi:=(.mk (some 16) (.fieldAddr 46 (.tmp 15) 6) 0 "names.go:104" #[.mk 10 .data] none)) (v:=?_) rfl (by kernel_rfl) (by kernel_rfl) (by kernel_rfl) (fun _ _ _ h=>h) (Or.inl ⟨by rfl,?_⟩) hC ?_
 rotate_left
 ·(intro w hSw;(try dsimp only at hSw);go_simp;try with_reducible rfl)
 try simp only [Act.put,List.setIfInBounds_toArray,List.set_cons_zero,List.set_cons_succ]
 refine wpAnyH_take (i:=12) (oi:=(.mk (some 17) (.load 37 (.tmp 16)) 37 "names.go:104" #[.mk 11 .data] none)) (v:=?_) rfl (by kernel_rfl) (by kernel_rfl) (by kernel_rfl) (fun _ _ _ h=>h) (Or.inl ⟨by rfl,?_⟩) hC ?_
 rotate_left
 ·(intro w hSw;(try dsimp only at hSw);go_simp;try with_reducible rfl)
 try simp only [Act.put,List.setIfInBounds_toArray,List.set_cons_zero,List.set_cons_succ]
 refine wpAnyH_take (i:=15) (oi:=(.mk (some 20) (.move (.const (Value.int IntKind.i64 0))) 3 "names.go:104" #[] none)) (v:=?_) rfl (by kernel_rfl) (by kernel_rfl) (by kernel_rfl) (fun _ _ _ h=>h) (Or.inl ⟨by rfl,?_⟩) hC ?_
 rotate_left
 ·(intro w hSw;(try dsimp only at hSw);go_simp;try with_reducible rfl)
 try simp only [Act.put,List.setIfInBounds_toArray,List.set_cons_zero,List.set_cons_succ]
 refine wpAnyH_ready (rs:=[8]) (by kernel_rfl) (by simp) (AllReadyH.cons (o:=(.mk (some 13) (.buildSlice 37 2 #[(0,(.tmp 8)),(1,(.tmp 12))]) 37 "names.go:104" #[.mk 3 .data,.mk 7 .data] none)) rfl (fun K hK=>?_) AllReadyH.nil)
 go_simp
 (have hb9:=box_below W.drew (.cells #[.string c.a,.string c.b] 9);replace hC:=conj4 (fun h=>keepC hb9 h) hC;replace r1:=Rd.below r1 hb9;replace hT:=Lib.hid (hT.out.trans (Touch.of_below hb9 _));have hrow:=row_of_block (w:=W.drew.alloc (.cells #[.string c.a,.string c.b] 9)) (g:=W.heap.size) (base:=W.heap.size) (cs:=[.string c.a,.string c.b]) (at_newN rfl) (Nat.le_refl _) (by simp [maxLen]))
 refine hK.out _ _ hC (fun hHeld=>?_)
 clear hK K hHeld
 try simp only [Act.put,List.setIfInBounds_toArray,List.set_cons_zero,List.set_cons_succ]
 refine wpAnyH_ready (rs:=[13]) (by kernel_rfl) (by simp) (AllReadyH.cons (o:=(.mk (some 18) (.call (.mk (.builtin Builtin.append) #[(.tmp 13),(.tmp 17)] #[37,37])) 37 "names.go:104" #[.mk 8 .data,.mk 12 .data] none)) rfl (fun K hK=>?_) AllReadyH.nil)
 (refine step_append_rd _ rfl _ _ 37 rfl W.heap.size 9 i0 (.string ⟨#[]⟩) 16 Tryz.underlying37 hi0 hz0 hz1 hz2 rfl _ 2 _ rfl hrow _ (c.args.map Value.string) rfl r1 (fun u hu=>by obtain⟨s,-,rfl⟩:=List.mem_map.1 hu;rfl) (by rw [hal2];unfold maxLen;omega) (by rw [hal2];omega) (by simp) ?_;intro v5 w5 hown5 hgrow5;rw [hal2,hargs.out] at hown5;obtain⟨g,cap,rfl,hge,hlt⟩:=hown5.form (by omega);replace hT:=Lib.hid (hT.out.newer (Touch.of_grown hgrow5 (fun k e=>(Option.some.inj e).symm)) (Nat.le_refl _));replace hC:=conj4 (fun h=>keepT hT.out h) hC0.out)
 refine hK.out _ _ hC (fun hHeld=>?_)
 clear hK K hHeld
 try simp only [Act.put,List.setIfInBounds_toArray,List.set_cons_zero,List.set_cons_succ]
 refine wpAnyH_take (i:=14) (oi:=(.mk (some 19) (.call (.mk (.builtin Builtin.len) #[(.tmp 18)] #[37])) 3 "names.go:104" #[.mk 13 .data] none)) (v:=?_) rfl (by kernel_rfl) (by kernel_rfl) (by kernel_rfl) (fun _ _ _ h=>h) (Or.inl ⟨by rfl,?_⟩) hC ?_
 rotate_left
 ·(intro w hSw;(try dsimp only at hSw);go_simp;try with_reducible rfl)
 try simp only [Act.put,List.setIfInBounds_toArray,List.set_cons_zero,List.set_cons_succ]
 refine wpAnyH_done (by kernel_rfl) ?_ _
 have hR5:=Lib.hid (rds_row hown5)
 have hJ5:Hid (J ((L.take 0).filter usedB) w5):=Lib.hid (hcalm.out _ _ _ hJ0.out hT.out)
 have hLb5:Lb<g:=by omega
 clear hC hC0 hown5 hgrow5 hrow r1 hb9 hT hargs hal2 hJ0
 have hN:=Lib.hid (show L.length=2+m from by rw [hLm.out];omega)
 have hNs:∃N,N=2+m:=⟨_,rfl⟩
 obtain⟨N,hNe⟩:=hNs
 have hNi:(2:Int)+(m:Int)=(N:Int):=by omega
 rw [←hNe] at hN hR5
 have hNl:N≤4000000000002:=by omega
 replace hNe:=Lib.hid hNe
 replace hNi:=Lib.hid hNi
 gi_wp2
 rw [←hNe.out]
 rw [hNi.out]
 clear hNi
 gi_loopw [4,20] (fun _ i wx=>∃k:Nat,k≤N∧i=.int .i64 k∧Hid (J ((L.take k).filter usedB) wx)∧Hid (Touch w5 wx (fun k=>k=Lb))) (fun _ i _=>N-(intOf i).toNat)
 case atStart=>exact⟨0,Nat.zero_le _,rfl,hJ5,Lib.hid (Touch.refl _ _)⟩
 case round=>
  clear hJ5
  obtain⟨k,hk,rfl,hJ,hT⟩:=hrel
  by_cases hlt:k<N
  ·obtain⟨s,hs⟩:∃s,L[k]?=some s:=⟨_,List.getElem?_eq_getElem (by rw [hN.out];exact hlt)⟩
   obtain⟨g',off',cap',e,hc⟩:=RdS.cell hR5.out hs
   rw [hN.out] at e
   simp only [Value.slice.injEq,Option.some.injEq,Addr.mk.injEq] at e
   obtain⟨⟨rfl,rfl,-⟩,-,rfl⟩:=e
   rw [Nat.zero_add] at hc
   have i1:(k:Int)<(N:Int):=by omega
   have i2:decide ((k:Int)<(N:Int))=true:=by simpa using hlt
   have c1:wr.cell? ⟨g,k,none⟩=some (.string s):=by
    rw [←hc]
    unfold World.cell?
    rw [hT.out.block g (cell_size hc) (show ¬g=Lb by omega)]
   have hat:=Lib.hid (show (L.take (k+1)).filter usedB=(L.take k).filter usedB++(if usedB s=true then [s] else []) from by
    rw [take_snocS hs,List.filter_append]
    by_cases e:usedB s=true
    ·simp [e]
    ·simp [e])
   have hsp:usedB s=true→∃rest,U=(L.take k).filter usedB++s::rest:=fun e=>⟨(L.drop (k+1)).filter usedB,by
    rw [hUL.out]
    conv=>lhs;rw [←List.take_append_drop k L,drop_at hs,List.filter_append,List.filter_cons,if_pos e]⟩
   have hqe:usedB s=(!s.toList.isEmpty&&!isNull s):=rfl
   have hnu:(s.toList==[110,117,108,108])=isNull s:=rfl
   have hem:(s.toList==[])=s.toList.isEmpty:=by cases s.toList<;>rfl
   rw [hqe] at hsp hat
   replace hsp:=Lib.hid hsp
   clear hs hc hqe
   generalize isNull s=u at hnu hsp hat
   generalize s.toList.isEmpty=q at hem hsp hat
   generalize hpre:(L.take k).filter usedB=pre at hat hsp hJ
   replace hpre:=Lib.hid hpre
   have skip:(!q&&!u)=false→Hid (J ((L.take (k+1)).filter usedB) wr):=fun e=>Lib.hid (by rw [hat.out,e];simpa using hJ.out)
   cases q with
   | true=>
    have hJ4:=skip rfl
    clear skip hsp hat hJ
    gi_wp2
    refine⟨fun f hf=>(by cases hf),?_⟩
    gi_wp2
    go_roundw
    case rel=>exact⟨k+1,by omega,by go_num,hJ4,hT⟩
    case measure=>simp [intOf];omega
   | false=>
    cases u with
    | true=>
     have hJ4:=skip rfl
     clear skip hsp hat hJ
     gi_wp2
     refine⟨fun f hf=>(by cases hf),?_⟩
     gi_wp2
     go_roundw
     case rel=>exact⟨k+1,by omega,by go_num,hJ4,hT⟩
     case measure=>simp [intOf];omega
    | false=>
     obtain⟨rest,hspl⟩:=hsp.out rfl
     obtain⟨fn,tmps,assign,body,hy,hR⟩:=hY.out pre s rest wr hspl hJ.out
     replace hspl:=Lib.hid hspl
     clear skip hsp hJ
     gi_wp2
     refine hR.mono ?_
     rintro e W3 (⟨rfl,hJ3,hk3⟩ | ⟨rfl,hJx⟩)
     case inr=>
      gi_wp2
      refine bodyPost_ret (results_none rfl _ _ _) rfl ?_
      exact⟨⟨_,rfl⟩,.inr hJx⟩
     have hT3:=Lib.hid (hT.out.trans hk3)
     have hJ4:Hid (J ((L.take (k+1)).filter usedB) W3):=Lib.hid (by rw [hat.out];exact hJ3)
     clear hy hR hk3 hJ3 hat hT
     gi_wp2
     go_roundw
     case rel=>exact⟨k+1,by omega,by go_num,hJ4,hT3⟩
     case measure=>simp [intOf];omega
  ·obtain rfl:k=N:=by omega
   have i2:decide ((k:Int)<(k:Int))=false:=by simp
   have hJ4:Hid (J U wr):=Lib.hid (by
    have:=hJ.out
    rw [List.take_of_length_le (by rw [hN.out];exact Nat.le_refl _)] at this
    rw [hUL.out]
    exact this)
   clear hJ
   gi_wp2
   go_end0
   exact⟨⟨_,rfl⟩,.inl hJ4.out⟩
end
end Go.Proofs.YtknkiaedgeejiaaGreatDoor
