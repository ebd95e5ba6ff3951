/- RfM3, RfM4, RdB1, RfM5, LexR. -/
import Derived.Test.YtgcanabckogmmaaDoorZR22
import Derived.Test.YtgcanabckogmmaaDoorZR5
namespace Go.Proofs.YtgcanabckogmmaaDoor
set_option linter.unusedVariables false
set_option linter.unusedSimpArgs false
section
structure FormR where
 val:Bool
 word:List UInt8
 op:Nat
 rst:Rst
def formsR:List FormR:=[⟨true,[97,108,108,111,99,97],1,.fields⟩,⟨true,[109,97,108,108,111,99],2,.fields⟩,⟨true,[110,117,108,108],3,.nothing⟩,⟨true,[97,100,100,114],4,.fn⟩,⟨true,[99,111,112,121],5,.operand⟩,⟨true,[108,111,97,100],8,.operand⟩,⟨true,[102,105,101,108,100],7,.field⟩,⟨true,[112,104,105],6,.phi⟩,⟨true,[99,97,108,108],10,.call⟩,⟨false,[99,97,108,108],10,.call⟩,⟨true,[105,99,97,108,108],11,.icall⟩,⟨false,[105,99,97,108,108],11,.icall⟩,⟨false,[115,116,111,114,101],9,.store⟩,⟨false,[98,114],12,.branch⟩,⟨false,[103,111,116,111],13,.label⟩,⟨false,[114,101,116],14,.result⟩]
def itemsR (f:FormR):List (List UInt8):=(if f.val then [[78],[61],f.word] else [f.word])++restI f.rst
def aheadR (f:FormR):Nat:=if f.val then 3 else 1
def dstR (f:FormR)(p:List Tok):ByteArray:=if f.val then nmT (p.headD ⟨0,[],0,0,0⟩) else ⟨#[]⟩
def insR (f:FormR)(p:List Tok):Ins:=restV f.rst (insOf f.op (dstR f p)) (nmsT (p.drop (aheadR f))) (numL (p.drop (aheadR f)) 0)
def fullR (f:FormR)(p:List Tok):Bool:=(farS (itemsR f) p).2&&(farS (itemsR f) p).1==p.length
def searchR:List FormR→List Tok→Nat→Ins ⊕ Nat
 | [],_,b=>.inr b
 | f::fs,p,b=>if fullR f p=true then .inl (insR f p) else searchR fs p (max b (farS (itemsR f) p).1)
theorem search_bad:∀(fs:List FormR) (p:List Tok) (b m:Nat),(∀f∈fs,fullR f p=false∧(farS (itemsR f) p).1≤m)→b≤m→(b=m∨∃f∈fs,(farS (itemsR f) p).1=m)→searchR fs p b=.inr m
 | [],p,b,m,_,_,h=>by
  rcases h with rfl | ⟨f,hf,-⟩
  ·rfl
  ·cases hf
 | f::fs,p,b,m,hf,hb,h=>by
  obtain⟨h1,h2⟩:=hf f (List.mem_cons_self ..)
  unfold searchR
  rw [if_neg (by rw [h1];simp)]
  refine search_bad fs p _ m (fun g hg=>hf g (List.mem_cons_of_mem _ hg)) (by omega) ?_
  rcases h with rfl | ⟨g,hg,e⟩
  ·exact .inl (by omega)
  ·rcases List.mem_cons.1 hg with rfl | hg
   ·exact .inl (by omega)
   ·exact .inr ⟨g,hg,e⟩
theorem search_good:∀(fs:List FormR) (p:List Tok) (b:Nat) (g:FormR),g∈fs→fullR g p=true→(∀f∈fs,fullR f p=true→insR f p=insR g p)→searchR fs p b=.inl (insR g p)
 | [],_,_,_,h,_,_=>by cases h
 | f::fs,p,b,g,hg,h1,h2=>by
  unfold searchR
  by_cases hf:fullR f p=true
  ·rw [if_pos hf,h2 f (List.mem_cons_self ..) hf]
  ·rw [if_neg hf]
   rcases List.mem_cons.1 hg with rfl | hg
   ·exact absurd h1 hf
   ·exact search_good fs p _ g hg h1 fun f' hf'=>h2 f' (List.mem_cons_of_mem _ hf')
theorem formW_len {f:FormR}(h:f∈formsR):1<f.word.length∧f.word≠[78]∧f.word≠[75]∧f.word≠[63]∧f.word≠[40]∧f.word≠[91]:=by
 have:∀f∈formsR,1<f.word.length:=by decide
 have h1:=this f h
 refine⟨h1,?_,?_,?_,?_,?_⟩<;>(intro e;rw [e] at h1;simp at h1)
theorem far_bare {f:FormR}(hf:f∈formsR)(hv:f.val=false){p:List Tok}(hw:∀t∈p,Wd1 t):farS (itemsR f) p=if wordS p 1 f.word=true then (1+(farS (restI f.rst) (p.drop 1)).1,(farS (restI f.rst) (p.drop 1)).2) else (0,false):=by
 obtain⟨h1,h2⟩:=formW_len hf
 unfold itemsR
 rw [hv]
 show farS (f.word::restI f.rst) p=_
 rw [farS_L ⟨h2.1,h2.2.1,h2.2.2.1,h2.2.2.2.1,h2.2.2.2.2⟩,lit_word hw h1]
theorem far_val {f:FormR}(hf:f∈formsR)(hv:f.val=true){p:List Tok}(hw:∀t∈p,Wd1 t):farS (itemsR f) p=if wordS p 1 []=false then (0,false) else if wordS (p.drop 1) 3 [61]=false then (1,false) else if wordS (p.drop 2) 1 f.word=false then (2,false) else (3+(farS (restI f.rst) (p.drop 3)).1,(farS (restI f.rst) (p.drop 3)).2):=by
 obtain⟨h1,h2⟩:=formW_len hf
 unfold itemsR
 rw [hv]
 show farS ([78]::[61]::f.word::restI f.rst) p=_
 rw [farS_N]
 by_cases e1:wordS p 1 []=true
 ·rw [if_pos e1,if_neg (by rw [e1];simp),farS_L (by decide),lit_sign (fun t ht=>hw t (List.mem_of_mem_drop ht)) (by decide)]
  by_cases e2:wordS (p.drop 1) 3 [61]=true
  ·rw [if_pos e2,if_neg (by rw [e2];simp),List.drop_drop,farS_L ⟨h2.1,h2.2.1,h2.2.2.1,h2.2.2.2.1,h2.2.2.2.2⟩,lit_word (fun t ht=>hw t (List.mem_of_mem_drop ht)) h1]
   by_cases e3:wordS (p.drop 2) 1 f.word=true
   ·rw [if_pos e3,if_neg (by rw [e3];simp)]
    have e4:List.drop 1 (List.drop (1+1) p)=List.drop 3 p:=by rw [List.drop_drop]
    rw [e4]
    refine Prod.ext ?_ rfl
    show 1+(1+(1+(farS (restI f.rst) (p.drop 3)).1))=3+(farS (restI f.rst) (p.drop 3)).1
    omega
   ·rw [if_neg e3,if_pos (by simpa using e3)]
    rfl
  ·rw [if_neg e2,if_pos (by simpa using e2)]
   rfl
 ·rw [if_neg e1,if_pos (by simpa using e1)]
theorem value_form {s:List UInt8}{how:Int × Rst}(h:valueF s=some how):∃f∈formsR,f.val=true∧f.word=s∧how=((f.op:Int),f.rst):=by
 unfold valueF at h
 repeat' split at h
 all_goals first
  | (injection h with h;subst h;subst_vars;first
    | exact⟨⟨true,[97,108,108,111,99,97],1,.fields⟩,by simp [formsR],rfl,rfl,rfl⟩
    | exact⟨⟨true,[109,97,108,108,111,99],2,.fields⟩,by simp [formsR],rfl,rfl,rfl⟩
    | exact⟨⟨true,[110,117,108,108],3,.nothing⟩,by simp [formsR],rfl,rfl,rfl⟩
    | exact⟨⟨true,[97,100,100,114],4,.fn⟩,by simp [formsR],rfl,rfl,rfl⟩
    | exact⟨⟨true,[99,111,112,121],5,.operand⟩,by simp [formsR],rfl,rfl,rfl⟩
    | exact⟨⟨true,[108,111,97,100],8,.operand⟩,by simp [formsR],rfl,rfl,rfl⟩
    | exact⟨⟨true,[102,105,101,108,100],7,.field⟩,by simp [formsR],rfl,rfl,rfl⟩
    | exact⟨⟨true,[112,104,105],6,.phi⟩,by simp [formsR],rfl,rfl,rfl⟩
    | exact⟨⟨true,[99,97,108,108],10,.call⟩,by simp [formsR],rfl,rfl,rfl⟩
    | exact⟨⟨true,[105,99,97,108,108],11,.icall⟩,by simp [formsR],rfl,rfl,rfl⟩)
  | cases h
theorem bare_form {s:List UInt8}{how:Int × Rst}(h:bareF s=some how):∃f∈formsR,f.val=false∧f.word=s∧how=((f.op:Int),f.rst):=by
 unfold bareF at h
 repeat' split at h
 all_goals first
  | (injection h with h;subst h;subst_vars;first
    | exact⟨⟨false,[99,97,108,108],10,.call⟩,by simp [formsR],rfl,rfl,rfl⟩
    | exact⟨⟨false,[105,99,97,108,108],11,.icall⟩,by simp [formsR],rfl,rfl,rfl⟩
    | exact⟨⟨false,[115,116,111,114,101],9,.store⟩,by simp [formsR],rfl,rfl,rfl⟩
    | exact⟨⟨false,[98,114],12,.branch⟩,by simp [formsR],rfl,rfl,rfl⟩
    | exact⟨⟨false,[103,111,116,111],13,.label⟩,by simp [formsR],rfl,rfl,rfl⟩
    | exact⟨⟨false,[114,101,116],14,.result⟩,by simp [formsR],rfl,rfl,rfl⟩)
  | cases h
theorem form_one {f g:FormR}(hf:f∈formsR)(hg:g∈formsR)(hv:f.val=g.val)(hw:f.word=g.word):f=g:=by
 simp only [formsR,List.mem_cons,List.not_mem_nil,or_false] at hf hg
 rcases hf with rfl | rfl | rfl | rfl | rfl | rfl | rfl | rfl | rfl | rfl | rfl | rfl | rfl | rfl | rfl | rfl<;>
  rcases hg with rfl | rfl | rfl | rfl | rfl | rfl | rfl | rfl | rfl | rfl | rfl | rfl | rfl | rfl | rfl | rfl<;>
  first | rfl | (simp at hv;done) | (simp at hw;done)
theorem value_of {f:FormR}(hf:f∈formsR)(hv:f.val=true):valueF f.word=some ((f.op:Int),f.rst):=by
 simp only [formsR,List.mem_cons,List.not_mem_nil,or_false] at hf
 rcases hf with rfl | rfl | rfl | rfl | rfl | rfl | rfl | rfl | rfl | rfl | rfl | rfl | rfl | rfl | rfl | rfl<;>first | rfl | (simp at hv;done)
theorem bare_of {f:FormR}(hf:f∈formsR)(hv:f.val=false):bareF f.word=some ((f.op:Int),f.rst):=by
 simp only [formsR,List.mem_cons,List.not_mem_nil,or_false] at hf
 rcases hf with rfl | rfl | rfl | rfl | rfl | rfl | rfl | rfl | rfl | rfl | rfl | rfl | rfl | rfl | rfl | rfl<;>first | rfl | (simp at hv;done)
end
section
def fullI (it:List (List UInt8))(p:List Tok):Bool:=(farS it p).2&&(farS it p).1==p.length
inductive OutR
 | fin | lab | ins (x:Ins) | bad (n:Nat)
def pieceR (has:Bool)(p:List Tok):OutR:=
 if fullI [[125]] p=true then .fin
 else if fullI [[78],[58]] p=true then .lab
 else if has=true then
  match searchR formsR p (max (farS [[125]] p).1 (farS [[78],[58]] p).1) with
  | .inl x=>.ins x
  | .inr n=>.bad n
 else .bad (max (farS [[125]] p).1 (farS [[78],[58]] p).1)
section
variable {ln:Nat} {R p:List Tok} {d:Fun}
def valK (d:Fun)(s:ByteArray)(l:List Tok)(ln:Nat):Except Flt (Fun × List Tok):=
 match valueF (headT l) with
 | none=>.error (fltL l)
 | some how=>bindE (nameP l ln) fun _ l=>bindE (instrP how s l ln) fun x l=>.ok (addI d x,l)
def InsPc (R p:List Tok)(d:Fun)(o:OutR)(r:Except Flt (Fun × List Tok)):Prop:=
 match o with
 | .fin=>False
 | .lab=>r=.ok (addB d (nmT (p.headD ⟨0,[],0,0,0⟩)),R)
 | .ins x=>r=.ok (addI d x,R)
 | .bad n=>n≤p.length∧(r=.error (fltL (p.drop n++R))∨∃d',p.drop n≠[]∧r=.ok (d',p.drop n++R))
theorem far_end {p:List Tok}(hw:∀t∈p,Wd1 t):farS [[125]] p=if wordS p 3 [125]=true then (1,true) else (0,false):=by
 rw [farS_L (by decide),lit_sign hw (by decide)]
 rfl
theorem far_lab {p:List Tok}(hw:∀t∈p,Wd1 t):farS [[78],[58]] p=if wordS p 1 []=false then (0,false) else if wordS (p.drop 1) 3 [58]=true then (2,true) else (1,false):=by
 rw [farS_N]
 by_cases h1:wordS p 1 []=true
 ·rw [if_pos h1,if_neg (by rw [h1];simp),farS_L (by decide),lit_sign (fun t ht=>hw t (List.mem_of_mem_drop ht)) (by decide)]
  by_cases h2:wordS (p.drop 1) 3 [58]=true
  ·rw [if_pos h2,if_pos h2];rfl
  ·rw [if_neg h2,if_neg h2];rfl
 ·rw [if_neg h1,if_pos (by simpa using h1)]
theorem rest_sign {r:List Tok}{c:UInt8}{f:FormR}(hf:f∈formsR)(hv:f.val=false)(h:wordS r 3 [c]=true)(hc:c=58∨c=61):(farS (restI f.rst) r).1=0:=by
 obtain⟨t,q,rfl,hk,ht⟩:=word_cons h
 have w1:wordS (t::q) 1 []=false:=by show (t.kind==1&&_)=false;rw [hk];rfl
 have ht:=ht (by simp)
 simp only [formsR,List.mem_cons,List.not_mem_nil,or_false] at hf
 rcases hf with rfl | rfl | rfl | rfl | rfl | rfl | rfl | rfl | rfl | rfl | rfl | rfl | rfl | rfl | rfl | rfl<;>first
  | (simp at hv;done)
  | (show (farS ([78]::_) (t::q)).1=0;rw [farS_N,w1];rfl)
  | (show (farS [[63]] (t::q)).1=0;rw [farS_Q,w1];rfl)
theorem full_eq (f:FormR)(p:List Tok):fullR f p=true↔(farS (itemsR f) p).2=true∧(farS (itemsR f) p).1=p.length:=by
 unfold fullR
 simp
theorem full_ne {f:FormR}{p:List Tok}(h:(farS (itemsR f) p).1≠p.length):fullR f p=false:=by
 unfold fullR
 have:((farS (itemsR f) p).1==p.length)=false:=by rw [beq_eq_false_iff_ne];exact h
 rw [this,Bool.and_false]
theorem full_no {f:FormR}{p:List Tok}(h:(farS (itemsR f) p).2=false):fullR f p=false:=by
 unfold fullR
 rw [h,Bool.false_and]
theorem inside_pc (h:Pc ln R p)(hw:∀t∈p,Wd1 t)(hp:p≠[])(h125:wordS p 3 [125]=false):InsPc R p d (pieceR (!d.blocks.isEmpty) p) (insideP d (p++R) ln):=by
 have hpl:0<p.length:=by cases p with | nil=>exact absurd rfl hp | cons t r=>simp
 have ee:farS [[125]] p=(0,false):=by rw [far_end hw,h125];rfl
 have el:=far_lab hw
 rw [insideP_b]
 unfold pieceR
 have f1:fullI [[125]] p=false:=by unfold fullI;rw [ee];rfl
 rw [if_neg (by rw [f1];simp),ee]
 by_cases hn:wordS p 1 []=true
 ·rw [if_neg (by rw [hn];simp)] at el
  rw [name_pc h,if_pos hn]
  obtain⟨t,r,rfl,hk,-⟩:=word_cons hn
  have hr:=h.tail
  have hwr:∀u∈r,Wd1 u:=fun u hu=>hw u (List.mem_cons_of_mem _ hu)
  rw [d1C] at el ⊢
  rw [List.headD_cons]
  show InsPc R (t::r) d _ (behindP d (nmT t) (r++R) ln)
  by_cases hc:wordS r 3 [58]=true
  ·rw [if_pos hc] at el
   have hB:behindP d (nmT t) (r++R) ln=.ok (addB d (nmT t),r.drop 1++R):=by
    unfold behindP
    rw [isB_pc hr,if_pos (by rw [hc];simp),sign_pc hr,if_pos hc]
   rw [hB]
   clear hB
   obtain⟨u,r2,rfl,hk2,ht2⟩:=word_cons hc
   have ht2:=ht2 (by simp)
   rw [d1C]
   dsimp only
   cases r2 with
   | nil=>
    have f2:fullI [[78],[58]] [t,u]=true:=by unfold fullI;rw [el];rfl
    rw [if_pos f2]
    rfl
   | cons v r3=>
    have f2:fullI [[78],[58]] (t::u::v::r3)=false:=by unfold fullI;rw [el];simp
    rw [if_neg (by rw [f2];simp),el]
    have hs:searchR formsR (t::u::v::r3) (max 0 2)=.inr 2:=by
     refine search_bad _ _ _ 2 (fun f hf=>?_) (by omega) (.inl rfl)
     cases hv:f.val with
     | false=>
      have e1:=rest_sign hf hv hc (.inl rfl)
      have e2:=far_bare hf hv hw
      rw [d1C] at e2
      have:(farS (itemsR f) (t::u::v::r3)).1≤1:=by
       rw [e2]
       split
       ·show 1+(farS (restI f.rst) (u::v::r3)).1≤1
        omega
       ·exact Nat.zero_le _
      exact⟨full_ne (by simp only [List.length_cons];omega),by omega⟩
     | true=>
      have e2:=far_val hf hv hw
      rw [if_neg (by rw [hn];simp),d1C] at e2
      have e3:wordS (u::v::r3) 3 [61]=false:=by show (u.kind==3&&([61]==[] || u.text==[61]))=false;rw [ht2];simp
      rw [if_pos e3] at e2
      exact⟨full_no (by rw [e2]),by rw [e2];exact Nat.le_succ _⟩
    rw [hs]
    cases d.blocks.isEmpty with
    | true=>exact⟨by simp,.inr ⟨addB d (nmT t),by simp,rfl⟩⟩
    | false=>exact⟨by simp,.inr ⟨addB d (nmT t),by simp,rfl⟩⟩
  ·rw [if_neg hc] at el
   have f2:fullI [[78],[58]] (t::r)=false:=by unfold fullI;rw [el];rfl
   rw [if_neg (by rw [f2];simp),el]
   cases hb:d.blocks.isEmpty with
   | true=>
    have hB:behindP d (nmT t) (r++R) ln=.error (fltL (r++R)):=by
     unfold behindP
     rw [hb,isB_pc hr,if_pos (by rfl),sign_pc hr,if_neg hc]
    rw [hB]
    exact⟨by simp,.inl rfl⟩
   | false=>
    show InsPc R (t::r) d (match searchR formsR (t::r) 1 with | .inl x=>OutR.ins x | .inr n=>.bad n) _
    by_cases he:wordS r 3 [61]=true
    ·have hB:behindP d (nmT t) (r++R) ln=valK d (nmT t) (r.drop 1++R) ln:=by
      unfold behindP
      rw [hb,isB_pc hr,if_neg (by simpa using hc),isB_pc hr,if_pos he,sign_pc hr,if_pos he]
      unfold valK
      dsimp only
      cases valueF (headT (r.drop 1++R))<;>rfl
     rw [hB]
     clear hB
     unfold valK
     obtain⟨e,r2,rfl,hke,hte⟩:=word_cons he
     have hr2:=hr.tail
     have hwr2:∀u∈r2,Wd1 u:=fun u hu=>hwr u (List.mem_cons_of_mem _ hu)
     rw [d1C]
     skip
     have hbare:∀f∈formsR,f.val=false→fullR f (t::e::r2)=false∧(farS (itemsR f) (t::e::r2)).1≤1:=fun f hf hv=>by
      have e1:=rest_sign hf hv he (.inr rfl)
      have e2:=far_bare hf hv hw
      rw [d1C] at e2
      have:(farS (itemsR f) (t::e::r2)).1≤1:=by
       rw [e2]
       split
       ·show 1+(farS (restI f.rst) (e::r2)).1≤1
        omega
       ·exact Nat.zero_le _
      exact⟨full_ne (by simp only [List.length_cons];omega),this⟩
     have hval:∀f∈formsR,f.val=true→farS (itemsR f) (t::e::r2)=if wordS r2 1 f.word=false then (2,false) else (3+(farS (restI f.rst) (r2.drop 1)).1,(farS (restI f.rst) (r2.drop 1)).2):=fun f hf hv=>by
      have e2:=far_val hf hv hw
      rw [if_neg (by rw [hn];simp),d1C,if_neg (by rw [he];simp),d2C] at e2
      exact e2
     by_cases hg:∃g∈formsR,g.val=true∧wordS r2 1 g.word=true
     ·obtain⟨g,hgf,hgv,hgw⟩:=hg
      obtain⟨v,r3,rfl,hkv,htv⟩:=word_cons hgw
      have htv:=htv (by have:=(formW_len hgf).1;intro e;rw [e] at this;simp at this)
      have hr3:=hr2.tail
      have hwr3:∀u∈r3,Wd1 u:=fun u hu=>hwr2 u (List.mem_cons_of_mem _ hu)
      have e5:valueF (headT (v::r3++R))=some ((g.op:Int),g.rst):=by show valueF v.text=_;rw [htv];exact value_of hgf hgv
      rw [e5]
      dsimp only
      have nv:wordS (v::r3) 1 []=true:=by show (v.kind==1&&([]==[] || v.text==[]))=true;rw [hkv];rfl
      rw [name_pc hr2,if_pos nv,d1C]
      show InsPc R (t::e::v::r3) d _ (bindE (restP g.rst (insOf g.op (nmT t)) (r3++R) ln) (fun x l=>.ok (addI d x,l)))
      have efar:=hval g hgf hgv
      rw [if_neg (by rw [hgw];simp),d1C] at efar
      have hoth:∀f∈formsR,f≠g→fullR f (t::e::v::r3)=false∧(farS (itemsR f) (t::e::v::r3)).1≤2:=fun f hf hne=>by
       cases hv:f.val with
       | false=>have:=hbare f hf hv;exact⟨this.1,by omega⟩
       | true=>
        have e2:=hval f hf hv
        have:wordS (v::r3) 1 f.word=false:=by
         show (v.kind==1&&(f.word==[] || v.text==f.word))=false
         have h1:=(formW_len hf).1
         have:f.word≠[]:=by intro e;rw [e] at h1;simp at h1
         have h2:v.text≠f.word:=fun e=>hne (form_one hf hgf (by rw [hv,hgv]) (by rw [←e,htv]))
         simp [this,h2]
        rw [if_pos this] at e2
        exact⟨full_no (by rw [e2]),by rw [e2];exact Nat.le_refl _⟩
      obtain⟨k1,k2⟩:=rest_ful hwr3 hr3 g.rst (insOf g.op (nmT t))
      rcases k2 with ⟨k3,k4,k5⟩ | ⟨k3,k5⟩
      ·have hfg:fullR g (t::e::v::r3)=true:=(full_eq _ _).2 (by rw [efar];exact⟨k3,by simp only [List.length_cons,k4];omega⟩)
       rw [search_good formsR _ 1 g hgf hfg (fun f hf hff=>by
        by_cases hne:f=g
        ·rw [hne]
        ·rw [(hoth f hf hne).1] at hff;cases hff)]
       rw [k5]
       show Except.ok (addI d _,R)=Except.ok (addI d (insR g (t::e::v::r3)),R)
       have hi:insR g (t::e::v::r3)=restV g.rst (insOf g.op (nmT t)) (nmsT r3) (numL r3 0):=by unfold insR dstR aheadR;rw [hgv];rfl
       rw [hi,k4,List.take_length]
      ·have hfg:fullR g (t::e::v::r3)=false:=by
        cases hx:fullR g (t::e::v::r3) with
        | false=>rfl
        | true=>
         exfalso
         have:=(full_eq _ _).1 hx
         rw [efar] at this
         refine k3 ⟨this.1,?_⟩
         have:=this.2
         simp only [List.length_cons] at this
         omega
       rw [search_bad formsR _ 1 (3+(farS (restI g.rst) r3).1) (fun f hf=>by
        by_cases hne:f=g
        ·rw [hne,efar];exact⟨by rw [←hne] at hfg ⊢;exact hfg,Nat.le_refl _⟩
        ·have:=hoth f hf hne;exact⟨this.1,by omega⟩) (by omega) (.inr ⟨g,hgf,by rw [efar]⟩)]
       have e1:3+(farS (restI g.rst) r3).1=(farS (restI g.rst) r3).1+1+1+1:=by omega
       refine⟨by simp only [List.length_cons];omega,?_⟩
       rw [e1]
       rw [List.drop_succ_cons,List.drop_succ_cons,List.drop_succ_cons]
       rcases k5 with k5 | ⟨y,k6,k5⟩
       ·rw [k5];exact .inl rfl
       ·rw [k5];exact .inr ⟨addI d y,k6,rfl⟩
     ·have hall:∀f∈formsR,fullR f (t::e::r2)=false∧(farS (itemsR f) (t::e::r2)).1≤2:=fun f hf=>by
       cases hv:f.val with
       | false=>have:=hbare f hf hv;exact⟨this.1,by omega⟩
       | true=>
        have e2:=hval f hf hv
        have:wordS r2 1 f.word=false:=by
         cases hx:wordS r2 1 f.word with
         | false=>rfl
         | true=>exact absurd ⟨f,hf,hv,hx⟩ hg
        rw [if_pos this] at e2
        exact⟨full_no (by rw [e2]),by rw [e2];exact Nat.le_refl _⟩
      have hnul:(⟨true,[110,117,108,108],3,.nothing⟩:FormR)∈formsR:=by simp [formsR]
      rw [search_bad formsR _ 1 2 hall (by omega) (.inr ⟨_,hnul,by
       rw [hval _ hnul rfl,if_pos]
       cases hx:wordS r2 1 (⟨true,[110,117,108,108],3,.nothing⟩:FormR).word with
       | false=>rfl
       | true=>exact absurd ⟨_,hnul,rfl,hx⟩ hg⟩)]
      refine⟨by simp,.inl ?_⟩
      rw [d2C]
      cases hvf:valueF (headT (r2++R)) with
      | none=>rfl
      | some how=>
       dsimp only
       have nv:wordS r2 1 []=false:=by
        cases r2 with
        | nil=>rfl
        | cons v r3=>
         obtain⟨f,hf,hv,hfw,-⟩:=value_form (s:=v.text) hvf
         cases hx:wordS (v::r3) 1 [] with
         | false=>rfl
         | true=>
          exfalso
          obtain⟨v',r',ev,hk',-⟩:=word_cons hx
          injection ev with e1 e2
          subst e1
          exact hg ⟨f,hf,hv,by show (v.kind==1&&(f.word==[] || v.text==f.word))=true;rw [hk',hfw];simp⟩
       rw [name_pc hr2,if_neg (by rw [nv];simp)]
       rfl
    ·have hval:∀f∈formsR,f.val=true→farS (itemsR f) (t::r)=(1,false):=fun f hf hv=>by
      have e2:=far_val hf hv hw
      rw [if_neg (by rw [hn];simp),d1C,if_pos (by simpa using he)] at e2
      exact e2
     have hnul:(⟨true,[110,117,108,108],3,.nothing⟩:FormR)∈formsR:=by simp [formsR]
     cases hbf:bareF (nmT t).data.toList with
     | some how=>
      obtain⟨g,hgf,hgv,hgw,rfl⟩:=bare_form hbf
      have hgw:g.word=t.text:=by rw [hgw];unfold nmT;simp
      have hB:behindP d (nmT t) (r++R) ln=bindE (restP g.rst (insOf g.op ⟨#[]⟩) (r++R) ln) (fun x l=>.ok (addI d x,l)):=by
       unfold behindP
       rw [hb,isB_pc hr,if_neg (by simpa using hc),isB_pc hr,if_neg he,hbf]
       rfl
      rw [hB]
      clear hB
      have efar:=far_bare hgf hgv hw
      have hgt:wordS (t::r) 1 g.word=true:=by show (t.kind==1&&(g.word==[] || t.text==g.word))=true;rw [hk,hgw];simp
      rw [if_pos hgt,d1C] at efar
      have hoth:∀f∈formsR,f≠g→fullR f (t::r)=false∧(farS (itemsR f) (t::r)).1≤1:=fun f hf hne=>by
       cases hv:f.val with
       | true=>rw [hval f hf hv] ;exact⟨full_no (by rw [hval f hf hv]),Nat.le_refl _⟩
       | false=>
        have e2:=far_bare hf hv hw
        have:¬wordS (t::r) 1 f.word=true:=by
         intro hx
         obtain⟨t',r',ev,-,htx⟩:=word_cons hx
         injection ev with e1 e2
         subst e1
         have h1:=(formW_len hf).1
         exact hne (form_one hf hgf (by rw [hv,hgv]) (by rw [hgw,htx (by intro e;rw [e] at h1;simp at h1)]))
        rw [if_neg this] at e2
        exact⟨full_no (by rw [e2]),by rw [e2];exact Nat.zero_le _⟩
      obtain⟨k1,k2⟩:=rest_ful hwr hr g.rst (insOf g.op ⟨#[]⟩)
      rcases k2 with ⟨k3,k4,k5⟩ | ⟨k3,k5⟩
      ·have hfg:fullR g (t::r)=true:=(full_eq _ _).2 (by rw [efar];exact⟨k3,by simp only [List.length_cons,k4];omega⟩)
       rw [search_good formsR _ 1 g hgf hfg (fun f hf hff=>by
        by_cases hne:f=g
        ·rw [hne]
        ·rw [(hoth f hf hne).1] at hff;cases hff)]
       rw [k5]
       show Except.ok (addI d _,R)=Except.ok (addI d (insR g (t::r)),R)
       have hi:insR g (t::r)=restV g.rst (insOf g.op ⟨#[]⟩) (nmsT r) (numL r 0):=by unfold insR dstR aheadR;rw [hgv];rfl
       rw [hi,k4,List.take_length]
      ·have hfg:fullR g (t::r)=false:=by
        cases hx:fullR g (t::r) with
        | false=>rfl
        | true=>
         exfalso
         have:=(full_eq _ _).1 hx
         rw [efar] at this
         refine k3 ⟨this.1,?_⟩
         have:=this.2
         simp only [List.length_cons] at this
         omega
       rw [search_bad formsR _ 1 (1+(farS (restI g.rst) r).1) (fun f hf=>by
        by_cases hne:f=g
        ·rw [hne,efar];exact⟨by rw [←hne] at hfg ⊢;exact hfg,Nat.le_refl _⟩
        ·have:=hoth f hf hne;exact⟨this.1,by omega⟩) (by omega) (.inr ⟨g,hgf,by rw [efar]⟩)]
       have e1:1+(farS (restI g.rst) r).1=(farS (restI g.rst) r).1+1:=by omega
       refine⟨by simp only [List.length_cons];omega,?_⟩
       rw [e1]
       rw [List.drop_succ_cons]
       rcases k5 with k5 | ⟨y,k6,k5⟩
       ·rw [k5];exact .inl rfl
       ·rw [k5];exact .inr ⟨addI d y,k6,rfl⟩
     | none=>
      have hB:behindP d (nmT t) (r++R) ln=.error (fltL (r++R)):=by
       unfold behindP
       rw [hb,isB_pc hr,if_neg (by simpa using hc),isB_pc hr,if_neg he,hbf,sign_pc hr,if_neg he]
      rw [hB]
      clear hB
      rw [search_bad formsR _ 1 1 (fun f hf=>by
       cases hv:f.val with
       | true=>exact⟨full_no (by rw [hval f hf hv]),by rw [hval f hf hv];exact Nat.le_refl _⟩
       | false=>
        have e2:=far_bare hf hv hw
        have:¬wordS (t::r) 1 f.word=true:=by
         intro hx
         obtain⟨t',r',ev,-,htx⟩:=word_cons hx
         injection ev with e1 e2
         subst e1
         have h1:=(formW_len hf).1
         have h2:=htx (by intro e;rw [e] at h1;simp at h1)
         have h3:=bare_of hf hv
         rw [←h2] at h3
         have h4:(nmT t).data.toList=t.text:=by unfold nmT;simp
         rw [h4,h3] at hbf
         cases hbf
        rw [if_neg this] at e2
        exact⟨full_no (by rw [e2]),by rw [e2];exact Nat.zero_le _⟩) (Nat.le_refl _) (.inl rfl)]
      exact⟨by simp,.inl rfl⟩
 ·rw [if_pos (by simpa using hn)] at el
  have f2:fullI [[78],[58]] p=false:=by unfold fullI;rw [el];rfl
  rw [if_neg (by rw [f2];simp),el,name_pc h,if_neg hn]
  have hs:searchR formsR p (max 0 0)=.inr 0:=by
   refine search_bad _ _ _ 0 (fun f hf=>?_) (Nat.le_refl _) (.inl rfl)
   have e2:farS (itemsR f) p=(0,false):=by
    cases hv:f.val with
    | true=>rw [far_val hf hv hw,if_pos (by simpa using hn)]
    | false=>
     rw [far_bare hf hv hw,if_neg]
     intro hx
     obtain⟨t,r,rfl,hk,-⟩:=word_cons hx
     exact hn (by show (t.kind==1&&([]==[] || t.text==[]))=true;rw [hk];rfl)
   exact⟨full_no (by rw [e2]),by rw [e2];exact Nat.le_refl _⟩
  rw [hs]
  cases d.blocks.isEmpty with
  | true=>exact⟨Nat.zero_le _,.inl rfl⟩
  | false=>exact⟨Nat.zero_le _,.inl rfl⟩
end
end
section
inductive Al (ρ:Nat→Nat→Prop):List Tok→List Tok→Prop
 | nil:Al ρ [] []
 | cons {t t':Tok} {l l':List Tok}:t'.kind=t.kind→t'.text=t.text→t'.num=t.num→(t.kind≠4→ρ t.line t'.line)→Al ρ l l'→Al ρ (t::l) (t'::l')
section
variable {α β:Type} {ρ:Nat→Nat→Prop} {l l':List Tok} {ln ln':Nat}
theorem Al.len (h:Al ρ l l'):l'.length=l.length:=by
 induction h with
 | nil=>rfl
 | cons _ _ _ _ _ ih=>rw [List.length_cons,List.length_cons,ih]
theorem Al.tail (h:Al ρ l l'):Al ρ l.tail l'.tail:=by
 cases h with
 | nil=>exact .nil
 | cons _ _ _ _ h=>exact h
def Eb (ρ:Nat→Nat→Prop)(r1 r2:Except Flt (α × List Tok)):Prop:=
 match r1 with
 | .ok (x,l1)=>∃l2,r2=.ok (x,l2)∧Al ρ l1 l2
 | .error e=>∃e',r2=.error e'∧e'.2.2=e.2.2
def EbL (ρ:Nat→Nat→Prop)(r1 r2:Except Flt (List Tok)):Prop:=
 match r1 with
 | .ok l1=>∃l2,r2=.ok l2∧Al ρ l1 l2
 | .error e=>∃e',r2=.error e'∧e'.2.2=e.2.2
theorem Eb.bind {r1 r2:Except Flt (α × List Tok)}{g1 g2:α→List Tok→Except Flt (β × List Tok)}(h:Eb ρ r1 r2)(hg:∀x l l',Al ρ l l'→Eb ρ (g1 x l) (g2 x l')):Eb ρ (bindE r1 g1) (bindE r2 g2):=by
 cases r1 with
 | error e=>
  obtain⟨e',rfl,h⟩:=h
  exact⟨e',rfl,h⟩
 | ok p=>
  obtain⟨x,l1⟩:=p
  obtain⟨l2,rfl,h⟩:=h
  exact hg x l1 l2 h
theorem EbL.bind {r1 r2:Except Flt (List Tok)}{g1 g2:List Tok→Except Flt (β × List Tok)}(h:EbL ρ r1 r2)(hg:∀l l',Al ρ l l'→Eb ρ (g1 l) (g2 l')):
  Eb ρ (match (generalizing:=false) r1 with | .error e=>.error e | .ok l=>g1 l) (match (generalizing:=false) r2 with | .error e=>.error e | .ok l=>g2 l):=by
 cases r1 with
 | error e=>
  obtain⟨e',rfl,h⟩:=h
  exact⟨e',rfl,h⟩
 | ok l1=>
  obtain⟨l2,rfl,h⟩:=h
  exact hg l1 l2 h
theorem Eb.ok {x:α}(h:Al ρ l l'):Eb ρ (.ok (x,l)) (.ok (x,l')):=⟨l',rfl,h⟩
def EbT (ρ:Nat→Nat→Prop)(r1 r2:Except Flt (Fun × List Tok × Nat)):Prop:=
 match r1 with
 | .ok (d,l1,ln)=>∃l2 ln',r2=.ok (d,l2,ln')∧Al ρ l1 l2∧ρ ln ln'
 | .error e=>∃e',r2=.error e'∧e'.2.2=e.2.2
theorem Eb.thenT {r1 r2:Except Flt (α × List Tok)}{g1 g2:α→List Tok→Except Flt (Fun × List Tok × Nat)}(h:Eb ρ r1 r2)(hg:∀x l l',Al ρ l l'→EbT ρ (g1 x l) (g2 x l')):EbT ρ (thenT r1 g1) (thenT r2 g2):=by
 cases r1 with
 | error e=>
  obtain⟨e',rfl,h⟩:=h
  exact⟨e',rfl,h⟩
 | ok p=>
  obtain⟨x,l1⟩:=p
  obtain⟨l2,rfl,h⟩:=h
  exact hg x l1 l2 h
theorem EbL.thenT {r1 r2:Except Flt (List Tok)}{g1 g2:List Tok→Except Flt (Fun × List Tok × Nat)}(h:EbL ρ r1 r2)(hg:∀l l',Al ρ l l'→EbT ρ (g1 l) (g2 l')):EbT ρ (signT r1 g1) (signT r2 g2):=by
 cases r1 with
 | error e=>
  obtain⟨e',rfl,h⟩:=h
  exact⟨e',rfl,h⟩
 | ok l1=>
  obtain⟨l2,rfl,h⟩:=h
  exact hg l1 l2 h
theorem body_kind4 (n:Nat)(d:Fun)(ln:Nat)(h:kindAt l 4=true):bodyP (n+1) d l ln=.error (fltL l):=by
 cases l with
 | nil=>cases h
 | cons t l=>
  have hk:t.kind=4:=by have h:(t.kind==4)=true:=h;simpa using h
  have hm:moreB (t::l) ln=false:=by show (!(t.kind==4)&&_)=false;rw [hk];rfl
  have hb:isB (t::l) ln 125=false:=by unfold isB;rw [hm];rfl
  have ht:nameP (t::l) ln=.error (fltL (t::l)):=by
   rw [nameP_b]
   have:takeP 1 (t::l) ln=.error (fltL (t::l)):=by
    show (if (moreB (t::l) ln&&t.kind==1)=true then _ else _)=_
    rw [hm]
    rfl
   rw [this]
   rfl
  rw [bodyP_b,hb,if_neg (by simp),insideP_b,ht]
  rfl
theorem prog_kind4 (n:Nat)(acc:List Fun)(ln:Nat)(h:kindAt l 4=true):progP (n+1) acc l ln=.ok acc:=by
 unfold progP
 rw [if_pos h]
end
end
section
def headI:List (List UInt8):=[[102,117,110,99],[78],[40],[123]]
def goesT (ln:Nat)(t:Tok):Bool:=!(t.kind==4)&&t.line==ln
def pieceL:List Tok→List Tok
 | []=>[]
 | t::r=>t::r.takeWhile (goesT t.line)
def behindL:List Tok→List Tok
 | []=>[]
 | t::r=>r.dropWhile (goesT t.line)
def refN:Nat→List Fun→Option Fun→List Tok→Except Flt (List Fun)
 | 0,_,_,_=>.error (0,0,0)
 | n+1,acc,w,l=>
  if kindAt l 4=true then
   match w with
   | none=>.ok acc
   | some _=>.error (fltL l)
  else
   match w with
   | none=>
    if fullI headI (pieceL l)=true then refN n acc (some ⟨nmT (((pieceL l).drop 1).headD ⟨0,[],0,0,0⟩),nmsT ((pieceL l).drop 2),[]⟩) (behindL l)
    else .error (fltL ((pieceL l).drop (farS headI (pieceL l)).1++behindL l))
   | some d=>
    match pieceR (!d.blocks.isEmpty) (pieceL l) with
    | .fin=>refN n (acc++[d]) none (behindL l)
    | .lab=>refN n acc (some (addB d (nmT ((pieceL l).headD ⟨0,[],0,0,0⟩)))) (behindL l)
    | .ins x=>refN n acc (some (addI d x)) (behindL l)
    | .bad k=>.error (fltL ((pieceL l).drop k++behindL l))
section
variable {ln:Nat} {R p q:List Tok} {d:Fun}
theorem piece_app:∀l:List Tok,pieceL l++behindL l=l
 | []=>rfl
 | t::r=>by
  show t::(r.takeWhile (goesT t.line)++r.dropWhile (goesT t.line))=t::r
  rw [List.takeWhile_append_dropWhile]
theorem piece_pc {t:Tok}{r:List Tok}(ht:t.kind≠4):Pc t.line (behindL (t::r)) (pieceL (t::r)):=by
 refine⟨fun u hu=>?_,?_⟩
 ·have hu:u∈t::r.takeWhile (goesT t.line):=hu
  rcases List.mem_cons.1 hu with rfl | hu
  ·exact⟨ht,rfl⟩
  ·have:=List.all_eq_true.1 (List.all_takeWhile (p:=goesT t.line) (l:=r)) u hu
   unfold goesT at this
   simp only [Bool.and_eq_true,Bool.not_eq_true',beq_eq_false_iff_ne,beq_iff_eq] at this
   exact this
 ·show moreB (r.dropWhile (goesT t.line)) t.line=false
  cases hd:r.dropWhile (goesT t.line) with
  | nil=>rfl
  | cons u r'=>
   have:=List.head?_dropWhile_not (goesT t.line) r
   rw [hd] at this
   have this:goesT t.line u=false:=by simpa using this
   exact this
theorem begin_pc (h:Pc ln R q)(hR:R≠[]):beginP (q++R) ln=if q=[] then .ok (lineAt R) else .error (fltL (q++R)):=by
 cases q with
 | nil=>
  rw [if_pos rfl,List.nil_append]
  have:=h.end'
  unfold beginP
  cases R with
  | nil=>exact absurd rfl hR
  | cons t R=>
   have this:(!(t.kind==4)&&t.line==ln)=false:=this
   show (if (!(t.kind==4)&&t.line==ln)=true then _ else _)=_
   rw [this]
   rfl
 | cons t q=>
  obtain⟨h1,h2⟩:=h.all t (List.mem_cons_self ..)
  rw [if_neg (by simp)]
  show (if (!(t.kind==4)&&t.line==ln)=true then _ else _)=_
  rw [if_pos (by simp [h1,h2])]
theorem piece_end {has:Bool}(hw:∀t∈p,Wd1 t)(h:wordS p 3 [125]=true):pieceR has p=if p.length=1 then .fin else .bad 1:=by
 obtain⟨t,r,rfl,hk,ht⟩:=word_cons h
 have ht:=ht (by simp)
 have ee:farS [[125]] (t::r)=(1,true):=by rw [far_end hw,if_pos h]
 have nn:wordS (t::r) 1 []=false:=by show (t.kind==1&&_)=false;rw [hk];rfl
 have el:farS [[78],[58]] (t::r)=(0,false):=by rw [far_lab hw,if_pos nn]
 unfold pieceR
 cases r with
 | nil=>
  rw [if_pos (show fullI [[125]] [t]=true by unfold fullI;rw [ee];rfl)]
  rfl
 | cons u r=>
  rw [if_neg (show ¬(fullI [[125]] (t::u::r)=true) by unfold fullI;rw [ee];simp),if_neg (show ¬(fullI [[78],[58]] (t::u::r)=true) by unfold fullI;rw [el];simp),ee,el,if_neg (show ¬((t::u::r).length=1) by simp)]
  have hs:searchR formsR (t::u::r) (max 1 0)=.inr 1:=by
   refine search_bad _ _ _ 1 (fun f hf=>?_) (by omega) (.inl rfl)
   have e2:farS (itemsR f) (t::u::r)=(0,false):=by
    cases hv:f.val with
    | true=>rw [far_val hf hv hw,if_pos nn]
    | false=>
     rw [far_bare hf hv hw,if_neg]
     intro hx
     obtain⟨t',r',ev,hk',-⟩:=word_cons hx
     injection ev with e1 e2
     subst e1
     omega
   exact⟨full_no (by rw [e2]),by rw [e2];exact Nat.zero_le _⟩
  cases has with
  | true=>
   show (match searchR formsR (t::u::r) (max 1 0) with | .inl x=>OutR.ins x | .inr n=>.bad n)=_
   rw [hs]
  | false=>rfl
theorem farS_BB (r:List (List UInt8))(q:List Tok):farS ([40]::r) q=if wordS q 3 [40]=false then (0,false) else if (rowF false [41] (q.drop 1)).2=true then (1+(rowF false [41] (q.drop 1)).1+(farS r (q.drop (1+(rowF false [41] (q.drop 1)).1))).1,(farS r (q.drop (1+(rowF false [41] (q.drop 1)).1))).2) else (1+(rowF false [41] (q.drop 1)).1,false):=by
 rw [farS,if_neg (by decide),if_neg (by decide),if_neg (by decide),if_pos (.inl rfl)]
 rfl
theorem thenT_ok {α β:Type}(x:α)(l:List Tok)(g:α→List Tok→Except Flt β):thenT (.ok (x,l)) g=g x l:=rfl
theorem signT_ok {β:Type}(l:List Tok)(g:List Tok→Except Flt β):signT (.ok l) g=g l:=rfl
theorem func_pc (h:Pc ln R p)(hR:R≠[])(hw:∀t∈p,Wd1 t)(hp:p≠[]):funcP (p++R) ln=if fullI headI p=true then bodyP (R.length+1) ⟨nmT ((p.drop 1).headD ⟨0,[],0,0,0⟩),nmsT (p.drop 2),[]⟩ R (lineAt R) else .error (fltL (p.drop (farS headI p).1++R)):=by
 obtain⟨t,r,rfl⟩:∃t r,p=t::r:=by cases p with | nil=>exact absurd rfl hp | cons t r=>exact⟨t,r,rfl⟩
 have h0:litT (t::r) [102,117,110,99]=wordS (t::r) 1 [102,117,110,99]:=lit_word hw (by decide)
 have e0:farS headI (t::r)=if wordS (t::r) 1 [102,117,110,99]=true then (1+(farS [[78],[40],[123]] r).1,(farS [[78],[40],[123]] r).2) else (0,false):=by
  unfold headI
  rw [farS_L (by decide),h0,d1C]
 rw [funcP_b]
 by_cases hf:wordS (t::r) 1 [102,117,110,99]=true
 ·rw [if_pos hf] at e0
  obtain⟨t',r',ev,hk,ht⟩:=word_cons hf
  injection ev with e1 e2
  subst e1 e2
  have ht:=ht (by simp)
  rw [if_pos (show headT (t::r++R)=funcT from ht)]
  have nn:wordS (t::r) 1 []=true:=by show (t.kind==1&&([]==[] || t.text==[]))=true;rw [hk];rfl
  rw [name_pc h,if_pos nn,d1C]
  rw [thenT_ok]
  have hr:=h.tail
  have hwr:∀u∈r,Wd1 u:=fun u hu=>hw u (List.mem_cons_of_mem _ hu)
  rw [name_pc hr]
  rw [farS_N] at e0
  by_cases h1:wordS r 1 []=true
  ·rw [if_pos h1] at e0 ⊢
   obtain⟨u,r2,rfl,hku,-⟩:=word_cons h1
   have hr2:=hr.tail
   rw [d1C] at e0 ⊢
   rw [thenT_ok]
   obtain⟨k1,k2⟩:=names_pc hr2
   rw [k2]
   rw [farS_BB] at e0
   by_cases h2:wordS r2 3 [40]=true
   ·have nf:¬(wordS r2 3 [40]=false):=by rw [h2];simp
    rw [if_neg nf] at e0 k1 ⊢
    have k1:1+(rowF false [41] (r2.drop 1)).1≤r2.length:=k1
    by_cases h3:(rowF false [41] (r2.drop 1)).2=true
    ·rw [if_pos h3] at e0 ⊢
     obtain⟨m,hm⟩:∃m,m=1+(rowF false [41] (r2.drop 1)).1:=⟨_,rfl⟩
     rw [←hm] at e0 k1 ⊢
     rw [thenT_ok]
     have hr3:=hr2.drop m
     rw [sign_pc hr3]
     have hwr3:∀x∈r2.drop m,Wd1 x:=fun x hx=>hwr x (List.mem_cons_of_mem _ (List.mem_of_mem_drop hx))
     rw [farS_L (by decide),lit_sign hwr3 (by decide)] at e0
     by_cases h4:wordS (r2.drop m) 3 [123]=true
     ·rw [if_pos h4] at e0 ⊢
      obtain⟨y,r4,e4,hk4,-⟩:=word_cons h4
      rw [e4,d1C] at e0 ⊢
      rw [e4] at hr3
      rw [signT_ok]
      unfold nextP
      rw [begin_pc hr3.tail hR]
      have hl4:r2.length=m+1+r4.length:=by
       have:=congrArg List.length e4
       rw [List.length_drop,List.length_cons] at this
       omega
      have e5:farS headI (t::u::r2)=(m+3,true):=by
       rw [e0]
       show (1+(1+(m+(1+0))),true)=(m+3,true)
       congr 1
       omega
      by_cases h5:r4=[]
      ·subst h5
       rw [if_pos rfl]
       have ff:fullI headI (t::u::r2)=true:=by
        unfold fullI
        rw [e5]
        simp only [List.length_cons,List.length_nil] at hl4 ⊢
        simp
        omega
       rw [if_pos ff]
       show bodyP (R.length+1) ⟨nmT u,nmsT (r2.take m),[]⟩ R (lineAt R)=bodyP (R.length+1) ⟨nmT u,nmsT r2,[]⟩ R (lineAt R)
       have en:nmsT r2=nmsT (r2.take m):=by
        conv=>lhs;rw [←List.take_append_drop m r2,e4]
        unfold nmsT
        rw [List.filter_append,List.map_append,List.filter_cons_of_neg (by simp [hk4])]
        simp
       rw [en]
      ·rw [if_neg h5]
       have ff:fullI headI (t::u::r2)=false:=by
        unfold fullI
        rw [e5]
        have:0<r4.length:=List.length_pos_iff.2 h5
        simp only [List.length_cons,Bool.true_and,beq_eq_false_iff_ne]
        omega
       rw [if_neg (by rw [ff];simp),e5]
       dsimp only
       have e6:(t::u::r2).drop (m+3)=r4:=by
        show r2.drop (m+1)=r4
        rw [←List.drop_drop,e4,d1C]
       rw [e6]
     ·rw [if_neg h4] at e0 ⊢
      have e5:farS headI (t::u::r2)=(m+2,false):=by
       rw [e0]
       show (1+(1+(m+0)),false)=(m+2,false)
       congr 1
       omega
      rw [if_neg (show ¬(fullI headI (t::u::r2)=true) by unfold fullI;rw [e5];simp),e5]
      rfl
    ·rw [if_neg h3] at e0 ⊢
     have e5:farS headI (t::u::r2)=(1+(rowF false [41] (r2.drop 1)).1+2,false):=by
      rw [e0]
      refine Prod.ext ?_ rfl
      show 1+(1+(1+(rowF false [41] (r2.drop 1)).1))=1+(rowF false [41] (r2.drop 1)).1+2
      omega
     rw [if_neg (show ¬(fullI headI (t::u::r2)=true) by unfold fullI;rw [e5];simp),e5]
     rfl
   ·have nf:wordS r2 3 [40]=false:=by simpa using h2
    rw [if_pos nf] at e0 ⊢
    rw [if_neg (show ¬(fullI headI (t::u::r2)=true) by unfold fullI;rw [e0];simp),e0]
    rfl
  ·rw [if_neg h1] at e0 ⊢
   rw [if_neg (show ¬(fullI headI (t::r)=true) by unfold fullI;rw [e0];simp),e0]
   rfl
 ·rw [if_neg hf] at e0
  have hh:¬headT (t::r++R)=funcT:=by
   intro hx
   have hx:t.text=[102,117,110,99]:=hx
   have hwt:=hw t (List.mem_cons_self ..)
   refine hf ?_
   show (t.kind==1&&([102,117,110,99]==[] || t.text==[102,117,110,99]))=true
   have h4:=(h.all t (List.mem_cons_self ..)).1
   have hk:t.kind=1:=by
    rcases hwt.2.2.2 with h | h | h
    ·exact h
    ·have:=hwt.2.2.1 h _ _ hx
     exact absurd this (by decide)
    ·obtain⟨c,hc,-⟩:=hwt.2.1 h
     rw [hx] at hc
     simp at hc
   rw [hk,hx]
   rfl
  rw [if_neg hh,if_neg (show ¬(fullI headI (t::r)=true) by unfold fullI;rw [e0];simp),e0]
  rfl
end
end
section
open Go.RowKit Go.Shelf
theorem rdigit_any (b:UInt8)(w:World):Calls Tryd.prog 47 #[.int .u8 b.toNat] w fun e w'=>e=.returned (.bool (digitB b))∧w'=w:=by
 have e1:decide ((b.toNat:Int)≥48)=decide (48≤b):=geB b 48
 have e2:decide ((b.toNat:Int)≤57)=decide (b≤57):=leB b 57
 unfold digitB
 generalize decide (48≤b)=q1 at *
 generalize decide (b≤57)=q2 at *
 cases q1<;>cases q2<;>(go_enter Tryd.func47,Tryd.ntmps47;go_wp2;go_ret;exact⟨rfl,rfl⟩)
theorem rletter_any (b:UInt8)(w:World):Calls Tryd.prog 46 #[.int .u8 b.toNat] w fun e w'=>e=.returned (.bool (letterB b))∧w'=w:=by
 have e1:decide ((b.toNat:Int)≥97)=decide (97≤b):=geB b 97
 have e2:decide ((b.toNat:Int)≤122)=decide (b≤122):=leB b 122
 have e3:decide ((b.toNat:Int)≥65)=decide (65≤b):=geB b 65
 have e4:decide ((b.toNat:Int)≤90)=decide (b≤90):=leB b 90
 have e5:((b.toNat:Int)==95)=(b==95):=eqB b 95
 unfold letterB
 generalize decide (97≤b)=q1 at *
 generalize decide (b≤122)=q2 at *
 generalize decide (65≤b)=q3 at *
 generalize decide (b≤90)=q4 at *
 generalize (b==95)=q5 at *
 cases q1<;>cases q2<;>cases q3<;>cases q4<;>cases q5<;>(go_enter Tryd.func46,Tryd.ntmps46;go_wp2;go_ret;exact⟨rfl,rfl⟩)
set_option maxHeartbeats 2000000 in
theorem rsign_any (b:UInt8)(w:World):Calls Tryd.prog 49 #[.int .u8 b.toNat] w fun e w'=>e=.returned (.bool (signB b))∧w'=w:=by
 go_enter Tryd.func49,Tryd.ntmps49
 go_wp2_with fail
 generalize hS:(⟨#[61,44,58,40,41,123,125,91,93]⟩:ByteArray)=S
 have h9:S.size=9:=by rw [←hS];rfl
 have hl:=Lib.hid (show S.data.toList=signs by rw [←hS];rfl)
 have h9a:S.size≤9:=by omega
 have h9b:9≤S.size:=by omega
 clear h9 hS
 go_loop [4] (fun i=>∃k:Nat,k≤S.size∧i=.int .i64 k∧Hid (∀c∈signs.take k,c≠b)) (fun i=>S.size-(intOf i).toNat)
 case atStart=>exact⟨0,Nat.zero_le _,rfl,Lib.hid (by simp)⟩
 case round=>
  obtain⟨k,hk,rfl,hno⟩:=hrel
  by_cases hlt:k<S.size
  ·have i1:(k:Int)<(S.size:Int):=by omega
   have hts:signs.take (k+1)=signs.take k++[S[k]]:=by
    have hg:S.data.toList[k]?=some S[k]:=by rw [List.getElem?_eq_getElem (by simpa using hlt)];rfl
    rw [hl.out] at hg
    exact take_snoc hg
   by_cases he:S[k]=b
   ·have e1:((S[k].toNat:Int)==(b.toNat:Int))=true:=by rw [eqB];simpa using he
    have hs:signB b=true:=by
     unfold signB
     refine decide_eq_true ?_
     have:b∈signs.take (k+1):=by rw [hts,he];simp
     exact List.mem_of_mem_take this
    replace hs:=Lib.hid hs
    clear hts he hno
    go_wp2_with fail
    go_ret
    exact⟨by rw [hs.out];rfl,rfl⟩
   ·have e1:((S[k].toNat:Int)==(b.toNat:Int))=false:=by rw [eqB];simpa using he
    have hno2:∀c∈signs.take (k+1),c≠b:=by
     intro c hc
     rw [hts] at hc
     rcases List.mem_append.1 hc with hc | hc
     ·exact hno.out c hc
     ·rw [List.mem_singleton] at hc
      rw [hc]
      exact he
    replace hno2:=Lib.hid hno2
    clear hts he hno
    go_wp2_with fail
    go_round
    case rel=>exact⟨k+1,by omega,by go_num,hno2⟩
    case measure=>simp [intOf];omega
  ·have hs:signB b=false:=by
    unfold signB
    refine decide_eq_false (fun hb=>?_)
    have h2:signs.take k=signs:=List.take_of_length_le (by show 9≤k;omega)
    rw [h2] at hno
    exact hno.out b hb rfl
   replace hs:=Lib.hid hs
   clear hno
   go_wp2_with fail
   go_ret
   exact⟨by rw [hs.out];rfl,rfl⟩
def spotStep (p:Nat × Nat)(b:UInt8):Nat × Nat:=if b=10 then (p.1+1,1) else (p.1,p.2+1)
def spotOf (l:List UInt8):Nat × Nat:=l.foldl spotStep (1,1)
theorem spotOf_snoc (l:List UInt8)(b:UInt8):spotOf (l++[b])=spotStep (spotOf l) b:=by simp [spotOf]
set_option maxHeartbeats 2000000 in
theorem rspot_any (s:ByteArray)(m:Nat)(w:World)(hm:m≤s.size)(hs:s.size≤2000000):Calls Tryd.prog 48 #[.string s,.int .i64 m] w fun e w'=>e=.returned (.agg #[.int .i64 (spotOf (s.data.toList.take m)).1,.int .i64 (spotOf (s.data.toList.take m)).2])∧Below w.heap.size w w':=by
 have hb:=(Below.refl w.heap.size w).alloc (Nat.le_refl _) (.cells #[.int .i64 0,.int .i64 0] 26)
 go_enter Tryd.func48,Tryd.ntmps48
 go_wp2_with fail
 go_loop [5,6,7] (fun a b i=>∃k l c:Nat,k≤m∧i=.int .i64 k∧a=.int .i64 l∧b=.int .i64 c∧Hid (spotOf (s.data.toList.take k)=(l,c))∧l≤k+1∧c≤k+1) (fun _ _ i=>m-(intOf i).toNat)
 case atStart=>exact⟨0,1,1,Nat.zero_le _,rfl,rfl,rfl,Lib.hid rfl,by omega,by omega⟩
 case round=>
  obtain⟨k,l,c,hk,rfl,rfl,rfl,hsp,hl,hc⟩:=hrel
  by_cases hlt:k<m
  ·have hks:k<s.size:=by omega
   have i1:(k:Int)<(s.size:Int):=by omega
   have hts:s.data.toList.take (k+1)=s.data.toList.take k++[s[k]]:=by
    rw [List.take_succ_eq_append_getElem (by simpa using hks)]
    rfl
   have hstep:spotOf (s.data.toList.take (k+1))=spotStep (l,c) s[k]:=by rw [hts,spotOf_snoc,hsp.out]
   by_cases hb10:s[k]=10
   ·have e1:((s[k].toNat:Int)==10)=true:=by rw [hb10];rfl
    rw [show spotStep (l,c) s[k]=(l+1,1) from by unfold spotStep;rw [if_pos hb10]] at hstep
    replace hstep:=Lib.hid hstep
    clear hts hb10 hsp
    go_wp2_with fail
    go_round
    case rel=>exact⟨k+1,l+1,1,by omega,by go_num,by go_num,rfl,hstep,by omega,by omega⟩
    case measure=>simp [intOf];omega
   ·have e1:((s[k].toNat:Int)==10)=false:=by rw [show ((s[k].toNat:Int)==10)=(s[k]==10) from eqB s[k] 10];simpa using hb10
    rw [show spotStep (l,c) s[k]=(l,c+1) from by unfold spotStep;rw [if_neg hb10]] at hstep
    replace hstep:=Lib.hid hstep
    clear hts hb10 hsp
    go_wp2_with fail
    go_round
    case rel=>exact⟨k+1,l,c+1,by omega,by go_num,rfl,by go_num,hstep,by omega,by omega⟩
    case measure=>simp [intOf];omega
  ·have:k=m:=by omega
   subst this
   go_wp2_with fail
   refine bodyPost_ret (v:=.agg #[.int .i64 l,.int .i64 c]) (by simp [results,Tryd.results48,go_sem]) rfl ⟨by rw [hsp.out],?_⟩
   exact (Below.refl _ _).alloc (Nat.le_refl _) _
end
end Go.Proofs.YtgcanabckogmmaaDoor
