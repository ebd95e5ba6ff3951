/- RdG2, RfM1, RfM2, RdG5, RdG6, RdE1, RdE2. -/
import Derived.Test.YtgcanabckogmmaaDoorZR21
namespace Go.Proofs.YtgcanabckogmmaaDoor
set_option linter.unusedVariables false
set_option linter.unusedSimpArgs false
section
section
variable {α β:Type} {E r0:Tok} {R:List Tok}
def OkL (E:Tok)(l:List Tok):Prop:=∀t∈l,t.kind≠4∧t.line≤E.line
theorem OkL.tail {t:Tok}{l:List Tok}(h:OkL E (t::l)):OkL E l:=fun x hx=>h x (List.mem_cons_of_mem _ hx)
def Sim (E:Tok)(R:List Tok)(r1 r2:Except Flt (α × List Tok)):Prop:=
 match r1 with
 | .ok (x,l1)=>∃l',l1=l'++[E]∧OkL E l'∧r2=.ok (x,l'++R)
 | .error e=>e.2.2=41∨e.2.2=40∧r2=.error e
def SimL (E:Tok)(R:List Tok)(r1 r2:Except Flt (List Tok)):Prop:=
 match r1 with
 | .ok l1=>∃l',l1=l'++[E]∧OkL E l'∧r2=.ok (l'++R)
 | .error e=>e.2.2=41∨e.2.2=40∧r2=.error e
def bindE (r:Except Flt (α × List Tok))(g:α→List Tok→Except Flt (β × List Tok)):Except Flt (β × List Tok):=
 match r with
 | .error e=>.error e
 | .ok p=>g p.1 p.2
theorem Sim.bind {r1 r2:Except Flt (α × List Tok)}{g:α→List Tok→Except Flt (β × List Tok)}(h:Sim E R r1 r2)(hg:∀x l,OkL E l→Sim E R (g x (l++[E])) (g x (l++R))):Sim E R (bindE r1 g) (bindE r2 g):=by
 cases r1 with
 | error e=>
  rcases h with h | h
  ·exact .inl h
  ·obtain⟨h0,h⟩:=h
   subst h
   exact .inr ⟨h0,rfl⟩
 | ok p=>
  obtain⟨x,l1⟩:=p
  obtain⟨l',rfl,hk,rfl⟩:=h
  exact hg x l' hk
theorem nameP_b (l:List Tok)(ln:Nat):nameP l ln=bindE (takeP 1 l ln) (fun t l=>.ok (nmT t,l)):=by
 unfold nameP bindE
 cases takeP 1 l ln<;>rfl
theorem SimL.bind {r1 r2:Except Flt (List Tok)}{g:List Tok→Except Flt (β × List Tok)}(h:SimL E R r1 r2)(hg:∀l,OkL E l→Sim E R (g (l++[E])) (g (l++R))):
  Sim E R (match (generalizing:=false) r1 with | .error e=>.error e | .ok l=>g l) (match (generalizing:=false) r2 with | .error e=>.error e | .ok l=>g l):=by
 cases r1 with
 | error e=>
  rcases h with h | h
  ·exact .inl h
  ·obtain⟨h0,h⟩:=h
   subst h
   exact .inr ⟨h0,rfl⟩
 | ok l1=>
  obtain⟨l',rfl,hk,rfl⟩:=h
  exact hg l' hk
theorem Sim.ok {x:α}{l:List Tok}(h:OkL E l):Sim E R (.ok (x,l++[E])) (.ok (x,l++R)):=⟨l,rfl,h,rfl⟩
end
end
section
def wordS (q:List Tok)(k:Nat)(s:List UInt8):Bool:=
 match q with
 | []=>false
 | t::_=>t.kind==k&&(s==[] || t.text==s)
def rowS:Nat→Bool→List UInt8→List Tok→Nat × Bool
 | 0,_,_,_=>(0,false)
 | n+1,pairs,close,q=>
  if wordS q 1 []=false then (0,false)
  else if (pairs&&!wordS (q.drop 1) 3 [58])=true then (1,false)
  else if (pairs&&!wordS (q.drop 2) 1 [])=true then (2,false)
  else if wordS (q.drop (if pairs then 3 else 1)) 3 close=true then ((if pairs then 3 else 1)+1,true)
  else if wordS (q.drop (if pairs then 3 else 1)) 3 [44]=false then ((if pairs then 3 else 1),false)
  else ((if pairs then 3 else 1)+1+(rowS n pairs close (q.drop ((if pairs then 3 else 1)+1))).1,(rowS n pairs close (q.drop ((if pairs then 3 else 1)+1))).2)
def rowF (pairs:Bool)(close:List UInt8)(q:List Tok):Nat × Bool:=
 if (!pairs&&wordS q 3 close)=true then (1,true) else rowS (q.length+1) pairs close q
def litT (q:List Tok)(s:List UInt8):Bool:=
 match q with
 | []=>false
 | t::_=>(t.kind==1 || t.kind==3)&&t.text==s
def farS:List (List UInt8)→List Tok→Nat × Bool
 | [],_=>(0,true)
 | it::r,q=>
  if it=[78] then (if wordS q 1 []=true then (1+(farS r (q.drop 1)).1,(farS r (q.drop 1)).2) else (0,false))
  else if it=[75] then (if wordS q 2 []=true then (1+(farS r (q.drop 1)).1,(farS r (q.drop 1)).2) else (0,false))
  else if it=[63] then (if wordS q 1 []=true then (1,true) else (0,true))
  else if it=[40]∨it=[91] then
   (if wordS q 3 it=false then (0,false)
   else if (rowF (decide (it=[91])) (if it=[91] then [93] else [41]) (q.drop 1)).2=true then (1+(rowF (decide (it=[91])) (if it=[91] then [93] else [41]) (q.drop 1)).1+(farS r (q.drop (1+(rowF (decide (it=[91])) (if it=[91] then [93] else [41]) (q.drop 1)).1))).1,(farS r (q.drop (1+(rowF (decide (it=[91])) (if it=[91] then [93] else [41]) (q.drop 1)).1))).2)
   else (1+(rowF (decide (it=[91])) (if it=[91] then [93] else [41]) (q.drop 1)).1,false))
  else if litT q it=true then (1+(farS r (q.drop 1)).1,(farS r (q.drop 1)).2) else (0,false)
theorem d1C {α:Type}(a:α)(r:List α):List.drop 1 (a::r)=r:=rfl
theorem d2C {α:Type}(a b:α)(r:List α):List.drop 2 (a::b::r)=r:=rfl
theorem d3C {α:Type}(a b c:α)(r:List α):List.drop 3 (a::b::c::r)=r:=rfl
structure Pc (ln:Nat) (R:List Tok) (q:List Tok):Prop where
 all:∀t∈q,t.kind≠4∧t.line=ln
 end':moreB R ln=false
section
variable {α:Type} {ln:Nat} {R q:List Tok}
theorem Pc.drop (h:Pc ln R q)(n:Nat):Pc ln R (q.drop n):=⟨fun t ht=>h.all t (List.mem_of_mem_drop ht),h.end'⟩
theorem Pc.tail {t:Tok}(h:Pc ln R (t::q)):Pc ln R q:=⟨fun x hx=>h.all x (List.mem_cons_of_mem _ hx),h.end'⟩
def Agr (R q:List Tok)(res:Nat × Bool)(x:α)(r:Except Flt (α × List Tok)):Prop:=res.1≤q.length∧r=if res.2=true then .ok (x,q.drop res.1++R) else .error (fltL (q.drop res.1++R))
theorem more_pc (h:Pc ln R q):moreB (q++R) ln=!q.isEmpty:=by
 cases q with
 | nil=>rw [List.nil_append,h.end'];rfl
 | cons t q=>
  obtain⟨h1,h2⟩:=h.all t (List.mem_cons_self ..)
  show (!(t.kind==4)&&t.line==ln)=true
  simp [h1,h2]
theorem isB_pc (h:Pc ln R q)(c:UInt8):isB (q++R) ln c=wordS q 3 [c]:=by
 unfold isB
 rw [more_pc h]
 cases q with
 | nil=>rfl
 | cons t q=>
  show (true&&(t.kind==3&&t.text==[c]))=(t.kind==3&&([c]==[] || t.text==[c]))
  simp
theorem sign_pc (h:Pc ln R q)(c:UInt8):signP c (q++R) ln=if wordS q 3 [c]=true then .ok (q.drop 1++R) else .error (fltL (q++R)):=by
 unfold signP
 rw [isB_pc h]
 split
 ·cases q with
  | nil=>simp [wordS] at *
  | cons t q=>rfl
 ·rfl
theorem take_pc (h:Pc ln R q)(k:Nat):takeP k (q++R) ln=if wordS q k []=true then .ok ((q.headD ⟨0,[],0,0,0⟩),q.drop 1++R) else .error (fltL (q++R)):=by
 have hm:=more_pc h
 cases q with
 | nil=>
  rw [List.nil_append] at hm ⊢
  unfold takeP
  cases R with
  | nil=>rfl
  | cons t R=>
   have hm:moreB (t::R) ln=false:=hm
   dsimp only
   rw [hm]
   rfl
 | cons t q=>
  show (if (moreB (t::(q++R)) ln&&t.kind==k)=true then Except.ok (t,q++R) else .error (fltL (t::(q++R))))=_
  have hm:moreB (t::(q++R)) ln=true:=hm
  rw [hm,Bool.true_and]
  have e:wordS (t::q) k []=(t.kind==k):=by show (t.kind==k&&([]==[] || t.text==[]))=_;simp
  rw [e]
  rfl
theorem name_pc (h:Pc ln R q):nameP (q++R) ln=if wordS q 1 []=true then .ok (nmT (q.headD ⟨0,[],0,0,0⟩),q.drop 1++R) else .error (fltL (q++R)):=by
 unfold nameP
 rw [take_pc h]
 by_cases hc:wordS q 1 []=true
 ·rw [if_pos hc,if_pos hc]
 ·rw [if_neg hc,if_neg hc]
def nmsT (l:List Tok):List ByteArray:=(l.filter fun t=>t.kind==1).map nmT
theorem word_cons {k:Nat}{s:List UInt8}(h:wordS q k s=true):∃t r,q=t::r∧t.kind=k∧(s≠[]→t.text=s):=by
 cases q with
 | nil=>simp [wordS] at h
 | cons t r=>
  have h:(t.kind==k&&(s==[] || t.text==s))=true:=h
  simp only [Bool.and_eq_true,Bool.or_eq_true,beq_iff_eq] at h
  exact⟨t,r,rfl,h.1,fun hs=>h.2.resolve_left hs⟩
theorem nms_name {t:Tok}{l:List Tok}(h:t.kind=1):nmsT (t::l)=nmT t::nmsT l:=by
 unfold nmsT
 rw [List.filter_cons_of_pos (by simp [h])]
 rfl
theorem nms_skip {t:Tok}{l:List Tok}(h:t.kind≠1):nmsT (t::l)=nmsT l:=by
 unfold nmsT
 rw [List.filter_cons_of_neg (by simp [h])]
theorem oneName_pc (h:Pc ln R q)(x:List ByteArray):oneName x (q++R) ln=if wordS q 1 []=true then .ok (x++[nmT (q.headD ⟨0,[],0,0,0⟩)],q.drop 1++R) else .error (fltL (q++R)):=by
 unfold oneName
 rw [name_pc h]
 by_cases hc:wordS q 1 []=true
 ·rw [if_pos hc,if_pos hc]
 ·rw [if_neg hc,if_neg hc]
theorem list_pc:∀(n m:Nat) (x:List ByteArray) (q:List Tok),Pc ln R q→q.length<n→q.length<m→Agr R q (rowS m false [41] q) (x++nmsT (q.take (rowS m false [41] q).1)) (listP oneName 41 n x (q++R) ln)
 | 0,_,_,_,_,h,_=>by omega
 | _,0,_,_,_,_,h=>by omega
 | n+1,m+1,x,q,h,hn,hm=>by
  rw [listP,oneName_pc h]
  by_cases h1:wordS q 1 []=true
  ·rw [if_pos h1]
   obtain⟨t,r,rfl,hk,-⟩:=word_cons h1
   have hr:=h.tail
   rw [List.headD_cons,d1C]
   dsimp only
   rw [isB_pc hr,sign_pc hr,sign_pc hr]
   have e0:rowS (m+1) false [41] (t::r)=if wordS r 3 [41]=true then (2,true) else if wordS r 3 [44]=false then (1,false) else (2+(rowS m false [41] (r.drop 1)).1,(rowS m false [41] (r.drop 1)).2):=by
    rw [rowS]
    rw [if_neg (by rw [h1];simp),if_neg (by simp),if_neg (by simp)]
    rfl
   rw [e0]
   by_cases h2:wordS r 3 [41]=true
   ·rw [if_pos h2,if_pos h2]
    obtain⟨u,r2,rfl,hk2,-⟩:=word_cons h2
    refine⟨by simp,?_⟩
    rw [if_pos h2]
    show Except.ok (x++[nmT t],r2++R)=Except.ok (x++nmsT [t,u],r2++R)
    rw [nms_name hk,nms_skip (by omega)]
    rfl
   ·rw [if_neg h2,if_neg h2]
    by_cases h3:wordS r 3 [44]=true
    ·rw [if_pos h3,if_neg (by rw [h3];simp)]
     obtain⟨u,r2,rfl,hk2,-⟩:=word_cons h3
     have ih:=list_pc n m (x++[nmT t]) r2 hr.tail (by simp only [List.length_cons] at hn;omega) (by simp only [List.length_cons] at hm;omega)
     obtain⟨i1,i2⟩:=ih
     refine⟨by simp only [List.length_cons,d1C];omega,?_⟩
     rw [d1C]
     dsimp only
     rw [i2]
     have e1:2+(rowS m false [41] r2).1=(rowS m false [41] r2).1+1+1:=by omega
     rw [e1]
     dsimp only [List.drop_succ_cons,List.take_succ_cons]
     rw [nms_name hk,nms_skip (by omega),List.append_assoc]
     rfl
    ·rw [if_neg h3,if_pos (by simpa using h3)]
     exact⟨by simp,rfl⟩
  ·rw [if_neg h1]
   have e0:rowS (m+1) false [41] q=(0,false):=by
    rw [rowS]
    rw [if_pos (by simpa using h1)]
   rw [e0]
   exact⟨Nat.zero_le _,rfl⟩
theorem names_pc (h:Pc ln R q):Agr R q (if wordS q 3 [40]=false then (0,false) else (1+(rowF false [41] (q.drop 1)).1,(rowF false [41] (q.drop 1)).2)) (nmsT (q.take (1+(rowF false [41] (q.drop 1)).1))) (namesP (q++R) ln):=by
 unfold namesP
 rw [sign_pc h]
 by_cases h1:wordS q 3 [40]=true
 ·rw [if_pos h1,if_neg (by rw [h1];simp)]
  obtain⟨t,r,rfl,hk,-⟩:=word_cons h1
  have hr:=h.tail
  rw [d1C]
  dsimp only
  rw [isB_pc hr,sign_pc hr]
  unfold rowF
  by_cases h2:wordS r 3 [41]=true
  ·rw [if_pos h2,if_pos h2,if_pos (by rw [h2];rfl)]
   obtain⟨u,r2,rfl,hk2,-⟩:=word_cons h2
   refine⟨by simp,?_⟩
   show Except.ok ([],r2++R)=Except.ok (nmsT [t,u],r2++R)
   rw [nms_skip (by omega),nms_skip (by omega)]
   rfl
  ·rw [if_neg h2,if_neg (by simpa using h2)]
   obtain⟨i1,i2⟩:=list_pc (ln:=ln) (R:=R) ((r++R).length+1) (r.length+1) [] r hr (by simp;omega) (by omega)
   refine⟨by simp only [List.length_cons];omega,?_⟩
   rw [i2]
   have e1:1+(rowS (r.length+1) false [41] r).1=(rowS (r.length+1) false [41] r).1+1:=by omega
   rw [e1]
   dsimp only [List.drop_succ_cons,List.take_succ_cons]
   rw [nms_skip (by omega),List.nil_append]
   rfl
 ·rw [if_neg h1,if_pos (by simpa using h1)]
  exact⟨Nat.zero_le _,rfl⟩
def addPairs (x:Ins):List ByteArray→Ins
 | a::b::r=>addPairs {x with labels:=x.labels++[a],args:=x.args++[b]} r
 | _=>x
theorem pairs_pc:∀(n m:Nat) (x:Ins) (q:List Tok),Pc ln R q→q.length<n→q.length<m→Agr R q (rowS m true [93] q) (addPairs x (nmsT (q.take (rowS m true [93] q).1))) (listP pairP 93 n x (q++R) ln)
 | 0,_,_,_,_,h,_=>by omega
 | _,0,_,_,_,_,h=>by omega
 | n+1,m+1,x,q,h,hn,hm=>by
  have ep:∀(x:Ins) (q:List Tok),Pc ln R q→pairP x (q++R) ln=if wordS q 1 []=false then .error (fltL (q++R)) else if wordS (q.drop 1) 3 [58]=false then .error (fltL (q.drop 1++R)) else if wordS (q.drop 2) 1 []=false then .error (fltL (q.drop 2++R)) else .ok ({x with labels:=x.labels++[nmT (q.headD ⟨0,[],0,0,0⟩)],args:=x.args++[nmT ((q.drop 2).headD ⟨0,[],0,0,0⟩)]},q.drop 3++R):=fun x q h=>by
   unfold pairP thenP labelP skipP argP
   rw [name_pc h]
   by_cases h1:wordS q 1 []=true
   ·rw [if_pos h1,if_neg (by rw [h1];simp)]
    dsimp only
    rw [sign_pc (h.drop 1)]
    by_cases h2:wordS (q.drop 1) 3 [58]=true
    ·rw [if_pos h2,if_neg (by rw [h2];simp)]
     dsimp only
     rw [List.drop_drop,name_pc (h.drop 2)]
     by_cases h3:wordS (q.drop 2) 1 []=true
     ·rw [if_pos h3,if_neg (by rw [h3];simp)]
      dsimp only
      rw [List.drop_drop]
     ·rw [if_neg h3,if_pos (by simpa using h3)]
    ·rw [if_neg h2,if_pos (by simpa using h2)]
   ·rw [if_neg h1,if_pos (by simpa using h1)]
  rw [listP,ep x q h,rowS]
  by_cases h1:wordS q 1 []=true
  ·rw [if_neg (show ¬(wordS q 1 []=false) by rw [h1];simp),if_neg (show ¬(wordS q 1 []=false) by rw [h1];simp)]
   by_cases h2:wordS (q.drop 1) 3 [58]=true
   ·rw [if_neg (show ¬(wordS (q.drop 1) 3 [58]=false) by rw [h2];simp),if_neg (show ¬((true&&!wordS (q.drop 1) 3 [58])=true) by rw [h2];simp)]
    by_cases h3:wordS (q.drop 2) 1 []=true
    ·rw [if_neg (show ¬(wordS (q.drop 2) 1 []=false) by rw [h3];simp),if_neg (show ¬((true&&!wordS (q.drop 2) 1 [])=true) by rw [h3];simp)]
     obtain⟨t,r,rfl,hk,-⟩:=word_cons h1
     obtain⟨u,r2,e2,hk2,-⟩:=word_cons h2
     rw [d1C] at e2
     subst e2
     obtain⟨v,r3,e3,hk3,-⟩:=word_cons h3
     rw [d2C] at e3
     subst e3
     have hr:=h.tail.tail.tail
     rw [d3C,d2C,List.headD_cons,List.headD_cons]
     simp only [if_true]
     rw [d3C]
     rw [isB_pc hr,sign_pc hr,sign_pc hr]
     by_cases h4:wordS r3 3 [93]=true
     ·rw [if_pos h4,if_pos h4,if_pos h4]
      obtain⟨y,r4,rfl,hk4,-⟩:=word_cons h4
      refine⟨by simp,?_⟩
      rw [if_pos rfl]
      show Except.ok (_,r4++R)=Except.ok (addPairs x (nmsT [t,u,v,y]),r4++R)
      rw [nms_name hk,nms_skip (by omega),nms_name hk3,nms_skip (by omega)]
      rfl
     ·rw [if_neg h4,if_neg h4]
      by_cases h5:wordS r3 3 [44]=true
      ·rw [if_pos h5,if_neg (by rw [h5];simp)]
       obtain⟨y,r4,rfl,hk4,-⟩:=word_cons h5
       obtain⟨i1,i2⟩:=pairs_pc n m {x with labels:=x.labels++[nmT t],args:=x.args++[nmT v]} r4 hr.tail (by simp only [List.length_cons] at hn;omega) (by simp only [List.length_cons] at hm;omega)
       rw [show List.drop (3+1) (t::u::v::y::r4)=r4 from rfl,d1C]
       refine⟨by simp only [List.length_cons];omega,?_⟩
       dsimp only
       rw [i2]
       have e1:3+1+(rowS m true [93] r4).1=(rowS m true [93] r4).1+1+1+1+1:=by omega
       rw [e1]
       dsimp only [List.drop_succ_cons,List.take_succ_cons]
       rw [nms_name hk,nms_skip (by omega),nms_name hk3,nms_skip (by omega)]
       rfl
      ·rw [if_neg h5,if_pos (by simpa using h5)]
       exact⟨by simp,rfl⟩
    ·rw [if_pos (show wordS (q.drop 2) 1 []=false by simpa using h3),if_pos (show (true&&!wordS (q.drop 2) 1 [])=true by simpa using h3)]
     obtain⟨t,r,rfl,hk,-⟩:=word_cons h1
     obtain⟨u,r2,e2,hk2,-⟩:=word_cons h2
     rw [d1C] at e2
     subst e2
     exact⟨by simp,rfl⟩
   ·rw [if_pos (show wordS (q.drop 1) 3 [58]=false by simpa using h2),if_pos (show (true&&!wordS (q.drop 1) 3 [58])=true by simpa using h2)]
    obtain⟨t,r,rfl,hk,-⟩:=word_cons h1
    exact⟨by simp,rfl⟩
  ·rw [if_pos (show wordS q 1 []=false by simpa using h1),if_pos (show wordS q 1 []=false by simpa using h1)]
   exact⟨Nat.zero_le _,rfl⟩
end
end
section
def Wd1 (t:Tok):Prop:=(t.kind=1→∀c,signB c=true→t.text≠[c])∧(t.kind=3→∃c,t.text=[c]∧signB c=true)∧(t.kind=2→∀c r,t.text=c::r→letterB c=false)∧(t.kind=1∨t.kind=2∨t.kind=3)
def numL (l:List Tok)(z:Nat):Nat:=l.foldl (fun n t=>if t.kind=2 then t.num else n) z
theorem numL_cons (t:Tok)(l:List Tok)(z:Nat):numL (t::l) z=numL l (if t.kind=2 then t.num else z):=rfl
theorem numL_nil (z:Nat):numL [] z=z:=rfl
theorem nms_nil:nmsT []=[]:=rfl
def restI:Rst→List (List UInt8)
 | .fields=>[[75]]
 | .nothing=>[]
 | .fn=>[[78]]
 | .operand=>[[78]]
 | .field=>[[78],[75]]
 | .phi=>[[91]]
 | .call=>[[78],[40]]
 | .icall=>[[78],[40]]
 | .store=>[[78],[44],[78]]
 | .branch=>[[78],[78]]
 | .label=>[[78]]
 | .result=>[[63]]
def restV:Rst→Ins→List ByteArray→Nat→Ins
 | .fields,x,_,k=>{x with n:=k}
 | .fn,x,s::_,_=>{x with fn:=s}
 | .operand,x,s::_,_=>{x with a:=s}
 | .field,x,s::_,k=>{x with a:=s,n:=k}
 | .phi,x,ns,_=>addPairs x ns
 | .call,x,s::ns,_=>{x with fn:=s,args:=ns}
 | .icall,x,s::ns,_=>{x with a:=s,args:=ns}
 | .store,x,s::u::_,_=>{x with a:=s,b:=u}
 | .branch,x,s::u::_,_=>{x with labels:=x.labels++[s]++[u]}
 | .label,x,s::_,_=>{x with labels:=x.labels++[s]}
 | .result,x,s::_,_=>{x with a:=s}
 | _,x,_,_=>x
theorem farS_N (r:List (List UInt8))(q:List Tok):farS ([78]::r) q=if wordS q 1 []=true then (1+(farS r (q.drop 1)).1,(farS r (q.drop 1)).2) else (0,false):=by rw [farS,if_pos rfl]
theorem farS_K (r:List (List UInt8))(q:List Tok):farS ([75]::r) q=if wordS q 2 []=true then (1+(farS r (q.drop 1)).1,(farS r (q.drop 1)).2) else (0,false):=by rw [farS,if_neg (by decide),if_pos rfl]
theorem farS_Q (r:List (List UInt8))(q:List Tok):farS ([63]::r) q=if wordS q 1 []=true then (1,true) else (0,true):=by rw [farS,if_neg (by decide),if_neg (by decide),if_pos rfl]
theorem farS_L {it:List UInt8}(h:it≠[78]∧it≠[75]∧it≠[63]∧it≠[40]∧it≠[91])(r:List (List UInt8))(q:List Tok):farS (it::r) q=if litT q it=true then (1+(farS r (q.drop 1)).1,(farS r (q.drop 1)).2) else (0,false):=by
 rw [farS,if_neg h.1,if_neg h.2.1,if_neg h.2.2.1,if_neg (by rintro (e | e);exact h.2.2.2.1 e;exact h.2.2.2.2 e)]
theorem farS_nil (q:List Tok):farS [] q=(0,true):=rfl
theorem farS_B (q:List Tok):farS [[40]] q=if wordS q 3 [40]=false then (0,false) else (1+(rowF false [41] (q.drop 1)).1,(rowF false [41] (q.drop 1)).2):=by
 rw [farS,if_neg (by decide),if_neg (by decide),if_neg (by decide),if_pos (.inl rfl)]
 split
 ·rfl
 ·rename_i h1
  have e1:decide (([40]:List UInt8)=[91])=false:=rfl
  have e2:(if ([40]:List UInt8)=[91] then ([93]:List UInt8) else [41])=[41]:=rfl
  rw [e1,e2]
  cases hb:(rowF false [41] (q.drop 1)).2 with
  | true=>rw [if_pos rfl];rfl
  | false=>rw [if_neg (by simp)]
theorem farS_P (q:List Tok):farS [[91]] q=if wordS q 3 [91]=false then (0,false) else (1+(rowF true [93] (q.drop 1)).1,(rowF true [93] (q.drop 1)).2):=by
 rw [farS,if_neg (by decide),if_neg (by decide),if_neg (by decide),if_pos (.inr rfl)]
 split
 ·rfl
 ·rename_i h1
  have e1:decide (([91]:List UInt8)=[91])=true:=rfl
  have e2:(if ([91]:List UInt8)=[91] then ([93]:List UInt8) else [41])=[93]:=rfl
  rw [e1,e2]
  cases hb:(rowF true [93] (q.drop 1)).2 with
  | true=>rw [if_pos rfl];rfl
  | false=>rw [if_neg (by simp)]
theorem lit_sign {q:List Tok}{c:UInt8}(h:∀t∈q,Wd1 t)(hc:signB c=true):litT q [c]=wordS q 3 [c]:=by
 cases q with
 | nil=>rfl
 | cons t q=>
  have h1:=(h t (List.mem_cons_self ..)).1
  show ((t.kind==1 || t.kind==3)&&t.text==[c])=(t.kind==3&&([c]==[] || t.text==[c]))
  by_cases k1:t.kind=1
  ·have:=h1 k1 c hc
   simp [k1,this]
  ·have b1:(t.kind==1)=false:=by rw [beq_eq_false_iff_ne];exact k1
   rw [b1]
   simp
theorem lit_word {q:List Tok}{s:List UInt8}(h:∀t∈q,Wd1 t)(hs:1<s.length):litT q s=wordS q 1 s:=by
 cases q with
 | nil=>rfl
 | cons t q=>
  have h1:=(h t (List.mem_cons_self ..)).2.1
  have hne:s≠[]:=by rintro rfl;simp at hs
  show ((t.kind==1 || t.kind==3)&&t.text==s)=(t.kind==1&&(s==[] || t.text==s))
  by_cases k3:t.kind=3
  ·obtain⟨c,hc,-⟩:=h1 k3
   have:¬([c]=s):=by rintro rfl;simp at hs
   simp [k3,hc,this]
  ·have b3:(t.kind==3)=false:=by rw [beq_eq_false_iff_ne];exact k3
   have b0:(s==[])=false:=by rw [beq_eq_false_iff_ne];exact hne
   rw [b3,b0]
   simp
section
variable {ln:Nat} {R q:List Tok}
theorem fields_pc (h:Pc ln R q)(x:Ins):fieldsP x (q++R) ln=if wordS q 2 []=true then .ok ({x with n:=(q.headD ⟨0,[],0,0,0⟩).num},q.drop 1++R) else .error (fltL (q++R)):=by
 unfold fieldsP
 rw [take_pc h]
 by_cases hc:wordS q 2 []=true
 ·rw [if_pos hc,if_pos hc]
 ·rw [if_neg hc,if_neg hc]
theorem byName_pc {f:Ins→List Tok→Nat→Except Flt (Ins × List Tok)}(put:Ins→ByteArray→Ins)(hf:∀x l ln,f x l ln=match nameP l ln with | .error e=>.error e | .ok (s,l)=>.ok (put x s,l))(h:Pc ln R q)(x:Ins):f x (q++R) ln=if wordS q 1 []=true then .ok (put x (nmT (q.headD ⟨0,[],0,0,0⟩)),q.drop 1++R) else .error (fltL (q++R)):=by
 rw [hf,name_pc h]
 by_cases hc:wordS q 1 []=true
 ·rw [if_pos hc,if_pos hc]
 ·rw [if_neg hc,if_neg hc]
theorem operand_pc (h:Pc ln R q)(x:Ins):operandP x (q++R) ln=if wordS q 1 []=true then .ok ({x with a:=nmT (q.headD ⟨0,[],0,0,0⟩)},q.drop 1++R) else .error (fltL (q++R)):=byName_pc (fun x s=>{x with a:=s}) (fun _ _ _=>rfl) h x
theorem label_pc (h:Pc ln R q)(x:Ins):labelP x (q++R) ln=if wordS q 1 []=true then .ok ({x with labels:=x.labels++[nmT (q.headD ⟨0,[],0,0,0⟩)]},q.drop 1++R) else .error (fltL (q++R)):=byName_pc (fun x s=>{x with labels:=x.labels++[s]}) (fun _ _ _=>rfl) h x
theorem fn_pc (h:Pc ln R q)(x:Ins):fnP x (q++R) ln=if wordS q 1 []=true then .ok ({x with fn:=nmT (q.headD ⟨0,[],0,0,0⟩)},q.drop 1++R) else .error (fltL (q++R)):=byName_pc (fun x s=>{x with fn:=s}) (fun _ _ _=>rfl) h x
theorem val_pc (h:Pc ln R q)(x:Ins):valP x (q++R) ln=if wordS q 1 []=true then .ok ({x with b:=nmT (q.headD ⟨0,[],0,0,0⟩)},q.drop 1++R) else .error (fltL (q++R)):=byName_pc (fun x s=>{x with b:=s}) (fun _ _ _=>rfl) h x
theorem args_pc (h:Pc ln R q)(x:Ins):Agr R q (farS [[40]] q) {x with args:=nmsT (q.take (farS [[40]] q).1)} (argsP x (q++R) ln):=by
 obtain⟨h1,h2⟩:=names_pc h
 rw [farS_B]
 refine⟨h1,?_⟩
 unfold argsP
 rw [h2]
 by_cases hc:wordS q 3 [40]=false
 ·rw [if_pos hc]
  rfl
 ·rw [if_neg hc]
  cases hb:(rowF false [41] (q.drop 1)).2 with
  | true=>rw [if_pos rfl,if_pos rfl]
  | false=>rw [if_neg (by simp),if_neg (by simp)]
theorem phi_pc (h:Pc ln R q)(x:Ins):Agr R q (farS [[91]] q) (addPairs x (nmsT (q.take (farS [[91]] q).1))) (phiP x (q++R) ln):=by
 unfold phiP
 rw [sign_pc h,farS_P]
 by_cases h1:wordS q 3 [91]=true
 ·rw [if_pos h1,if_neg (by rw [h1];simp)]
  obtain⟨t,r,rfl,hk,-⟩:=word_cons h1
  have hr:=h.tail
  rw [d1C]
  dsimp only
  have e0:rowF true [93] r=rowS (r.length+1) true [93] r:=by unfold rowF;rw [if_neg (by simp)]
  rw [e0]
  obtain⟨i1,i2⟩:=pairs_pc (ln:=ln) (R:=R) ((r++R).length+1) (r.length+1) x r hr (by simp;omega) (by omega)
  refine⟨by simp only [List.length_cons];omega,?_⟩
  rw [i2]
  have e1:1+(rowS (r.length+1) true [93] r).1=(rowS (r.length+1) true [93] r).1+1:=by omega
  rw [e1]
  dsimp only [List.drop_succ_cons,List.take_succ_cons]
  rw [nms_skip (by omega)]
  rfl
 ·rw [if_neg h1,if_pos (by simpa using h1)]
  exact⟨Nat.zero_le _,rfl⟩
theorem rest_pc (hw:∀t∈q,Wd1 t)(h:Pc ln R q)(r:Rst)(hr:r≠ .result)(x:Ins):Agr R q (farS (restI r) q) (restV r x (nmsT (q.take (farS (restI r) q).1)) (numL (q.take (farS (restI r) q).1) 0)) (restP r x (q++R) ln):=by
 cases r with
 | fields=>
  show Agr R q (farS [[75]] q) {x with n:=(numL (q.take (farS [[75]] q).1) 0:Nat)} (fieldsP x (q++R) ln)
  rw [farS_K,fields_pc h]
  by_cases h1:wordS q 2 []=true
  ·rw [if_pos h1,if_pos h1]
   obtain⟨t,r,rfl,hk,-⟩:=word_cons h1
   refine⟨by simp [farS_nil],?_⟩
   show Except.ok ({x with n:=(t.num:Int)},r++R)=Except.ok ({x with n:=((numL [t] 0:Nat):Int)},r++R)
   rw [numL_cons,if_pos hk]
   rfl
  ·rw [if_neg h1,if_neg h1]
   exact⟨Nat.zero_le _,rfl⟩
 | nothing=>exact⟨Nat.zero_le _,rfl⟩
 | fn=>
  show Agr R q (farS [[78]] q) (restV .fn x (nmsT (q.take (farS [[78]] q).1)) _) (fnP x (q++R) ln)
  rw [farS_N,fn_pc h]
  by_cases h1:wordS q 1 []=true
  ·rw [if_pos h1,if_pos h1]
   obtain⟨t,r,rfl,hk,-⟩:=word_cons h1
   refine⟨by simp [farS_nil],?_⟩
   show Except.ok _=Except.ok (restV .fn x (nmsT [t]) _,r++R)
   rw [nms_name hk]
   rfl
  ·rw [if_neg h1,if_neg h1]
   exact⟨Nat.zero_le _,rfl⟩
 | operand=>
  show Agr R q (farS [[78]] q) (restV .operand x (nmsT (q.take (farS [[78]] q).1)) _) (operandP x (q++R) ln)
  rw [farS_N,operand_pc h]
  by_cases h1:wordS q 1 []=true
  ·rw [if_pos h1,if_pos h1]
   obtain⟨t,r,rfl,hk,-⟩:=word_cons h1
   refine⟨by simp [farS_nil],?_⟩
   show Except.ok _=Except.ok (restV .operand x (nmsT [t]) _,r++R)
   rw [nms_name hk]
   rfl
  ·rw [if_neg h1,if_neg h1]
   exact⟨Nat.zero_le _,rfl⟩
 | label=>
  show Agr R q (farS [[78]] q) (restV .label x (nmsT (q.take (farS [[78]] q).1)) _) (labelP x (q++R) ln)
  rw [farS_N,label_pc h]
  by_cases h1:wordS q 1 []=true
  ·rw [if_pos h1,if_pos h1]
   obtain⟨t,r,rfl,hk,-⟩:=word_cons h1
   refine⟨by simp [farS_nil],?_⟩
   show Except.ok _=Except.ok (restV .label x (nmsT [t]) _,r++R)
   rw [nms_name hk]
   rfl
  ·rw [if_neg h1,if_neg h1]
   exact⟨Nat.zero_le _,rfl⟩
 | field=>
  show Agr R q (farS [[78],[75]] q) (restV .field x (nmsT (q.take (farS [[78],[75]] q).1)) (numL (q.take (farS [[78],[75]] q).1) 0)) (thenP operandP fieldsP x (q++R) ln)
  unfold thenP
  rw [farS_N,operand_pc h]
  by_cases h1:wordS q 1 []=true
  ·rw [if_pos h1,if_pos h1]
   obtain⟨t,r,rfl,hk,-⟩:=word_cons h1
   rw [d1C,farS_K]
   dsimp only
   rw [fields_pc h.tail]
   by_cases h2:wordS r 2 []=true
   ·rw [if_pos h2,if_pos h2]
    obtain⟨u,r2,rfl,hk2,-⟩:=word_cons h2
    refine⟨by simp [farS_nil],?_⟩
    show Except.ok _=Except.ok (restV .field x (nmsT [t,u]) (numL [t,u] 0),r2++R)
    rw [nms_name hk,numL_cons,numL_cons,if_pos hk2]
    rfl
   ·rw [if_neg h2,if_neg h2]
    exact⟨by simp,rfl⟩
  ·rw [if_neg h1,if_neg h1]
   exact⟨Nat.zero_le _,rfl⟩
 | phi=>exact phi_pc h x
 | call=>
  show Agr R q (farS [[78],[40]] q) (restV .call x (nmsT (q.take (farS [[78],[40]] q).1)) _) (thenP fnP argsP x (q++R) ln)
  unfold thenP
  rw [farS_N,fn_pc h]
  by_cases h1:wordS q 1 []=true
  ·rw [if_pos h1,if_pos h1]
   obtain⟨t,r,rfl,hk,-⟩:=word_cons h1
   rw [d1C]
   dsimp only
   obtain⟨i1,i2⟩:=args_pc h.tail {x with fn:=nmT t}
   refine⟨by simp only [List.length_cons];omega,?_⟩
   rw [List.headD_cons,i2]
   have e1:1+(farS [[40]] r).1=(farS [[40]] r).1+1:=by omega
   rw [e1]
   dsimp only [List.drop_succ_cons,List.take_succ_cons]
   rw [nms_name hk]
   rfl
  ·rw [if_neg h1,if_neg h1]
   exact⟨Nat.zero_le _,rfl⟩
 | icall=>
  show Agr R q (farS [[78],[40]] q) (restV .icall x (nmsT (q.take (farS [[78],[40]] q).1)) _) (thenP operandP argsP x (q++R) ln)
  unfold thenP
  rw [farS_N,operand_pc h]
  by_cases h1:wordS q 1 []=true
  ·rw [if_pos h1,if_pos h1]
   obtain⟨t,r,rfl,hk,-⟩:=word_cons h1
   rw [d1C]
   dsimp only
   obtain⟨i1,i2⟩:=args_pc h.tail {x with a:=nmT t}
   refine⟨by simp only [List.length_cons];omega,?_⟩
   rw [List.headD_cons,i2]
   have e1:1+(farS [[40]] r).1=(farS [[40]] r).1+1:=by omega
   rw [e1]
   dsimp only [List.drop_succ_cons,List.take_succ_cons]
   rw [nms_name hk]
   rfl
  ·rw [if_neg h1,if_neg h1]
   exact⟨Nat.zero_le _,rfl⟩
 | store=>
  show Agr R q (farS [[78],[44],[78]] q) (restV .store x (nmsT (q.take (farS [[78],[44],[78]] q).1)) _) (thenP operandP (thenP (skipP 44) valP) x (q++R) ln)
  unfold thenP skipP
  rw [farS_N,operand_pc h]
  by_cases h1:wordS q 1 []=true
  ·rw [if_pos h1,if_pos h1]
   obtain⟨t,r,rfl,hk,-⟩:=word_cons h1
   rw [d1C,farS_L (by decide),lit_sign (fun u hu=>hw u (List.mem_cons_of_mem _ hu)) (by decide)]
   dsimp only
   rw [sign_pc h.tail]
   by_cases h2:wordS r 3 [44]=true
   ·rw [if_pos h2,if_pos h2]
    obtain⟨u,r2,rfl,hk2,-⟩:=word_cons h2
    rw [d1C,farS_N]
    dsimp only
    rw [val_pc h.tail.tail]
    by_cases h3:wordS r2 1 []=true
    ·rw [if_pos h3,if_pos h3]
     obtain⟨v,r3,rfl,hk3,-⟩:=word_cons h3
     refine⟨by simp [farS_nil],?_⟩
     show Except.ok _=Except.ok (restV .store x (nmsT [t,u,v]) _,r3++R)
     rw [nms_name hk,nms_skip (by omega),nms_name hk3]
     rfl
    ·rw [if_neg h3,if_neg h3]
     exact⟨by simp,rfl⟩
   ·rw [if_neg h2,if_neg h2]
    exact⟨by simp,rfl⟩
  ·rw [if_neg h1,if_neg h1]
   exact⟨Nat.zero_le _,rfl⟩
 | branch=>
  show Agr R q (farS [[78],[78]] q) (restV .branch x (nmsT (q.take (farS [[78],[78]] q).1)) _) (thenP labelP labelP x (q++R) ln)
  unfold thenP
  rw [farS_N,label_pc h]
  by_cases h1:wordS q 1 []=true
  ·rw [if_pos h1,if_pos h1]
   obtain⟨t,r,rfl,hk,-⟩:=word_cons h1
   rw [d1C,farS_N]
   dsimp only
   rw [label_pc h.tail]
   by_cases h2:wordS r 1 []=true
   ·rw [if_pos h2,if_pos h2]
    obtain⟨u,r2,rfl,hk2,-⟩:=word_cons h2
    refine⟨by simp [farS_nil],?_⟩
    show Except.ok _=Except.ok (restV .branch x (nmsT [t,u]) _,r2++R)
    rw [nms_name hk,nms_name hk2]
    rfl
   ·rw [if_neg h2,if_neg h2]
    exact⟨by simp,rfl⟩
  ·rw [if_neg h1,if_neg h1]
   exact⟨Nat.zero_le _,rfl⟩
 | result=>exact absurd rfl hr
def Ful (R q:List Tok){α:Type}(res:Nat × Bool)(x:α)(r:Except Flt (α × List Tok)):Prop:=
 res.1≤q.length∧((res.2=true∧res.1=q.length∧r=.ok (x,R))∨(¬(res.2=true∧res.1=q.length)∧(r=.error (fltL (q.drop res.1++R))∨∃y,q.drop res.1≠[]∧r=.ok (y,q.drop res.1++R))))
theorem Agr.ful {α:Type}{res:Nat × Bool}{x:α}{r:Except Flt (α × List Tok)}(h:Agr R q res x r):Ful R q res x r:=by
 obtain⟨h1,h2⟩:=h
 refine⟨h1,?_⟩
 by_cases hb:res.2=true
 ·rw [if_pos hb] at h2
  by_cases hn:res.1=q.length
  ·refine .inl ⟨hb,hn,?_⟩
   rw [h2,hn,List.drop_length,List.nil_append]
  ·refine .inr ⟨fun h=>hn h.2,.inr ⟨x,?_,h2⟩⟩
   intro e
   have:=congrArg List.length e
   rw [List.length_drop,List.length_nil] at this
   omega
 ·rw [if_neg hb] at h2
  exact .inr ⟨fun h=>hb h.1,.inl h2⟩
theorem rest_ful (hw:∀t∈q,Wd1 t)(h:Pc ln R q)(r:Rst)(x:Ins):Ful R q (farS (restI r) q) (restV r x (nmsT (q.take (farS (restI r) q).1)) (numL (q.take (farS (restI r) q).1) 0)) (restP r x (q++R) ln):=by
 by_cases hr:r=.result
 ·subst hr
  show Ful R q (farS [[63]] q) (restV .result x (nmsT (q.take (farS [[63]] q).1)) (numL (q.take (farS [[63]] q).1) 0)) (if moreB (q++R) ln=true then operandP x (q++R) ln else .ok (x,q++R))
  rw [more_pc h,farS_Q]
  cases q with
  | nil=>exact⟨Nat.zero_le _,.inl ⟨rfl,rfl,rfl⟩⟩
  | cons t r=>
   rw [if_pos (show (!(t::r).isEmpty)=true from rfl),operand_pc h]
   by_cases h1:wordS (t::r) 1 []=true
   ·rw [if_pos h1,if_pos h1]
    obtain⟨t',r',e,hk,-⟩:=word_cons h1
    injection e with e1 e2
    subst e1 e2
    refine Agr.ful ⟨by simp,?_⟩
    show Except.ok _=Except.ok (restV .result x (nmsT [t]) _,r++R)
    rw [nms_name hk]
    rfl
   ·rw [if_neg h1,if_neg h1]
    exact⟨Nat.zero_le _,.inr ⟨fun h=>by have:=h.2;simp at this,.inl rfl⟩⟩
 ·exact (rest_pc hw h r hr x).ful
end
end
section
section
variable {α β:Type} {m:Nat}
def downF (m:Nat)(e:Flt):Flt:=(e.1+m,e.2.1,e.2.2)
def Dn (m:Nat)(r1 r2:Except Flt (α × List Tok)):Prop:=
 match r1 with
 | .ok (x,l1)=>r2=.ok (x,l1.map (downT m))
 | .error e=>e.2.2=0∨r2=.error (downF m e)
def DnL (m:Nat)(r1 r2:Except Flt (List Tok)):Prop:=
 match r1 with
 | .ok l1=>r2=.ok (l1.map (downT m))
 | .error e=>e.2.2=0∨r2=.error (downF m e)
theorem Dn.bind {r1 r2:Except Flt (α × List Tok)}{g1 g2:α→List Tok→Except Flt (β × List Tok)}(h:Dn m r1 r2)(hg:∀x l,Dn m (g1 x l) (g2 x (l.map (downT m)))):Dn m (bindE r1 g1) (bindE r2 g2):=by
 cases r1 with
 | error e=>
  rcases h with h | h
  ·exact .inl h
  ·subst h;exact .inr rfl
 | ok p=>
  obtain⟨x,l1⟩:=p
  have h:r2=.ok (x,l1.map (downT m)):=h
  subst h
  exact hg x l1
theorem DnL.bind {r1 r2:Except Flt (List Tok)}{g1 g2:List Tok→Except Flt (β × List Tok)}(h:DnL m r1 r2)(hg:∀l,Dn m (g1 l) (g2 (l.map (downT m)))):
  Dn m (match (generalizing:=false) r1 with | .error e=>.error e | .ok l=>g1 l) (match (generalizing:=false) r2 with | .error e=>.error e | .ok l=>g2 l):=by
 cases r1 with
 | error e=>
  rcases h with h | h
  ·exact .inl h
  ·subst h;exact .inr rfl
 | ok l1=>
  have h:r2=.ok (l1.map (downT m)):=h
  subst h
  exact hg l1
theorem Dn.ok {x:α}{l:List Tok}:Dn m (.ok (x,l)) (.ok (x,l.map (downT m))):=rfl
end
end
section
section
variable {m:Nat}
theorem parse_lines {t:Tok}{l:List Tok}(ht:1≤t.line):parseT (t::l)=progP ((t::l).length+1) [] (t::l) t.line:=by
 have hb:beginP (t::l) 0=.ok t.line:=by
  show (if (!(t.kind==4)&&t.line==0)=true then _ else _)=_
  have e:(t.line==0)=false:=by simp;omega
  rw [e,Bool.and_false,if_neg (by simp)]
  rfl
 unfold parseT
 rw [hb]
end
end
section
section
variable {α β:Type} {E:Tok} {R l:List Tok}
def Cut (E:Tok)(R l:List Tok)(r1 r2:Except Flt (α × List Tok)):Prop:=
 match r1 with
 | .ok (x,l1)=>∃l',l1=l'++[E]∧(∀t∈l',t∈l)∧(l'≠[]→r2=.ok (x,l'++R))
 | .error e=>e.2.2=41∨(∃t∈l,e.1=t.line∧e.2.1=t.col)∧r2=.error e
def CutL (E:Tok)(R l:List Tok)(r1 r2:Except Flt (List Tok)):Prop:=
 match r1 with
 | .ok l1=>∃l',l1=l'++[E]∧(∀t∈l',t∈l)∧(l'≠[]→r2=.ok (l'++R))
 | .error e=>e.2.2=41∨(∃t∈l,e.1=t.line∧e.2.1=t.col)∧r2=.error e
theorem Cut.weak {R':List Tok}{r1 r2 r3:Except Flt (α × List Tok)}(h:Cut E R' [] r1 r2):Cut E R l r1 r3:=by
 cases r1 with
 | error e=>
  rcases h with h | ⟨⟨t,ht,-⟩,-⟩
  ·exact .inl h
  ·cases ht
 | ok p=>
  obtain⟨l',h1,h2,-⟩:=h
  obtain rfl:l'=[]:=by
   cases l' with
   | nil=>rfl
   | cons t l'=>have:=h2 t (List.mem_cons_self ..);cases this
  exact⟨[],h1,fun t ht=>(by cases ht),fun h=>absurd rfl h⟩
theorem Cut.sub {l2:List Tok}{r1 r2:Except Flt (α × List Tok)}(h:Cut E R l r1 r2)(hs:∀t∈l,t∈l2):Cut E R l2 r1 r2:=by
 cases r1 with
 | error e=>
  rcases h with h | ⟨⟨t,ht,h1⟩,h2⟩
  ·exact .inl h
  ·exact .inr ⟨⟨t,hs t ht,h1⟩,h2⟩
 | ok p=>
  obtain⟨l',h1,h2,h3⟩:=h
  exact⟨l',h1,fun t ht=>hs t (h2 t ht),h3⟩
def Beh (E:Tok)(R l:List Tok):Prop:=l=[]→R=[E]
theorem Beh.cons {t:Tok}:Beh E R (t::l):=fun h=>by cases h
theorem Beh.nil:Beh E [E] []:=fun _=>rfl
theorem Cut.bind {r1 r2:Except Flt (α × List Tok)}{g1 g2:α→List Tok→Except Flt (β × List Tok)}(h:Cut E R l r1 r2)(hg:∀R' x l',Beh E R' l'→(r1=.ok (x,l'++[E]))→Cut E R' l' (g1 x (l'++[E])) (g2 x (l'++R'))):Cut E R l (bindE r1 g1) (bindE r2 g2):=by
 cases r1 with
 | error e=>
  rcases h with h | ⟨h0,h⟩
  ·exact .inl h
  ·subst h
   exact .inr ⟨h0,rfl⟩
 | ok p=>
  obtain⟨x,l1⟩:=p
  obtain⟨l',rfl,hs,h⟩:=h
  cases l' with
  | nil=>exact (hg [E] x [] Beh.nil rfl).weak
  | cons t l'=>
   have h:=h (by simp)
   subst h
   exact (hg R x (t::l') Beh.cons rfl).sub hs
theorem CutL.bind {r1 r2:Except Flt (List Tok)}{g1 g2:List Tok→Except Flt (β × List Tok)}(h:CutL E R l r1 r2)(hg:∀R' l',Beh E R' l'→(r1=.ok (l'++[E]))→Cut E R' l' (g1 (l'++[E])) (g2 (l'++R'))):
  Cut E R l (match (generalizing:=false) r1 with | .error e=>.error e | .ok l=>g1 l) (match (generalizing:=false) r2 with | .error e=>.error e | .ok l=>g2 l):=by
 cases r1 with
 | error e=>
  rcases h with h | ⟨h0,h⟩
  ·exact .inl h
  ·subst h
   exact .inr ⟨h0,rfl⟩
 | ok l1=>
  obtain⟨l',rfl,hs,h⟩:=h
  cases l' with
  | nil=>exact (hg [E] [] Beh.nil rfl).weak
  | cons t l'=>
   have h:=h (by simp)
   subst h
   exact (hg R (t::l') Beh.cons rfl).sub hs
theorem Cut.ok {x:α}:Cut E R l (.ok (x,l++[E])) (.ok (x,l++R)):=⟨l,rfl,fun _ h=>h,fun _=>rfl⟩
end
end
section
section
variable {E:Tok} {R l:List Tok}
def behindP (d:Fun)(s:ByteArray)(l:List Tok)(ln:Nat):Except Flt (Fun × List Tok):=
 if (d.blocks.isEmpty || isB l ln 58)=true then
  match (generalizing:=false) signP 58 l ln with
  | .error e=>.error e
  | .ok l=>.ok (addB d s,l)
 else
  match (if isB l ln 61=true then none else bareF s.data.toList) with
  | some how=>bindE (instrP how ⟨#[]⟩ l ln) fun x l=>.ok (addI d x,l)
  | none=>
   match (generalizing:=false) signP 61 l ln with
   | .error e=>.error e
   | .ok l=>
    match valueF (headT l) with
    | none=>.error (fltL l)
    | some how=>bindE (nameP l ln) fun _ l=>bindE (instrP how s l ln) fun x l=>.ok (addI d x,l)
theorem insideP_b (d:Fun)(l:List Tok)(ln:Nat):insideP d l ln=bindE (nameP l ln) fun s l=>behindP d s l ln:=by
 unfold insideP
 cases nameP l ln with
 | error e=>rfl
 | ok p=>
  obtain⟨s,l⟩:=p
  show _=behindP d s l ln
  unfold behindP
  dsimp only
  split
  ·rfl
  ·cases (if isB l ln 61=true then none else bareF s.data.toList) with
   | some how=>
    dsimp only
    unfold bindE
    cases instrP how ⟨#[]⟩ l ln<;>rfl
   | none=>
    dsimp only
    cases signP 61 l ln with
    | error e=>rfl
    | ok l=>
     dsimp only
     cases valueF (headT l) with
     | none=>rfl
     | some how=>
      dsimp only
      unfold bindE
      cases nameP l ln with
      | error e=>rfl
      | ok p=>
       dsimp only
       cases instrP how s p.2 ln<;>rfl
def CutT (E:Tok)(R l:List Tok)(r1 r2:Except Flt (Fun × List Tok × Nat)):Prop:=
 match r1 with
 | .ok (d,l1,ln)=>∃l',l1=l'++[E]∧(∀t∈l',t∈l)∧(l'≠[]→r2=.ok (d,l'++R,ln))
 | .error e=>e.2.2=41∨(∃t∈l,e.1=t.line∧e.2.1=t.col)∧r2=.error e
theorem CutT.weak {R':List Tok}{r1 r2 r3:Except Flt (Fun × List Tok × Nat)}(h:CutT E R' [] r1 r2):CutT E R l r1 r3:=by
 cases r1 with
 | error e=>
  rcases h with h | ⟨⟨t,ht,-⟩,-⟩
  ·exact .inl h
  ·cases ht
 | ok p=>
  obtain⟨l',h1,h2,-⟩:=h
  obtain rfl:l'=[]:=by
   cases l' with
   | nil=>rfl
   | cons t l'=>have:=h2 t (List.mem_cons_self ..);cases this
  exact⟨[],h1,fun t ht=>(by cases ht),fun h=>absurd rfl h⟩
theorem CutT.sub {l2:List Tok}{r1 r2:Except Flt (Fun × List Tok × Nat)}(h:CutT E R l r1 r2)(hs:∀t∈l,t∈l2):CutT E R l2 r1 r2:=by
 cases r1 with
 | error e=>
  rcases h with h | ⟨⟨t,ht,h1⟩,h2⟩
  ·exact .inl h
  ·exact .inr ⟨⟨t,hs t ht,h1⟩,h2⟩
 | ok p=>
  obtain⟨l',h1,h2,h3⟩:=h
  exact⟨l',h1,fun t ht=>hs t (h2 t ht),h3⟩
def nextP {β:Type}(g:List Tok→Nat→Except Flt β)(l:List Tok)(ln:Nat):Except Flt β:=
 match beginP l ln with
 | .error e=>.error e
 | .ok ln=>g l ln
def thenT {α β:Type}(r:Except Flt (α × List Tok))(g:α→List Tok→Except Flt β):Except Flt β:=
 match r with
 | .error e=>.error e
 | .ok p=>g p.1 p.2
theorem Cut.thenT {α:Type}{r1 r2:Except Flt (α × List Tok)}{g1 g2:α→List Tok→Except Flt (Fun × List Tok × Nat)}(h:Cut E R l r1 r2)(hg:∀R' x l',Beh E R' l'→(r1=.ok (x,l'++[E]))→CutT E R' l' (g1 x (l'++[E])) (g2 x (l'++R'))):CutT E R l (thenT r1 g1) (thenT r2 g2):=by
 cases r1 with
 | error e=>
  rcases h with h | ⟨h0,h⟩
  ·exact .inl h
  ·subst h
   exact .inr ⟨h0,rfl⟩
 | ok p=>
  obtain⟨x,l1⟩:=p
  obtain⟨l',rfl,hs,h⟩:=h
  cases l' with
  | nil=>exact (hg [E] x [] Beh.nil rfl).weak
  | cons t l'=>
   have h:=h (by simp)
   subst h
   exact (hg R x (t::l') Beh.cons rfl).sub hs
def signT {β:Type}(r:Except Flt (List Tok))(g:List Tok→Except Flt β):Except Flt β:=
 match r with
 | .error e=>.error e
 | .ok l=>g l
theorem CutL.thenT {r1 r2:Except Flt (List Tok)}{g1 g2:List Tok→Except Flt (Fun × List Tok × Nat)}(h:CutL E R l r1 r2)(hg:∀R' l',Beh E R' l'→(r1=.ok (l'++[E]))→CutT E R' l' (g1 (l'++[E])) (g2 (l'++R'))):CutT E R l (signT r1 g1) (signT r2 g2):=by
 cases r1 with
 | error e=>
  rcases h with h | ⟨h0,h⟩
  ·exact .inl h
  ·subst h
   exact .inr ⟨h0,rfl⟩
 | ok l1=>
  obtain⟨l',rfl,hs,h⟩:=h
  cases l' with
  | nil=>exact (hg [E] [] Beh.nil rfl).weak
  | cons t l'=>
   have h:=h (by simp)
   subst h
   exact (hg R (t::l') Beh.cons rfl).sub hs
theorem bodyP_b (n:Nat)(d:Fun)(l:List Tok)(ln:Nat):bodyP (n+1) d l ln=if isB l ln 125=true then signT (signP 125 l ln) (fun l=>.ok (d,l,ln)) else thenT (insideP d l ln) (fun d l=>nextP (bodyP n d) l ln):=by
 rw [bodyP]
 split
 ·unfold signT
  cases signP 125 l ln<;>rfl
 ·unfold thenT nextP
  cases insideP d l ln with
  | error e=>rfl
  | ok p=>rfl
theorem funcP_b (l:List Tok)(ln:Nat):funcP l ln=if headT l=funcT then thenT (nameP l ln) (fun _ l=>thenT (nameP l ln) fun s l=>thenT (namesP l ln) fun ps l=>signT (signP 123 l ln) fun l=>nextP (fun l ln=>bodyP (l.length+1) ⟨s,ps,[]⟩ l ln) l ln) else .error (fltL l):=by
 unfold funcP
 split
 ·unfold thenT signT nextP
  cases nameP l ln with
  | error e=>rfl
  | ok p=>
   obtain⟨s,l⟩:=p
   dsimp only
   cases nameP l ln with
   | error e=>rfl
   | ok p=>
    obtain⟨s,l⟩:=p
    dsimp only
    cases namesP l ln with
    | error e=>rfl
    | ok p=>
     obtain⟨ps,l⟩:=p
     dsimp only
     cases signP 123 l ln with
     | error e=>rfl
     | ok l=>rfl
 ·rfl
end
end
end Go.Proofs.YtgcanabckogmmaaDoor
