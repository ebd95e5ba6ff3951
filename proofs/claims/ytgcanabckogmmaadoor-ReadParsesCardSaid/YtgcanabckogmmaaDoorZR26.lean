/- RfM6, RfC1, RfC2, RfC3, RfC4. -/
import Derived.Test.YtgcanabckogmmaaDoorZR23
import Derived.Test.YtgcanabckogmmaaDoorZR25
import Derived.Test.YtgcanabckogmmaaDoorZR5
import Derived.Test.YtgcanabckogmmaaDoorZR6
namespace Go.Proofs.YtgcanabckogmmaaDoor
set_option linter.unusedVariables false
set_option linter.unusedSimpArgs false
section
def Tail4 (l:List Tok):Prop:=∃l' E,l=l'++[E]∧E.kind=4∧∀t∈l',t.kind≠4∧Wd1 t
section
variable {l:List Tok}
theorem Tail4.behind {t:Tok}{r:List Tok}(h:Tail4 (t::r))(ht:t.kind≠4):Tail4 (behindL (t::r))∧(behindL (t::r)).length<(t::r).length∧∀u∈pieceL (t::r),Wd1 u:=by
 obtain⟨l',E,e,hE,hl⟩:=h
 cases l' with
 | nil=>
  injection e with e1 e2
  subst e1
  exact absurd hE ht
 | cons t' l'=>
  injection e with e1 e2
  subst e1 e2
  have hd:∀q:List Tok,(∀u∈q,u.kind≠4∧Wd1 u)→Tail4 ((q++[E]).dropWhile (goesT t.line))∧((q++[E]).dropWhile (goesT t.line)).length≤q.length+1∧∀u∈(q++[E]).takeWhile (goesT t.line),Wd1 u:=by
   intro q
   induction q with
   | nil=>
    intro _
    have:goesT t.line E=false:=by unfold goesT;rw [hE];rfl
    refine⟨⟨[],E,?_,hE,fun u hu=>by cases hu⟩,?_,fun u hu=>?_⟩
    ·rw [List.nil_append,List.dropWhile_cons,if_neg (by rw [this];simp)]
    ·rw [List.nil_append,List.dropWhile_cons,if_neg (by rw [this];simp)]
     exact Nat.le_refl _
    ·rw [List.nil_append,List.takeWhile_cons,if_neg (by rw [this];simp)] at hu
     cases hu
   | cons u q ih=>
    intro hq
    obtain⟨i1,i2,i3⟩:=ih fun v hv=>hq v (List.mem_cons_of_mem _ hv)
    rw [List.cons_append,List.dropWhile_cons,List.takeWhile_cons]
    by_cases hg:goesT t.line u=true
    ·rw [if_pos hg,if_pos hg]
     refine⟨i1,by rw [List.length_cons];omega,fun v hv=>?_⟩
     rcases List.mem_cons.1 hv with rfl | hv
     ·exact (hq v (List.mem_cons_self ..)).2
     ·exact i3 v hv
    ·rw [if_neg hg,if_neg hg]
     exact⟨⟨u::q,E,rfl,hE,hq⟩,by simp,fun v hv=>by cases hv⟩
  obtain⟨i1,i2,i3⟩:=hd l' fun u hu=>hl u (List.mem_cons_of_mem _ hu)
  refine⟨i1,?_,fun u hu=>?_⟩
  ·show ((l'++[E]).dropWhile (goesT t.line)).length<(t::(l'++[E])).length
   simp only [List.length_cons,List.length_append,List.length_nil]
   omega
  ·have hu:u∈t::(l'++[E]).takeWhile (goesT t.line):=hu
   rcases List.mem_cons.1 hu with rfl | hu
   ·exact (hl u (List.mem_cons_self ..)).2
   ·exact i3 u hu
theorem Tail4.ne (h:Tail4 l):l≠[]:=by
 obtain⟨l',E,rfl,-⟩:=h
 simp
def contP (m:Nat)(acc:List Fun)(r:Except Flt (Fun × List Tok × Nat)):Except Flt (List Fun):=
 match r with
 | .error e=>.error e
 | .ok (d,l,ln)=>
  match beginP l ln with
  | .error e=>.error e
  | .ok ln=>progP m (acc++[d]) l ln
theorem ref_all:∀(N:Nat) (l:List Tok),l.length≤N→Tail4 l→(∀n m acc,l.length+1≤n→l.length+1≤m→progP m acc l (lineAt l)=refN n acc none l)∧∀n k m acc d,l.length+1≤n→l.length+1≤k→l.length+1≤m→contP m acc (bodyP k d l (lineAt l))=refN n acc (some d) l
 | N,[],_,h=>absurd rfl h.ne
 | 0,_::_,h,_=>by simp at h
 | N+1,t::r,hN,h=>by
  by_cases ht:t.kind=4
  ·have hk:kindAt (t::r) 4=true:=by show (t.kind==4)=true;rw [ht];rfl
   refine⟨fun n m acc hn hm=>?_,fun n k m acc d hn hk' hm=>?_⟩
   ·obtain⟨n,rfl⟩:∃n',n=n'+1:=⟨n-1,by omega⟩
    obtain⟨m,rfl⟩:∃m',m=m'+1:=⟨m-1,by omega⟩
    rw [prog_kind4 m acc _ hk]
    unfold refN
    rw [if_pos hk]
   ·obtain⟨n,rfl⟩:∃n',n=n'+1:=⟨n-1,by omega⟩
    obtain⟨k,rfl⟩:∃k',k=k'+1:=⟨k-1,by omega⟩
    rw [body_kind4 k d _ hk]
    unfold refN
    rw [if_pos hk]
    rfl
  ·have hk:¬kindAt (t::r) 4=true:=by show ¬(t.kind==4)=true;simp [ht]
   obtain⟨hT,hlt,hw⟩:=h.behind ht
   have hpc:=piece_pc (r:=r) ht
   have hR:=hT.ne
   have happ:=piece_app (t::r)
   have hp0:pieceL (t::r)≠[]:=by simp [pieceL]
   obtain⟨ih1,ih2⟩:=ref_all N (behindL (t::r)) (by omega) hT
   refine⟨fun n m acc hn hm=>?_,fun n k m acc d hn hk' hm=>?_⟩
   ·obtain⟨n,rfl⟩:∃n',n=n'+1:=⟨n-1,by omega⟩
    obtain⟨m,rfl⟩:∃m',m=m'+1:=⟨m-1,by omega⟩
    have e1:progP (m+1) acc (t::r) (lineAt (t::r))=contP m acc (funcP (t::r) t.line):=by
     conv=>lhs;unfold progP
     rw [if_neg hk]
     unfold contP
     rfl
    rw [e1]
    have e2:=func_pc hpc hR hw hp0
    rw [happ] at e2
    rw [e2]
    unfold refN
    rw [if_neg hk]
    dsimp only
    by_cases hf:fullI headI (pieceL (t::r))=true
    ·rw [if_pos hf,if_pos hf]
     exact ih2 n _ m acc _ (by omega) (Nat.le_refl _) (by omega)
    ·rw [if_neg hf,if_neg hf]
     rfl
   ·obtain⟨n,rfl⟩:∃n',n=n'+1:=⟨n-1,by omega⟩
    obtain⟨k,rfl⟩:∃k',k=k'+1:=⟨k-1,by omega⟩
    unfold refN
    rw [if_neg hk]
    dsimp only
    show contP m acc (bodyP (k+1) d (t::r) t.line)=_
    rw [bodyP_b]
    have eB:=isB_pc hpc 125
    rw [happ] at eB
    rw [eB]
    by_cases h125:wordS (pieceL (t::r)) 3 [125]=true
    ·rw [if_pos h125,piece_end hw h125]
     have eS:=sign_pc hpc 125
     rw [happ,if_pos h125] at eS
     rw [eS,signT_ok]
     unfold contP
     dsimp only
     rw [begin_pc (hpc.drop 1) hR]
     obtain⟨u,q,eq,-,-⟩:=word_cons h125
     rw [eq,d1C]
     by_cases hq:q=[]
     ·subst hq
      rw [if_pos rfl,if_pos (show ([u]:List Tok).length=1 from rfl)]
      exact ih1 n m _ (by omega) (by omega)
     ·rw [if_neg hq,if_neg (show ¬((u::q).length=1) by have:=List.length_pos_iff.2 hq;simp only [List.length_cons];omega)]
      rfl
    ·rw [if_neg h125]
     have hi:=inside_pc (d:=d) hpc hw hp0 (by simpa using h125)
     rw [happ] at hi
     cases ho:pieceR (!d.blocks.isEmpty) (pieceL (t::r)) with
     | fin=>rw [ho] at hi;exact hi.elim
     | lab=>
      rw [ho] at hi
      rw [show insideP d (t::r) t.line=_ from hi,thenT_ok]
      unfold nextP
      have eb:=begin_pc (ln:=t.line) (q:=[]) ⟨fun u hu=>(by cases hu),hpc.end'⟩ hR
      rw [List.nil_append,if_pos rfl] at eb
      rw [eb]
      exact ih2 n k m acc _ (by omega) (by omega) (by omega)
     | ins x=>
      rw [ho] at hi
      rw [show insideP d (t::r) t.line=_ from hi,thenT_ok]
      unfold nextP
      have eb:=begin_pc (ln:=t.line) (q:=[]) ⟨fun u hu=>(by cases hu),hpc.end'⟩ hR
      rw [List.nil_append,if_pos rfl] at eb
      rw [eb]
      exact ih2 n k m acc _ (by omega) (by omega) (by omega)
     | bad j=>
      rw [ho] at hi
      obtain⟨-,hi⟩:=hi
      rcases hi with hi | ⟨d',hne,hi⟩
      ·rw [hi]
       rfl
      ·rw [hi,thenT_ok]
       unfold nextP
       rw [begin_pc (hpc.drop j) hR,if_neg hne]
       rfl
end
theorem form_wd {t:Tok}(h:FormOk t.kind t.text t.num):Wd1 t:=by
 rcases h with ⟨h1,-,⟨c,r,hc,hl⟩,hp⟩ | ⟨h1,-,h2,hd,-⟩ | ⟨h1,-,c,hc,hs⟩
 ·refine⟨fun _ c' hs e=>?_,fun h=>by omega,fun h=>by omega,.inl h1⟩
  rw [hc] at e
  injection e with e1 e2
  subst e1
  have:=(sign_no hs).2.2.2.1
  rw [hl] at this
  cases this
 ·refine⟨fun h=>by omega,fun h=>by omega,fun _ c r e=>?_,.inr (.inl h1)⟩
  exact (digit_no (hd c (by rw [e];exact List.mem_cons_self ..))).2.2.2
 ·exact⟨fun h=>by omega,fun _=>⟨c,hc,hs⟩,fun h=>by omega,.inr (.inr h1)⟩
theorem parse_ref {s:List UInt8}{T:List Tok}(h:lex s 1 1=.ok T):parseL s=refN (T.length+1) [] none T∧Tail4 T:=by
 obtain⟨-,-,l',E,rfl,hE,hk⟩:=lexN_ok _ _ _ _ _ h
 have hT:Tail4 (l'++[E]):=⟨l',E,rfl,hE,fun t ht=>⟨hk t ht,form_wd ((lex_formOk _ _ _ _ _ h t (List.mem_append_left _ ht)).resolve_left (hk t ht))⟩⟩
 refine⟨?_,hT⟩
 have hpos:=(lex_sorted _ _ _ _ _ h).1
 have e1:parseL s=parseT (l'++[E]):=by unfold parseL;rw [h]
 obtain⟨t,r,e2⟩:∃t r,l'++[E]=t::r:=by cases l' with | nil=>exact⟨E,[],rfl⟩ | cons t l'=>exact⟨t,l'++[E],rfl⟩
 rw [e1]
 rw [e2] at hT hpos ⊢
 rw [parse_lines (hpos t (List.mem_cons_self ..))]
 exact (ref_all _ (t::r) (Nat.le_refl _) hT).1 _ _ [] (Nat.le_refl _) (Nat.le_refl _)
end
section
open Go.RowKit Go.Maps Go.Shelf
attribute [local go_sem] Oper.semAt_some
structure PcAt (w:World) (g o:Nat) (p:List Tok):Prop where
 toks:∀k t,p[k]?=some t→w.cell? ⟨g,o+k*5,none⟩=some (.int .u8 t.kind)∧w.cell? ⟨g,o+k*5+1,none⟩=some (.string (nmT t))∧w.cell? ⟨g,o+k*5+2,none⟩=some (.int .i64 t.num)∧w.cell? ⟨g,o+k*5+3,none⟩=some (.int .i64 t.line)∧w.cell? ⟨g,o+k*5+4,none⟩=some (.int .i64 t.col)
 len:p.length≤2000000
 off:o≤20000000
 kind:∀t∈p,t.kind≤4
 lt:g<w.heap.size
section
variable {w w':World} {g o c:Nat} {p:List Tok}
theorem PcAt.drew (h:PcAt w g o p):PcAt w.drew g o p:=⟨h.toks,h.len,h.off,h.kind,h.lt⟩
theorem PcAt.below (h:PcAt w g o p)(hb:Below w.heap.size w w'):PcAt w' g o p:=
 ⟨fun k t ht=>by
  obtain⟨h0,h1,h2,h3,h4⟩:=h.toks k t ht
  have hc:∀o u,w.cell? ⟨g,o,none⟩=some u→w'.cell? ⟨g,o,none⟩=some u:=fun o u hu=>by
   rw [←hu]
   unfold World.cell?
   rw [(Touch.of_below hb (fun _=>False)).block g h.lt (fun h=>h)]
  exact⟨hc _ _ h0,hc _ _ h1,hc _ _ h2,hc _ _ h3,hc _ _ h4⟩,h.len,h.off,h.kind,Nat.lt_of_lt_of_le h.lt hb.size⟩
set_option maxRecDepth 20000 in
set_option maxHeartbeats 2000000 in
theorem refword_any (h:PcAt w g o p){k kd:Nat}(hk:k≤p.length)(hkd:kd≤4)(s:List UInt8):Calls Tryd.prog 50 #[.slice (some ⟨g,o,none⟩) p.length c,.int .i64 k,.int .u8 kd,.string ⟨s.toArray⟩] w fun e w'=>e=.returned (.bool (wordS (p.drop k) kd s))∧w=w':=by
 have hlen:=h.len
 have hoff:=h.off
 have hlt:=h.lt
 obtain⟨n,hn⟩:∃n,n=p.length:=⟨_,rfl⟩
 obtain⟨q,hq⟩:∃q,wordS (p.drop k) kd s=q:=⟨_,rfl⟩
 rw [hq,←hn]
 by_cases hkn:k<n
 ·obtain⟨t,ht⟩:∃t,p[k]?=some t:=⟨p[k]'(by omega),List.getElem?_eq_getElem (by omega)⟩
  obtain⟨k0,k1,k2,k3,k4⟩:=h.toks k t ht
  have hd:p.drop k=t::p.drop (k+1):=by
   obtain⟨h1,h2⟩:=List.getElem?_eq_some_iff.1 ht
   rw [List.drop_eq_getElem_cons h1,h2]
  have hkt:=h.kind t (List.mem_of_getElem? ht)
  rw [hd] at hq
  have i1:(k:Int)<(n:Int):=by omega
  have hlow:n≤2000000:=by omega
  have g1:((t.kind:Int)==(kd:Int))=(t.kind==kd):=kindB _ _
  have g2:((nmT t).toList==s)=(t.text==s):=by rw [nm_list]
  simp only [wordS] at hq
  obtain⟨x1,e1⟩:∃x,(t.kind==kd)=x:=⟨_,rfl⟩
  obtain⟨x2,e2⟩:∃x,(s==[])=x:=⟨_,rfl⟩
  obtain⟨x3,e3⟩:∃x,(t.text==s)=x:=⟨_,rfl⟩
  rw [e1,e2,e3] at hq
  rw [e1] at g1
  rw [e3] at g2
  subst hq
  clear hd ht h hlen e1 e3
  go_enter Tryd.func50,Tryd.ntmps50
  cases x1
  ·go_wp2_with fail
   go_ret
   exact⟨rfl,rfl⟩
  ·have g3:(s==([]:List UInt8))=x2:=e2
   cases x2
   ·cases x3<;>(
     go_wp2_with fail
     go_ret
     exact⟨rfl,rfl⟩)
   ·go_wp2_with fail
    go_ret
    exact⟨rfl,rfl⟩
 ·have g1:decide ((k:Int)<(n:Int))=false:=by simp;omega
  have hq2:q=false:=by rw [←hq,List.drop_eq_nil_of_le (by omega)];rfl
  subst hq2
  clear hq h
  go_enter Tryd.func50,Tryd.ntmps50
  go_wp2_with fail
  go_ret
  exact⟨rfl,rfl⟩
end
end
section
open Go.RowKit Go.Maps Go.Shelf
attribute [local go_sem] Oper.semAt_some
section
variable {w w':World} {g o c:Nat} {p:List Tok}
theorem wordS_lt {k kd:Nat}{s:List UInt8}(h:wordS (p.drop k) kd s=true):k<p.length:=by
 apply Nat.lt_of_not_le
 intro hk
 rw [List.drop_eq_nil_of_le hk] at h
 cases h
def RowI (p:List Tok)(pairs:Bool)(close:List UInt8)(R1:Nat)(R2:Bool)(k:Nat):Prop:=∃n,p.length<n+k∧R1=k+(rowS n pairs close (p.drop k)).1∧R2=(rowS n pairs close (p.drop k)).2
theorem RowI.one {close:List UInt8}{R1:Nat}{R2:Bool}{k:Nat}(h:RowI p false close R1 R2 k)(hk:k≤p.length):
  (wordS (p.drop k) 1 []=false→R1=k∧R2=false)∧(wordS (p.drop k) 1 []=true→(wordS (p.drop (k+1)) 3 close=true→R1=k+1+1∧R2=true)∧(wordS (p.drop (k+1)) 3 close=false→(wordS (p.drop (k+1)) 3 [44]=false→R1=k+1∧R2=false)∧(wordS (p.drop (k+1)) 3 [44]=true→RowI p false close R1 R2 (k+1+1)))):=by
 obtain⟨n,h1,h2,h3⟩:=h
 obtain⟨n,rfl⟩:∃m,n=m+1:=⟨n-1,by omega⟩
 simp only [rowS,Bool.false_and,List.drop_drop,Bool.false_eq_true,if_false] at h2 h3
 refine⟨fun e=>?_,fun e=>⟨fun e2=>?_,fun e2=>⟨fun e3=>?_,fun e3=>?_⟩⟩⟩
 ·rw [if_pos e] at h2 h3
  exact⟨h2,h3⟩
 all_goals rw [if_neg (by rw [e];simp)] at h2 h3
 ·rw [if_pos e2] at h2 h3
  exact⟨h2,h3⟩
 all_goals rw [if_neg (by rw [e2];simp)] at h2 h3
 ·rw [if_pos e3] at h2 h3
  exact⟨h2,h3⟩
 ·rw [if_neg (by rw [e3];simp)] at h2 h3
  exact⟨n,by omega,by rw [h2,Nat.add_assoc k 1 1];dsimp only;omega,by rw [Nat.add_assoc k 1 1];exact h3⟩
theorem RowI.two {close:List UInt8}{R1:Nat}{R2:Bool}{k:Nat}(h:RowI p true close R1 R2 k)(hk:k≤p.length):
  (wordS (p.drop k) 1 []=false→R1=k∧R2=false)∧(wordS (p.drop k) 1 []=true→(wordS (p.drop (k+1)) 3 [58]=false→R1=k+1∧R2=false)∧(wordS (p.drop (k+1)) 3 [58]=true→(wordS (p.drop (k+1+1)) 1 []=false→R1=k+1+1∧R2=false)∧(wordS (p.drop (k+1+1)) 1 []=true→
   (wordS (p.drop (k+1+1+1)) 3 close=true→R1=k+1+1+1+1∧R2=true)∧(wordS (p.drop (k+1+1+1)) 3 close=false→(wordS (p.drop (k+1+1+1)) 3 [44]=false→R1=k+1+1+1∧R2=false)∧(wordS (p.drop (k+1+1+1)) 3 [44]=true→RowI p true close R1 R2 (k+1+1+1+1)))))):=by
 obtain⟨n,h1,h2,h3⟩:=h
 obtain⟨n,rfl⟩:∃m,n=m+1:=⟨n-1,by omega⟩
 simp only [rowS,Bool.true_and,List.drop_drop,if_true,Bool.not_eq_true'] at h2 h3
 refine⟨fun e=>?_,fun e=>⟨fun e4=>?_,fun e4=>⟨fun e5=>?_,fun e5=>⟨fun e2=>?_,fun e2=>⟨fun e3=>?_,fun e3=>?_⟩⟩⟩⟩⟩
 ·rw [if_pos e] at h2 h3
  exact⟨h2,h3⟩
 all_goals rw [if_neg (by rw [e];simp)] at h2 h3
 ·rw [if_pos e4] at h2 h3
  exact⟨h2,h3⟩
 all_goals rw [if_neg (by rw [e4];simp)] at h2 h3
 ·rw [if_pos e5] at h2 h3
  exact⟨h2,h3⟩
 all_goals rw [if_neg (by rw [show k+2=k+1+1 from rfl,e5];simp)] at h2 h3
 ·rw [if_pos e2] at h2 h3
  exact⟨h2,h3⟩
 all_goals rw [if_neg (by rw [show k+3=k+1+1+1 from rfl,e2];simp)] at h2 h3
 ·rw [if_pos e3] at h2 h3
  exact⟨h2,h3⟩
 ·rw [if_neg (by rw [show k+3=k+1+1+1 from rfl,e3];simp)] at h2 h3
  exact⟨n,by omega,by rw [h2];show k+(3+1+(rowS n true close (p.drop (k+(3+1)))).1)=k+1+1+1+1+(rowS n true close (p.drop (k+(3+1)))).1;omega,h3⟩
set_option maxRecDepth 20000 in
set_option maxHeartbeats 1000000 in
theorem refrow_any (h:PcAt w g o p){k:Nat}(hk:k≤p.length)(pairs:Bool)(close:List UInt8):Calls Tryd.prog 51 #[.slice (some ⟨g,o,none⟩) p.length c,.int .i64 k,.bool pairs,.string ⟨close.toArray⟩] w fun e w'=>e=.returned (.tuple #[.int .i64 (k+(rowF pairs close (p.drop k)).1:Nat),.bool (rowF pairs close (p.drop k)).2])∧w=w':=by
 have hlen:=h.len
 have cw:=Lib.hid (fun (k':Nat) (hk':k'≤p.length) (kd:Nat) (hkd:kd≤4) (s:List UInt8)=>refword_any (c:=c) h hk' hkd s)
 have hlt:=Lib.hid (fun (k' kd:Nat) (s:List UInt8) (hx:wordS (p.drop k') kd s=true)=>wordS_lt hx)
 obtain⟨R1,hR1⟩:∃R1,R1=k+(rowF pairs close (p.drop k)).1:=⟨_,rfl⟩
 obtain⟨R2,hR2⟩:∃R2,R2=(rowF pairs close (p.drop k)).2:=⟨_,rfl⟩
 rw [←hR1,←hR2]
 unfold rowF at hR1 hR2
 obtain⟨b0,e0⟩:∃b,wordS (p.drop k) 3 close=b:=⟨_,rfl⟩
 have c0:=Lib.hid (cw.out k hk 3 (by omega) close)
 rw [e0] at hR1 hR2 c0
 have hin:Hid ((!pairs&&b0)=false→RowI p pairs close R1 R2 k):=Lib.hid fun hx=>by
  rw [hx,if_neg (by simp)] at hR1 hR2
  exact⟨_,by rw [List.length_drop];omega,hR1,hR2⟩
 have hdn:(!pairs&&b0)=true→R1=k+1∧R2=true:=fun hx=>by
  rw [hx,if_pos rfl] at hR1 hR2
  exact⟨hR1,hR2⟩
 clear hR1 hR2 h
 cases pairs with
 | false=>
  cases b0 with
  | true=>
   obtain⟨rfl,rfl⟩:=hdn rfl
   go_enter Tryd.func51,Tryd.ntmps51
   go_wp2_with (go_at_call 50;refine c0.out.mono ?_;rintro e w2 ⟨rfl,rfl⟩)
   exact bodyPost_ret (v:=.tuple #[.int .i64 ((k:Int)+1),.bool true]) (by simp [results,Tryd.results51,go_sem]) rfl ⟨by simp,rfl⟩
  | false=>
   replace hin:=Lib.hid (hin.out rfl)
   clear hdn
   go_enter Tryd.func51,Tryd.ntmps51
   go_wp2_with (go_at_call 50;refine c0.out.mono ?_;rintro e w2 ⟨rfl,rfl⟩)
   go_loop [1] (fun i2=>∃m:Nat,i2=.int .i64 m∧m≤p.length∧Hid (RowI p false close R1 R2 m)) (fun i2=>p.length-(intOf i2).toNat)
   case atStart=>exact⟨k,rfl,hk,hin⟩
   case round=>
    clear c0 hin e0 hk
    obtain⟨m,rfl,hm,hI⟩:=hrel
    have c0:=cw.out (m) hm 1 (by omega) []
    obtain⟨x0,b0⟩:∃x,wordS (p.drop (m)) 1 []=x:=⟨_,rfl⟩
    rw [b0] at c0
    replace c0:=Lib.hid c0
    try push_cast at c0
    cases x0 with
    | false=>
     obtain⟨q1,q2⟩:=((hI.out.one hm).1 b0)
     clear hI hlt cw b0
     go_wp2_with (go_at_call 50;first | (with_reducible refine c0.out.mono ?_;rintro e w2 ⟨rfl,rfl⟩))
     exact bodyPost_ret (v:=.tuple #[.int .i64 ((m:Int)),.bool false]) (by simp [results,Tryd.results51,go_sem]) rfl ⟨by rw [q1,q2];try simp,rfl⟩
    | true=>
     have c1:=cw.out (m+1) (hlt.out _ _ _ b0) 3 (by omega) close
     obtain⟨x1,b1⟩:∃x,wordS (p.drop (m+1)) 3 close=x:=⟨_,rfl⟩
     rw [b1] at c1
     replace c1:=Lib.hid c1
     try push_cast at c1
     cases x1 with
     | true=>
      obtain⟨q1,q2⟩:=(((hI.out.one hm).2 b0).1 b1)
      clear hI hlt cw b0 b1
      go_wp2_with (go_at_call 50;first | (with_reducible refine c0.out.mono ?_;rintro e w2 ⟨rfl,rfl⟩) | (with_reducible refine c1.out.mono ?_;rintro e w2 ⟨rfl,rfl⟩))
      exact bodyPost_ret (v:=.tuple #[.int .i64 ((m:Int)+1+1),.bool true]) (by simp [results,Tryd.results51,go_sem]) rfl ⟨by rw [q1,q2];try simp,rfl⟩
     | false=>
      have c2:=cw.out (m+1) (hlt.out _ _ _ b0) 3 (by omega) [44]
      obtain⟨x2,b2⟩:∃x,wordS (p.drop (m+1)) 3 [44]=x:=⟨_,rfl⟩
      rw [b2] at c2
      replace c2:=Lib.hid c2
      try push_cast at c2
      cases x2 with
      | false=>
       obtain⟨q1,q2⟩:=((((hI.out.one hm).2 b0).2 b1).1 b2)
       clear hI hlt cw b0 b1 b2
       go_wp2_with (go_at_call 50;first | (with_reducible refine c0.out.mono ?_;rintro e w2 ⟨rfl,rfl⟩) | (with_reducible refine c1.out.mono ?_;rintro e w2 ⟨rfl,rfl⟩) | (with_reducible refine c2.out.mono ?_;rintro e w2 ⟨rfl,rfl⟩))
       exact bodyPost_ret (v:=.tuple #[.int .i64 ((m:Int)+1),.bool false]) (by simp [results,Tryd.results51,go_sem]) rfl ⟨by rw [q1,q2];try simp,rfl⟩
      | true=>
       have hI2:=Lib.hid (((((hI.out.one hm).2 b0).2 b1).2 b2))
       have hm2:m+1+1≤p.length:=hlt.out _ _ _ b2
       clear hI hlt cw b0 b1 b2
       go_wp2_with (go_at_call 50;first | (with_reducible refine c0.out.mono ?_;rintro e w2 ⟨rfl,rfl⟩) | (with_reducible refine c1.out.mono ?_;rintro e w2 ⟨rfl,rfl⟩) | (with_reducible refine c2.out.mono ?_;rintro e w2 ⟨rfl,rfl⟩))
       go_round
       case rel=>exact⟨m+1+1,by go_num,hm2,hI2⟩
       case measure=>simp [intOf];omega
 | true=>
  replace hin:=Lib.hid (hin.out rfl)
  clear hdn c0 e0
  go_enter Tryd.func51,Tryd.ntmps51
  go_wp2_with fail
  go_loop [1] (fun i2=>∃m:Nat,i2=.int .i64 m∧m≤p.length∧Hid (RowI p true close R1 R2 m)) (fun i2=>p.length-(intOf i2).toNat)
  case atStart=>exact⟨k,rfl,hk,hin⟩
  case round=>
   clear hin hk
   obtain⟨m,rfl,hm,hI⟩:=hrel
   have c0:=cw.out (m) hm 1 (by omega) []
   obtain⟨x0,b0⟩:∃x,wordS (p.drop (m)) 1 []=x:=⟨_,rfl⟩
   rw [b0] at c0
   replace c0:=Lib.hid c0
   try push_cast at c0
   cases x0 with
   | false=>
    obtain⟨q1,q2⟩:=((hI.out.two hm).1 b0)
    clear hI hlt cw b0
    go_wp2_with (go_at_call 50;first | (with_reducible refine c0.out.mono ?_;rintro e w2 ⟨rfl,rfl⟩))
    exact bodyPost_ret (v:=.tuple #[.int .i64 ((m:Int)),.bool false]) (by simp [results,Tryd.results51,go_sem]) rfl ⟨by rw [q1,q2];try simp,rfl⟩
   | true=>
    have c1:=cw.out (m+1) (hlt.out _ _ _ b0) 3 (by omega) [58]
    obtain⟨x1,b1⟩:∃x,wordS (p.drop (m+1)) 3 [58]=x:=⟨_,rfl⟩
    rw [b1] at c1
    replace c1:=Lib.hid c1
    try push_cast at c1
    cases x1 with
    | false=>
     obtain⟨q1,q2⟩:=(((hI.out.two hm).2 b0).1 b1)
     clear hI hlt cw b0 b1
     go_wp2_with (go_at_call 50;first | (with_reducible refine c0.out.mono ?_;rintro e w2 ⟨rfl,rfl⟩) | (with_reducible refine c1.out.mono ?_;rintro e w2 ⟨rfl,rfl⟩))
     exact bodyPost_ret (v:=.tuple #[.int .i64 ((m:Int)+1),.bool false]) (by simp [results,Tryd.results51,go_sem]) rfl ⟨by rw [q1,q2];try simp,rfl⟩
    | true=>
     have c2:=cw.out (m+1+1) (hlt.out _ _ _ b1) 1 (by omega) []
     obtain⟨x2,b2⟩:∃x,wordS (p.drop (m+1+1)) 1 []=x:=⟨_,rfl⟩
     rw [b2] at c2
     replace c2:=Lib.hid c2
     try push_cast at c2
     cases x2 with
     | false=>
      obtain⟨q1,q2⟩:=((((hI.out.two hm).2 b0).2 b1).1 b2)
      clear hI hlt cw b0 b1 b2
      go_wp2_with (go_at_call 50;first | (with_reducible refine c0.out.mono ?_;rintro e w2 ⟨rfl,rfl⟩) | (with_reducible refine c1.out.mono ?_;rintro e w2 ⟨rfl,rfl⟩) | (with_reducible refine c2.out.mono ?_;rintro e w2 ⟨rfl,rfl⟩))
      exact bodyPost_ret (v:=.tuple #[.int .i64 ((m:Int)+1+1),.bool false]) (by simp [results,Tryd.results51,go_sem]) rfl ⟨by rw [q1,q2];try simp,rfl⟩
     | true=>
      have c3:=cw.out (m+1+1+1) (hlt.out _ _ _ b2) 3 (by omega) close
      obtain⟨x3,b3⟩:∃x,wordS (p.drop (m+1+1+1)) 3 close=x:=⟨_,rfl⟩
      rw [b3] at c3
      replace c3:=Lib.hid c3
      try push_cast at c3
      cases x3 with
      | true=>
       obtain⟨q1,q2⟩:=(((((hI.out.two hm).2 b0).2 b1).2 b2).1 b3)
       clear hI hlt cw b0 b1 b2 b3
       go_wp2_with (go_at_call 50;first | (with_reducible refine c0.out.mono ?_;rintro e w2 ⟨rfl,rfl⟩) | (with_reducible refine c1.out.mono ?_;rintro e w2 ⟨rfl,rfl⟩) | (with_reducible refine c2.out.mono ?_;rintro e w2 ⟨rfl,rfl⟩) | (with_reducible refine c3.out.mono ?_;rintro e w2 ⟨rfl,rfl⟩))
       exact bodyPost_ret (v:=.tuple #[.int .i64 ((m:Int)+1+1+1+1),.bool true]) (by simp [results,Tryd.results51,go_sem]) rfl ⟨by rw [q1,q2];try simp,rfl⟩
      | false=>
       have c4:=cw.out (m+1+1+1) (hlt.out _ _ _ b2) 3 (by omega) [44]
       obtain⟨x4,b4⟩:∃x,wordS (p.drop (m+1+1+1)) 3 [44]=x:=⟨_,rfl⟩
       rw [b4] at c4
       replace c4:=Lib.hid c4
       try push_cast at c4
       cases x4 with
       | false=>
        obtain⟨q1,q2⟩:=((((((hI.out.two hm).2 b0).2 b1).2 b2).2 b3).1 b4)
        clear hI hlt cw b0 b1 b2 b3 b4
        go_wp2_with (go_at_call 50;first | (with_reducible refine c0.out.mono ?_;rintro e w2 ⟨rfl,rfl⟩) | (with_reducible refine c1.out.mono ?_;rintro e w2 ⟨rfl,rfl⟩) | (with_reducible refine c2.out.mono ?_;rintro e w2 ⟨rfl,rfl⟩) | (with_reducible refine c3.out.mono ?_;rintro e w2 ⟨rfl,rfl⟩) | (with_reducible refine c4.out.mono ?_;rintro e w2 ⟨rfl,rfl⟩))
        exact bodyPost_ret (v:=.tuple #[.int .i64 ((m:Int)+1+1+1),.bool false]) (by simp [results,Tryd.results51,go_sem]) rfl ⟨by rw [q1,q2];try simp,rfl⟩
       | true=>
        have hI2:=Lib.hid (((((((hI.out.two hm).2 b0).2 b1).2 b2).2 b3).2 b4))
        have hm2:m+1+1+1+1≤p.length:=hlt.out _ _ _ b4
        clear hI hlt cw b0 b1 b2 b3 b4
        go_wp2_with (go_at_call 50;first | (with_reducible refine c0.out.mono ?_;rintro e w2 ⟨rfl,rfl⟩) | (with_reducible refine c1.out.mono ?_;rintro e w2 ⟨rfl,rfl⟩) | (with_reducible refine c2.out.mono ?_;rintro e w2 ⟨rfl,rfl⟩) | (with_reducible refine c3.out.mono ?_;rintro e w2 ⟨rfl,rfl⟩) | (with_reducible refine c4.out.mono ?_;rintro e w2 ⟨rfl,rfl⟩))
        go_round
        case rel=>exact⟨m+1+1+1+1,by go_num,hm2,hI2⟩
        case measure=>simp [intOf];omega
end
end
section
open Go.RowKit Go.Maps Go.Shelf
attribute [local go_sem] Oper.semAt_some
section
variable {w w':World} {g o c:Nat} {p:List Tok} {items:List (List UInt8)} {it:List UInt8} {F1 j k:Nat} {F2:Bool}
theorem rowS_le:∀(n:Nat) (pairs:Bool) (close:List UInt8) (q:List Tok),(rowS n pairs close q).1≤q.length
 | 0,_,_,_=>Nat.zero_le _
 | n+1,pairs,close,q=>by
  have hl:∀i kd s,wordS (q.drop i) kd s=true→i<q.length:=fun i kd s h=>wordS_lt h
  have h0:=hl 0 1 []
  rw [List.drop_zero] at h0
  have h1:=hl 1 3 [58]
  have h2:=hl 2 1 []
  have ih:=fun d=>rowS_le n pairs close (q.drop d)
  simp only [List.length_drop] at ih
  cases pairs with
  | false=>
   simp only [rowS,Bool.false_and,Bool.false_eq_true,if_false]
   have h3:=hl 1 3 close
   have h4:=hl 1 3 [44]
   have:=ih (1+1)
   split
   ·exact Nat.zero_le _
   ·split
    ·dsimp only;exact h3 (by assumption)
    ·split
     ·have:=h0 (by rename_i a _ _;simpa using a);dsimp only;omega
     ·have:=h4 (by rename_i a;simpa using a);dsimp only;omega
  | true=>
   simp only [rowS,Bool.true_and,if_true,Bool.not_eq_true']
   have h3:=hl 3 3 close
   have h4:=hl 3 3 [44]
   have:=ih (3+1)
   split
   ·exact Nat.zero_le _
   ·rename_i a0
    have k0:=h0 (by simpa using a0)
    split
    ·dsimp only;omega
    ·rename_i a1
     have k1:=h1 (by simpa using a1)
     split
     ·dsimp only;omega
     ·rename_i a2
      have k2:=h2 (by simpa using a2)
      split
      ·rename_i a3
       have k3:=h3 a3
       dsimp only;omega
      ·split
       ·dsimp only;omega
       ·rename_i a4
        have k4:=h4 (by simpa using a4)
        dsimp only;omega
theorem rowF_le (pairs:Bool)(close:List UInt8)(q:List Tok):(rowF pairs close q).1≤q.length:=by
 unfold rowF
 split
 ·rename_i h
  simp only [Bool.and_eq_true] at h
  have:=wordS_lt (k:=0) (p:=q) (by rw [List.drop_zero];exact h.2)
  exact this
 ·exact rowS_le _ _ _ _
def FarI (items:List (List UInt8))(p:List Tok)(F1:Nat)(F2:Bool)(j k:Nat):Prop:=F1=k+(farS (items.drop j) (p.drop k)).1∧F2=(farS (items.drop j) (p.drop k)).2
theorem FarI.end' (h:FarI items p F1 F2 j k)(hj:items.length≤j):F1=k∧F2=true:=by
 unfold FarI at h
 rw [List.drop_eq_nil_of_le hj] at h
 exact h
theorem FarI.n (h:FarI items p F1 F2 j k)(hj:items[j]?=some [78]):(wordS (p.drop k) 1 []=true→FarI items p F1 F2 (j+1) (k+1))∧(wordS (p.drop k) 1 []=false→F1=k∧F2=false):=by
 obtain⟨hl,e⟩:=List.getElem?_eq_some_iff.1 hj
 unfold FarI at h
 rw [List.drop_eq_getElem_cons hl,e] at h
 simp only [farS,if_true,List.drop_drop] at h
 constructor
 ·intro hw
  rw [if_pos hw] at h
  exact⟨by have:=h.1;dsimp only at this;omega,h.2⟩
 ·intro hw
  rw [if_neg (by rw [hw];simp)] at h
  exact h
theorem FarI.num (h:FarI items p F1 F2 j k)(hj:items[j]?=some [75]):(wordS (p.drop k) 2 []=true→FarI items p F1 F2 (j+1) (k+1))∧(wordS (p.drop k) 2 []=false→F1=k∧F2=false):=by
 obtain⟨hl,e⟩:=List.getElem?_eq_some_iff.1 hj
 unfold FarI at h
 rw [List.drop_eq_getElem_cons hl,e] at h
 simp only [farS,if_true,List.drop_drop,if_neg (show ¬([75]:List UInt8)=[78] from by decide)] at h
 constructor
 ·intro hw
  rw [if_pos hw] at h
  exact⟨by have:=h.1;dsimp only at this;omega,h.2⟩
 ·intro hw
  rw [if_neg (by rw [hw];simp)] at h
  exact h
theorem FarI.may (h:FarI items p F1 F2 j k)(hj:items[j]?=some [63]):(wordS (p.drop k) 1 []=true→F1=k+1∧F2=true)∧(wordS (p.drop k) 1 []=false→F1=k∧F2=true):=by
 obtain⟨hl,e⟩:=List.getElem?_eq_some_iff.1 hj
 unfold FarI at h
 rw [List.drop_eq_getElem_cons hl,e] at h
 simp only [farS,if_true,if_neg (show ¬([63]:List UInt8)=[78] from by decide),if_neg (show ¬([63]:List UInt8)=[75] from by decide)] at h
 constructor
 ·intro hw
  rw [if_pos hw] at h
  exact h
 ·intro hw
  rw [if_neg (by rw [hw];simp)] at h
  exact h
theorem FarI.row {r:Nat × Bool}(h:FarI items p F1 F2 j k)(hj:items[j]?=some it)(hi:it=[40]∨it=[91])(hr:r=rowF (decide (it=[91])) (if it=[91] then [93] else [41]) (p.drop (k+1))):
  (wordS (p.drop k) 3 it=false→F1=k∧F2=false)∧(wordS (p.drop k) 3 it=true→(r.2=true→FarI items p F1 F2 (j+1) (k+1+r.1))∧(r.2=false→F1=k+1+r.1∧F2=false)):=by
 obtain⟨hl,e⟩:=List.getElem?_eq_some_iff.1 hj
 unfold FarI at h
 rw [List.drop_eq_getElem_cons hl,e] at h
 simp only [farS,List.drop_drop] at h
 rw [if_neg (by rcases hi with rfl | rfl<;>decide),if_neg (by rcases hi with rfl | rfl<;>decide),if_neg (by rcases hi with rfl | rfl<;>decide),if_pos hi,←hr] at h
 refine⟨fun hw=>?_,fun hw=>⟨fun h2=>?_,fun h2=>?_⟩⟩
 ·rw [if_pos hw] at h
  exact h
 ·rw [if_neg (by rw [hw];simp),if_pos h2] at h
  refine⟨?_,?_⟩
  ·have:=h.1
   dsimp only at this
   rw [this,show k+(1+r.1)=k+1+r.1 from by omega]
   omega
  ·rw [show k+1+r.1=k+(1+r.1) from by omega]
   exact h.2
 ·rw [if_neg (by rw [hw];simp),if_neg (by rw [h2];simp)] at h
  exact⟨by have:=h.1;dsimp only at this;omega,h.2⟩
theorem FarI.lit (h:FarI items p F1 F2 j k)(hj:items[j]?=some it)(h1:it≠[78])(h2:it≠[75])(h3:it≠[63])(h4:it≠[40])(h5:it≠[91]):
  (litT (p.drop k) it=true→FarI items p F1 F2 (j+1) (k+1))∧(litT (p.drop k) it=false→F1=k∧F2=false):=by
 obtain⟨hl,e⟩:=List.getElem?_eq_some_iff.1 hj
 unfold FarI at h
 rw [List.drop_eq_getElem_cons hl,e] at h
 simp only [farS,List.drop_drop] at h
 rw [if_neg h1,if_neg h2,if_neg h3,if_neg (by simp [h4,h5])] at h
 constructor
 ·intro hw
  rw [if_pos hw] at h
  exact⟨by have:=h.1;dsimp only at this;omega,h.2⟩
 ·intro hw
  rw [if_neg (by rw [hw];simp)] at h
  exact h
end
end
section
open Go.RowKit Go.Maps Go.Shelf
attribute [local go_sem] Oper.semAt_some
section
variable {w w':World} {g o c:Nat} {p:List Tok} {items:List (List UInt8)}
structure StAt (w:World) (b:Nat) (items:List (List UInt8)):Prop where
 at':∀(j:Nat) (it:List UInt8),items[j]?=some it→w.cell? ⟨b,j,none⟩=some (.string ⟨it.toArray⟩)
 len:items.length≤100
 lt:b<w.heap.size
theorem StAt.below {b:Nat}(h:StAt w b items)(hb:Below w.heap.size w w'):StAt w' b items:=
 ⟨fun j it hj=>by
  have:=h.at' j it hj
  unfold World.cell? at this ⊢
  rw [(Touch.of_below hb (fun _=>False)).block b h.lt (fun h=>h)]
  exact this,h.len,Nat.lt_of_lt_of_le h.lt hb.size⟩
set_option maxRecDepth 20000 in
set_option maxHeartbeats 4000000 in
theorem reffar_any (h:PcAt w g o p){b cb:Nat}(hs:StAt w b items):Calls Tryd.prog 22 #[.slice (some ⟨b,0,none⟩) items.length cb,.slice (some ⟨g,o,none⟩) p.length c] w fun e w'=>e=.returned (.tuple #[.int .i64 ((farS items p).1:Nat),.bool (farS items p).2])∧Below w.heap.size w w':=by
 have hlen:=h.len
 have hoff:=h.off
 have hil:=hs.len
 obtain⟨F1,hF1⟩:∃F1,F1=(farS items p).1:=⟨_,rfl⟩
 obtain⟨F2,hF2⟩:∃F2,F2=(farS items p).2:=⟨_,rfl⟩
 have hI0:=Lib.hid (show FarI items p F1 F2 0 0 from ⟨by rw [hF1,Nat.zero_add];rfl,hF2⟩)
 rw [←hF1,←hF2]
 obtain⟨n,hn⟩:∃n,n=items.length:=⟨_,rfl⟩
 rw [←hn] at hil ⊢
 have hPw:=Lib.hid (fun (wr:World) (hb:Below w.heap.size w wr)=>h.below hb)
 have hSw:=Lib.hid (fun (wr:World) (hb:Below w.heap.size w wr)=>hs.below hb)
 have hwlt:=h.lt
 have hblt:=hs.lt
 have hget:=Lib.hid (fun j (hj:j<n)=>(show ∃it,items[j]?=some it from ⟨items[j]'(by omega),List.getElem?_eq_getElem (by omega)⟩))
 replace hn:=Lib.hid hn
 clear hF1 hF2 h hs
 go_enter Tryd.func22,Tryd.ntmps22
 go_wp2_with fail
 go_loopw [4,5,6,7,8,9,10,11] (fun a1 a2 a3 a4 a5 a6 a7 a8 wr=>∃k j:Nat,a3=.int .i64 k∧a4=.int .i64 j∧k≤p.length∧j≤n∧Below w.heap.size w wr∧Hid (FarI items p F1 F2 j k)) (fun a1 a2 a3 a4 a5 a6 a7 a8 _=>n-(intOf a4).toNat)
 case atStart=>exact⟨0,0,rfl,rfl,Nat.zero_le _,Nat.zero_le _,Below.refl _ _,hI0⟩
 case round=>
  clear hI0
  obtain⟨k,j,rfl,rfl,hk,hj,hb,hI⟩:=hrel
  by_cases hlt:j<n
  ·have i1:(j:Int)<(n:Int):=by omega
   obtain⟨it,hit⟩:=hget.out j hlt
   have hP:=Lib.hid (hPw.out _ hb)
   have hS:=(hSw.out _ hb)
   have ki:=hS.at' j it hit
   have hblt2:=hS.lt
   have hbs:=hb.size
   clear hS
   by_cases k1:it=[78]
   ·subst k1
    obtain⟨s1,s2⟩:=hI.out.n hit
    obtain⟨x0,b0⟩:∃x,wordS (p.drop k) 1 []=x:=⟨_,rfl⟩
    have c0:=refword_any (c:=c) hP.out hk (kd:=1) (by omega) []
    rw [b0] at c0
    replace c0:=Lib.hid c0
    try push_cast at c0
    cases x0 with
    | true=>
     have hI2:=Lib.hid (s1 b0)
     have hk2:=wordS_lt b0
     clear hI s1 s2 b0 hPw hSw hP hit
     go_wp2_with (go_at_call 50;with_reducible refine c0.out.mono ?_;rintro e w2 ⟨rfl,rfl⟩)
     go_roundw
     case rel=>exact⟨k+1,j+1,by go_num,by go_num,by omega,by omega,hb,hI2⟩
     case measure=>simp [intOf];omega
    | false=>
     obtain⟨q1,q2⟩:=s2 b0
     clear hI s1 s2 b0 hPw hSw hP hit
     go_wp2_with (go_at_call 50;with_reducible refine c0.out.mono ?_;rintro e w2 ⟨rfl,rfl⟩)
     exact bodyPost_ret (v:=.tuple #[.int .i64 ((k:Int)),.bool false]) (by simp [results,Tryd.results22,go_sem]) rfl ⟨by rw [q1,q2];try simp,hb⟩
   by_cases k2:it=[75]
   ·subst k2
    obtain⟨s1,s2⟩:=hI.out.num hit
    obtain⟨x0,b0⟩:∃x,wordS (p.drop k) 2 []=x:=⟨_,rfl⟩
    have c0:=refword_any (c:=c) hP.out hk (kd:=2) (by omega) []
    rw [b0] at c0
    replace c0:=Lib.hid c0
    try push_cast at c0
    cases x0 with
    | true=>
     have hI2:=Lib.hid (s1 b0)
     have hk2:=wordS_lt b0
     clear hI s1 s2 b0 hPw hSw hP hit
     go_wp2_with (go_at_call 50;with_reducible refine c0.out.mono ?_;rintro e w2 ⟨rfl,rfl⟩)
     go_roundw
     case rel=>exact⟨k+1,j+1,by go_num,by go_num,by omega,by omega,hb,hI2⟩
     case measure=>simp [intOf];omega
    | false=>
     obtain⟨q1,q2⟩:=s2 b0
     clear hI s1 s2 b0 hPw hSw hP hit
     go_wp2_with (go_at_call 50;with_reducible refine c0.out.mono ?_;rintro e w2 ⟨rfl,rfl⟩)
     exact bodyPost_ret (v:=.tuple #[.int .i64 ((k:Int)),.bool false]) (by simp [results,Tryd.results22,go_sem]) rfl ⟨by rw [q1,q2];try simp,hb⟩
   by_cases k3:it=[63]
   ·subst k3
    obtain⟨s1,s2⟩:=hI.out.may hit
    obtain⟨x0,b0⟩:∃x,wordS (p.drop k) 1 []=x:=⟨_,rfl⟩
    have c0:=refword_any (c:=c) hP.out hk (kd:=1) (by omega) []
    rw [b0] at c0
    replace c0:=Lib.hid c0
    try push_cast at c0
    cases x0 with
    | true=>
     obtain⟨q1,q2⟩:=s1 b0
     clear hI s1 s2 b0 hPw hSw hP hit
     go_wp2_with (go_at_call 50;with_reducible refine c0.out.mono ?_;rintro e w2 ⟨rfl,rfl⟩)
     exact bodyPost_ret (v:=.tuple #[.int .i64 ((k:Int)+1),.bool true]) (by simp [results,Tryd.results22,go_sem]) rfl ⟨by rw [q1,q2];try simp,hb⟩
    | false=>
     obtain⟨q1,q2⟩:=s2 b0
     clear hI s1 s2 b0 hPw hSw hP hit
     go_wp2_with (go_at_call 50;with_reducible refine c0.out.mono ?_;rintro e w2 ⟨rfl,rfl⟩)
     exact bodyPost_ret (v:=.tuple #[.int .i64 ((k:Int)),.bool true]) (by simp [results,Tryd.results22,go_sem]) rfl ⟨by rw [q1,q2];try simp,hb⟩
   by_cases k4:it=[40]
   ·subst k4
    obtain⟨r,hr⟩:∃r,r=rowF (decide (([40]:List UInt8)=[91])) (if ([40]:List UInt8)=[91] then [93] else [41]) (p.drop (k+1)):=⟨_,rfl⟩
    obtain⟨s1,s2⟩:=hI.out.row hit (.inl rfl) hr
    replace hr:r=rowF false [41] (p.drop (k+1)):=hr
    obtain⟨x0,b0⟩:∃x,wordS (p.drop k) 3 [40]=x:=⟨_,rfl⟩
    have c0:=refword_any (c:=c) hP.out hk (kd:=3) (by omega) [40]
    rw [b0] at c0
    replace c0:=Lib.hid c0
    try push_cast at c0
    cases x0 with
    | false=>
     obtain⟨q1,q2⟩:=s1 b0
     clear hI s1 s2 b0 hPw hSw hP hit hr
     go_wp2_with (go_at_call 50;with_reducible refine c0.out.mono ?_;rintro e w2 ⟨rfl,rfl⟩)
     exact bodyPost_ret (v:=.tuple #[.int .i64 ((k:Int)),.bool false]) (by simp [results,Tryd.results22,go_sem]) rfl ⟨by rw [q1,q2];try simp,hb⟩
    | true=>
     have hk1:=wordS_lt b0
     have hle:=rowF_le false [41] (p.drop (k+1))
     rw [←hr,List.length_drop] at hle
     have c1:=refrow_any (c:=c) hP.out (k:=k+1) (by omega) false [41]
     rw [←hr] at c1
     obtain⟨r1,r2⟩:=r
     dsimp only at c1 hle s2
     replace c1:=Lib.hid c1
     try push_cast at c1
     clear hr
     cases r2 with
     | true=>
      have hI2:=Lib.hid ((s2 b0).1 rfl)
      clear hI s1 s2 b0 hPw hSw hP hit
      go_wp2_with (first | (go_at_call 50;with_reducible refine c0.out.mono ?_;rintro e w2 ⟨rfl,rfl⟩) | (go_at_call 51;with_reducible refine c1.out.mono ?_;rintro e w2 ⟨rfl,rfl⟩))
      go_roundw
      case rel=>exact⟨k+1+r1,j+1,by go_num,by go_num,by omega,by omega,hb,hI2⟩
      case measure=>simp [intOf];omega
     | false=>
      obtain⟨q1,q2⟩:=(s2 b0).2 rfl
      clear hI s1 s2 b0 hPw hSw hP hit
      go_wp2_with (first | (go_at_call 50;with_reducible refine c0.out.mono ?_;rintro e w2 ⟨rfl,rfl⟩) | (go_at_call 51;with_reducible refine c1.out.mono ?_;rintro e w2 ⟨rfl,rfl⟩))
      exact bodyPost_ret (v:=.tuple #[.int .i64 ((k:Int)+1+r1),.bool false]) (by simp [results,Tryd.results22,go_sem]) rfl ⟨by rw [q1,q2];try simp,hb⟩
   by_cases k5:it=[91]
   ·subst k5
    obtain⟨r,hr⟩:∃r,r=rowF (decide (([91]:List UInt8)=[91])) (if ([91]:List UInt8)=[91] then [93] else [41]) (p.drop (k+1)):=⟨_,rfl⟩
    obtain⟨s1,s2⟩:=hI.out.row hit (.inr rfl) hr
    replace hr:r=rowF true [93] (p.drop (k+1)):=hr
    obtain⟨x0,b0⟩:∃x,wordS (p.drop k) 3 [91]=x:=⟨_,rfl⟩
    have c0:=refword_any (c:=c) hP.out hk (kd:=3) (by omega) [91]
    rw [b0] at c0
    replace c0:=Lib.hid c0
    try push_cast at c0
    cases x0 with
    | false=>
     obtain⟨q1,q2⟩:=s1 b0
     clear hI s1 s2 b0 hPw hSw hP hit hr
     go_wp2_with (go_at_call 50;with_reducible refine c0.out.mono ?_;rintro e w2 ⟨rfl,rfl⟩)
     exact bodyPost_ret (v:=.tuple #[.int .i64 ((k:Int)),.bool false]) (by simp [results,Tryd.results22,go_sem]) rfl ⟨by rw [q1,q2];try simp,hb⟩
    | true=>
     have hk1:=wordS_lt b0
     have hle:=rowF_le true [93] (p.drop (k+1))
     rw [←hr,List.length_drop] at hle
     have c1:=refrow_any (c:=c) hP.out (k:=k+1) (by omega) true [93]
     rw [←hr] at c1
     obtain⟨r1,r2⟩:=r
     dsimp only at c1 hle s2
     replace c1:=Lib.hid c1
     try push_cast at c1
     clear hr
     cases r2 with
     | true=>
      have hI2:=Lib.hid ((s2 b0).1 rfl)
      clear hI s1 s2 b0 hPw hSw hP hit
      go_wp2_with (first | (go_at_call 50;with_reducible refine c0.out.mono ?_;rintro e w2 ⟨rfl,rfl⟩) | (go_at_call 51;with_reducible refine c1.out.mono ?_;rintro e w2 ⟨rfl,rfl⟩))
      go_roundw
      case rel=>exact⟨k+1+r1,j+1,by go_num,by go_num,by omega,by omega,hb,hI2⟩
      case measure=>simp [intOf];omega
     | false=>
      obtain⟨q1,q2⟩:=(s2 b0).2 rfl
      clear hI s1 s2 b0 hPw hSw hP hit
      go_wp2_with (first | (go_at_call 50;with_reducible refine c0.out.mono ?_;rintro e w2 ⟨rfl,rfl⟩) | (go_at_call 51;with_reducible refine c1.out.mono ?_;rintro e w2 ⟨rfl,rfl⟩))
      exact bodyPost_ret (v:=.tuple #[.int .i64 ((k:Int)+1+r1),.bool false]) (by simp [results,Tryd.results22,go_sem]) rfl ⟨by rw [q1,q2];try simp,hb⟩
   obtain⟨s1,s2⟩:=hI.out.lit hit k1 k2 k3 k4 k5
   have gk1:(it==[78])=false:=by simpa using k1
   have gk2:(it==[75])=false:=by simpa using k2
   have gk3:(it==[63])=false:=by simpa using k3
   have gk4:(it==[40])=false:=by simpa using k4
   have gk5:(it==[91])=false:=by simpa using k5
   obtain⟨x0,b0⟩:∃x,litT (p.drop k) it=x:=⟨_,rfl⟩
   by_cases hkn:k<p.length
   ·obtain⟨t,ht⟩:∃t,p[k]?=some t:=⟨p[k]'(by omega),List.getElem?_eq_getElem (by omega)⟩
    obtain⟨a0,a1,-,-,-⟩:=hP.out.toks k t ht
    have hglt:=hP.out.lt
    have hd:p.drop k=t::p.drop (k+1):=by
     obtain⟨h1,h2⟩:=List.getElem?_eq_some_iff.1 ht
     rw [List.drop_eq_getElem_cons h1,h2]
    have hl:=b0
    rw [hd] at hl
    simp only [litT] at hl
    have g1:((t.kind:Int)==1)=(t.kind==1):=kindB _ 1
    have g3:((t.kind:Int)==3)=(t.kind==3):=kindB _ 3
    have g4:((nmT t).toList==it)=(t.text==it):=by rw [nm_list]
    have i2:(k:Int)<(p.length:Int):=by omega
    generalize (t.kind==1)=y1 at hl g1
    generalize (t.kind==3)=y3 at hl g3
    generalize (t.text==it)=y4 at hl g4
    cases x0 with
    | true=>
     have hI2:=Lib.hid (s1 b0)
     clear hI s1 s2 b0 hPw hSw hP hit hd ht k1 k2 k3 k4 k5
     obtain rfl:y4=true:=by revert hl;cases y4<;>simp
     cases y1<;>cases y3<;>first | (exact absurd hl (by decide)) | skip
     all_goals
      go_wp2_with fail
      go_quiet (fail)
      go_wp2_with fail
      go_roundw
      case rel=>exact⟨k+1,j+1,by go_num,by go_num,by omega,by omega,below_drawn hb _,hI2⟩
      case measure=>simp [intOf];omega
    | false=>
     obtain⟨q1,q2⟩:=s2 b0
     clear hI s1 s2 b0 hPw hSw hP hit hd ht k1 k2 k3 k4 k5
     cases y1<;>cases y3<;>cases y4<;>first | (exact absurd hl (by decide)) | skip
     all_goals
      go_wp2_with fail
      go_quiet (fail)
      go_wp2_with fail
      exact bodyPost_ret (v:=.tuple #[.int .i64 (k:Int),.bool false]) (by simp [results,Tryd.results22,go_sem]) rfl ⟨by rw [q1,q2],below_drawn hb _⟩
   ·obtain rfl:x0=false:=by rw [←b0,List.drop_eq_nil_of_le (by omega)];rfl
    obtain⟨q1,q2⟩:=s2 b0
    have g1:decide ((k:Int)<(p.length:Int))=false:=by simp;omega
    clear hI s1 s2 b0 hPw hSw hP hit k1 k2 k3 k4 k5
    go_wp2_with fail
    go_quiet (fail)
    go_wp2_with fail
    exact bodyPost_ret (v:=.tuple #[.int .i64 (k:Int),.bool false]) (by simp [results,Tryd.results22,go_sem]) rfl ⟨by rw [q1,q2],below_drawn hb _⟩
  ·have hj2:n≤j:=by omega
   obtain⟨q1,q2⟩:=hI.out.end' (by rw [←hn.out];exact hj2)
   have g1:decide ((j:Int)<(n:Int))=false:=by simp;omega
   clear hI hPw hSw
   go_wp2_with fail
   exact bodyPost_ret (v:=.tuple #[.int .i64 ((k:Int)),.bool true]) (by simp [results,Tryd.results22,go_sem]) rfl ⟨by rw [q1,q2];try simp,hb⟩
end
end
end Go.Proofs.YtgcanabckogmmaaDoor
