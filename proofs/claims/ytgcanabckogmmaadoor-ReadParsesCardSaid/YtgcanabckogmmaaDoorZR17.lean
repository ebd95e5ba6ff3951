/- RdU, FindB, RdV. -/
import Derived.Test.YtgcanabckogmmaaDoorZR15
import Derived.Test.YtgcanabckogmmaaDoorZR16
import Derived.Test.YtgcanabckogmmaaDoorProg
namespace Go.Proofs.YtgcanabckogmmaaDoor
set_option linter.unusedVariables false
set_option linter.unusedSimpArgs false
section
open Go.RowKit Go.Maps Go.Shelf
attribute [local go_sem] Oper.semAt_some fld0 fld1 fld2
section
variable {B Bp Bf pb gw cw:Nat} {T:List Tok} {ln vb bb Sf:Nat} {w w2:World} {i:Nat} {d:Fun}
theorem inside_any (h:GAt B Bp Bf pb gw cw T ln vb bb Sf w i d):Calls Tryd.prog 45 #[.pointer (some ⟨pb,0,none⟩),.pointer (some ⟨Sf,0,none⟩)] w (GPost B Bp Bf pb gw cw T ln vb bb Sf w (insideP d (T.drop i) ln)):=by
 obtain⟨hP,hF,hnb,hnc,hlo,hBp⟩:=h
 cases hn:nameP (T.drop i) ln with
 | error f=>
  have e:insideP d (T.drop i) ln=.error f:=by unfold insideP;rw [hn]
  rw [e]
  exact inside_name_bad hP hn
 | ok r=>
  obtain⟨s,l⟩:=r
  rcases hF with ⟨hd,vp,hF⟩ | ⟨vp,gb,capb,vc,bs,x,hd,hF⟩
  ·have hem:(d.blocks.isEmpty || isB l ln 58)=true:=by rw [hd];rfl
   cases hs:signP 58 l ln with
   | error f=>
    have e:insideP d (T.drop i) ln=.error f:=by unfold insideP;rw [hn];dsimp only;rw [if_pos hem,hs]
    rw [e]
    exact inside_nil_bad hP hF hlo hBp hn hs
   | ok l'=>
    have e:insideP d (T.drop i) ln=.ok (addB d s,l'):=by unfold insideP;rw [hn];dsimp only;rw [if_pos hem,hs]
    rw [e]
    exact inside_nil_ok hP hF hlo hBp hd hn hs
  ·have hem:d.blocks.isEmpty=false:=by rw [hd];cases bs<;>rfl
   cases h58:isB l ln 58 with
   | true=>
    have hc:(d.blocks.isEmpty || isB l ln 58)=true:=by rw [h58,hem];rfl
    cases hs:signP 58 l ln with
    | error f=>exfalso;unfold signP at hs;rw [h58,if_pos rfl] at hs;cases hs
    | ok l'=>
     have e:insideP d (T.drop i) ln=.ok (addB d s,l'):=by unfold insideP;rw [hn];dsimp only;rw [if_pos hc,hs]
     rw [e]
     exact inside_head (nm:=d.name) (ps:=d.params) hP hF hd hnb hnc hlo hBp hn h58 hs
   | false=>
    have hc:¬(d.blocks.isEmpty || isB l ln 58)=true:=by rw [h58,hem];simp
    have key:∀{R:Except Flt (Fun × List Tok)},(match (if isB l ln 61=true then none else bareF s.data.toList) with
      | some how=>
       match instrP how ⟨#[]⟩ l ln with
       | .error e=>.error e
       | .ok (x,l)=>.ok (addI d x,l)
      | none=>
       match signP 61 l ln with
       | .error e=>.error e
       | .ok l=>
        match valueF (headT l) with
        | none=>.error (fltL l)
        | some how=>
         match nameP l ln with
         | .error e=>.error e
         | .ok (_,l)=>
          match instrP how s l ln with
          | .error e=>.error e
          | .ok (x,l)=>.ok (addI d x,l))=R→insideP d (T.drop i) ln=R:=fun e=>by
     unfold insideP;rw [hn];dsimp only;rw [if_neg hc];exact e
    cases hb:bareF s.data.toList with
    | some how=>
     obtain⟨op0,r0,rfl⟩:=bare_nat hb
     cases h61:isB l ln 61 with
     | false=>
      cases hR:instrP ((op0:Int),r0) ⟨#[]⟩ l ln with
      | error f=>
       rw [key (R:=.error f) (by rw [h61,hb,if_neg (by simp)];dsimp only;rw [hR])]
       exact inside_bare_bad (nm:=d.name) (ps:=d.params) hP hF hd hnb hnc hlo hBp hn h58 h61 hb hR
      | ok y=>
       obtain⟨y,l2⟩:=y
       rw [key (R:=.ok (addI d y,l2)) (by rw [h61,hb,if_neg (by simp)];dsimp only;rw [hR])]
       exact inside_bare_ok (nm:=d.name) (ps:=d.params) hP hF hd hnb hnc hlo hBp hn h58 h61 hb hR
     | true=>
      cases hs:signP 61 l ln with
      | error f=>
       rw [key (R:=.error f) (by rw [h61,if_pos rfl];dsimp only;rw [hs])]
       exact inside_eq_signbad (nm:=d.name) (ps:=d.params) hP hF hd hnb hnc hlo hBp hn h58 hb h61 hs
      | ok l2=>
       cases hv:valueF (headT l2) with
       | none=>
        rw [key (R:=.error (fltL l2)) (by rw [h61,if_pos rfl];dsimp only;rw [hs];dsimp only;rw [hv])]
        exact inside_eq_refuse (nm:=d.name) (ps:=d.params) hP hF hd hnb hnc hlo hBp hn h58 hb h61 hs hv
       | some how=>
        obtain⟨op,r,rfl⟩:=value_nat hv
        cases hn2:nameP l2 ln with
        | error f=>
         rw [key (R:=.error f) (by rw [h61,if_pos rfl];dsimp only;rw [hs];dsimp only;rw [hv];dsimp only;rw [hn2])]
         exact inside_eq_namebad (nm:=d.name) (ps:=d.params) hP hF hd hnb hnc hlo hBp hn h58 hb h61 hs hv hn2
        | ok q=>
         obtain⟨s2,l3⟩:=q
         cases hR:instrP ((op:Int),r) s l3 ln with
         | error f=>
          rw [key (R:=.error f) (by rw [h61,if_pos rfl];dsimp only;rw [hs];dsimp only;rw [hv];dsimp only;rw [hn2];dsimp only;rw [hR])]
          exact inside_eq_insbad (nm:=d.name) (ps:=d.params) hP hF hd hnb hnc hlo hBp hn h58 hb h61 hs hv hn2 hR
         | ok y=>
          obtain⟨y,l4⟩:=y
          rw [key (R:=.ok (addI d y,l4)) (by rw [h61,if_pos rfl];dsimp only;rw [hs];dsimp only;rw [hv];dsimp only;rw [hn2];dsimp only;rw [hR])]
          exact inside_eq_ok (nm:=d.name) (ps:=d.params) hP hF hd hnb hnc hlo hBp hn h58 hb h61 hs hv hn2 hR
    | none=>
     have hif:(if isB l ln 61=true then none else bareF s.data.toList)=none:=by rw [hb];split<;>rfl
     cases hs:signP 61 l ln with
     | error f=>
      rw [key (R:=.error f) (by rw [hif];dsimp only;rw [hs])]
      exact inside_none_signbad (nm:=d.name) (ps:=d.params) hP hF hd hnb hnc hlo hBp hn h58 hb hs
     | ok l2=>
      cases hv:valueF (headT l2) with
      | none=>
       rw [key (R:=.error (fltL l2)) (by rw [hif];dsimp only;rw [hs];dsimp only;rw [hv])]
       exact inside_none_refuse (nm:=d.name) (ps:=d.params) hP hF hd hnb hnc hlo hBp hn h58 hb hs hv
      | some how=>
       obtain⟨op,r,rfl⟩:=value_nat hv
       cases hn2:nameP l2 ln with
       | error f=>
        rw [key (R:=.error f) (by rw [hif];dsimp only;rw [hs];dsimp only;rw [hv];dsimp only;rw [hn2])]
        exact inside_none_namebad (nm:=d.name) (ps:=d.params) hP hF hd hnb hnc hlo hBp hn h58 hb hs hv hn2
       | ok q=>
        obtain⟨s2,l3⟩:=q
        cases hR:instrP ((op:Int),r) s l3 ln with
        | error f=>
         rw [key (R:=.error f) (by rw [hif];dsimp only;rw [hs];dsimp only;rw [hv];dsimp only;rw [hn2];dsimp only;rw [hR])]
         exact inside_none_insbad (nm:=d.name) (ps:=d.params) hP hF hd hnb hnc hlo hBp hn h58 hb hs hv hn2 hR
        | ok y=>
         obtain⟨y,l4⟩:=y
         rw [key (R:=.ok (addI d y,l4)) (by rw [hif];dsimp only;rw [hs];dsimp only;rw [hv];dsimp only;rw [hn2];dsimp only;rw [hR])]
         exact inside_none_ok (nm:=d.name) (ps:=d.params) hP hF hd hnb hnc hlo hBp hn h58 hb hs hv hn2 hR
theorem inside_le {l l':List Tok}{d':Fun}(h:insideP d l ln=.ok (d',l')):l'.length+1≤l.length:=by
 unfold insideP at h
 cases hn:nameP l ln with
 | error f=>rw [hn] at h;cases h
 | ok r=>
  obtain⟨s,l1⟩:=r
  rw [hn] at h
  dsimp only at h
  have e1:=name_le hn
  by_cases hc:(d.blocks.isEmpty || isB l1 ln 58)=true
  ·rw [if_pos hc] at h
   cases hs:signP 58 l1 ln with
   | error f=>rw [hs] at h;cases h
   | ok l2=>
    rw [hs] at h
    injection h with h
    injection h with a1 a2
    have:=sign_le hs
    subst a2
    omega
  ·rw [if_neg hc] at h
   cases hb:(if isB l1 ln 61=true then none else bareF s.data.toList) with
   | some how=>
    rw [hb] at h
    dsimp only at h
    cases hR:instrP how ⟨#[]⟩ l1 ln with
    | error f=>rw [hR] at h;cases h
    | ok y=>
     obtain⟨y,l2⟩:=y
     rw [hR] at h
     injection h with h
     injection h with a1 a2
     have:=rest_le how.2 _ _ _ _ _ hR
     subst a2
     omega
   | none=>
    rw [hb] at h
    dsimp only at h
    cases hs:signP 61 l1 ln with
    | error f=>rw [hs] at h;cases h
    | ok l2=>
     rw [hs] at h
     dsimp only at h
     have e2:=sign_le hs
     cases hv:valueF (headT l2) with
     | none=>rw [hv] at h;cases h
     | some how=>
      rw [hv] at h
      dsimp only at h
      cases hn2:nameP l2 ln with
      | error f=>rw [hn2] at h;cases h
      | ok q=>
       obtain⟨s2,l3⟩:=q
       rw [hn2] at h
       dsimp only at h
       have e3:=name_le hn2
       cases hR:instrP how s l3 ln with
       | error f=>rw [hR] at h;cases h
       | ok y=>
        obtain⟨y,l4⟩:=y
        rw [hR] at h
        injection h with h
        injection h with a1 a2
        have:=rest_le how.2 _ _ _ _ _ hR
        subst a2
        omega
end
end
section
def findB (n:Nat):Code→Option Code
 | .seq a b=>(findB n a).or (findB n b)
 | .cond _ a b=>(findB n a).or (findB n b)
 | .loop a=>findB n a
 | .block k a=>if k=n then some (.block k a) else findB n a
 | _=>none
def Func.blockOf (f:Func)(n:Nat):Option Code:=f.body.bind (findB n)
end
section
open Go.RowKit Go.Maps Go.Shelf
attribute [local go_sem] Oper.semAt_some fld0 fld1 fld2
section
variable {B Bp Bf pb gw cw:Nat} {T:List Tok} {ln vb bb Sf:Nat} {w w2:World} {i:Nat} {d:Fun}
theorem GAt.on (h:GAt B Bp Bf pb gw cw T ln vb bb Sf w i d){i' ln':Nat}(hi:i≤i')(hP:PAt B w2 pb gw cw T i' ln' vb bb)(t:Touch w w2 (fun k=>k=pb)):GAt B Bp Bf pb gw cw T ln' vb bb Sf w2 i' d:=by
 have h1:=h.p.ltP
 have h2:=h.lo
 have h3:=h.lp
 refine⟨hP,?_,Nat.le_trans h.nb hi,fun x hx=>Nat.le_trans (h.nc x hx) hi,h2,h.lp⟩
 rcases h.f with ⟨hd,vp,hF⟩ | ⟨vp,gb,capb,vc,bs,x,hd,hF⟩
 ·have:=hF.lt
  exact .inl ⟨hd,vp,hF.keep t (fun k e=>by subst e;omega)⟩
 ·have:=hF.lt
  exact .inr ⟨vp,gb,capb,vc,bs,x,hd,hF.keep t (fun k e=>by subst e;omega)⟩
theorem GAt.read (h:GAt B Bp Bf pb gw cw T ln vb bb Sf w i d):∃a1 c1 a2 c2,w.heap[Sf]?=some (.cells #[.string d.name,.slice a1 d.params.length c1,.slice a2 d.blocks.length c2] 43 (0,0))∧∀w',Touch w w' (fun k=>k<Bp)→RdFunU w' [.string d.name,.slice a1 d.params.length c1,.slice a2 d.blocks.length c2] d:=by
 rcases h.f with ⟨hd,vp,hF⟩ | ⟨vp,gb,capb,vc,bs,x,hd,hF⟩
 ·obtain⟨a1,c1,rfl⟩:=own_formP hF.par
  refine⟨a1,c1,none,0,by rw [hd];exact hF.blk,fun w' t=>⟨_,_,rfl,⟨rds_ownP (ownsRow_touch hF.par t (fun g hg e=>by have:=(hF.par.lt g hg).1;omega)),fz_own (ownsRow_touch hF.par t (fun g hg e=>by have:=(hF.par.lt g hg).1;omega))⟩,?_⟩⟩
  rw [hd]
  exact⟨.inl ⟨rfl,.inl rfl⟩,fz_nil _⟩
 ·obtain⟨a1,c1,rfl⟩:=own_formP hF.par
  have hl:d.blocks.length=bs.length+1:=by rw [hd];simp
  refine⟨a1,c1,some ⟨gb,0,none⟩,capb,by rw [hl];exact hF.blk,fun w' t=>⟨_,_,rfl,⟨rds_ownP (ownsRow_touch hF.par t (fun g hg e=>by have:=(hF.par.lt g hg).1;omega)),fz_own (ownsRow_touch hF.par t (fun g hg e=>by have:=(hF.par.lt g hg).1;omega))⟩,?_⟩⟩
  obtain⟨flat,r1,r2,r3⟩:=hF.row
  have hle:=hF.le
  have r1':=ownsRow_touch r1 t (fun g hg e=>by have:=(r1.lt g hg).1;omega)
  rw [hl]
  have hO:OwnE 2 RdBlkU w' Bf 46 (.slice (some ⟨gb,0,none⟩) (bs.length+1) capb) d.blocks:=by
   refine⟨flat++[.string x.label,vc],by rw [hl];exact r1',fun k y hy=>?_⟩
   rw [hd] at hy
   rcases Nat.lt_or_ge k bs.length with hi | hi
   ·rw [List.getElem?_append_left hi] at hy
    obtain⟨v,a1,a2,a3,a4⟩:=r3 k y hy
    refine⟨[.string y.label,v],⟨v,rfl,a4 w' (t.mono (fun _ _ e=>.inl (Nat.lt_of_lt_of_le e hle)))⟩,rfl,fun j u hj=>?_⟩
    match j,hj with
    | 0,hj=>simp only [List.getElem?_cons_zero,Option.some.injEq] at hj;subst hj;rw [Nat.add_zero,List.getElem?_append_left (by omega)];exact a1
    | 1,hj=>simp only [List.getElem?_cons_succ,List.getElem?_cons_zero,Option.some.injEq] at hj;subst hj;rw [List.getElem?_append_left (by omega)];exact a2
    | j+2,hj=>simp at hj
   ·have hi2:k=bs.length:=by have:=(List.getElem?_eq_some_iff.1 hy).1;simp at this;omega
    subst hi2
    rw [List.getElem?_append_right (Nat.le_refl _),Nat.sub_self] at hy
    simp only [List.getElem?_cons_zero,Option.some.injEq] at hy
    subst hy
    refine⟨[.string x.label,vc],⟨vc,rfl,hF.code.toU t (fun g hg e=>by have:=(hF.code.lt g hg).1;omega) (fun _ _ e=>.inl (Nat.lt_of_lt_of_le e hle))⟩,rfl,fun j u hj=>?_⟩
    rw [List.getElem?_append_right (by omega),show bs.length*2+j-flat.length=j by omega]
    exact hj
  exact hO.rdu
def FnPost (B pb gw cw:Nat)(T:List Tok)(vb bb:Nat)(w:World)(r:Except Flt (Fun × List Tok × Nat))(e:Ending)(w':World):Prop:=
 Touch w w' (fun k=>k=pb)∧match r with
 | .error f=>e=.panicked (chF f)
 | .ok (d,l',ln')=>∃a1 c1 a2 c2 i',e=.returned (.agg #[.string d.name,.slice a1 d.params.length c1,.slice a2 d.blocks.length c2])∧l'=T.drop i'∧PAt B w' pb gw cw T i' ln' vb bb∧d.blocks.length≤i'∧∀w'',Touch w' w'' (fun k=>k<w.heap.size)→RdFunU w'' [.string d.name,.slice a1 d.params.length c1,.slice a2 d.blocks.length c2] d
theorem cells3P {w:World}{b:Nat}{x0 x1 x2:Value}{t:TypeId}(h:w.heap[b]?=some (.cells #[x0,x1,x2] t (0,0))):w.cell? ⟨b,0,none⟩=some x0∧w.cell? ⟨b,1,none⟩=some x1∧w.cell? ⟨b,2,none⟩=some x2:=by
 refine⟨?_,?_,?_⟩<;>(rw [blk_cell h];rfl)
theorem touch3 {w:World}{b:Nat}(x0 x1 x2:Value):Touch w (((w.setCell ⟨b,0,none⟩ x0).setCell ⟨b,1,none⟩ x1).setCell ⟨b,2,none⟩ x2) (fun k=>k=b):=
 (((Touch.refl w (fun k=>k=b)).setCell (a:=⟨b,0,none⟩) (fun _=>rfl) _).setCell (a:=⟨b,1,none⟩) (fun _=>rfl) _).setCell (a:=⟨b,2,none⟩) (fun _=>rfl) _
set_option maxRecDepth 20000 in
set_option maxHeartbeats 4000000 in
theorem body_blk {c:Code}(hc:Func.blockOf Tryd.f20 0=some c){Q:Exit→Act→World→Prop}{u1 u2 u4 u5 u6 u7 u8 u9 u10 u11 u12 u13 u14 u15 u16 u17 u18 u19 u20 u21 u22 u23 u24 u25 u26 u27 u28 u29 u30:Value}
  (h:GAt B Bp Bf pb gw cw T ln vb bb Sf w i d) {n:Nat} (hn:(T.drop i).length+1≤n) {R:Except Flt (Fun × List Tok × Nat)} (hR:bodyP n d (T.drop i) ln=R)
  (hQ:Hid (∀{wx:World} {v21 v22 v23 v24 v25 v26 v27:Value},(Touch w wx (fun k=>k=pb∨k=Sf∨Bf≤k)∧∃i2 d2 ln2,GAt B Bp Bf pb gw cw T ln2 vb bb Sf wx i2 d2∧isB (T.drop i2) ln2 125=true∧R=(match signP 125 (T.drop i2) ln2 with | .error e=>.error e | .ok l=>.ok (d2,l,ln2)))→Q .normal {tmps:=#[.pointer (some ⟨pb,0,none⟩),u1,u2,.pointer (some ⟨Sf,0,none⟩),u4,u5,u6,u7,u8,u9,u10,u11,u12,u13,u14,u15,u16,u17,u18,u19,u20,v21,v22,v23,v24,v25,v26,v27,u28,u29,u30],defers:=[]} wx))
  (hE:Hid (∀{wx:World} {f:Flt} {a:Act},a.defers=[]→Touch w wx (fun k=>k=pb∨k=Sf∨Bf≤k)→R=.error f→Q (.panic (chF f)) a wx)):
  c.wp Tryd.prog Q {tmps:=#[.pointer (some ⟨pb,0,none⟩),u1,u2,.pointer (some ⟨Sf,0,none⟩),u4,u5,u6,u7,u8,u9,u10,u11,u12,u13,u14,u15,u16,u17,u18,u19,u20,u21,u22,u23,u24,u25,u26,u27,u28,u29,u30],defers:=[]} w:=by
 conv at hc=>lhs;whnf
 simp only [Option.some.injEq] at hc
 subst hc
 have hG:Hid (R=bodyP n d (T.drop i) ln∧(T.drop i).length+1≤n∧GAt B Bp Bf pb gw cw T ln vb bb Sf w i d∧Touch w w (fun k=>k=pb∨k=Sf∨Bf≤k)):=Lib.hid ⟨hR.symm,hn,h,Touch.refl _ _⟩
 clear h hn hR
 go_wp2_with fail
 go_loopg [] n (fun k wr=>∃i2 d2 ln2,Hid (R=bodyP k d2 (T.drop i2) ln2∧(T.drop i2).length+1≤k∧GAt B Bp Bf pb gw cw T ln2 vb bb Sf wr i2 d2∧Touch w wr (fun k=>k=pb∨k=Sf∨Bf≤k)))
 case atStart=>exact⟨i,d,ln,hG⟩
 case round=>
  clear hG
  obtain⟨i2,d2,ln2,hG⟩:=hrel
  obtain⟨hR,hk,hS,hT⟩:=hG.out
  obtain⟨q,hq⟩:∃q,isB (T.drop i2) ln2 125=q:=⟨_,rfl⟩
  have hi:=Lib.hid (is_any hS.p 125 hq)
  obtain⟨m,rfl⟩:∃m,gk=m+1:=⟨gk-1,by omega⟩
  unfold bodyP at hR
  rw [hq] at hR
  cases q with
  | true=>
   rw [if_pos rfl] at hR
   replace hS:=Lib.hid hS
   replace hT:=Lib.hid hT
   replace hR:=Lib.hid hR
   replace hq:=Lib.hid hq
   clear hG hk
   go_wp2_with (go_at_call 44;refine hi.out.mono ?_;rintro e w4 ⟨rfl,hb4⟩)
   exact hQ.out ⟨hT.out.trans (gtch_pb (Touch.of_below hb4 _)),i2,d2,ln2,hS.out.on (Nat.le_refl _) (hS.out.p.below hb4) (Touch.of_below hb4 _),hq.out,hR.out⟩
  | false=>
   rw [if_neg (by simp)] at hR
   have hin:=Lib.hid (fun (w':World) (hb:Below wr.heap.size wr w')=>inside_any (hS.on (Nat.le_refl _) (hS.p.below hb) (Touch.of_below hb _)))
   cases hI:insideP d2 (T.drop i2) ln2 with
   | error f=>
    rw [hI] at hR hin
    dsimp only at hR
    replace hT:=Lib.hid hT
    replace hR:=Lib.hid hR
    clear hG hk hS hI hq
    go_wp2_with (go_at_call 44;refine hi.out.mono ?_;rintro e w4 ⟨rfl,hb4⟩)
    go_wp2_with (go_at_call 45;refine (hin.out _ hb4).mono ?_;rintro e w5 ⟨hT5,he⟩;obtain rfl:=he)
    exact hE.out rfl (hT.out.trans ((gtch_pb (Touch.of_below hb4 _)).trans hT5)) hR.out
   | ok r=>
    obtain⟨d3,l3⟩:=r
    rw [hI] at hR hin
    dsimp only at hR
    have hle:=Lib.hid (inside_le hI)
    replace hT:=Lib.hid hT
    replace hS:=Lib.hid hS
    clear hG hI hq
    cases hB:beginP l3 ln2 with
    | error f=>
     rw [hB] at hR
     dsimp only at hR
     have hbg:=Lib.hid (fun (w':World) (i3:Nat) (e:l3=T.drop i3) (hP:PAt B w' pb gw cw T i3 ln2 vb bb)=>begin_bad hP (e ▸ hB))
     replace hR:=Lib.hid hR
     clear hB hk
     go_wp2_with (go_at_call 44;refine hi.out.mono ?_;rintro e w4 ⟨rfl,hb4⟩)
     go_wp2_with fail
     refine (hin.out _ hb4).mono ?_
     rintro e w5 ⟨hT5,hx⟩
     dsimp only at hx
     obtain⟨rfl,i3,hl3,hS3⟩:=hx
     have hbg2:=Lib.hid (hbg.out w5 i3 hl3 hS3.p)
     replace hT5:=Lib.hid hT5
     clear hl3 hS3
     go_wp2_with (go_at_call 18;refine hbg2.out.mono ?_;rintro e w6 ⟨rfl,hb6⟩)
     exact hE.out rfl (hT.out.trans (((gtch_pb (Touch.of_below hb4 _)).trans hT5.out).trans (gtch_pb (Touch.of_below hb6 _)))) hR.out
    | ok ln3=>
     rw [hB] at hR
     dsimp only at hR
     have hbg:=Lib.hid (fun (w':World) (i3:Nat) (e:l3=T.drop i3) (hP:PAt B w' pb gw cw T i3 ln2 vb bb)=>begin_ok hP (e ▸ hB))
     replace hR:=Lib.hid hR
     clear hB
     go_wp2_with (go_at_call 44;refine hi.out.mono ?_;rintro e w4 ⟨rfl,hb4⟩)
     go_wp2_with fail
     refine (hin.out _ hb4).mono ?_
     rintro e w5 ⟨hT5,hx⟩
     dsimp only at hx
     obtain⟨rfl,i3,hl3,hS3⟩:=hx
     have hbg2:=Lib.hid (hbg.out w5 i3 hl3 hS3.p)
     replace hT5:=Lib.hid hT5
     replace hS3:=Lib.hid hS3
     replace hl3:=Lib.hid hl3
     go_wp2_with (go_at_call 18;refine hbg2.out.mono ?_;rintro e w6 ⟨rfl,hP6,hT6⟩)
     have hfin:Hid (R=bodyP m d3 (T.drop i3) ln3∧(T.drop i3).length+1≤m∧GAt B Bp Bf pb gw cw T ln3 vb bb Sf w6 i3 d3∧Touch w w6 (fun k=>k=pb∨k=Sf∨Bf≤k)):=Lib.hid ⟨by rw [hR.out,hl3.out],by have h1:=hle.out;rw [hl3.out] at h1;omega,hS3.out.on (Nat.le_refl _) hP6 hT6,hT.out.trans (((gtch_pb (Touch.of_below hb4 _)).trans hT5.out).trans (gtch_pb hT6))⟩
     clear hP6 hT6 hS3 hl3 hT5 hb4 hbg2 hR hle hT hS
     go_roundg m
     case rel=>exact⟨i3,d3,ln3,hfin⟩
     case measure=>omega
end
end
end Go.Proofs.YtgcanabckogmmaaDoor
