/- RdH. -/
import Derived.Test.YtgcanabckogmmaaDoorZR8
namespace Go.Proofs.YtgcanabckogmmaaDoor
set_option linter.unusedVariables false
set_option linter.unusedSimpArgs false
section
open Go.RowKit Go.Maps Go.Shelf
attribute [local go_sem] Oper.semAt_some fld0 fld1 fld2
section
variable {B Bx pb gw cw:Nat} {T:List Tok} {ln vb bb Sx:Nat} {w w2:World} {i:Nat} {y:Ins} {va vl:Value}
theorem list_le {α:Type}{one:α→List Tok→Nat→Except Flt (α × List Tok)}{c:UInt8}(hone:∀x l ln x' l',one x l ln=.ok (x',l')→l'.length≤l.length):∀(n:Nat) (x:α) (l:List Tok) (ln:Nat) (x':α) (l':List Tok),listP one c n x l ln=.ok (x',l')→l'.length≤l.length
 | 0,_,_,_,_,_,h=>by unfold listP at h;cases h
 | n+1,x,l,ln,x',l',h=>by
  unfold listP at h
  cases ho:one x l ln with
  | error f=>rw [ho] at h;cases h
  | ok r=>
   obtain⟨x1,l1⟩:=r
   rw [ho] at h
   have h1:=hone _ _ _ _ _ ho
   dsimp only at h
   by_cases hq:isB l1 ln c=true
   ·rw [if_pos hq] at h
    cases hs:signP c l1 ln with
    | error f=>rw [hs] at h;cases h
    | ok l2=>
     rw [hs] at h
     injection h with h
     injection h with e1 e2
     obtain⟨t2,e3,-⟩:=sign_len hs
     rw [e3,List.length_cons] at h1
     subst e2
     omega
   ·rw [if_neg hq] at h
    cases hs:signP 44 l1 ln with
    | error f=>rw [hs] at h;cases h
    | ok l2=>
     rw [hs] at h
     have h2:=list_le hone n x1 l2 ln x' l' h
     obtain⟨t2,e3,-⟩:=sign_len hs
     rw [e3,List.length_cons] at h1
     omega
theorem args_end {w3:World}{ss:List ByteArray}{v3:Value}{i3:Nat}(hS:SAt B Bx pb gw cw T ln vb bb Sx w2 i y va vl)(hT3:Touch w2 w3 (fun k=>k=pb))(hP3:PAt B w3 pb gw cw T i3 ln vb bb)(hO3:w3.ownsRow w2.heap.size 9 1 v3 ss.length (ss.map Value.string))(hb3:ss.length≤i3)(hi:i≤i3):
  True∧w3.cell? ⟨Sx,6,none⟩=some va∧w3.frozen? ⟨Sx,6,none⟩=false∧Touch w3 (w3.setCell ⟨Sx,6,none⟩ v3) (fun k=>k=pb∨k=Sx∨Bx≤k)∧SAt B Bx pb gw cw T ln vb bb Sx (w3.setCell ⟨Sx,6,none⟩ v3) i3 {y with args:=ss} v3 vl:=by
 have h1:=hS.p.ltP
 have h2:=hS.lo
 have h3:=hS.x.lt
 have h4:=hS.x.top
 have x3:=hS.x.keep hT3 (fun k e=>by subst e;omega)
 have t4:Touch w3 (w3.setCell ⟨Sx,6,none⟩ v3) (fun k=>k=Sx):=(Touch.refl w3 (fun k=>k=Sx)).setCell (a:=⟨Sx,6,none⟩) (fun _=>rfl) _
 obtain⟨g1,g2,g3⟩:=x3.set 6 v3
 have hO4:=ownsRow_touch hO3 t4 (fun g hg e=>by have:=(hO3.lt g hg).1;omega)
 refine⟨trivial,by rw [blk_cell x3.blk];rfl,frozB x3.blk 6,t4.mono (fun _ _ e=>.inr (.inl e)),⟨hP3.keep t4 (fun k e=>by omega),⟨g1,⟨hO4.1,hO4.2.imp id ?_⟩,g3,fun g hg e=>?_,h3,by have:=x3.top;simpa using this⟩,hb3,Nat.le_trans hS.bl hi,h2⟩⟩
 ·rintro⟨g,cap,cur,e,h0,h2⟩
  exact⟨g,cap,cur,e,by omega,h2⟩
 ·have e1:=(hO3.lt g hg).1
  have e2:=(hS.x.rl.lt g e).2
  omega
theorem names_le {l l':List Tok}{ss:List ByteArray}(h:namesP l ln=.ok (ss,l')):l'.length≤l.length:=by
 unfold namesP at h
 cases hs:signP 40 l ln with
 | error f=>rw [hs] at h;cases h
 | ok l1=>
  rw [hs] at h
  obtain⟨t,rfl,-⟩:=sign_len hs
  dsimp only at h
  by_cases hq:isB l1 ln 41=true
  ·rw [if_pos hq] at h
   cases hs2:signP 41 l1 ln with
   | error f=>rw [hs2] at h;cases h
   | ok l2=>
    rw [hs2] at h
    injection h with h
    injection h with h1 h2
    obtain⟨t2,rfl,-⟩:=sign_len hs2
    subst h2
    simp only [List.length_cons]
    omega
  ·rw [if_neg hq] at h
   have:=list_le (fun x l ln x' l' h=>Nat.le_of_succ_le (oneName_len h)) _ _ _ _ _ _ h
   simp only [List.length_cons]
   omega
theorem le_of_drop {i i3:Nat}(hi:i<T.length)(h3:i3<T.length)(h:(T.drop i3).length≤(T.drop i).length):i≤i3:=by
 rw [List.length_drop,List.length_drop] at h
 omega
set_option maxRecDepth 20000 in
theorem field_any (h:SAt B Bx pb gw cw T ln vb bb Sx w i y va vl):Calls Tryd.prog 32 #[.pointer (some ⟨pb,0,none⟩),.pointer (some ⟨Sx,0,none⟩)] w (RPost B Bx pb gw cw T ln vb bb Sx w (thenP operandP fieldsP y (T.drop i) ln)):=by
 have hk:=Lib.hid (operand_any h)
 unfold thenP
 cases hf:operandP y (T.drop i) ln with
 | error f=>
  rw [hf] at hk
  clear hf h
  go_enter Tryd.func32,Tryd.ntmps32
  go_wp2_with (go_at_call 31;refine hk.out.mono ?_;rintro e w2 ⟨hT,he⟩;obtain rfl:=he)
  exact⟨rfl,hT,rfl⟩
 | ok r=>
  obtain⟨y1,l1⟩:=r
  rw [hf] at hk
  dsimp only
  have hk2:=Lib.hid (fun (w':World) (i1:Nat) (va vl:Value) (e:l1=T.drop i1) (hS:SAt B Bx pb gw cw T ln vb bb Sx w' i1 y1 va vl)=>(by rw [e];exact fields_any hS:Calls Tryd.prog 28 #[.pointer (some ⟨pb,0,none⟩),.pointer (some ⟨Sx,0,none⟩)] w' (RPost B Bx pb gw cw T ln vb bb Sx w' (fieldsP y1 l1 ln))))
  clear hf h
  cases hB:fieldsP y1 l1 ln with
  | error f=>
   rw [hB] at hk2
   clear hB
   go_enter Tryd.func32,Tryd.ntmps32
   go_wp2_with fail
   refine hk.out.mono ?_
   rintro e w2 ⟨hT,hx⟩
   dsimp only at hx
   obtain⟨rfl,va1,vl1,i1,hl1,hS1⟩:=hx
   have hk3:=Lib.hid (hk2.out w2 i1 va1 vl1 hl1 hS1)
   replace hT:=Lib.hid hT
   clear hl1 hS1 hk
   go_wp2_with (go_at_call 28;refine hk3.out.mono ?_;rintro e w3 ⟨hT3,he⟩;obtain rfl:=he)
   exact⟨rfl,hT.out.trans hT3,rfl⟩
  | ok r=>
   obtain⟨y2,l2⟩:=r
   rw [hB] at hk2
   clear hB
   go_enter Tryd.func32,Tryd.ntmps32
   go_wp2_with fail
   refine hk.out.mono ?_
   rintro e w2 ⟨hT,hx⟩
   dsimp only at hx
   obtain⟨rfl,va1,vl1,i1,hl1,hS1⟩:=hx
   have hk3:=Lib.hid (hk2.out w2 i1 va1 vl1 hl1 hS1)
   replace hT:=Lib.hid hT
   clear hl1 hS1 hk
   go_wp2_with (go_at_call 28;refine hk3.out.mono ?_;rintro e w3 ⟨hT3,hx⟩;dsimp only at hx;obtain⟨rfl,hx⟩:=hx)
   go_end0
   exact⟨hT.out.trans hT3,rfl,hx⟩
set_option maxRecDepth 20000 in
theorem branch_any (h:SAt B Bx pb gw cw T ln vb bb Sx w i y va vl):Calls Tryd.prog 37 #[.pointer (some ⟨pb,0,none⟩),.pointer (some ⟨Sx,0,none⟩)] w (RPost B Bx pb gw cw T ln vb bb Sx w (thenP labelP labelP y (T.drop i) ln)):=by
 have hk:=Lib.hid (label_any h)
 unfold thenP
 cases hf:labelP y (T.drop i) ln with
 | error f=>
  rw [hf] at hk
  clear hf h
  go_enter Tryd.func37,Tryd.ntmps37
  go_wp2_with (go_at_call 38;refine hk.out.mono ?_;rintro e w2 ⟨hT,he⟩;obtain rfl:=he)
  exact⟨rfl,hT,rfl⟩
 | ok r=>
  obtain⟨y1,l1⟩:=r
  rw [hf] at hk
  dsimp only
  have hk2:=Lib.hid (fun (w':World) (i1:Nat) (va vl:Value) (e:l1=T.drop i1) (hS:SAt B Bx pb gw cw T ln vb bb Sx w' i1 y1 va vl)=>(by rw [e];exact label_any hS:Calls Tryd.prog 38 #[.pointer (some ⟨pb,0,none⟩),.pointer (some ⟨Sx,0,none⟩)] w' (RPost B Bx pb gw cw T ln vb bb Sx w' (labelP y1 l1 ln))))
  clear hf h
  cases hB:labelP y1 l1 ln with
  | error f=>
   rw [hB] at hk2
   clear hB
   go_enter Tryd.func37,Tryd.ntmps37
   go_wp2_with fail
   refine hk.out.mono ?_
   rintro e w2 ⟨hT,hx⟩
   dsimp only at hx
   obtain⟨rfl,va1,vl1,i1,hl1,hS1⟩:=hx
   have hk3:=Lib.hid (hk2.out w2 i1 va1 vl1 hl1 hS1)
   replace hT:=Lib.hid hT
   clear hl1 hS1 hk
   go_wp2_with (go_at_call 38;refine hk3.out.mono ?_;rintro e w3 ⟨hT3,he⟩;obtain rfl:=he)
   exact⟨rfl,hT.out.trans hT3,rfl⟩
  | ok r=>
   obtain⟨y2,l2⟩:=r
   rw [hB] at hk2
   clear hB
   go_enter Tryd.func37,Tryd.ntmps37
   go_wp2_with fail
   refine hk.out.mono ?_
   rintro e w2 ⟨hT,hx⟩
   dsimp only at hx
   obtain⟨rfl,va1,vl1,i1,hl1,hS1⟩:=hx
   have hk3:=Lib.hid (hk2.out w2 i1 va1 vl1 hl1 hS1)
   replace hT:=Lib.hid hT
   clear hl1 hS1 hk
   go_wp2_with (go_at_call 38;refine hk3.out.mono ?_;rintro e w3 ⟨hT3,hx⟩;dsimp only at hx;obtain⟨rfl,hx⟩:=hx)
   go_end0
   exact⟨hT.out.trans hT3,rfl,hx⟩
set_option maxRecDepth 20000 in
theorem call_any (h:SAt B Bx pb gw cw T ln vb bb Sx w i y va vl):Calls Tryd.prog 34 #[.pointer (some ⟨pb,0,none⟩),.pointer (some ⟨Sx,0,none⟩)] w (RPost B Bx pb gw cw T ln vb bb Sx w (thenP fnP argsP y (T.drop i) ln)):=by
 have hk:=Lib.hid (fn_any h)
 unfold thenP
 cases hf:fnP y (T.drop i) ln with
 | error f=>
  rw [hf] at hk
  clear hf h
  go_enter Tryd.func34,Tryd.ntmps34
  go_wp2_with (go_at_call 30;refine hk.out.mono ?_;rintro e w2 ⟨hT,he⟩;obtain rfl:=he)
  exact⟨rfl,hT,rfl⟩
 | ok r=>
  obtain⟨y1,l1⟩:=r
  rw [hf] at hk
  dsimp only
  unfold argsP
  have hk2:=Lib.hid (fun (w':World) (i1:Nat) (e:l1=T.drop i1) (hP:PAt B w' pb gw cw T i1 ln vb bb)=>(by rw [e];exact names_any hP:Calls Tryd.prog 42 #[.pointer (some ⟨pb,0,none⟩)] w' (NsPost B pb gw cw T ln vb bb w' (namesP l1 ln))))
  clear hf h
  have hle:=fun ss l2 (e:namesP l1 ln=.ok (ss,l2))=>names_le e
  cases hB:namesP l1 ln with
  | error f=>
   rw [hB] at hk2
   clear hB hle
   go_enter Tryd.func34,Tryd.ntmps34
   go_wp2_with fail
   refine hk.out.mono ?_
   rintro e w2 ⟨hT,hx⟩
   dsimp only at hx
   obtain⟨rfl,va1,vl1,i1,hl1,hS1⟩:=hx
   have hk3:=Lib.hid (hk2.out w2 i1 hl1 hS1.p)
   replace hT:=Lib.hid hT
   clear hl1 hS1 hk
   go_wp2_with (go_at_call 42;refine hk3.out.mono ?_;rintro e w3 ⟨hT3,he⟩;obtain rfl:=he)
   exact⟨rfl,hT.out.trans (touch_pb hT3),rfl⟩
  | ok r=>
   obtain⟨ss,l2⟩:=r
   rw [hB] at hk2
   have hle2:=Lib.hid (hle _ _ hB)
   clear hB hle
   go_enter Tryd.func34,Tryd.ntmps34
   go_wp2_with fail
   refine hk.out.mono ?_
   rintro e w2 ⟨hT,hx⟩
   dsimp only at hx
   obtain⟨rfl,va1,vl1,i1,hl1,hS1⟩:=hx
   have hk3:=Lib.hid (hk2.out w2 i1 hl1 hS1.p)
   replace hT:=Lib.hid hT
   replace hS1:=Lib.hid hS1
   replace hl1:=Lib.hid hl1
   clear hk
   go_wp2_with fail
   refine hk3.out.mono ?_
   rintro e w3 ⟨hT3,hx⟩
   dsimp only at hx
   obtain⟨v3,i3,rfl,hl3,hP3,hO3,hb3⟩:=hx
   obtain⟨a3,c3,rfl⟩:=own_formP hO3
   obtain⟨hb,z,f,hE⟩:=args_end (v3:=.slice a3 ss.length c3) hS1.out hT3 hP3 hO3 hb3 (le_of_drop hS1.out.p.here hP3.here (by rw [←hl3,←hl1.out];exact hle2.out))
   replace hE:=Lib.hid hE
   replace hl3:=Lib.hid hl3
   replace hT3:=Lib.hid hT3
   clear hP3 hO3 hb hb3
   go_wp2_with fail
   go_end0
   exact⟨hT.out.trans ((touch_pb hT3.out).trans hE.out.1),rfl,_,_,i3,hl3.out,hE.out.2⟩
set_option maxRecDepth 20000 in
theorem icall_any (h:SAt B Bx pb gw cw T ln vb bb Sx w i y va vl):Calls Tryd.prog 35 #[.pointer (some ⟨pb,0,none⟩),.pointer (some ⟨Sx,0,none⟩)] w (RPost B Bx pb gw cw T ln vb bb Sx w (thenP operandP argsP y (T.drop i) ln)):=by
 have hk:=Lib.hid (operand_any h)
 unfold thenP
 cases hf:operandP y (T.drop i) ln with
 | error f=>
  rw [hf] at hk
  clear hf h
  go_enter Tryd.func35,Tryd.ntmps35
  go_wp2_with (go_at_call 31;refine hk.out.mono ?_;rintro e w2 ⟨hT,he⟩;obtain rfl:=he)
  exact⟨rfl,hT,rfl⟩
 | ok r=>
  obtain⟨y1,l1⟩:=r
  rw [hf] at hk
  dsimp only
  unfold argsP
  have hk2:=Lib.hid (fun (w':World) (i1:Nat) (e:l1=T.drop i1) (hP:PAt B w' pb gw cw T i1 ln vb bb)=>(by rw [e];exact names_any hP:Calls Tryd.prog 42 #[.pointer (some ⟨pb,0,none⟩)] w' (NsPost B pb gw cw T ln vb bb w' (namesP l1 ln))))
  clear hf h
  have hle:=fun ss l2 (e:namesP l1 ln=.ok (ss,l2))=>names_le e
  cases hB:namesP l1 ln with
  | error f=>
   rw [hB] at hk2
   clear hB hle
   go_enter Tryd.func35,Tryd.ntmps35
   go_wp2_with fail
   refine hk.out.mono ?_
   rintro e w2 ⟨hT,hx⟩
   dsimp only at hx
   obtain⟨rfl,va1,vl1,i1,hl1,hS1⟩:=hx
   have hk3:=Lib.hid (hk2.out w2 i1 hl1 hS1.p)
   replace hT:=Lib.hid hT
   clear hl1 hS1 hk
   go_wp2_with (go_at_call 42;refine hk3.out.mono ?_;rintro e w3 ⟨hT3,he⟩;obtain rfl:=he)
   exact⟨rfl,hT.out.trans (touch_pb hT3),rfl⟩
  | ok r=>
   obtain⟨ss,l2⟩:=r
   rw [hB] at hk2
   have hle2:=Lib.hid (hle _ _ hB)
   clear hB hle
   go_enter Tryd.func35,Tryd.ntmps35
   go_wp2_with fail
   refine hk.out.mono ?_
   rintro e w2 ⟨hT,hx⟩
   dsimp only at hx
   obtain⟨rfl,va1,vl1,i1,hl1,hS1⟩:=hx
   have hk3:=Lib.hid (hk2.out w2 i1 hl1 hS1.p)
   replace hT:=Lib.hid hT
   replace hS1:=Lib.hid hS1
   replace hl1:=Lib.hid hl1
   clear hk
   go_wp2_with fail
   refine hk3.out.mono ?_
   rintro e w3 ⟨hT3,hx⟩
   dsimp only at hx
   obtain⟨v3,i3,rfl,hl3,hP3,hO3,hb3⟩:=hx
   obtain⟨a3,c3,rfl⟩:=own_formP hO3
   obtain⟨hb,z,f,hE⟩:=args_end (v3:=.slice a3 ss.length c3) hS1.out hT3 hP3 hO3 hb3 (le_of_drop hS1.out.p.here hP3.here (by rw [←hl3,←hl1.out];exact hle2.out))
   replace hE:=Lib.hid hE
   replace hl3:=Lib.hid hl3
   replace hT3:=Lib.hid hT3
   clear hP3 hO3 hb hb3
   go_wp2_with fail
   go_end0
   exact⟨hT.out.trans ((touch_pb hT3.out).trans hE.out.1),rfl,_,_,i3,hl3.out,hE.out.2⟩
set_option maxRecDepth 20000 in
theorem result_any (h:SAt B Bx pb gw cw T ln vb bb Sx w i y va vl):Calls Tryd.prog 39 #[.pointer (some ⟨pb,0,none⟩),.pointer (some ⟨Sx,0,none⟩)] w (RPost B Bx pb gw cw T ln vb bb Sx w (resultP y (T.drop i) ln)):=by
 obtain⟨q,hq⟩:∃q,moreB (T.drop i) ln=q:=⟨_,rfl⟩
 have hm:=Lib.hid (more_any h.p hq)
 unfold resultP
 rw [hq]
 cases q with
 | false=>
  rw [if_neg (by simp)]
  replace h:=Lib.hid h
  clear hq
  go_enter Tryd.func39,Tryd.ntmps39
  go_wp2_with (go_at_call 65;refine hm.out.mono ?_;rintro e w2 ⟨rfl,hb2⟩)
  go_end0
  exact⟨touch_pb (Touch.of_below hb2 _),rfl,va,vl,i,rfl,h.out.on (Nat.le_refl i) (h.out.p.below hb2) (Touch.of_below hb2 _)⟩
 | true=>
  rw [if_pos rfl]
  have hk:=Lib.hid (fun (w':World) (hb:Below w.heap.size w w')=>operand_any (h.on (Nat.le_refl i) (h.p.below hb) (Touch.of_below hb _)))
  clear hq h
  obtain⟨R,hR⟩:∃R,operandP y (T.drop i) ln=R:=⟨_,rfl⟩
  rw [hR] at hk
  rw [hR]
  clear hR
  cases R with
  | error f=>
   go_enter Tryd.func39,Tryd.ntmps39
   go_wp2_with fail
   refine hm.out.mono ?_
   rintro e w2 ⟨rfl,hb2⟩
   go_wp2_with (go_at_call 31;refine (hk.out _ hb2).mono ?_;rintro e w3 ⟨hT3,he⟩;obtain rfl:=he)
   exact⟨rfl,(touch_pb (Touch.of_below hb2 _)).trans hT3,rfl⟩
  | ok r=>
   obtain⟨y1,l1⟩:=r
   go_enter Tryd.func39,Tryd.ntmps39
   go_wp2_with fail
   refine hm.out.mono ?_
   rintro e w2 ⟨rfl,hb2⟩
   go_wp2_with (go_at_call 31;refine (hk.out _ hb2).mono ?_;rintro e w3 ⟨hT3,hx⟩;dsimp only at hx;obtain⟨rfl,hx⟩:=hx)
   go_end0
   exact⟨(touch_pb (Touch.of_below hb2 _)).trans hT3,rfl,hx⟩
theorem nothing_any (h:SAt B Bx pb gw cw T ln vb bb Sx w i y va vl):Calls Tryd.prog 29 #[.pointer (some ⟨pb,0,none⟩),.pointer (some ⟨Sx,0,none⟩)] w (RPost B Bx pb gw cw T ln vb bb Sx w (.ok (y,T.drop i))):=by
 replace h:=Lib.hid h
 go_enter Tryd.func29,Tryd.ntmps29
 go_wp2_with fail
 go_end0
 exact⟨Touch.refl _ _,rfl,va,vl,i,rfl,h.out⟩
set_option maxRecDepth 20000 in
set_option maxHeartbeats 1000000 in
theorem store_any (h:SAt B Bx pb gw cw T ln vb bb Sx w i y va vl):Calls Tryd.prog 36 #[.pointer (some ⟨pb,0,none⟩),.pointer (some ⟨Sx,0,none⟩)] w (RPost B Bx pb gw cw T ln vb bb Sx w (storeP y (T.drop i) ln)):=by
 have hk:=Lib.hid (operand_any h)
 unfold storeP thenP
 cases hf:operandP y (T.drop i) ln with
 | error f=>
  rw [hf] at hk
  clear hf h
  go_enter Tryd.func36,Tryd.ntmps36
  go_wp2_with (go_at_call 31;refine hk.out.mono ?_;rintro e w2 ⟨hT,he⟩;obtain rfl:=he)
  exact⟨rfl,hT,rfl⟩
 | ok r=>
  obtain⟨y1,l1⟩:=r
  rw [hf] at hk
  dsimp only
  unfold skipP
  clear hf h
  cases hs:signP 44 l1 ln with
  | error f=>
   have hsg:=Lib.hid (fun (w':World) (i1:Nat) (e:l1=T.drop i1) (hP:PAt B w' pb gw cw T i1 ln vb bb)=>sign_bad hP (e ▸ hs))
   clear hs
   go_enter Tryd.func36,Tryd.ntmps36
   go_wp2_with fail
   refine hk.out.mono ?_
   rintro e w2 ⟨hT,hx⟩
   dsimp only at hx
   obtain⟨rfl,va1,vl1,i1,hl1,hS1⟩:=hx
   have hk3:=Lib.hid (hsg.out w2 i1 hl1 hS1.p)
   replace hT:=Lib.hid hT
   clear hl1 hS1 hk
   go_wp2_with (go_at_call 43;refine hk3.out.mono ?_;rintro e w3 ⟨rfl,hb3⟩)
   exact⟨rfl,hT.out.trans (touch_pb (Touch.of_below hb3 _)),rfl⟩
  | ok l2=>
   have hsg:=Lib.hid (fun (w':World) (i1:Nat) (e:l1=T.drop i1) (hP:PAt B w' pb gw cw T i1 ln vb bb)=>sign_ok hP (e ▸ hs))
   have hl2:=Lib.hid (fun (i1:Nat) (e:l1=T.drop i1)=>(by obtain⟨t,e2,-⟩:=sign_len hs;rw [e] at e2;exact drop_next e2:l2=T.drop (i1+1)))
   clear hs
   dsimp only
   unfold valP
   cases hn:nameP l2 ln with
   | error f=>
    have hnk:=Lib.hid (fun (w':World) (i1:Nat) (e:l2=T.drop i1) (hP:PAt B w' pb gw cw T i1 ln vb bb)=>name_bad hP (e ▸ hn))
    clear hn
    go_enter Tryd.func36,Tryd.ntmps36
    go_wp2_with fail
    refine hk.out.mono ?_
    rintro e w2 ⟨hT,hx⟩
    dsimp only at hx
    obtain⟨rfl,va1,vl1,i1,hl1,hS1⟩:=hx
    have hk3:=Lib.hid (hsg.out w2 i1 hl1 hS1.p)
    have hnk2:=Lib.hid (fun w'=>hnk.out w' (i1+1) (hl2.out i1 hl1))
    replace hT:=Lib.hid hT
    clear hl1 hS1 hk
    go_wp2_with fail
    refine hk3.out.mono ?_
    rintro e w3 ⟨rfl,hP3,hT3⟩
    go_wp2_with (go_at_call 41;refine (hnk2.out _ hP3).mono ?_;rintro e w4 ⟨rfl,hb4⟩)
    exact⟨rfl,hT.out.trans (touch_pb (hT3.trans (Touch.of_below hb4 _))),rfl⟩
   | ok r=>
    obtain⟨s,l3⟩:=r
    have hnk:=Lib.hid (fun (w':World) (i1:Nat) (e:l2=T.drop i1) (hP:PAt B w' pb gw cw T i1 ln vb bb)=>name_ok hP (e ▸ hn))
    have hl3:=Lib.hid (fun (i1:Nat) (e:l2=T.drop i1)=>(by obtain⟨t,e2,-⟩:=name_len hn;rw [e] at e2;exact drop_next e2:l3=T.drop (i1+1)))
    clear hn
    go_enter Tryd.func36,Tryd.ntmps36
    go_wp2_with fail
    refine hk.out.mono ?_
    rintro e w2 ⟨hT,hx⟩
    dsimp only at hx
    obtain⟨rfl,va1,vl1,i1,hl1,hS1⟩:=hx
    have hk3:=Lib.hid (hsg.out w2 i1 hl1 hS1.p)
    have hnk2:=Lib.hid (fun w'=>hnk.out w' (i1+1) (hl2.out i1 hl1))
    have hl4:=Lib.hid (hl3.out (i1+1) (hl2.out i1 hl1))
    replace hT:=Lib.hid hT
    replace hS1:=Lib.hid hS1
    clear hl1 hk
    go_wp2_with fail
    refine hk3.out.mono ?_
    rintro e w3 ⟨rfl,hP3,hT3⟩
    have hk4:=Lib.hid (hnk2.out _ hP3)
    replace hT3:=Lib.hid hT3
    clear hP3
    go_wp2_with fail
    refine hk4.out.mono ?_
    rintro e w4 ⟨rfl,hP4,hT4⟩
    have hS4:=hS1.out.on (i':=i1+1+1) (by omega) hP4 (hT3.out.trans hT4)
    have z:w4.cell? ⟨Sx,3,none⟩=some (.string y1.b):=by rw [blk_cell hS4.x.blk];rfl
    have f:w4.frozen? ⟨Sx,3,none⟩=false:=frozB hS4.x.blk 3
    replace hS4:=Lib.hid hS4
    replace hT4:=Lib.hid hT4
    clear hP4
    go_wp2_with fail
    go_end0
    have t2:Touch w4 (w4.setCell ⟨Sx,3,none⟩ (.string s)) (fun k=>k=Sx):=(Touch.refl w4 (fun k=>k=Sx)).setCell (a:=⟨Sx,3,none⟩) (fun _=>rfl) _
    obtain⟨g1,g2,g3⟩:=hS4.out.x.set 3 (.string s)
    refine⟨(hT.out.trans (touch_pb (hT3.out.trans hT4.out))).trans (t2.mono (fun _ _ h=>.inr (.inl h))),rfl,va1,vl1,i1+1+1,hl4.out,?_⟩
    have hlo:=hS4.out.lo
    exact⟨hS4.out.p.keep t2 (fun k e=>by subst e;exact hlo),⟨g1,g2,g3,hS4.out.x.ne,hS4.out.x.lt,by simpa using hS4.out.x.top⟩,hS4.out.ba,hS4.out.bl,hlo⟩
end
end
end Go.Proofs.YtgcanabckogmmaaDoor
