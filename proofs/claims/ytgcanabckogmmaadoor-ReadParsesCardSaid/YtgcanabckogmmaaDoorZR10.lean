/- RdI. -/
import Derived.Test.YtgcanabckogmmaaDoorZR9
namespace Go.Proofs.YtgcanabckogmmaaDoor
set_option linter.unusedVariables false
set_option linter.unusedSimpArgs false
section
open Go.RowKit Go.Maps Go.Shelf
attribute [local go_sem] Oper.semAt_some fld0 fld1 fld2
structure QAt (B Bx pb gw cw:Nat) (T:List Tok) (ln vb bb Sx Sp Sq:Nat) (w:World) (i:Nat) (y:Ins) (va vl:Value):Prop where
 s:SAt B Bx pb gw cw T ln vb bb Sx w i y va vl
 bp:w.heap[Sp]?=some (.cells #[.pointer (some ⟨pb,0,none⟩)] 59 (0,0))
 bq:w.heap[Sq]?=some (.cells #[.pointer (some ⟨Sx,0,none⟩)] 98 (0,0))
 hp:Sp<Bx∧Sp≠pb∧Sp≠Sx
 hq:Sq<Bx∧Sq≠pb∧Sq≠Sx
def QPost (B Bx pb gw cw:Nat)(T:List Tok)(ln vb bb Sx Sp Sq:Nat)(w:World)(r:Except Flt (Ins × List Tok))(e:Ending)(w':World):Prop:=
 Touch w w' (fun k=>k=pb∨k=Sx∨Bx≤k)∧match r with
 | .error f=>e=.panicked (chF f)
 | .ok (y',l')=>e=.returned (.tuple #[])∧∃v:Value × Value,∃i',l'=T.drop i'∧QAt B Bx pb gw cw T ln vb bb Sx Sp Sq w' i' y' v.1 v.2
section
variable {B Bx pb gw cw:Nat} {T:List Tok} {ln vb bb Sx Sp Sq:Nat} {w w2 w3:World} {i:Nat} {y:Ins} {va vl:Value}
theorem QAt.pp (h:QAt B Bx pb gw cw T ln vb bb Sx Sp Sq w i y va vl):PAt B w pb gw cw T i ln vb bb:=h.s.p
theorem QAt.of (h:QAt B Bx pb gw cw T ln vb bb Sx Sp Sq w i y va vl){i':Nat}{y':Ins}{va' vl':Value}(hS:SAt B Bx pb gw cw T ln vb bb Sx w2 i' y' va' vl')(t:Touch w w2 (fun k=>k=pb∨k=Sx∨Bx≤k)):QAt B Bx pb gw cw T ln vb bb Sx Sp Sq w2 i' y' va' vl':=
 ⟨hS,(t.block Sp (Array.getElem?_eq_some_iff.1 h.bp).1 (fun e=>by have:=h.hp;omega)).trans h.bp,(t.block Sq (Array.getElem?_eq_some_iff.1 h.bq).1 (fun e=>by have:=h.hq;omega)).trans h.bq,h.hp,h.hq⟩
theorem QAt.on (h:QAt B Bx pb gw cw T ln vb bb Sx Sp Sq w i y va vl){i':Nat}(hi:i≤i')(hP:PAt B w2 pb gw cw T i' ln vb bb)(t:Touch w w2 (fun k=>k=pb)):QAt B Bx pb gw cw T ln vb bb Sx Sp Sq w2 i' y va vl:=h.of (h.s.on hi hP t) (touch_pb t)
theorem QAt.drew (h:QAt B Bx pb gw cw T ln vb bb Sx Sp Sq w i y va vl):QAt B Bx pb gw cw T ln vb bb Sx Sp Sq w.drew i y va vl:=⟨h.s.drew,h.bp,h.bq,h.hp,h.hq⟩
theorem pair_len {x:Ins}{l:List Tok}{x':Ins}{l':List Tok}(h:pairP x l ln=.ok (x',l')):l'.length+1≤l.length:=by
 unfold pairP thenP at h
 cases h1:labelP x l ln with
 | error f=>rw [h1] at h;cases h
 | ok r=>
  obtain⟨x1,l1⟩:=r
  rw [h1] at h
  dsimp only at h
  have e1:l1.length+1≤l.length:=by
   unfold labelP at h1
   cases hn:nameP l ln with
   | error f=>rw [hn] at h1;cases h1
   | ok r=>
    obtain⟨s,r⟩:=r
    rw [hn] at h1
    injection h1 with h1
    injection h1 with a1 a2
    obtain⟨t,e,-⟩:=name_len hn
    subst a2
    rw [e,List.length_cons]
    omega
  cases h2:skipP 58 x1 l1 ln with
  | error f=>rw [h2] at h;cases h
  | ok r=>
   obtain⟨x2,l2⟩:=r
   rw [h2] at h
   dsimp only at h
   have e2:l2.length+1≤l1.length:=by
    unfold skipP at h2
    cases hs:signP 58 l1 ln with
    | error f=>rw [hs] at h2;cases h2
    | ok r=>
     rw [hs] at h2
     injection h2 with h2
     injection h2 with a1 a2
     obtain⟨t,e,-⟩:=sign_len hs
     subst a2
     rw [e,List.length_cons]
     omega
   unfold argP at h
   cases hn:nameP l2 ln with
   | error f=>rw [hn] at h;cases h
   | ok r=>
    obtain⟨s,r⟩:=r
    rw [hn] at h
    injection h with h
    injection h with a1 a2
    obtain⟨t,e,-⟩:=name_len hn
    subst a2
    rw [e,List.length_cons] at e2
    omega
set_option maxRecDepth 20000 in
set_option maxHeartbeats 4000000 in
theorem pair_any (h:QAt B Bx pb gw cw T ln vb bb Sx Sp Sq w i y va vl):Calls Tryd.prog 63 #[.pointer (some ⟨Sp,0,none⟩),.pointer (some ⟨Sq,0,none⟩)] w (QPost B Bx pb gw cw T ln vb bb Sx Sp Sq w (pairP y (T.drop i) ln)):=by
 have hk:=Lib.hid (label_any h.s)
 have c0:w.cell? ⟨Sp,0,none⟩=some (.pointer (some ⟨pb,0,none⟩)):=one_cell h.bp
 have c1:w.cell? ⟨Sq,0,none⟩=some (.pointer (some ⟨Sx,0,none⟩)):=one_cell h.bq
 unfold pairP thenP
 cases hf:labelP y (T.drop i) ln with
 | error f=>
  rw [hf] at hk
  clear hf h
  go_enter Tryd.func63,Tryd.ntmps63
  go_wp2_with (go_at_call 38;refine hk.out.mono ?_;rintro e w2 ⟨hT,he⟩;obtain rfl:=he)
  exact⟨rfl,hT,rfl⟩
 | ok r=>
  obtain⟨y1,l1⟩:=r
  rw [hf] at hk
  dsimp only
  unfold skipP
  replace h:=Lib.hid h
  clear hf
  cases hs:signP 58 l1 ln with
  | error f=>
   have hsg:=Lib.hid (fun (w':World) (i1:Nat) (e:l1=T.drop i1) (hP:PAt B w' pb gw cw T i1 ln vb bb)=>sign_bad hP (e ▸ hs))
   clear hs
   go_enter Tryd.func63,Tryd.ntmps63
   go_upto_region 1 with (go_at_call 38;refine hk.out.mono ?_;rintro e w2 ⟨hT,hx⟩;dsimp only at hx;obtain⟨rfl,va1,vl1,i1,hl1,hS1⟩:=hx)
   have hQ1:=h.out.of hS1 hT
   have d0:w2.cell? ⟨Sp,0,none⟩=some (.pointer (some ⟨pb,0,none⟩)):=one_cell hQ1.bp
   have hk3:=Lib.hid (hsg.out w2 i1 hl1 hS1.p)
   replace hT:=Lib.hid hT
   clear hl1 hS1 hk c0 c1 hQ1
   go_wp2_with (go_at_call 43;refine hk3.out.mono ?_;rintro e w3 ⟨rfl,hb3⟩)
   exact⟨rfl,hT.out.trans (touch_pb (Touch.of_below hb3 _)),rfl⟩
  | ok l2=>
   have hsg:=Lib.hid (fun (w':World) (i1:Nat) (e:l1=T.drop i1) (hP:PAt B w' pb gw cw T i1 ln vb bb)=>sign_ok hP (e ▸ hs))
   have hl2:=Lib.hid (fun (i1:Nat) (e:l1=T.drop i1)=>(by obtain⟨t,e2,-⟩:=sign_len hs;rw [e] at e2;exact drop_next e2:l2=T.drop (i1+1)))
   clear hs
   dsimp only
   unfold argP
   cases hn:nameP l2 ln with
   | error f=>
    have hnk:=Lib.hid (fun (w':World) (i1:Nat) (e:l2=T.drop i1) (hP:PAt B w' pb gw cw T i1 ln vb bb)=>name_bad hP (e ▸ hn))
    clear hn
    go_enter Tryd.func63,Tryd.ntmps63
    go_upto_region 1 with (go_at_call 38;refine hk.out.mono ?_;rintro e w2 ⟨hT,hx⟩;dsimp only at hx;obtain⟨rfl,va1,vl1,i1,hl1,hS1⟩:=hx)
    have hQ1:=h.out.of hS1 hT
    have d0:w2.cell? ⟨Sp,0,none⟩=some (.pointer (some ⟨pb,0,none⟩)):=one_cell hQ1.bp
    have hk3:=Lib.hid (hsg.out w2 i1 hl1 hS1.p)
    have hnk2:=Lib.hid (fun w'=>hnk.out w' (i1+1) (hl2.out i1 hl1))
    replace hT:=Lib.hid hT
    replace hQ1:=Lib.hid hQ1
    clear hl1 hS1 hk c0 c1
    go_upto_region 2 with (go_at_call 43;refine hk3.out.mono ?_;rintro e w3 ⟨rfl,hP3,hT3⟩)
    have hQ3:=hQ1.out.on (Nat.le_succ i1) hP3 hT3
    replace hT3:=Lib.hid hT3
    clear d0
    obtain⟨al,cl,rfl⟩:=own_formP hQ3.s.x.ra
    obtain⟨nl,hnl⟩:∃nl,nl=y1.args.length:=⟨_,rfl⟩
    rw [←hnl] at hQ3
    replace hnl:=Lib.hid hnl
    have z:w3.drew.cell? ⟨Sx,6,none⟩=some (.slice al nl cl):=by rw [blk_cell hQ3.drew.s.x.blk];rfl
    have hC:w3.drew.cell? ⟨Sp,0,none⟩=some (.pointer (some ⟨pb,0,none⟩))∧w3.drew.cell? ⟨Sq,0,none⟩=some (.pointer (some ⟨Sx,0,none⟩)):=⟨one_cell hQ3.drew.bp,one_cell hQ3.drew.bq⟩
    have hk5:=Lib.hid (hnk2.out _ hQ3.drew.s.p)
    replace hQ3:=Lib.hid hQ3
    clear hP3
    refine wp_region_held_drew (S:=(fun w'=>w'.cell? ⟨Sp,0,none⟩=some (.pointer (some ⟨pb,0,none⟩))∧w'.cell? ⟨Sq,0,none⟩=some (.pointer (some ⟨Sx,0,none⟩)))) (by kernel_rfl) hC (fun hHeld=>?_)
    clear hHeld
    refine wpAnyH_take (i:=0) (oi:=(.mk (some 7) (.load 98 (.tmp 1)) 98 "read.go:188" #[] none)) (v:=?_) rfl (by kernel_rfl) (by kernel_rfl) (by kernel_rfl) (fun _ _ _ h=>h) (Or.inl ⟨by rfl,?_⟩) hC ?_
    rotate_left
    ·(intro w hSw;(try dsimp only at hSw);go_simp;try with_reducible rfl)
    try simp only [Act.put,List.setIfInBounds_toArray,List.set_cons_zero,List.set_cons_succ]
    refine wpAnyH_take (i:=1) (oi:=(.mk (some 8) (.load 98 (.tmp 1)) 98 "read.go:188" #[] none)) (v:=?_) rfl (by kernel_rfl) (by kernel_rfl) (by kernel_rfl) (fun _ _ _ h=>h) (Or.inl ⟨by rfl,?_⟩) hC ?_
    rotate_left
    ·(intro w hSw;(try dsimp only at hSw);go_simp;try with_reducible rfl)
    try simp only [Act.put,List.setIfInBounds_toArray,List.set_cons_zero,List.set_cons_succ]
    refine wpAnyH_take (i:=2) (oi:=(.mk (some 9) (.nilCheck (.tmp 8)) 0 "read.go:188" #[.mk 1 .data] none)) (v:=?_) rfl (by kernel_rfl) (by kernel_rfl) (by kernel_rfl) (fun _ _ _ h=>h) (Or.inl ⟨by rfl,?_⟩) hC ?_
    rotate_left
    ·(intro w hSw;(try dsimp only at hSw);go_simp;try with_reducible rfl)
    try simp only [Act.put,List.setIfInBounds_toArray,List.set_cons_zero,List.set_cons_succ]
    refine wpAnyH_take (i:=3) (oi:=(.mk (some 10) (.fieldAddr 49 (.tmp 9) 6) 0 "read.go:188" #[.mk 2 .data] none)) (v:=?_) rfl (by kernel_rfl) (by kernel_rfl) (by kernel_rfl) (fun _ _ _ h=>h) (Or.inl ⟨by rfl,?_⟩) hC ?_
    rotate_left
    ·(intro w hSw;(try dsimp only at hSw);go_simp;try with_reducible rfl)
    try simp only [Act.put,List.setIfInBounds_toArray,List.set_cons_zero,List.set_cons_succ]
    refine wpAnyH_take (i:=5) (oi:=(.mk (some 12) (.load 59 (.tmp 0)) 59 "read.go:188" #[] none)) (v:=?_) rfl (by kernel_rfl) (by kernel_rfl) (by kernel_rfl) (fun _ _ _ h=>h) (Or.inl ⟨by rfl,?_⟩) hC ?_
    rotate_left
    ·(intro w hSw;(try dsimp only at hSw);go_simp;try with_reducible rfl)
    try simp only [Act.put,List.setIfInBounds_toArray,List.set_cons_zero,List.set_cons_succ]
    refine wpAnyH_ready (rs:=[4,6]) (by kernel_rfl) (by simp) (AllReadyH.cons (o:=(.mk (some 11) (.load 39 (.tmp 10)) 39 "read.go:188" #[.mk 3 .data] none)) rfl (fun K hK=>?_) (AllReadyH.cons (o:=(.mk (some 13) (.call (.mk (.value (.func 41)) #[(.tmp 12)] #[59])) 9 "read.go:188" #[.mk 5 .data] none)) rfl (fun K hK=>?_) AllReadyH.nil))
    ·skip
     go_simp
     skip
     refine hK.out _ _ hC (fun hHeld=>?_)
     clear hK K hHeld
     try simp only [Act.put,List.setIfInBounds_toArray,List.set_cons_zero,List.set_cons_succ]
     refine wpAnyH_ready (rs:=[6]) (by kernel_rfl) (by simp) (AllReadyH.cons (o:=(.mk (some 13) (.call (.mk (.value (.func 41)) #[(.tmp 12)] #[59])) 9 "read.go:188" #[.mk 5 .data] none)) rfl (fun K hK=>?_) AllReadyH.nil)
     go_simp
     go_at_call 41
     refine hk5.out.mono ?_
     rintro e w4 ⟨rfl,hb⟩
     exact⟨rfl,hT.out.trans (touch_pb (hT3.out.trans ((Touch.refl w3 _).drew.trans (Touch.of_below hb _)))),rfl⟩
    ·skip
     go_simp
     go_at_call 41
     refine hk5.out.mono ?_
     rintro e w4 ⟨rfl,hb⟩
     exact⟨rfl,hT.out.trans (touch_pb (hT3.out.trans ((Touch.refl w3 _).drew.trans (Touch.of_below hb _)))),rfl⟩
   | ok r=>
    obtain⟨s,l3⟩:=r
    have hnk:=Lib.hid (fun (w':World) (i1:Nat) (e:l2=T.drop i1) (hP:PAt B w' pb gw cw T i1 ln vb bb)=>name_ok hP (e ▸ hn))
    have hl3:=Lib.hid (fun (i1:Nat) (e:l2=T.drop i1)=>(by obtain⟨t,e2,-⟩:=name_len hn;rw [e] at e2;exact drop_next e2:l3=T.drop (i1+1)))
    obtain⟨i0,hi0,hz0,hz1,hz2⟩:=info_parts infoStrP
    clear hn
    go_enter Tryd.func63,Tryd.ntmps63
    go_upto_region 1 with (go_at_call 38;refine hk.out.mono ?_;rintro e w2 ⟨hT,hx⟩;dsimp only at hx;obtain⟨rfl,va1,vl1,i1,hl1,hS1⟩:=hx)
    have hQ1:=h.out.of hS1 hT
    have d0:w2.cell? ⟨Sp,0,none⟩=some (.pointer (some ⟨pb,0,none⟩)):=one_cell hQ1.bp
    have hk3:=Lib.hid (hsg.out w2 i1 hl1 hS1.p)
    have hnk2:=Lib.hid (fun w'=>hnk.out w' (i1+1) (hl2.out i1 hl1))
    have hl4:=Lib.hid (hl3.out (i1+1) (hl2.out i1 hl1))
    replace hT:=Lib.hid hT
    replace hQ1:=Lib.hid hQ1
    clear hl1 hS1 hk c0 c1
    go_upto_region 2 with (go_at_call 43;refine hk3.out.mono ?_;rintro e w3 ⟨rfl,hP3,hT3⟩)
    have hQ3:=hQ1.out.on (Nat.le_succ i1) hP3 hT3
    replace hT3:=Lib.hid hT3
    clear d0
    obtain⟨al,cl,rfl⟩:=own_formP hQ3.s.x.ra
    obtain⟨nl,hnl⟩:∃nl,nl=y1.args.length:=⟨_,rfl⟩
    rw [←hnl] at hQ3
    replace hnl:=Lib.hid hnl
    have z:w3.drew.cell? ⟨Sx,6,none⟩=some (.slice al nl cl):=by rw [blk_cell hQ3.drew.s.x.blk];rfl
    have hC:w3.drew.cell? ⟨Sp,0,none⟩=some (.pointer (some ⟨pb,0,none⟩))∧w3.drew.cell? ⟨Sq,0,none⟩=some (.pointer (some ⟨Sx,0,none⟩)):=⟨one_cell hQ3.drew.bp,one_cell hQ3.drew.bq⟩
    have hk5:=Lib.hid (hnk2.out _ hQ3.drew.s.p)
    have hlen:nl≤2000000:=by have:=hnl.out;have:=hQ3.s.ba;have:=hQ3.s.p.here;have:=hQ3.s.p.ok.len;omega
    replace hQ3:=Lib.hid hQ3
    clear hP3
    refine wp_region_held_drew (S:=(fun w'=>w'.cell? ⟨Sp,0,none⟩=some (.pointer (some ⟨pb,0,none⟩))∧w'.cell? ⟨Sq,0,none⟩=some (.pointer (some ⟨Sx,0,none⟩)))) (by kernel_rfl) hC (fun hHeld=>?_)
    clear hHeld
    refine wpAnyH_take (i:=0) (oi:=(.mk (some 7) (.load 98 (.tmp 1)) 98 "read.go:188" #[] none)) (v:=?_) rfl (by kernel_rfl) (by kernel_rfl) (by kernel_rfl) (fun _ _ _ h=>h) (Or.inl ⟨by rfl,?_⟩) hC ?_
    rotate_left
    ·(intro w hSw;(try dsimp only at hSw);go_simp;try with_reducible rfl)
    try simp only [Act.put,List.setIfInBounds_toArray,List.set_cons_zero,List.set_cons_succ]
    refine wpAnyH_take (i:=1) (oi:=(.mk (some 8) (.load 98 (.tmp 1)) 98 "read.go:188" #[] none)) (v:=?_) rfl (by kernel_rfl) (by kernel_rfl) (by kernel_rfl) (fun _ _ _ h=>h) (Or.inl ⟨by rfl,?_⟩) hC ?_
    rotate_left
    ·(intro w hSw;(try dsimp only at hSw);go_simp;try with_reducible rfl)
    try simp only [Act.put,List.setIfInBounds_toArray,List.set_cons_zero,List.set_cons_succ]
    refine wpAnyH_take (i:=2) (oi:=(.mk (some 9) (.nilCheck (.tmp 8)) 0 "read.go:188" #[.mk 1 .data] none)) (v:=?_) rfl (by kernel_rfl) (by kernel_rfl) (by kernel_rfl) (fun _ _ _ h=>h) (Or.inl ⟨by rfl,?_⟩) hC ?_
    rotate_left
    ·(intro w hSw;(try dsimp only at hSw);go_simp;try with_reducible rfl)
    try simp only [Act.put,List.setIfInBounds_toArray,List.set_cons_zero,List.set_cons_succ]
    refine wpAnyH_take (i:=3) (oi:=(.mk (some 10) (.fieldAddr 49 (.tmp 9) 6) 0 "read.go:188" #[.mk 2 .data] none)) (v:=?_) rfl (by kernel_rfl) (by kernel_rfl) (by kernel_rfl) (fun _ _ _ h=>h) (Or.inl ⟨by rfl,?_⟩) hC ?_
    rotate_left
    ·(intro w hSw;(try dsimp only at hSw);go_simp;try with_reducible rfl)
    try simp only [Act.put,List.setIfInBounds_toArray,List.set_cons_zero,List.set_cons_succ]
    refine wpAnyH_take (i:=5) (oi:=(.mk (some 12) (.load 59 (.tmp 0)) 59 "read.go:188" #[] none)) (v:=?_) rfl (by kernel_rfl) (by kernel_rfl) (by kernel_rfl) (fun _ _ _ h=>h) (Or.inl ⟨by rfl,?_⟩) hC ?_
    rotate_left
    ·(intro w hSw;(try dsimp only at hSw);go_simp;try with_reducible rfl)
    try simp only [Act.put,List.setIfInBounds_toArray,List.set_cons_zero,List.set_cons_succ]
    refine wpAnyH_ready (rs:=[4,6]) (by kernel_rfl) (by simp) (AllReadyH.cons (o:=(.mk (some 11) (.load 39 (.tmp 10)) 39 "read.go:188" #[.mk 3 .data] none)) rfl (fun K hK=>?_) (AllReadyH.cons (o:=(.mk (some 13) (.call (.mk (.value (.func 41)) #[(.tmp 12)] #[59])) 9 "read.go:188" #[.mk 5 .data] none)) rfl (fun K hK=>?_) AllReadyH.nil))
    ·skip
     go_simp
     skip
     refine hK.out _ _ hC (fun hHeld=>?_)
     clear hK K hHeld
     try simp only [Act.put,List.setIfInBounds_toArray,List.set_cons_zero,List.set_cons_succ]
     refine wpAnyH_ready (rs:=[6]) (by kernel_rfl) (by simp) (AllReadyH.cons (o:=(.mk (some 13) (.call (.mk (.value (.func 41)) #[(.tmp 12)] #[59])) 9 "read.go:188" #[.mk 5 .data] none)) rfl (fun K hK=>?_) AllReadyH.nil)
     go_simp
     go_at_call 41
     refine hk5.out.mono ?_
     rintro e w4 ⟨rfl,hP,hT4⟩
     have hS2:=hQ3.out.drew.on (Nat.le_succ _) hP hT4
     have z:w4.cell? ⟨Sx,6,none⟩=some (.slice al nl cl):=by rw [blk_cell hS2.s.x.blk];rfl
     replace hC:w4.cell? ⟨Sp,0,none⟩=some (.pointer (some ⟨pb,0,none⟩))∧w4.cell? ⟨Sq,0,none⟩=some (.pointer (some ⟨Sx,0,none⟩)):=⟨one_cell hS2.bp,one_cell hS2.bq⟩
     have lSx:Sx<w4.heap.size:=Nat.lt_of_lt_of_le hS2.s.x.lt hS2.s.x.top
     have hown2:=Lib.hid (ownsRow_touch (S:=fun _=>False) hS2.s.x.ra ((Touch.refl w4 _).alloc (.cells #[.string s] 9)) (fun _ _ h=>h))
     have htop:Bx≤w4.heap.size:=hS2.s.x.top
     replace hS2:=Lib.hid hS2
     have hT2:Hid (Touch w3 w4 (fun k=>k=pb)):=Lib.hid ((Touch.refl w3 _).drew.trans hT4)
     clear hP hT4
     go_simp
     refine hK.out _ _ hC (fun hHeld=>?_)
     clear hK K hHeld
     try simp only [Act.put,List.setIfInBounds_toArray,List.set_cons_zero,List.set_cons_succ]
     refine wpAnyH_ready (rs:=[7]) (by kernel_rfl) (by simp) (AllReadyH.cons (o:=(.mk (some 14) (.buildSlice 39 1 #[(0,(.tmp 13))]) 39 "read.go:188" #[.mk 6 .data] none)) rfl (fun K hK=>?_) AllReadyH.nil)
     go_simp
     replace hC:(w4.alloc (.cells #[.string s] 9)).cell? ⟨Sp,0,none⟩=some (.pointer (some ⟨pb,0,none⟩))∧(w4.alloc (.cells #[.string s] 9)).cell? ⟨Sq,0,none⟩=some (.pointer (some ⟨Sx,0,none⟩)):=⟨one_cell (at_oldP hS2.out.bp),one_cell (at_oldP hS2.out.bq)⟩
     refine hK.out _ _ hC (fun hHeld=>?_)
     clear hK K hHeld
     try simp only [Act.put,List.setIfInBounds_toArray,List.set_cons_zero,List.set_cons_succ]
     refine wpAnyH_ready (rs:=[8]) (by kernel_rfl) (by simp) (AllReadyH.cons (o:=(.mk (some 15) (.call (.mk (.builtin Builtin.append) #[(.tmp 11),(.tmp 14)] #[39,39])) 39 "read.go:188" #[.mk 4 .data,.mk 7 .data,.mk 6 .chain] none)) rfl (fun K hK=>?_) AllReadyH.nil)
     refine step_append_lies _ (by rfl) _ _ _ (by rfl) Bx 9 i0 _ 1 16 Tryd.underlying39 hi0 hz0 hz1 hz2 rfl (by omega) (.slice al nl cl) nl (y1.args.map Value.string) (by rfl) (by rw [hnl.out];rw [hnl.out] at hown2;exact hown2.out) ⟨w4.heap.size,0,none⟩ 1 1 [.string s] (by rfl) (by rfl) (World.news_of_block (cs:=#[.string s]) (t:=9) (fr:=(0,0)) (heap_alloc_new w4 _)) (by simp [Value.oneCell']) (by omega) (by unfold maxLen;omega) (by omega) (by simp;omega) (w4.heap.size+1) (by simp) ?_
     intro gg cap2 w5 hO3 hg3 hat3 hlt3
     have he:=Lib.hid (arg_end hS2.out.s hg3 hO3 hat3 (by have:=hQ3.out.s.ba;omega))
     have t5:Touch w4 w5 (fun k=>Bx≤k):=(((Touch.refl w4 (fun k=>(Value.slice al nl cl).ownBlock=some k)).alloc _).trans (Touch.of_grown hg3 (fun k e=>e))).mono (fun k _ e=>(hS2.out.s.x.ra.lt k e).1)
     have bx5:=(t5.block Sx lSx (Nat.not_le.2 hS2.out.s.x.lt)).trans hS2.out.s.x.blk
     have y7:w5.frozen? ⟨Sx,6,none⟩=false:=frozB bx5 6
     have z7:w5.cell? ⟨Sx,6,none⟩=some (.slice al nl cl):=by rw [blk_cell bx5];rfl
     replace hC:w5.cell? ⟨Sp,0,none⟩=some (.pointer (some ⟨pb,0,none⟩))∧w5.cell? ⟨Sq,0,none⟩=some (.pointer (some ⟨Sx,0,none⟩)):=⟨one_cell ((t5.block Sp (Array.getElem?_eq_some_iff.1 hS2.out.bp).1 (Nat.not_le.2 hS2.out.hp.1)).trans hS2.out.bp),one_cell ((t5.block Sq (Array.getElem?_eq_some_iff.1 hS2.out.bq).1 (Nat.not_le.2 hS2.out.hq.1)).trans hS2.out.bq)⟩
     clear hO3 hg3 hat3 hlt3 hown2 z t5 bx5
     refine hK.out _ _ hC (fun hHeld=>?_)
     clear hK K hHeld
     try simp only [Act.put,List.setIfInBounds_toArray,List.set_cons_zero,List.set_cons_succ]
     refine wpAnyH_take (i:=9) (oi:=(.mk (some 16) (.nilCheck (.tmp 7)) 0 "read.go:188" #[.mk 0 .data,.mk 0 .phase,.mk 1 .phase,.mk 2 .phase,.mk 3 .phase,.mk 4 .phase,.mk 5 .phase,.mk 6 .phase,.mk 7 .phase,.mk 8 .phase] none)) (v:=?_) rfl (by kernel_rfl) (by kernel_rfl) (by kernel_rfl) (fun _ _ _ h=>h) (Or.inl ⟨by rfl,?_⟩) hC ?_
     rotate_left
     ·(intro w hSw;(try dsimp only at hSw);go_simp;try with_reducible rfl)
     try simp only [Act.put,List.setIfInBounds_toArray,List.set_cons_zero,List.set_cons_succ]
     refine wpAnyH_take (i:=10) (oi:=(.mk (some 17) (.fieldAddr 49 (.tmp 16) 6) 0 "read.go:188" #[.mk 9 .data,.mk 0 .phase,.mk 1 .phase,.mk 2 .phase,.mk 3 .phase,.mk 4 .phase,.mk 5 .phase,.mk 6 .phase,.mk 7 .phase,.mk 8 .phase] none)) (v:=?_) rfl (by kernel_rfl) (by kernel_rfl) (by kernel_rfl) (fun _ _ _ h=>h) (Or.inl ⟨by rfl,?_⟩) hC ?_
     rotate_left
     ·(intro w hSw;(try dsimp only at hSw);go_simp;try with_reducible rfl)
     try simp only [Act.put,List.setIfInBounds_toArray,List.set_cons_zero,List.set_cons_succ]
     refine wpAnyH_ready (rs:=[11]) (by kernel_rfl) (by simp) (AllReadyH.cons (o:=(.mk none (.store 39 (.tmp 17) (.tmp 15)) 0 "read.go:188" #[.mk 10 .data,.mk 8 .data,.mk 8 .chain,.mk 0 .phase,.mk 1 .phase,.mk 2 .phase,.mk 3 .phase,.mk 4 .phase,.mk 5 .phase,.mk 6 .phase,.mk 7 .phase,.mk 8 .phase] none)) rfl (fun K hK=>?_) AllReadyH.nil)
     go_simp
     have hQ6:=hS2.out.of he.out.1 (touch_sx he.out.2)
     replace hC:(w5.setCell ⟨Sx,6,none⟩ (.slice (some ⟨gg,0,none⟩) (nl+1) cap2)).cell? ⟨Sp,0,none⟩=some (.pointer (some ⟨pb,0,none⟩))∧(w5.setCell ⟨Sx,6,none⟩ (.slice (some ⟨gg,0,none⟩) (nl+1) cap2)).cell? ⟨Sq,0,none⟩=some (.pointer (some ⟨Sx,0,none⟩)):=⟨one_cell hQ6.bp,one_cell hQ6.bq⟩
     replace hQ6:=Lib.hid hQ6
     refine hK.out _ _ hC (fun hHeld=>?_)
     clear hK K hHeld
     try simp only [Act.put,List.setIfInBounds_toArray,List.set_cons_zero,List.set_cons_succ]
     refine wpAnyH_done (by kernel_rfl) ?_ _
     go_wp2_with fail
     go_end0
     exact⟨hT.out.trans ((touch_pb (hT3.out.trans hT2.out)).trans (touch_sx he.out.2)),rfl,(_,_),i1+1+1,hl4.out,hQ6.out⟩
    ·skip
     go_simp
     go_at_call 41
     refine hk5.out.mono ?_
     rintro e w4 ⟨rfl,hP,hT4⟩
     have hS2:=hQ3.out.drew.on (Nat.le_succ _) hP hT4
     have z:w4.cell? ⟨Sx,6,none⟩=some (.slice al nl cl):=by rw [blk_cell hS2.s.x.blk];rfl
     replace hC:w4.cell? ⟨Sp,0,none⟩=some (.pointer (some ⟨pb,0,none⟩))∧w4.cell? ⟨Sq,0,none⟩=some (.pointer (some ⟨Sx,0,none⟩)):=⟨one_cell hS2.bp,one_cell hS2.bq⟩
     have lSx:Sx<w4.heap.size:=Nat.lt_of_lt_of_le hS2.s.x.lt hS2.s.x.top
     have hown2:=Lib.hid (ownsRow_touch (S:=fun _=>False) hS2.s.x.ra ((Touch.refl w4 _).alloc (.cells #[.string s] 9)) (fun _ _ h=>h))
     have htop:Bx≤w4.heap.size:=hS2.s.x.top
     replace hS2:=Lib.hid hS2
     have hT2:Hid (Touch w3 w4 (fun k=>k=pb)):=Lib.hid ((Touch.refl w3 _).drew.trans hT4)
     clear hP hT4
     go_simp
     refine hK.out _ _ hC (fun hHeld=>?_)
     clear hK K hHeld
     try simp only [Act.put,List.setIfInBounds_toArray,List.set_cons_zero,List.set_cons_succ]
     refine wpAnyH_ready (rs:=[4,7]) (by kernel_rfl) (by simp) (AllReadyH.cons (o:=(.mk (some 11) (.load 39 (.tmp 10)) 39 "read.go:188" #[.mk 3 .data] none)) rfl (fun K hK=>?_) (AllReadyH.cons (o:=(.mk (some 14) (.buildSlice 39 1 #[(0,(.tmp 13))]) 39 "read.go:188" #[.mk 6 .data] none)) rfl (fun K hK=>?_) AllReadyH.nil))
     ·skip
      go_simp
      skip
      refine hK.out _ _ hC (fun hHeld=>?_)
      clear hK K hHeld
      try simp only [Act.put,List.setIfInBounds_toArray,List.set_cons_zero,List.set_cons_succ]
      refine wpAnyH_ready (rs:=[7]) (by kernel_rfl) (by simp) (AllReadyH.cons (o:=(.mk (some 14) (.buildSlice 39 1 #[(0,(.tmp 13))]) 39 "read.go:188" #[.mk 6 .data] none)) rfl (fun K hK=>?_) AllReadyH.nil)
      go_simp
      replace hC:(w4.alloc (.cells #[.string s] 9)).cell? ⟨Sp,0,none⟩=some (.pointer (some ⟨pb,0,none⟩))∧(w4.alloc (.cells #[.string s] 9)).cell? ⟨Sq,0,none⟩=some (.pointer (some ⟨Sx,0,none⟩)):=⟨one_cell (at_oldP hS2.out.bp),one_cell (at_oldP hS2.out.bq)⟩
      refine hK.out _ _ hC (fun hHeld=>?_)
      clear hK K hHeld
      try simp only [Act.put,List.setIfInBounds_toArray,List.set_cons_zero,List.set_cons_succ]
      refine wpAnyH_ready (rs:=[8]) (by kernel_rfl) (by simp) (AllReadyH.cons (o:=(.mk (some 15) (.call (.mk (.builtin Builtin.append) #[(.tmp 11),(.tmp 14)] #[39,39])) 39 "read.go:188" #[.mk 4 .data,.mk 7 .data,.mk 6 .chain] none)) rfl (fun K hK=>?_) AllReadyH.nil)
      refine step_append_lies _ (by rfl) _ _ _ (by rfl) Bx 9 i0 _ 1 16 Tryd.underlying39 hi0 hz0 hz1 hz2 rfl (by omega) (.slice al nl cl) nl (y1.args.map Value.string) (by rfl) (by rw [hnl.out];rw [hnl.out] at hown2;exact hown2.out) ⟨w4.heap.size,0,none⟩ 1 1 [.string s] (by rfl) (by rfl) (World.news_of_block (cs:=#[.string s]) (t:=9) (fr:=(0,0)) (heap_alloc_new w4 _)) (by simp [Value.oneCell']) (by omega) (by unfold maxLen;omega) (by omega) (by simp;omega) (w4.heap.size+1) (by simp) ?_
      intro gg cap2 w5 hO3 hg3 hat3 hlt3
      have he:=Lib.hid (arg_end hS2.out.s hg3 hO3 hat3 (by have:=hQ3.out.s.ba;omega))
      have t5:Touch w4 w5 (fun k=>Bx≤k):=(((Touch.refl w4 (fun k=>(Value.slice al nl cl).ownBlock=some k)).alloc _).trans (Touch.of_grown hg3 (fun k e=>e))).mono (fun k _ e=>(hS2.out.s.x.ra.lt k e).1)
      have bx5:=(t5.block Sx lSx (Nat.not_le.2 hS2.out.s.x.lt)).trans hS2.out.s.x.blk
      have y7:w5.frozen? ⟨Sx,6,none⟩=false:=frozB bx5 6
      have z7:w5.cell? ⟨Sx,6,none⟩=some (.slice al nl cl):=by rw [blk_cell bx5];rfl
      replace hC:w5.cell? ⟨Sp,0,none⟩=some (.pointer (some ⟨pb,0,none⟩))∧w5.cell? ⟨Sq,0,none⟩=some (.pointer (some ⟨Sx,0,none⟩)):=⟨one_cell ((t5.block Sp (Array.getElem?_eq_some_iff.1 hS2.out.bp).1 (Nat.not_le.2 hS2.out.hp.1)).trans hS2.out.bp),one_cell ((t5.block Sq (Array.getElem?_eq_some_iff.1 hS2.out.bq).1 (Nat.not_le.2 hS2.out.hq.1)).trans hS2.out.bq)⟩
      clear hO3 hg3 hat3 hlt3 hown2 z t5 bx5
      refine hK.out _ _ hC (fun hHeld=>?_)
      clear hK K hHeld
      try simp only [Act.put,List.setIfInBounds_toArray,List.set_cons_zero,List.set_cons_succ]
      refine wpAnyH_take (i:=9) (oi:=(.mk (some 16) (.nilCheck (.tmp 7)) 0 "read.go:188" #[.mk 0 .data,.mk 0 .phase,.mk 1 .phase,.mk 2 .phase,.mk 3 .phase,.mk 4 .phase,.mk 5 .phase,.mk 6 .phase,.mk 7 .phase,.mk 8 .phase] none)) (v:=?_) rfl (by kernel_rfl) (by kernel_rfl) (by kernel_rfl) (fun _ _ _ h=>h) (Or.inl ⟨by rfl,?_⟩) hC ?_
      rotate_left
      ·(intro w hSw;(try dsimp only at hSw);go_simp;try with_reducible rfl)
      try simp only [Act.put,List.setIfInBounds_toArray,List.set_cons_zero,List.set_cons_succ]
      refine wpAnyH_take (i:=10) (oi:=(.mk (some 17) (.fieldAddr 49 (.tmp 16) 6) 0 "read.go:188" #[.mk 9 .data,.mk 0 .phase,.mk 1 .phase,.mk 2 .phase,.mk 3 .phase,.mk 4 .phase,.mk 5 .phase,.mk 6 .phase,.mk 7 .phase,.mk 8 .phase] none)) (v:=?_) rfl (by kernel_rfl) (by kernel_rfl) (by kernel_rfl) (fun _ _ _ h=>h) (Or.inl ⟨by rfl,?_⟩) hC ?_
      rotate_left
      ·(intro w hSw;(try dsimp only at hSw);go_simp;try with_reducible rfl)
      try simp only [Act.put,List.setIfInBounds_toArray,List.set_cons_zero,List.set_cons_succ]
      refine wpAnyH_ready (rs:=[11]) (by kernel_rfl) (by simp) (AllReadyH.cons (o:=(.mk none (.store 39 (.tmp 17) (.tmp 15)) 0 "read.go:188" #[.mk 10 .data,.mk 8 .data,.mk 8 .chain,.mk 0 .phase,.mk 1 .phase,.mk 2 .phase,.mk 3 .phase,.mk 4 .phase,.mk 5 .phase,.mk 6 .phase,.mk 7 .phase,.mk 8 .phase] none)) rfl (fun K hK=>?_) AllReadyH.nil)
      go_simp
      have hQ6:=hS2.out.of he.out.1 (touch_sx he.out.2)
      replace hC:(w5.setCell ⟨Sx,6,none⟩ (.slice (some ⟨gg,0,none⟩) (nl+1) cap2)).cell? ⟨Sp,0,none⟩=some (.pointer (some ⟨pb,0,none⟩))∧(w5.setCell ⟨Sx,6,none⟩ (.slice (some ⟨gg,0,none⟩) (nl+1) cap2)).cell? ⟨Sq,0,none⟩=some (.pointer (some ⟨Sx,0,none⟩)):=⟨one_cell hQ6.bp,one_cell hQ6.bq⟩
      replace hQ6:=Lib.hid hQ6
      refine hK.out _ _ hC (fun hHeld=>?_)
      clear hK K hHeld
      try simp only [Act.put,List.setIfInBounds_toArray,List.set_cons_zero,List.set_cons_succ]
      refine wpAnyH_done (by kernel_rfl) ?_ _
      go_wp2_with fail
      go_end0
      exact⟨hT.out.trans ((touch_pb (hT3.out.trans hT2.out)).trans (touch_sx he.out.2)),rfl,(_,_),i1+1+1,hl4.out,hQ6.out⟩
     ·skip
      go_simp
      replace hC:(w4.alloc (.cells #[.string s] 9)).cell? ⟨Sp,0,none⟩=some (.pointer (some ⟨pb,0,none⟩))∧(w4.alloc (.cells #[.string s] 9)).cell? ⟨Sq,0,none⟩=some (.pointer (some ⟨Sx,0,none⟩)):=⟨one_cell (at_oldP hS2.out.bp),one_cell (at_oldP hS2.out.bq)⟩
      refine hK.out _ _ hC (fun hHeld=>?_)
      clear hK K hHeld
      try simp only [Act.put,List.setIfInBounds_toArray,List.set_cons_zero,List.set_cons_succ]
      refine wpAnyH_ready (rs:=[4]) (by kernel_rfl) (by simp) (AllReadyH.cons (o:=(.mk (some 11) (.load 39 (.tmp 10)) 39 "read.go:188" #[.mk 3 .data] none)) rfl (fun K hK=>?_) AllReadyH.nil)
      go_simp
      skip
      refine hK.out _ _ hC (fun hHeld=>?_)
      clear hK K hHeld
      try simp only [Act.put,List.setIfInBounds_toArray,List.set_cons_zero,List.set_cons_succ]
      refine wpAnyH_ready (rs:=[8]) (by kernel_rfl) (by simp) (AllReadyH.cons (o:=(.mk (some 15) (.call (.mk (.builtin Builtin.append) #[(.tmp 11),(.tmp 14)] #[39,39])) 39 "read.go:188" #[.mk 4 .data,.mk 7 .data,.mk 6 .chain] none)) rfl (fun K hK=>?_) AllReadyH.nil)
      refine step_append_lies _ (by rfl) _ _ _ (by rfl) Bx 9 i0 _ 1 16 Tryd.underlying39 hi0 hz0 hz1 hz2 rfl (by omega) (.slice al nl cl) nl (y1.args.map Value.string) (by rfl) (by rw [hnl.out];rw [hnl.out] at hown2;exact hown2.out) ⟨w4.heap.size,0,none⟩ 1 1 [.string s] (by rfl) (by rfl) (World.news_of_block (cs:=#[.string s]) (t:=9) (fr:=(0,0)) (heap_alloc_new w4 _)) (by simp [Value.oneCell']) (by omega) (by unfold maxLen;omega) (by omega) (by simp;omega) (w4.heap.size+1) (by simp) ?_
      intro gg cap2 w5 hO3 hg3 hat3 hlt3
      have he:=Lib.hid (arg_end hS2.out.s hg3 hO3 hat3 (by have:=hQ3.out.s.ba;omega))
      have t5:Touch w4 w5 (fun k=>Bx≤k):=(((Touch.refl w4 (fun k=>(Value.slice al nl cl).ownBlock=some k)).alloc _).trans (Touch.of_grown hg3 (fun k e=>e))).mono (fun k _ e=>(hS2.out.s.x.ra.lt k e).1)
      have bx5:=(t5.block Sx lSx (Nat.not_le.2 hS2.out.s.x.lt)).trans hS2.out.s.x.blk
      have y7:w5.frozen? ⟨Sx,6,none⟩=false:=frozB bx5 6
      have z7:w5.cell? ⟨Sx,6,none⟩=some (.slice al nl cl):=by rw [blk_cell bx5];rfl
      replace hC:w5.cell? ⟨Sp,0,none⟩=some (.pointer (some ⟨pb,0,none⟩))∧w5.cell? ⟨Sq,0,none⟩=some (.pointer (some ⟨Sx,0,none⟩)):=⟨one_cell ((t5.block Sp (Array.getElem?_eq_some_iff.1 hS2.out.bp).1 (Nat.not_le.2 hS2.out.hp.1)).trans hS2.out.bp),one_cell ((t5.block Sq (Array.getElem?_eq_some_iff.1 hS2.out.bq).1 (Nat.not_le.2 hS2.out.hq.1)).trans hS2.out.bq)⟩
      clear hO3 hg3 hat3 hlt3 hown2 z t5 bx5
      refine hK.out _ _ hC (fun hHeld=>?_)
      clear hK K hHeld
      try simp only [Act.put,List.setIfInBounds_toArray,List.set_cons_zero,List.set_cons_succ]
      refine wpAnyH_take (i:=9) (oi:=(.mk (some 16) (.nilCheck (.tmp 7)) 0 "read.go:188" #[.mk 0 .data,.mk 0 .phase,.mk 1 .phase,.mk 2 .phase,.mk 3 .phase,.mk 4 .phase,.mk 5 .phase,.mk 6 .phase,.mk 7 .phase,.mk 8 .phase] none)) (v:=?_) rfl (by kernel_rfl) (by kernel_rfl) (by kernel_rfl) (fun _ _ _ h=>h) (Or.inl ⟨by rfl,?_⟩) hC ?_
      rotate_left
      ·(intro w hSw;(try dsimp only at hSw);go_simp;try with_reducible rfl)
      try simp only [Act.put,List.setIfInBounds_toArray,List.set_cons_zero,List.set_cons_succ]
      refine wpAnyH_take (i:=10) (oi:=(.mk (some 17) (.fieldAddr 49 (.tmp 16) 6) 0 "read.go:188" #[.mk 9 .data,.mk 0 .phase,.mk 1 .phase,.mk 2 .phase,.mk 3 .phase,.mk 4 .phase,.mk 5 .phase,.mk 6 .phase,.mk 7 .phase,.mk 8 .phase] none)) (v:=?_) rfl (by kernel_rfl) (by kernel_rfl) (by kernel_rfl) (fun _ _ _ h=>h) (Or.inl ⟨by rfl,?_⟩) hC ?_
      rotate_left
      ·(intro w hSw;(try dsimp only at hSw);go_simp;try with_reducible rfl)
      try simp only [Act.put,List.setIfInBounds_toArray,List.set_cons_zero,List.set_cons_succ]
      refine wpAnyH_ready (rs:=[11]) (by kernel_rfl) (by simp) (AllReadyH.cons (o:=(.mk none (.store 39 (.tmp 17) (.tmp 15)) 0 "read.go:188" #[.mk 10 .data,.mk 8 .data,.mk 8 .chain,.mk 0 .phase,.mk 1 .phase,.mk 2 .phase,.mk 3 .phase,.mk 4 .phase,.mk 5 .phase,.mk 6 .phase,.mk 7 .phase,.mk 8 .phase] none)) rfl (fun K hK=>?_) AllReadyH.nil)
      go_simp
      have hQ6:=hS2.out.of he.out.1 (touch_sx he.out.2)
      replace hC:(w5.setCell ⟨Sx,6,none⟩ (.slice (some ⟨gg,0,none⟩) (nl+1) cap2)).cell? ⟨Sp,0,none⟩=some (.pointer (some ⟨pb,0,none⟩))∧(w5.setCell ⟨Sx,6,none⟩ (.slice (some ⟨gg,0,none⟩) (nl+1) cap2)).cell? ⟨Sq,0,none⟩=some (.pointer (some ⟨Sx,0,none⟩)):=⟨one_cell hQ6.bp,one_cell hQ6.bq⟩
      replace hQ6:=Lib.hid hQ6
      refine hK.out _ _ hC (fun hHeld=>?_)
      clear hK K hHeld
      try simp only [Act.put,List.setIfInBounds_toArray,List.set_cons_zero,List.set_cons_succ]
      refine wpAnyH_done (by kernel_rfl) ?_ _
      go_wp2_with fail
      go_end0
      exact⟨hT.out.trans ((touch_pb (hT3.out.trans hT2.out)).trans (touch_sx he.out.2)),rfl,(_,_),i1+1+1,hl4.out,hQ6.out⟩
theorem lpairs_tail (n:Nat)(x:Ins)(l:List Tok):listP pairP 93 (n+1) x l ln=match pairP x l ln with | .error e=>.error e | .ok (x,l)=>tailP pairP 93 n x l ln:=by
 cases h:pairP x l ln with
 | error e=>unfold listP;rw [h]
 | ok r=>obtain⟨x',l'⟩:=r;unfold listP;rw [h];rfl
set_option maxRecDepth 20000 in
set_option maxHeartbeats 2000000 in
theorem lpairs_any  {i:Nat}{x:Ins}(hone:∀w i x,(∃v:Value × Value,QAt B Bx pb gw cw T ln vb bb Sx Sp Sq w i x v.1 v.2)→Calls Tryd.prog 63 #[.pointer (some ⟨Sp,0,none⟩),.pointer (some ⟨Sq,0,none⟩)] w (QPost B Bx pb gw cw T ln vb bb Sx Sp Sq w (pairP x (T.drop i) ln))){n:Nat}(h:∃v:Value × Value,QAt B Bx pb gw cw T ln vb bb Sx Sp Sq w i x v.1 v.2)(hn:(T.drop i).length≤n):Calls Tryd.prog 64 #[.pointer (some ⟨pb,0,none⟩),.string ⟨#[93]⟩,.func (.func 63) #[] #[.pointer (some ⟨Sp,0,none⟩),.pointer (some ⟨Sq,0,none⟩)]] w (QPost B Bx pb gw cw T ln vb bb Sx Sp Sq w (listP pairP 93 (n+1) x (T.drop i) ln)):=by
 rw [lpairs_tail]
 cases ho:pairP x (T.drop i) ln with
 | error f=>
  have hk:=Lib.hid (hone w i x h)
  rw [ho] at hk
  clear ho h
  go_enter Tryd.func64,Tryd.ntmps64
  go_wp2_with (go_at_call 63;refine hk.out.mono ?_;rintro e w2 ⟨hT,he⟩;obtain rfl:=he)
  exact⟨rfl,hT,rfl⟩
 | ok r=>
  obtain⟨x1,l1⟩:=r
  have hk:=Lib.hid (hone w i x h)
  rw [ho] at hk
  have hlen:=pair_len ho
  dsimp only
  replace hone:=Lib.hid hone
  clear ho
  replace h:=Lib.hid h
  go_enter Tryd.func64,Tryd.ntmps64
  go_upto_block 0 with (go_at_call 63;refine hk.out.mono ?_;rintro e w2 ⟨hT,hx⟩;dsimp only at hx;obtain⟨rfl,v1,i1,hl1,hS1⟩:=hx)
  have hlen1:(T.drop i1).length+1≤n:=by rw [←hl1];omega
  subst hl1
  clear hlen hn hk
  obtain⟨R,hR⟩:∃R,R=tailP pairP 93 n x1 (T.drop i1) ln:=⟨_,rfl⟩
  have hR0:=Lib.hid hR
  have hG:Hid (R=tailP pairP 93 n x1 (T.drop i1) ln∧(T.drop i1).length+1≤n∧(∃v:Value × Value,QAt B Bx pb gw cw T ln vb bb Sx Sp Sq w2 i1 x1 v.1 v.2)∧Touch w w2 (fun k=>k=pb∨k=Sx∨Bx≤k)):=Lib.hid ⟨hR,hlen1,⟨_,hS1⟩,hT⟩
  clear hS1 hT hlen1 hR
  go_wp2_with fail
  go_loopg [] n (fun k wr=>∃i2 x2,Hid (R=tailP pairP 93 k x2 (T.drop i2) ln∧(T.drop i2).length+1≤k∧(∃v:Value × Value,QAt B Bx pb gw cw T ln vb bb Sx Sp Sq wr i2 x2 v.1 v.2)∧Touch w wr (fun k=>k=pb∨k=Sx∨Bx≤k)))
  case atStart=>exact⟨i1,x1,hG⟩
  case round=>
   clear hG
   obtain⟨i2,x2,hG⟩:=hrel
   obtain⟨hR,hk,⟨v2,hS⟩,hT⟩:=hG.out
   obtain⟨q,hq⟩:∃q,isB (T.drop i2) ln 93=q:=⟨_,rfl⟩
   have hi:=Lib.hid (is_any hS.pp 93 hq)
   unfold tailP at hR
   rw [hq] at hR
   cases q with
   | true=>
    rw [if_pos rfl] at hR
    cases hs:signP 93 (T.drop i2) ln with
    | error f=>exfalso;unfold signP at hs;rw [hq,if_pos rfl] at hs;cases hs
    | ok l3=>
     rw [hs] at hR
     dsimp only at hR
     have hsg:=Lib.hid (fun (w':World) (hb:Below wr.heap.size wr w')=>sign_ok (hS.pp.below hb) hs)
     have hl3:l3=T.drop (i2+1):=by obtain⟨t,e,-⟩:=sign_len hs;exact drop_next e
     have hpx:=Lib.hid hS
     replace hT:=Lib.hid hT
     replace hR:=Lib.hid hR
     clear hs hq hS hk hG
     go_wp2_with (go_at_call 44;refine hi.out.mono ?_;rintro e w4 ⟨rfl,hb4⟩)
     go_wp2_with (go_at_call 43;refine (hsg.out _ hb4).mono ?_;rintro e w5 ⟨rfl,hP5,hT5⟩)
     go_end0
     have t5:=(Touch.of_below hb4 (fun k=>k=pb)).trans hT5
     rw [←hR0.out,hR.out]
     exact⟨hT.out.trans (touch_pb t5),rfl,v2,i2+1,hl3,hpx.out.on (Nat.le_succ i2) hP5 t5⟩
   | false=>
    rw [if_neg (by simp)] at hR
    cases hs:signP 44 (T.drop i2) ln with
    | error f=>
     rw [hs] at hR
     dsimp only at hR
     have hsg:=Lib.hid (fun (w':World) (hb:Below wr.heap.size wr w')=>sign_bad (hS.pp.below hb) hs)
     replace hT:=Lib.hid hT
     replace hR:=Lib.hid hR
     clear hs hq hS hk hG
     go_wp2_with (go_at_call 44;refine hi.out.mono ?_;rintro e w4 ⟨rfl,hb4⟩)
     go_wp2_with (go_at_call 43;refine (hsg.out _ hb4).mono ?_;rintro e w5 ⟨rfl,hb5⟩)
     rw [←hR0.out,hR.out]
     exact⟨rfl,hT.out.trans (touch_pb (Touch.of_below (hb4.trans (hb5.mono hb4.size)) _)),rfl⟩
    | ok l3=>
     rw [hs] at hR
     dsimp only at hR
     have hsg:=Lib.hid (fun (w':World) (hb:Below wr.heap.size wr w')=>sign_ok (hS.pp.below hb) hs)
     have hl3:l3=T.drop (i2+1):=by obtain⟨t,e,-⟩:=sign_len hs;exact drop_next e
     rw [hl3] at hR
     obtain⟨t3,ht3,-⟩:=sign_len hs
     have hd3:(T.drop (i2+1)).length+1=(T.drop i2).length:=by rw [ht3,←hl3];rfl
     obtain⟨m,rfl⟩:∃m,gk=m+1:=⟨gk-1,by omega⟩
     rw [lpairs_tail] at hR
     cases ho:pairP x2 (T.drop (i2+1)) ln with
     | error f=>
      rw [ho] at hR
      dsimp only at hR
      have hk6:=Lib.hid (fun (w':World) (hS6:∃v:Value × Value,QAt B Bx pb gw cw T ln vb bb Sx Sp Sq w' (i2+1) x2 v.1 v.2)=>hone.out w' (i2+1) x2 hS6)
      rw [ho] at hk6
      have hpx:=Lib.hid hS
      replace hT:=Lib.hid hT
      replace hR:=Lib.hid hR
      clear hs hq hS hk hG ho
      go_wp2_with (go_at_call 44;refine hi.out.mono ?_;rintro e w4 ⟨rfl,hb4⟩)
      go_wp2_with (go_at_call 43;refine (hsg.out _ hb4).mono ?_;rintro e w5 ⟨rfl,hP5,hT5⟩)
      have t5:=(Touch.of_below hb4 (fun k=>k=pb)).trans hT5
      have hS5:=hpx.out.on (Nat.le_succ i2) hP5 t5
      go_wp2_with (go_at_call 63;refine (hk6.out _ ⟨_,hS5⟩).mono ?_;rintro e w6 ⟨hT6,he⟩;obtain rfl:=he)
      rw [←hR0.out,hR.out]
      exact⟨rfl,(hT.out.trans (touch_pb t5)).trans hT6,rfl⟩
     | ok r6=>
      obtain⟨x6,l6⟩:=r6
      rw [ho] at hR
      dsimp only at hR
      have hk6:=Lib.hid (fun (w':World) (hS6:∃v:Value × Value,QAt B Bx pb gw cw T ln vb bb Sx Sp Sq w' (i2+1) x2 v.1 v.2)=>hone.out w' (i2+1) x2 hS6)
      rw [ho] at hk6
      have hlen6:=pair_len ho
      have hpx:=Lib.hid hS
      replace hT:=Lib.hid hT
      replace hR:=Lib.hid hR
      clear hs hq hS hG ho
      go_wp2_with (go_at_call 44;refine hi.out.mono ?_;rintro e w4 ⟨rfl,hb4⟩)
      go_wp2_with (go_at_call 43;refine (hsg.out _ hb4).mono ?_;rintro e w5 ⟨rfl,hP5,hT5⟩)
      have t5:=(Touch.of_below hb4 (fun k=>k=pb)).trans hT5
      have hS5:=hpx.out.on (Nat.le_succ i2) hP5 t5
      go_wp2_with (go_at_call 63;refine (hk6.out _ ⟨_,hS5⟩).mono ?_;rintro e w6 ⟨hT6,hx⟩;dsimp only at hx;obtain⟨rfl,v6,i6,hl6,hS6⟩:=hx)
      have hfin:Hid (R=tailP pairP 93 m x6 (T.drop i6) ln∧(T.drop i6).length+1≤m∧(∃v:Value × Value,QAt B Bx pb gw cw T ln vb bb Sx Sp Sq w6 i6 x6 v.1 v.2)∧Touch w w6 (fun k=>k=pb∨k=Sx∨Bx≤k)):=Lib.hid ⟨by rw [hR.out,hl6],by rw [←hl6];omega,⟨v6,hS6⟩,(hT.out.trans (touch_pb t5)).trans hT6⟩
      clear hT6 hS6 hl6 hS5 hP5 hT5 t5 hb4 hpx hR hT
      go_roundg m
      case rel=>exact⟨i6,x6,hfin⟩
      case measure=>omega
end
end
end Go.Proofs.YtgcanabckogmmaaDoor
