/- RdF, RdG. -/
import Derived.Test.YtgcanabckogmmaaDoorZR7
namespace Go.Proofs.YtgcanabckogmmaaDoor
set_option linter.unusedVariables false
set_option linter.unusedSimpArgs false
section
open Go.RowKit Go.Maps Go.Shelf
attribute [local go_sem] Oper.semAt_some fld0 fld1 fld2
def tailP {α:Type}(one:α→List Tok→Nat→Except Flt (α × List Tok))(c:UInt8)(n:Nat)(x:α)(l:List Tok)(ln:Nat):Except Flt (α × List Tok):=
 if isB l ln c=true then
  match signP c l ln with
  | .error e=>.error e
  | .ok l=>.ok (x,l)
 else
  match signP 44 l ln with
  | .error e=>.error e
  | .ok l=>listP one c n x l ln
structure NAt (B Bn pb gw cw:Nat) (T:List Tok) (ln vb bb Sp Sl:Nat) (w:World) (i:Nat) (ss:List ByteArray) (v:Value):Prop where
 pp:PAt B w pb gw cw T i ln vb bb
 bp:w.heap[Sp]?=some (.cells #[.pointer (some ⟨pb,0,none⟩)] 59 (0,0))
 bl:w.heap[Sl]?=some (.cells #[v] 39 (0,0))
 row:w.ownsRow Bn 9 1 v ss.length (ss.map Value.string)
 bs:ss.length≤i
 loP:B≤Sp
 loL:B≤Sl
 ltP:Sp<Bn
 ltL:Sl<Bn
 ne:Sp≠Sl
 top:Bn≤w.heap.size
def NTch (Bn pb Sl:Nat)(w w':World):Prop:=Touch w w' (fun k=>k=pb∨k=Sl∨Bn≤k)
theorem NTch.trans {Bn pb Sl:Nat}{a b c:World}(h:NTch Bn pb Sl a b)(g:NTch Bn pb Sl b c):NTch Bn pb Sl a c:=Touch.trans h g
def NPost (B Bn pb gw cw:Nat)(T:List Tok)(ln vb bb Sp Sl:Nat)(w:World)(r:Except Flt (List ByteArray × List Tok))(e:Ending)(w':World):Prop:=
 NTch Bn pb Sl w w'∧match r with
 | .error f=>e=.panicked (chF f)
 | .ok (ss,l')=>e=.returned (.tuple #[])∧∃v i',l'=T.drop i'∧NAt B Bn pb gw cw T ln vb bb Sp Sl w' i' ss v
section
variable {B Bn pb gw cw:Nat} {T:List Tok} {ln vb bb Sp Sl:Nat} {w w2 w3:World} {i:Nat} {ss:List ByteArray} {v:Value}
theorem tch_pb {w':World}(t:Touch w w' (fun k=>k=pb)):NTch Bn pb Sl w w':=t.mono (fun _ _ h=>.inl h)
theorem NAt.on (h:NAt B Bn pb gw cw T ln vb bb Sp Sl w i ss v){i':Nat}(hi:i≤i')(hP:PAt B w2 pb gw cw T i' ln vb bb)(t:Touch w w2 (fun k=>k=pb)):NAt B Bn pb gw cw T ln vb bb Sp Sl w2 i' ss v:=by
 have h1:=h.pp.ltP
 have h2:=h.loP
 have h3:=h.loL
 have h4:=h.ltP
 have h5:=h.ltL
 have h6:=h.top
 exact⟨hP,(t.block Sp (by omega) (by omega)).trans h.bp,(t.block Sl (by omega) (by omega)).trans h.bl,ownsRow_touch h.row t (fun g hg e=>by have:=(h.row.lt g hg).1;omega),Nat.le_trans h.bs hi,h2,h3,h4,h5,h.ne,Nat.le_trans h6 t.size⟩
theorem name_end {o:Obj}{al:Option Addr}{nl cl gg cap:Nat}{s:ByteArray}(hS:NAt B Bn pb gw cw T ln vb bb Sp Sl w2 i ss (.slice al nl cl))(hg:(w2.alloc o).grownBy w3 (Value.slice al nl cl).ownBlock)(hO:w3.ownsRow Bn 9 1 (.slice (some ⟨gg,0,none⟩) (nl+1) cap) (nl+1) (ss.map Value.string++[.string s]))(hb:ss.length+1≤i):
  NAt B Bn pb gw cw T ln vb bb Sp Sl (w3.setCell ⟨Sl,0,none⟩ (.slice (some ⟨gg,0,none⟩) (nl+1) cap)) i (ss++[s]) (.slice (some ⟨gg,0,none⟩) (nl+1) cap)∧NTch Bn pb Sl w2 (w3.setCell ⟨Sl,0,none⟩ (.slice (some ⟨gg,0,none⟩) (nl+1) cap))∧w3.heap[Sl]?=some (.cells #[.slice al nl cl] 39 (0,0))∧w3.heap[Sp]?=some (.cells #[.pointer (some ⟨pb,0,none⟩)] 59 (0,0)):=by
 have hnl:nl=ss.length:=by obtain⟨a,c,e⟩:=own_formP hS.row;simp only [Value.slice.injEq] at e;exact e.2.1
 have t3:Touch w2 w3 (fun k=>(Value.slice al nl cl).ownBlock=some k):=((Touch.refl w2 _).alloc o).trans (Touch.of_grown hg (fun k e=>e))
 have t4:Touch w3 (w3.setCell ⟨Sl,0,none⟩ (.slice (some ⟨gg,0,none⟩) (nl+1) cap)) (fun k=>k=Sl):=(Touch.refl w3 (fun k=>k=Sl)).setCell (a:=⟨Sl,0,none⟩) (fun _=>rfl) _
 have h1:=hS.pp.ltP
 have h2:=hS.loP
 have h3:=hS.loL
 have h4:=hS.ltP
 have h5:=hS.ltL
 have h6:=hS.top
 have h7:=hS.ne
 have hown:∀k,(Value.slice al nl cl).ownBlock=some k→Bn≤k:=fun k e=>(hS.row.lt k e).1
 have tt:Touch w2 (w3.setCell ⟨Sl,0,none⟩ (.slice (some ⟨gg,0,none⟩) (nl+1) cap)) (fun k=>k=Sl∨Bn≤k):=(t3.mono (S':=fun k=>k=Sl∨Bn≤k) (fun k _ e=>.inr (hown k e))).trans (t4.mono (fun _ _ e=>.inl e))
 have b3:=(t3.block Sl (by omega) (fun e=>by have:=hown Sl e;omega)).trans hS.bl
 have p3:=(t3.block Sp (by omega) (fun e=>by have:=hown Sp e;omega)).trans hS.bp
 refine⟨⟨hS.pp.keep tt (fun k e=>by rcases e with e | e<;>omega),(t4.block Sp (Array.getElem?_eq_some_iff.1 p3).1 h7).trans p3,blk_set (i:=0) _ b3,?_,by simpa using hb,h2,h3,h4,h5,h7,?_⟩,tt.mono (fun _ _ e=>.inr e),b3,p3⟩
 ·rw [List.map_append,List.length_append]
  have:=ownsRow_touch hO t4 (fun g hg e=>by have:=(hO.lt g hg).1;omega)
  rw [hnl] at this ⊢
  exact this
 ·have:=tt.size;omega
theorem NAt.drew (h:NAt B Bn pb gw cw T ln vb bb Sp Sl w i ss v):NAt B Bn pb gw cw T ln vb bb Sp Sl w.drew i ss v:=⟨h.pp.below (Below.refl _ _).drew,h.bp,h.bl,ownsRow_touch (S:=fun _=>False) h.row (Touch.refl w _).drew (fun _ _ e=>e),h.bs,h.loP,h.loL,h.ltP,h.ltL,h.ne,h.top⟩
theorem one_cell {w:World}{b:Nat}{u:Value}{t:TypeId}(h:w.heap[b]?=some (.cells #[u] t (0,0))):w.cell? ⟨b,0,none⟩=some u:=by rw [blk_cell h];rfl
set_option maxRecDepth 20000 in
set_option maxHeartbeats 2000000 in
theorem oneName_any (h:NAt B Bn pb gw cw T ln vb bb Sp Sl w i ss v):Calls Tryd.prog 66 #[.pointer (some ⟨Sl,0,none⟩),.pointer (some ⟨Sp,0,none⟩)] w (NPost B Bn pb gw cw T ln vb bb Sp Sl w (oneName ss (T.drop i) ln)):=by
 obtain⟨al,cl,rfl⟩:=own_formP h.row
 obtain⟨nl,hnl⟩:∃nl,nl=ss.length:=⟨_,rfl⟩
 rw [←hnl] at h
 have z:w.drew.cell? ⟨Sl,0,none⟩=some (.slice al nl cl):=one_cell h.drew.bl
 have hC:w.drew.cell? ⟨Sp,0,none⟩=some (.pointer (some ⟨pb,0,none⟩)):=one_cell h.drew.bp
 unfold oneName
 cases hn:nameP (T.drop i) ln with
 | error f=>
  have hk:=Lib.hid (name_bad h.drew.pp hn)
  clear hn
  replace h:=Lib.hid h
  replace hnl:=Lib.hid hnl
  go_enter Tryd.func66,Tryd.ntmps66
  refine wp_region_held_drew (S:=(fun w'=>w'.cell? ⟨Sp,0,none⟩=some (.pointer (some ⟨pb,0,none⟩)))) (by kernel_rfl) hC (fun hHeld=>?_)
  clear hHeld
  refine wpAnyH_take (i:=1) (oi:=(.mk (some 3) (.load 59 (.tmp 1)) 59 "read.go:225" #[] none)) (v:=?_) rfl (by kernel_rfl) (by kernel_rfl) (by kernel_rfl) (fun _ _ _ h=>h) (Or.inl ⟨by rfl,?_⟩) hC ?_
  rotate_left
  ·(intro w hSw;(try dsimp only at hSw);go_simp;try with_reducible rfl)
  try simp only [Act.put,List.setIfInBounds_toArray,List.set_cons_zero,List.set_cons_succ]
  refine wpAnyH_ready (rs:=[0,2]) (by kernel_rfl) (by simp) (AllReadyH.cons (o:=(.mk (some 2) (.load 39 (.tmp 0)) 39 "read.go:225" #[] none)) rfl (fun K hK=>?_) (AllReadyH.cons (o:=(.mk (some 4) (.call (.mk (.value (.func 41)) #[(.tmp 3)] #[59])) 9 "read.go:225" #[.mk 1 .data] none)) rfl (fun K hK=>?_) AllReadyH.nil))
  ·skip
   go_simp
   skip
   refine hK.out _ _ hC (fun hHeld=>?_)
   clear hK K hHeld
   try simp only [Act.put,List.setIfInBounds_toArray,List.set_cons_zero,List.set_cons_succ]
   refine wpAnyH_ready (rs:=[2]) (by kernel_rfl) (by simp) (AllReadyH.cons (o:=(.mk (some 4) (.call (.mk (.value (.func 41)) #[(.tmp 3)] #[59])) 9 "read.go:225" #[.mk 1 .data] none)) rfl (fun K hK=>?_) AllReadyH.nil)
   go_simp
   go_at_call 41
   refine hk.out.mono ?_
   rintro e w2 ⟨rfl,hb⟩
   exact⟨rfl,tch_pb ((Touch.refl w _).drew.trans (Touch.of_below hb _)),rfl⟩
  ·skip
   go_simp
   go_at_call 41
   refine hk.out.mono ?_
   rintro e w2 ⟨rfl,hb⟩
   exact⟨rfl,tch_pb ((Touch.refl w _).drew.trans (Touch.of_below hb _)),rfl⟩
 | ok x=>
  obtain⟨s,r⟩:=x
  have hk:=Lib.hid (name_ok h.drew.pp hn)
  obtain⟨i0,hi0,hz0,hz1,hz2⟩:=info_parts infoStrP
  have hr:r=T.drop (i+1):=by
   obtain⟨t,e,-⟩:=name_len hn
   exact drop_next e
  have hS:=Lib.hid h
  have hlen:nl≤2000000:=by have:=h.bs;have:=h.pp.here;have:=h.pp.ok.len;omega
  replace hnl:=Lib.hid hnl
  clear hn h
  go_enter Tryd.func66,Tryd.ntmps66
  refine wp_region_held_drew (S:=(fun w'=>w'.cell? ⟨Sp,0,none⟩=some (.pointer (some ⟨pb,0,none⟩)))) (by kernel_rfl) hC (fun hHeld=>?_)
  clear hHeld
  refine wpAnyH_take (i:=1) (oi:=(.mk (some 3) (.load 59 (.tmp 1)) 59 "read.go:225" #[] none)) (v:=?_) rfl (by kernel_rfl) (by kernel_rfl) (by kernel_rfl) (fun _ _ _ h=>h) (Or.inl ⟨by rfl,?_⟩) hC ?_
  rotate_left
  ·(intro w hSw;(try dsimp only at hSw);go_simp;try with_reducible rfl)
  try simp only [Act.put,List.setIfInBounds_toArray,List.set_cons_zero,List.set_cons_succ]
  refine wpAnyH_ready (rs:=[0,2]) (by kernel_rfl) (by simp) (AllReadyH.cons (o:=(.mk (some 2) (.load 39 (.tmp 0)) 39 "read.go:225" #[] none)) rfl (fun K hK=>?_) (AllReadyH.cons (o:=(.mk (some 4) (.call (.mk (.value (.func 41)) #[(.tmp 3)] #[59])) 9 "read.go:225" #[.mk 1 .data] none)) rfl (fun K hK=>?_) AllReadyH.nil))
  ·skip
   go_simp
   skip
   refine hK.out _ _ hC (fun hHeld=>?_)
   clear hK K hHeld
   try simp only [Act.put,List.setIfInBounds_toArray,List.set_cons_zero,List.set_cons_succ]
   refine wpAnyH_ready (rs:=[2]) (by kernel_rfl) (by simp) (AllReadyH.cons (o:=(.mk (some 4) (.call (.mk (.value (.func 41)) #[(.tmp 3)] #[59])) 9 "read.go:225" #[.mk 1 .data] none)) rfl (fun K hK=>?_) AllReadyH.nil)
   go_simp
   go_at_call 41
   refine hk.out.mono ?_
   rintro e w2 ⟨rfl,hP,hT⟩
   have hS2:=hS.out.drew.on (Nat.le_succ i) hP hT
   have z:w2.cell? ⟨Sl,0,none⟩=some (.slice al nl cl):=one_cell hS2.bl
   replace hC:w2.cell? ⟨Sp,0,none⟩=some (.pointer (some ⟨pb,0,none⟩)):=one_cell hS2.bp
   have lSl:Sl<w2.heap.size:=Nat.lt_of_lt_of_le hS2.ltL hS2.top
   have hown2:=Lib.hid (ownsRow_touch (S:=fun _=>False) hS2.row ((Touch.refl w2 _).alloc (.cells #[.string s] 9)) (fun _ _ h=>h))
   have htop:Bn≤w2.heap.size:=hS2.top
   replace hS2:=Lib.hid hS2
   have hT2:Hid (Touch w w2 (fun k=>k=pb)):=Lib.hid ((Touch.refl w _).drew.trans hT)
   clear hP hT
   go_simp
   refine hK.out _ _ hC (fun hHeld=>?_)
   clear hK K hHeld
   try simp only [Act.put,List.setIfInBounds_toArray,List.set_cons_zero,List.set_cons_succ]
   refine wpAnyH_ready (rs:=[3]) (by kernel_rfl) (by simp) (AllReadyH.cons (o:=(.mk (some 5) (.buildSlice 39 1 #[(0,(.tmp 4))]) 39 "read.go:225" #[.mk 2 .data] none)) rfl (fun K hK=>?_) AllReadyH.nil)
   go_simp
   replace hC:(w2.alloc (.cells #[.string s] 9)).cell? ⟨Sp,0,none⟩=some (.pointer (some ⟨pb,0,none⟩)):=one_cell (at_oldP hS2.out.bp)
   refine hK.out _ _ hC (fun hHeld=>?_)
   clear hK K hHeld
   try simp only [Act.put,List.setIfInBounds_toArray,List.set_cons_zero,List.set_cons_succ]
   refine wpAnyH_ready (rs:=[4]) (by kernel_rfl) (by simp) (AllReadyH.cons (o:=(.mk (some 6) (.call (.mk (.builtin Builtin.append) #[(.tmp 2),(.tmp 5)] #[39,39])) 39 "read.go:225" #[.mk 0 .data,.mk 3 .data,.mk 2 .chain] none)) rfl (fun K hK=>?_) AllReadyH.nil)
   refine step_append_lies _ (by rfl) _ _ _ (by rfl) Bn 9 i0 _ 1 16 Tryd.underlying39 hi0 hz0 hz1 hz2 rfl (by omega) (.slice al nl cl) nl (ss.map Value.string) (by rfl) (by rw [hnl.out];rw [hnl.out] at hown2;exact hown2.out) ⟨w2.heap.size,0,none⟩ 1 1 [.string s] (by rfl) (by rfl) (World.news_of_block (cs:=#[.string s]) (t:=9) (fr:=(0,0)) (heap_alloc_new w2 _)) (by simp [Value.oneCell']) (by omega) (by unfold maxLen;omega) (by omega) (by simp;omega) (w2.heap.size+1) (by simp) ?_
   intro gg cap2 w3 hO3 hg3 hat3 hlt3
   obtain⟨he1,he2,bl3,bp3⟩:=name_end hS2.out hg3 hO3 (by have:=hS.out.bs;omega)
   have he:=Lib.hid (And.intro he1 he2)
   have y7:w3.frozen? ⟨Sl,0,none⟩=false:=frozB bl3 0
   have z7:w3.cell? ⟨Sl,0,none⟩=some (.slice al nl cl):=one_cell bl3
   replace hC:w3.cell? ⟨Sp,0,none⟩=some (.pointer (some ⟨pb,0,none⟩)):=one_cell bp3
   clear hO3 hg3 hat3 hlt3 hown2 z he1 he2 bl3 bp3
   refine hK.out _ _ hC (fun hHeld=>?_)
   clear hK K hHeld
   try simp only [Act.put,List.setIfInBounds_toArray,List.set_cons_zero,List.set_cons_succ]
   refine wpAnyH_ready (rs:=[5]) (by kernel_rfl) (by simp) (AllReadyH.cons (o:=(.mk none (.store 39 (.tmp 0) (.tmp 6)) 0 "read.go:225" #[.mk 4 .data,.mk 4 .chain,.mk 0 .phase,.mk 1 .phase,.mk 2 .phase,.mk 3 .phase,.mk 4 .phase] none)) rfl (fun K hK=>?_) AllReadyH.nil)
   go_simp
   replace hC:(w3.setCell ⟨Sl,0,none⟩ (.slice (some ⟨gg,0,none⟩) (nl+1) cap2)).cell? ⟨Sp,0,none⟩=some (.pointer (some ⟨pb,0,none⟩)):=one_cell he.out.1.bp
   refine hK.out _ _ hC (fun hHeld=>?_)
   clear hK K hHeld
   try simp only [Act.put,List.setIfInBounds_toArray,List.set_cons_zero,List.set_cons_succ]
   refine wpAnyH_done (by kernel_rfl) ?_ _
   go_wp2_with fail
   go_end0
   exact⟨NTch.trans (tch_pb hT2.out) he.out.2,rfl,_,i+1,hr,he.out.1⟩
  ·skip
   go_simp
   go_at_call 41
   refine hk.out.mono ?_
   rintro e w2 ⟨rfl,hP,hT⟩
   have hS2:=hS.out.drew.on (Nat.le_succ i) hP hT
   have z:w2.cell? ⟨Sl,0,none⟩=some (.slice al nl cl):=one_cell hS2.bl
   replace hC:w2.cell? ⟨Sp,0,none⟩=some (.pointer (some ⟨pb,0,none⟩)):=one_cell hS2.bp
   have lSl:Sl<w2.heap.size:=Nat.lt_of_lt_of_le hS2.ltL hS2.top
   have hown2:=Lib.hid (ownsRow_touch (S:=fun _=>False) hS2.row ((Touch.refl w2 _).alloc (.cells #[.string s] 9)) (fun _ _ h=>h))
   have htop:Bn≤w2.heap.size:=hS2.top
   replace hS2:=Lib.hid hS2
   have hT2:Hid (Touch w w2 (fun k=>k=pb)):=Lib.hid ((Touch.refl w _).drew.trans hT)
   clear hP hT
   go_simp
   refine hK.out _ _ hC (fun hHeld=>?_)
   clear hK K hHeld
   try simp only [Act.put,List.setIfInBounds_toArray,List.set_cons_zero,List.set_cons_succ]
   refine wpAnyH_ready (rs:=[0,3]) (by kernel_rfl) (by simp) (AllReadyH.cons (o:=(.mk (some 2) (.load 39 (.tmp 0)) 39 "read.go:225" #[] none)) rfl (fun K hK=>?_) (AllReadyH.cons (o:=(.mk (some 5) (.buildSlice 39 1 #[(0,(.tmp 4))]) 39 "read.go:225" #[.mk 2 .data] none)) rfl (fun K hK=>?_) AllReadyH.nil))
   ·skip
    go_simp
    skip
    refine hK.out _ _ hC (fun hHeld=>?_)
    clear hK K hHeld
    try simp only [Act.put,List.setIfInBounds_toArray,List.set_cons_zero,List.set_cons_succ]
    refine wpAnyH_ready (rs:=[3]) (by kernel_rfl) (by simp) (AllReadyH.cons (o:=(.mk (some 5) (.buildSlice 39 1 #[(0,(.tmp 4))]) 39 "read.go:225" #[.mk 2 .data] none)) rfl (fun K hK=>?_) AllReadyH.nil)
    go_simp
    replace hC:(w2.alloc (.cells #[.string s] 9)).cell? ⟨Sp,0,none⟩=some (.pointer (some ⟨pb,0,none⟩)):=one_cell (at_oldP hS2.out.bp)
    refine hK.out _ _ hC (fun hHeld=>?_)
    clear hK K hHeld
    try simp only [Act.put,List.setIfInBounds_toArray,List.set_cons_zero,List.set_cons_succ]
    refine wpAnyH_ready (rs:=[4]) (by kernel_rfl) (by simp) (AllReadyH.cons (o:=(.mk (some 6) (.call (.mk (.builtin Builtin.append) #[(.tmp 2),(.tmp 5)] #[39,39])) 39 "read.go:225" #[.mk 0 .data,.mk 3 .data,.mk 2 .chain] none)) rfl (fun K hK=>?_) AllReadyH.nil)
    refine step_append_lies _ (by rfl) _ _ _ (by rfl) Bn 9 i0 _ 1 16 Tryd.underlying39 hi0 hz0 hz1 hz2 rfl (by omega) (.slice al nl cl) nl (ss.map Value.string) (by rfl) (by rw [hnl.out];rw [hnl.out] at hown2;exact hown2.out) ⟨w2.heap.size,0,none⟩ 1 1 [.string s] (by rfl) (by rfl) (World.news_of_block (cs:=#[.string s]) (t:=9) (fr:=(0,0)) (heap_alloc_new w2 _)) (by simp [Value.oneCell']) (by omega) (by unfold maxLen;omega) (by omega) (by simp;omega) (w2.heap.size+1) (by simp) ?_
    intro gg cap2 w3 hO3 hg3 hat3 hlt3
    obtain⟨he1,he2,bl3,bp3⟩:=name_end hS2.out hg3 hO3 (by have:=hS.out.bs;omega)
    have he:=Lib.hid (And.intro he1 he2)
    have y7:w3.frozen? ⟨Sl,0,none⟩=false:=frozB bl3 0
    have z7:w3.cell? ⟨Sl,0,none⟩=some (.slice al nl cl):=one_cell bl3
    replace hC:w3.cell? ⟨Sp,0,none⟩=some (.pointer (some ⟨pb,0,none⟩)):=one_cell bp3
    clear hO3 hg3 hat3 hlt3 hown2 z he1 he2 bl3 bp3
    refine hK.out _ _ hC (fun hHeld=>?_)
    clear hK K hHeld
    try simp only [Act.put,List.setIfInBounds_toArray,List.set_cons_zero,List.set_cons_succ]
    refine wpAnyH_ready (rs:=[5]) (by kernel_rfl) (by simp) (AllReadyH.cons (o:=(.mk none (.store 39 (.tmp 0) (.tmp 6)) 0 "read.go:225" #[.mk 4 .data,.mk 4 .chain,.mk 0 .phase,.mk 1 .phase,.mk 2 .phase,.mk 3 .phase,.mk 4 .phase] none)) rfl (fun K hK=>?_) AllReadyH.nil)
    go_simp
    replace hC:(w3.setCell ⟨Sl,0,none⟩ (.slice (some ⟨gg,0,none⟩) (nl+1) cap2)).cell? ⟨Sp,0,none⟩=some (.pointer (some ⟨pb,0,none⟩)):=one_cell he.out.1.bp
    refine hK.out _ _ hC (fun hHeld=>?_)
    clear hK K hHeld
    try simp only [Act.put,List.setIfInBounds_toArray,List.set_cons_zero,List.set_cons_succ]
    refine wpAnyH_done (by kernel_rfl) ?_ _
    go_wp2_with fail
    go_end0
    exact⟨NTch.trans (tch_pb hT2.out) he.out.2,rfl,_,i+1,hr,he.out.1⟩
   ·skip
    go_simp
    replace hC:(w2.alloc (.cells #[.string s] 9)).cell? ⟨Sp,0,none⟩=some (.pointer (some ⟨pb,0,none⟩)):=one_cell (at_oldP hS2.out.bp)
    refine hK.out _ _ hC (fun hHeld=>?_)
    clear hK K hHeld
    try simp only [Act.put,List.setIfInBounds_toArray,List.set_cons_zero,List.set_cons_succ]
    refine wpAnyH_ready (rs:=[0]) (by kernel_rfl) (by simp) (AllReadyH.cons (o:=(.mk (some 2) (.load 39 (.tmp 0)) 39 "read.go:225" #[] none)) rfl (fun K hK=>?_) AllReadyH.nil)
    go_simp
    skip
    refine hK.out _ _ hC (fun hHeld=>?_)
    clear hK K hHeld
    try simp only [Act.put,List.setIfInBounds_toArray,List.set_cons_zero,List.set_cons_succ]
    refine wpAnyH_ready (rs:=[4]) (by kernel_rfl) (by simp) (AllReadyH.cons (o:=(.mk (some 6) (.call (.mk (.builtin Builtin.append) #[(.tmp 2),(.tmp 5)] #[39,39])) 39 "read.go:225" #[.mk 0 .data,.mk 3 .data,.mk 2 .chain] none)) rfl (fun K hK=>?_) AllReadyH.nil)
    refine step_append_lies _ (by rfl) _ _ _ (by rfl) Bn 9 i0 _ 1 16 Tryd.underlying39 hi0 hz0 hz1 hz2 rfl (by omega) (.slice al nl cl) nl (ss.map Value.string) (by rfl) (by rw [hnl.out];rw [hnl.out] at hown2;exact hown2.out) ⟨w2.heap.size,0,none⟩ 1 1 [.string s] (by rfl) (by rfl) (World.news_of_block (cs:=#[.string s]) (t:=9) (fr:=(0,0)) (heap_alloc_new w2 _)) (by simp [Value.oneCell']) (by omega) (by unfold maxLen;omega) (by omega) (by simp;omega) (w2.heap.size+1) (by simp) ?_
    intro gg cap2 w3 hO3 hg3 hat3 hlt3
    obtain⟨he1,he2,bl3,bp3⟩:=name_end hS2.out hg3 hO3 (by have:=hS.out.bs;omega)
    have he:=Lib.hid (And.intro he1 he2)
    have y7:w3.frozen? ⟨Sl,0,none⟩=false:=frozB bl3 0
    have z7:w3.cell? ⟨Sl,0,none⟩=some (.slice al nl cl):=one_cell bl3
    replace hC:w3.cell? ⟨Sp,0,none⟩=some (.pointer (some ⟨pb,0,none⟩)):=one_cell bp3
    clear hO3 hg3 hat3 hlt3 hown2 z he1 he2 bl3 bp3
    refine hK.out _ _ hC (fun hHeld=>?_)
    clear hK K hHeld
    try simp only [Act.put,List.setIfInBounds_toArray,List.set_cons_zero,List.set_cons_succ]
    refine wpAnyH_ready (rs:=[5]) (by kernel_rfl) (by simp) (AllReadyH.cons (o:=(.mk none (.store 39 (.tmp 0) (.tmp 6)) 0 "read.go:225" #[.mk 4 .data,.mk 4 .chain,.mk 0 .phase,.mk 1 .phase,.mk 2 .phase,.mk 3 .phase,.mk 4 .phase] none)) rfl (fun K hK=>?_) AllReadyH.nil)
    go_simp
    replace hC:(w3.setCell ⟨Sl,0,none⟩ (.slice (some ⟨gg,0,none⟩) (nl+1) cap2)).cell? ⟨Sp,0,none⟩=some (.pointer (some ⟨pb,0,none⟩)):=one_cell he.out.1.bp
    refine hK.out _ _ hC (fun hHeld=>?_)
    clear hK K hHeld
    try simp only [Act.put,List.setIfInBounds_toArray,List.set_cons_zero,List.set_cons_succ]
    refine wpAnyH_done (by kernel_rfl) ?_ _
    go_wp2_with fail
    go_end0
    exact⟨NTch.trans (tch_pb hT2.out) he.out.2,rfl,_,i+1,hr,he.out.1⟩
theorem oneName_len {x:List ByteArray}{l:List Tok}{x':List ByteArray}{l':List Tok}(h:oneName x l ln=.ok (x',l')):l'.length+1≤l.length:=by
 unfold oneName at h
 cases hn:nameP l ln with
 | error f=>rw [hn] at h;cases h
 | ok r=>
  obtain⟨s,r⟩:=r
  rw [hn] at h
  injection h with h
  injection h with h1 h2
  subst h2
  obtain⟨t,e,-⟩:=name_len hn
  rw [e]
  exact Nat.le_refl _
theorem lnames_tail (n:Nat)(x:List ByteArray)(l:List Tok):listP oneName 41 (n+1) x l ln=match oneName x l ln with | .error e=>.error e | .ok (x,l)=>tailP oneName 41 n x l ln:=by
 cases h:oneName x l ln with
 | error e=>unfold listP;rw [h]
 | ok r=>obtain⟨x',l'⟩:=r;unfold listP;rw [h];rfl
set_option maxRecDepth 20000 in
set_option maxHeartbeats 2000000 in
theorem lnames_any  {i:Nat}{x:List ByteArray}(hone:∀w i x,(∃v,NAt B Bn pb gw cw T ln vb bb Sp Sl w i x v)→Calls Tryd.prog 66 #[.pointer (some ⟨Sl,0,none⟩),.pointer (some ⟨Sp,0,none⟩)] w (NPost B Bn pb gw cw T ln vb bb Sp Sl w (oneName x (T.drop i) ln))){n:Nat}(h:∃v,NAt B Bn pb gw cw T ln vb bb Sp Sl w i x v)(hn:(T.drop i).length≤n):Calls Tryd.prog 64 #[.pointer (some ⟨pb,0,none⟩),.string ⟨#[41]⟩,.func (.func 66) #[] #[.pointer (some ⟨Sl,0,none⟩),.pointer (some ⟨Sp,0,none⟩)]] w (NPost B Bn pb gw cw T ln vb bb Sp Sl w (listP oneName 41 (n+1) x (T.drop i) ln)):=by
 rw [lnames_tail]
 cases ho:oneName x (T.drop i) ln with
 | error f=>
  have hk:=Lib.hid (hone w i x h)
  rw [ho] at hk
  clear ho h
  go_enter Tryd.func64,Tryd.ntmps64
  go_wp2_with (go_at_call 66;refine hk.out.mono ?_;rintro e w2 ⟨hT,he⟩;obtain rfl:=he)
  exact⟨rfl,hT,rfl⟩
 | ok r=>
  obtain⟨x1,l1⟩:=r
  have hk:=Lib.hid (hone w i x h)
  rw [ho] at hk
  have hlen:=oneName_len ho
  dsimp only
  replace hone:=Lib.hid hone
  clear ho
  replace h:=Lib.hid h
  go_enter Tryd.func64,Tryd.ntmps64
  go_upto_block 0 with (go_at_call 66;refine hk.out.mono ?_;rintro e w2 ⟨hT,hx⟩;dsimp only at hx;obtain⟨rfl,v1,i1,hl1,hS1⟩:=hx)
  have hlen1:(T.drop i1).length+1≤n:=by rw [←hl1];omega
  subst hl1
  clear hlen hn hk
  obtain⟨R,hR⟩:∃R,R=tailP oneName 41 n x1 (T.drop i1) ln:=⟨_,rfl⟩
  have hR0:=Lib.hid hR
  have hG:Hid (R=tailP oneName 41 n x1 (T.drop i1) ln∧(T.drop i1).length+1≤n∧(∃v,NAt B Bn pb gw cw T ln vb bb Sp Sl w2 i1 x1 v)∧NTch Bn pb Sl w w2):=Lib.hid ⟨hR,hlen1,⟨_,hS1⟩,hT⟩
  clear hS1 hT hlen1 hR
  go_wp2_with fail
  go_loopg [] n (fun k wr=>∃i2 x2,Hid (R=tailP oneName 41 k x2 (T.drop i2) ln∧(T.drop i2).length+1≤k∧(∃v,NAt B Bn pb gw cw T ln vb bb Sp Sl wr i2 x2 v)∧NTch Bn pb Sl w wr))
  case atStart=>exact⟨i1,x1,hG⟩
  case round=>
   clear hG
   obtain⟨i2,x2,hG⟩:=hrel
   obtain⟨hR,hk,⟨v2,hS⟩,hT⟩:=hG.out
   obtain⟨q,hq⟩:∃q,isB (T.drop i2) ln 41=q:=⟨_,rfl⟩
   have hi:=Lib.hid (is_any hS.pp 41 hq)
   unfold tailP at hR
   rw [hq] at hR
   cases q with
   | true=>
    rw [if_pos rfl] at hR
    cases hs:signP 41 (T.drop i2) ln with
    | error f=>exfalso;unfold signP at hs;rw [hq,if_pos rfl] at hs;cases hs
    | ok l3=>
     rw [hs] at hR
     dsimp only at hR
     have hsg:=Lib.hid (fun (w':World) (hb:Below wr.heap.size wr w')=>sign_ok (hS.pp.below hb) hs)
     have hl3:l3=T.drop (i2+1):=by obtain⟨t,e,-⟩:=sign_len hs;exact drop_next e
     have hpx:=Lib.hid hS
     replace hT:=Lib.hid hT
     replace hR:=Lib.hid hR
     clear hs hq hS hk hG
     go_wp2_with (go_at_call 44;refine hi.out.mono ?_;rintro e w4 ⟨rfl,hb4⟩)
     go_wp2_with (go_at_call 43;refine (hsg.out _ hb4).mono ?_;rintro e w5 ⟨rfl,hP5,hT5⟩)
     go_end0
     have t5:=(Touch.of_below hb4 (fun k=>k=pb)).trans hT5
     rw [←hR0.out,hR.out]
     exact⟨hT.out.trans (tch_pb t5),rfl,v2,i2+1,hl3,hpx.out.on (Nat.le_succ i2) hP5 t5⟩
   | false=>
    rw [if_neg (by simp)] at hR
    cases hs:signP 44 (T.drop i2) ln with
    | error f=>
     rw [hs] at hR
     dsimp only at hR
     have hsg:=Lib.hid (fun (w':World) (hb:Below wr.heap.size wr w')=>sign_bad (hS.pp.below hb) hs)
     replace hT:=Lib.hid hT
     replace hR:=Lib.hid hR
     clear hs hq hS hk hG
     go_wp2_with (go_at_call 44;refine hi.out.mono ?_;rintro e w4 ⟨rfl,hb4⟩)
     go_wp2_with (go_at_call 43;refine (hsg.out _ hb4).mono ?_;rintro e w5 ⟨rfl,hb5⟩)
     rw [←hR0.out,hR.out]
     exact⟨rfl,hT.out.trans (tch_pb (Touch.of_below (hb4.trans (hb5.mono hb4.size)) _)),rfl⟩
    | ok l3=>
     rw [hs] at hR
     dsimp only at hR
     have hsg:=Lib.hid (fun (w':World) (hb:Below wr.heap.size wr w')=>sign_ok (hS.pp.below hb) hs)
     have hl3:l3=T.drop (i2+1):=by obtain⟨t,e,-⟩:=sign_len hs;exact drop_next e
     rw [hl3] at hR
     obtain⟨t3,ht3,-⟩:=sign_len hs
     have hd3:(T.drop (i2+1)).length+1=(T.drop i2).length:=by rw [ht3,←hl3];rfl
     obtain⟨m,rfl⟩:∃m,gk=m+1:=⟨gk-1,by omega⟩
     rw [lnames_tail] at hR
     cases ho:oneName x2 (T.drop (i2+1)) ln with
     | error f=>
      rw [ho] at hR
      dsimp only at hR
      have hk6:=Lib.hid (fun (w':World) (hS6:∃v,NAt B Bn pb gw cw T ln vb bb Sp Sl w' (i2+1) x2 v)=>hone.out w' (i2+1) x2 hS6)
      rw [ho] at hk6
      have hpx:=Lib.hid hS
      replace hT:=Lib.hid hT
      replace hR:=Lib.hid hR
      clear hs hq hS hk hG ho
      go_wp2_with (go_at_call 44;refine hi.out.mono ?_;rintro e w4 ⟨rfl,hb4⟩)
      go_wp2_with (go_at_call 43;refine (hsg.out _ hb4).mono ?_;rintro e w5 ⟨rfl,hP5,hT5⟩)
      have t5:=(Touch.of_below hb4 (fun k=>k=pb)).trans hT5
      have hS5:=hpx.out.on (Nat.le_succ i2) hP5 t5
      go_wp2_with (go_at_call 66;refine (hk6.out _ ⟨_,hS5⟩).mono ?_;rintro e w6 ⟨hT6,he⟩;obtain rfl:=he)
      rw [←hR0.out,hR.out]
      exact⟨rfl,(hT.out.trans (tch_pb t5)).trans hT6,rfl⟩
     | ok r6=>
      obtain⟨x6,l6⟩:=r6
      rw [ho] at hR
      dsimp only at hR
      have hk6:=Lib.hid (fun (w':World) (hS6:∃v,NAt B Bn pb gw cw T ln vb bb Sp Sl w' (i2+1) x2 v)=>hone.out w' (i2+1) x2 hS6)
      rw [ho] at hk6
      have hlen6:=oneName_len ho
      have hpx:=Lib.hid hS
      replace hT:=Lib.hid hT
      replace hR:=Lib.hid hR
      clear hs hq hS hG ho
      go_wp2_with (go_at_call 44;refine hi.out.mono ?_;rintro e w4 ⟨rfl,hb4⟩)
      go_wp2_with (go_at_call 43;refine (hsg.out _ hb4).mono ?_;rintro e w5 ⟨rfl,hP5,hT5⟩)
      have t5:=(Touch.of_below hb4 (fun k=>k=pb)).trans hT5
      have hS5:=hpx.out.on (Nat.le_succ i2) hP5 t5
      go_wp2_with (go_at_call 66;refine (hk6.out _ ⟨_,hS5⟩).mono ?_;rintro e w6 ⟨hT6,hx⟩;dsimp only at hx;obtain⟨rfl,v6,i6,hl6,hS6⟩:=hx)
      have hfin:Hid (R=tailP oneName 41 m x6 (T.drop i6) ln∧(T.drop i6).length+1≤m∧(∃v,NAt B Bn pb gw cw T ln vb bb Sp Sl w6 i6 x6 v)∧NTch Bn pb Sl w w6):=Lib.hid ⟨by rw [hR.out,hl6],by rw [←hl6];omega,⟨v6,hS6⟩,(hT.out.trans (tch_pb t5)).trans hT6⟩
      clear hT6 hS6 hl6 hS5 hP5 hT5 t5 hb4 hpx hR hT
      go_roundg m
      case rel=>exact⟨i6,x6,hfin⟩
      case measure=>omega
end
end
section
open Go.RowKit Go.Maps Go.Shelf
attribute [local go_sem] Oper.semAt_some fld0 fld1 fld2
def NsPost (B pb gw cw:Nat)(T:List Tok)(ln vb bb:Nat)(w:World)(r:Except Flt (List ByteArray × List Tok))(e:Ending)(w':World):Prop:=
 Touch w w' (fun k=>k=pb)∧match r with
 | .error f=>e=.panicked (chF f)
 | .ok (ss,l')=>∃v i',e=.returned v∧l'=T.drop i'∧PAt B w' pb gw cw T i' ln vb bb∧w'.ownsRow w.heap.size 9 1 v ss.length (ss.map Value.string)∧ss.length≤i'
section
variable {B pb gw cw:Nat} {T:List Tok} {ln vb bb:Nat} {w w2 w3:World} {i:Nat}
set_option maxRecDepth 20000 in
set_option maxHeartbeats 2000000 in
theorem names_any (h:PAt B w pb gw cw T i ln vb bb):Calls Tryd.prog 42 #[.pointer (some ⟨pb,0,none⟩)] w (NsPost B pb gw cw T ln vb bb w (namesP (T.drop i) ln)):=by
 have hmf:∀(fn:Fn) (first cap:Array Value) (w:World),(Instr.makeFunc fn first cap).run Tryd.prog w=.ok (.func fn first cap) w:=fun _ _ _ _=>rfl
 have hb0:Below w.heap.size w ((w.alloc (.cells #[.pointer (some ⟨pb,0,none⟩)] 59)).alloc (.cells #[.slice none 0 0] 39)):=((Below.refl _ _).alloc (Nat.le_refl _) _).alloc (by simp) _
 have hltp:=h.ltP
 have htop:=h.top
 have hS:NAt B (w.heap.size+2) pb gw cw T ln vb bb w.heap.size (w.heap.size+1) ((w.alloc (.cells #[.pointer (some ⟨pb,0,none⟩)] 59)).alloc (.cells #[.slice none 0 0] 39)) i [] (.slice none 0 0):=
  ⟨h.below hb0,at_oldP (at_newP rfl),at_newP (by simp),World.ownsRow_nil _ _ _ _,Nat.zero_le _,htop,by omega,by omega,by omega,by omega,by simp⟩
 have hlow:∀w3,NTch (w.heap.size+2) pb (w.heap.size+1) ((w.alloc (.cells #[.pointer (some ⟨pb,0,none⟩)] 59)).alloc (.cells #[.slice none 0 0] 39)) w3→Touch w w3 (fun k=>k=pb):=fun w3 t=>
  (((Touch.refl w (fun k=>k=pb)).alloc _).alloc _).then t (fun k hk e=>by rcases e with e | e | e<;>omega)
 replace hlow:=Lib.hid hlow
 unfold namesP
 cases hs:signP 40 (T.drop i) ln with
 | error f=>
  have hsg:=Lib.hid (sign_bad hS.pp hs)
  have b0:((w.alloc (.cells #[.pointer (some ⟨pb,0,none⟩)] 59)).alloc (.cells #[.slice none 0 0] 39)).cell? ⟨w.heap.size,0,none⟩=some (.pointer (some ⟨pb,0,none⟩)):=one_cell hS.bp
  clear hs hS h
  go_enter Tryd.func42,Tryd.ntmps42
  go_wp2_with (go_at_call 43;refine hsg.out.mono ?_;rintro e w3 ⟨rfl,hb3⟩)
  exact⟨rfl,hlow.out _ (tch_pb (Touch.of_below hb3 _)),rfl⟩
 | ok l1=>
  have hsg:=Lib.hid (sign_ok hS.pp hs)
  have hl1:l1=T.drop (i+1):=by obtain⟨t,e,-⟩:=sign_len hs;exact drop_next e
  subst hl1
  have b0:((w.alloc (.cells #[.pointer (some ⟨pb,0,none⟩)] 59)).alloc (.cells #[.slice none 0 0] 39)).cell? ⟨w.heap.size,0,none⟩=some (.pointer (some ⟨pb,0,none⟩)):=one_cell hS.bp
  dsimp only
  obtain⟨q,hq⟩:∃q,isB (T.drop (i+1)) ln 41=q:=⟨_,rfl⟩
  rw [hq]
  replace hS:=Lib.hid hS
  clear hs h
  cases q with
  | true=>
   rw [if_pos rfl]
   cases hs2:signP 41 (T.drop (i+1)) ln with
   | error f=>exfalso;unfold signP at hs2;rw [hq,if_pos rfl] at hs2;cases hs2
   | ok l2=>
    have hl2:l2=T.drop (i+1+1):=by obtain⟨t,e,-⟩:=sign_len hs2;exact drop_next e
    have hi:=Lib.hid (fun (w':World) (hP:PAt B w' pb gw cw T (i+1) ln vb bb)=>is_any hP 41 hq)
    have hsg2:=Lib.hid (fun (w':World) (hP:PAt B w' pb gw cw T (i+1) ln vb bb)=>sign_ok hP hs2)
    replace hl2:=Lib.hid hl2
    clear hs2 hq
    go_enter Tryd.func42,Tryd.ntmps42
    go_upto_region 3 with (go_at_call 43;refine hsg.out.mono ?_;rintro e w3 ⟨rfl,hP3,hT3⟩)
    have hS3:=hS.out.on (Nat.le_succ i) hP3 hT3
    have b3:w3.cell? ⟨w.heap.size,0,none⟩=some (.pointer (some ⟨pb,0,none⟩)):=one_cell hS3.bp
    have hS3:=Lib.hid hS3
    replace hT3:=Lib.hid hT3
    clear b0 hP3
    go_wp2_with fail
    refine (hi.out _ hS3.out.pp).mono ?_
    rintro e w4 ⟨rfl,hb4⟩
    have hP4:=hS3.out.pp.below hb4
    have b4:w4.cell? ⟨w.heap.size,0,none⟩=some (.pointer (some ⟨pb,0,none⟩)):=one_cell (keepB hb4 hS3.out.bp)
    replace hb4:=Lib.hid hb4
    replace hP4:=Lib.hid hP4
    clear b3
    go_wp2_with (go_at_call 43;refine (hsg2.out _ hP4.out).mono ?_;rintro e w5 ⟨rfl,hP5,hT5⟩)
    go_ret
    exact⟨hlow.out _ (tch_pb ((hT3.out.trans (Touch.of_below hb4.out _)).trans hT5)),_,i+1+1,rfl,hl2.out,hP5,World.ownsRow_nil _ _ _ _,Nat.zero_le _⟩
  | false=>
   rw [if_neg (by simp)]
   have hi:=Lib.hid (fun (w':World) (hP:PAt B w' pb gw cw T (i+1) ln vb bb)=>is_any hP 41 hq)
   have hls:=Lib.hid (fun (w':World) (hS':∃v,NAt B (w.heap.size+2) pb gw cw T ln vb bb w.heap.size (w.heap.size+1) w' (i+1) [] v)=>lnames_any (fun w i x ⟨v,h⟩=>oneName_any h) hS' (Nat.le_refl _))
   clear hq
   obtain⟨R,hR⟩:∃R,listP oneName 41 ((T.drop (i+1)).length+1) [] (T.drop (i+1)) ln=R:=⟨_,rfl⟩
   rw [hR] at hls
   rw [hR]
   clear hR
   go_enter Tryd.func42,Tryd.ntmps42
   go_upto_region 3 with (go_at_call 43;refine hsg.out.mono ?_;rintro e w3 ⟨rfl,hP3,hT3⟩)
   have hS3:=hS.out.on (Nat.le_succ i) hP3 hT3
   have b3:w3.cell? ⟨w.heap.size,0,none⟩=some (.pointer (some ⟨pb,0,none⟩)):=one_cell hS3.bp
   have hS3:=Lib.hid hS3
   replace hT3:=Lib.hid hT3
   clear b0 hP3
   go_wp2_with fail
   refine (hi.out _ hS3.out.pp).mono ?_
   rintro e w4 ⟨rfl,hb4⟩
   have hS4:=hS3.out.on (Nat.le_refl _) (hS3.out.pp.below hb4) (Touch.of_below hb4 _)
   have b4:w4.cell? ⟨w.heap.size,0,none⟩=some (.pointer (some ⟨pb,0,none⟩)):=one_cell hS4.bp
   replace hb4:=Lib.hid hb4
   replace hS4:=Lib.hid hS4
   clear b3
   cases R with
   | error f=>
    go_wp2_with (go_at_call 64;refine (hls.out _ ⟨_,hS4.out⟩).mono ?_;rintro e w5 ⟨hT5,he⟩;obtain rfl:=he)
    exact⟨rfl,hlow.out _ (NTch.trans (tch_pb (hT3.out.trans (Touch.of_below hb4.out _))) hT5),rfl⟩
   | ok r=>
    obtain⟨ss,l'⟩:=r
    go_wp2_with fail
    refine (hls.out _ ⟨_,hS4.out⟩).mono ?_
    rintro e w5 ⟨hT5,hx⟩
    dsimp only at hx
    obtain⟨rfl,v5,i5,hl5,hS5⟩:=hx
    obtain⟨a5,c5,rfl⟩:=own_formP hS5.row
    have b5:w5.cell? ⟨w.heap.size+1,0,none⟩=some (.slice a5 ss.length c5):=one_cell hS5.bl
    replace hS5:=Lib.hid hS5
    replace hT5:=Lib.hid hT5
    replace hl5:=Lib.hid hl5
    go_wp2_with fail
    go_ret
    refine⟨hlow.out _ (NTch.trans (tch_pb (hT3.out.trans (Touch.of_below hb4.out _))) hT5.out),_,i5,rfl,hl5.out,hS5.out.pp,?_,hS5.out.bs⟩
    obtain⟨r1,r2⟩:=hS5.out.row
    refine⟨r1,r2.imp id ?_⟩
    rintro⟨g,cap,cur,e,h0,h2⟩
    exact⟨g,cap,cur,e,by omega,h2⟩
end
end
end Go.Proofs.YtgcanabckogmmaaDoor
