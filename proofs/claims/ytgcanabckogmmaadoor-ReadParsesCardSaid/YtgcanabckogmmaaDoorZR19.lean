/- RdZ2. -/
import Derived.Test.YtgcanabckogmmaaDoorZR18
namespace Go.Proofs.YtgcanabckogmmaaDoor
set_option linter.unusedVariables false
set_option linter.unusedSimpArgs false
section
open Go.RowKit Go.Maps Go.Shelf
attribute [local go_sem] Oper.semAt_some fld0 fld1 fld2
section
variable {B:Nat} {w w':World} {pb gw cw:Nat} {T:List Tok} {i ln vb bb b2 b3 b4:Nat} {acc:List Fun} {vf:Value}
theorem put_at (a:Act)(d:Option Tmp)(v:Value)(j:Nat)(h:d≠some j):(a.put d v).tmps[j]?=a.tmps[j]?:=by
 cases d with
 | none=>rfl
 | some k=>simp only [Act.put];rw [Array.getElem?_setIfInBounds_ne (fun e=>h (by rw [e]))]
theorem infoFunP:(Tryd.prog.info? 43).map (fun i=>(i.zero,i.size,i.bytes))=some (some (.agg #[.string ⟨#[]⟩,.slice none 0 0,.slice none 0 0]),3,64):=by kernel_rfl
set_option maxRecDepth 20000 in
set_option maxHeartbeats 4000000 in
theorem prog_blk {c:Code}(hc:Func.blockOf Tryd.f9 0=some c){Q:Exit→Act→World→Prop}{ds:List Deferred}{u0 u1 u5 u7 u8 u9 u10 u11 u12 u13 u14 u15 u16 u17 u18 u19 u20 u21 u22 u23 u24 u25 u26 u27 u28 u29 u30 u31 u32 u33 u34 u35 u36 u37 u38 u39 u40:Value}
  (h:LAt B w b2 pb gw cw T i ln vb bb acc vf) {n:Nat} (hn:(T.drop i).length+1≤n) {R:Except Flt (List Fun)} (hR:progP n acc (T.drop i) ln=R)
  (hPn:∀{x:List PanicEntry} {a a1:Act} {w:World},Q (.panic x) a w→a.defers=a1.defers→a.tmps[2]?=a1.tmps[2]?→a.tmps[3]?=a1.tmps[3]?→a.tmps[4]?=a1.tmps[4]?→Q (.panic x) a1 w)
  (hQ:Hid (∀{wx:World} {v26 v27 v28 v29 v30 v31 v32 v33 v34 v35 v36 v37 v38:Value},(Touch w wx (fun k=>k=pb∨k=b2∨B≤k)∧∃i2 ln2 acc2 vf2,LAt B wx b2 pb gw cw T i2 ln2 vb bb acc2 vf2∧R=.ok acc2)→Q .normal {tmps:=#[u0,u1,.pointer (some ⟨b2,0,none⟩),.pointer (some ⟨b3,0,none⟩),.pointer (some ⟨b4,0,none⟩),u5,.pointer (some ⟨pb,0,none⟩),u7,u8,u9,u10,u11,u12,u13,u14,u15,u16,u17,u18,u19,u20,u21,u22,u23,u24,u25,v26,v27,v28,v29,v30,v31,v32,v33,v34,v35,v36,v37,v38,u39,u40],defers:=ds} wx))
  (hE:Hid (∀{wx:World} {f:Flt} {a:Act},a.defers=ds→a.tmps[2]?=some (.pointer (some ⟨b2,0,none⟩))→a.tmps[3]?=some (.pointer (some ⟨b3,0,none⟩))→a.tmps[4]?=some (.pointer (some ⟨b4,0,none⟩))→Touch w wx (fun k=>k=pb∨k=b2∨B≤k)→(∃x,wx.heap[b2]?=some (.cells #[x] 24 (0,0)))→R=.error f→Q (.panic (chF f)) a wx)):
  c.wp Tryd.prog Q {tmps:=#[u0,u1,.pointer (some ⟨b2,0,none⟩),.pointer (some ⟨b3,0,none⟩),.pointer (some ⟨b4,0,none⟩),u5,.pointer (some ⟨pb,0,none⟩),u7,u8,u9,u10,u11,u12,u13,u14,u15,u16,u17,u18,u19,u20,u21,u22,u23,u24,u25,u26,u27,u28,u29,u30,u31,u32,u33,u34,u35,u36,u37,u38,u39,u40],defers:=ds} w:=by
 obtain⟨i0,hi0,hz0,hz1,hz2⟩:=info_parts infoFunP
 conv at hc=>lhs;whnf
 simp only [Option.some.injEq] at hc
 subst hc
 have hG:Hid (R=progP n acc (T.drop i) ln∧(T.drop i).length+1≤n∧LAt B w b2 pb gw cw T i ln vb bb acc vf∧Touch w w (fun k=>k=pb∨k=b2∨B≤k)):=Lib.hid ⟨hR.symm,hn,h,Touch.refl _ _⟩
 clear h hn hR
 go_wp2_with fail
 go_loopg [] n (fun k wr=>∃i2 ln2 acc2 vf2,Hid (R=progP k acc2 (T.drop i2) ln2∧(T.drop i2).length+1≤k∧LAt B wr b2 pb gw cw T i2 ln2 vb bb acc2 vf2∧Touch w wr (fun k=>k=pb∨k=b2∨B≤k)))
 case atStart=>exact⟨i,ln,acc,vf,hG⟩
 case round=>
  clear hG
  obtain⟨i2,ln2,acc2,vf2,hG⟩:=hrel
  obtain⟨hR,hk,hS,hT⟩:=hG.out
  obtain⟨t,ht,hd⟩:=hS.p.at
  obtain⟨q,hq⟩:∃q,(t.kind==4)=q:=⟨_,rfl⟩
  have hwd:=Lib.hid (word_any hS.p ht)
  have g1:((t.kind:Int) != 4)=!(t.kind==4):=by rw [show ((4:Int))=((4:Nat):Int) from rfl,bne,kindB]
  have hka:kindAt (T.drop i2) 4=q:=by rw [hd];exact hq
  rw [hq] at g1
  unfold tokV at hwd
  obtain⟨m,rfl⟩:∃m,gk=m+1:=⟨gk-1,by omega⟩
  unfold progP at hR
  rw [hka] at hR
  replace hT:=Lib.hid hT
  cases q with
  | true=>
   rw [if_pos rfl] at hR
   simp only [Bool.not_true] at g1
   replace hS:=Lib.hid hS
   replace hR:=Lib.hid hR
   clear hG hk ht hd hq hka
   go_wp2_with (go_at_call 19;refine hwd.out.mono ?_;rintro e w4 ⟨rfl,hb4⟩)
   exact hQ.out ⟨hT.out.trans (Touch.of_below hb4 _),i2,ln2,acc2,vf2,hS.out.on (Touch.of_below hb4 _) (hS.out.p.below hb4) (Nat.le_refl _),hR.out⟩
  | false=>
   rw [if_neg (by simp)] at hR
   simp only [Bool.not_false] at g1
   have hfn:=Lib.hid (fun (w':World) (hP:PAt B w' pb gw cw T i2 ln2 vb bb)=>function_any hP)
   obtain⟨av,cv,hv2⟩:=hS.row.form
   obtain⟨n2,hn2⟩:∃n2,n2=acc2.length:=⟨_,rfl⟩
   rw [←hn2] at hv2
   subst hv2
   replace hn2:=Lib.hid hn2
   clear hG ht hd hq hka
   cases hF:funcP (T.drop i2) ln2 with
   | error f=>
    rw [hF] at hR hfn
    dsimp only at hR
    replace hR:=Lib.hid hR
    replace hS:=Lib.hid hS
    clear hF hk
    go_upto_region 9 with (go_at_call 19;refine hwd.out.mono ?_;rintro e w4 ⟨rfl,hb4⟩)
    have hL4:=hS.out.on (Touch.of_below hb4 _) (hS.out.p.below hb4) (Nat.le_refl _)
    have t4:=Lib.hid (hT.out.trans (Touch.of_below hb4 (fun k=>k=pb∨k=b2∨B≤k)))
    have hPd:=Lib.hid (hL4.p.below (Below.refl _ _).drew)
    have hB4:=hL4.blk
    have z4:w4.drew.cell? ⟨b2,0,none⟩=some (.slice av n2 cv):=by
     show w4.cell? _=_
     rw [blk_cell hB4]
     rfl
    replace hB4:=Lib.hid hB4
    replace hL4:=Lib.hid hL4
    clear hb4 hwd
    refine wp_region_held_drew (S:=(fun _=>True)) (by kernel_rfl) trivial (fun hHeld=>?_)
    clear hHeld
    refine wpAnyH_take (i:=0) (oi:=(.mk (some 32) (.fieldAddr 24 (.tmp 2) 0) 0 "read.go:41" #[] none)) (v:=?_) rfl (by kernel_rfl) (by kernel_rfl) (by kernel_rfl) (fun _ _ _ h=>hPn h rfl (put_at _ _ _ _ (by decide)) (put_at _ _ _ _ (by decide)) (put_at _ _ _ _ (by decide))) (Or.inl ⟨by rfl,?_⟩) trivial ?_
    rotate_left
    ·(intro w hSw;(try dsimp only at hSw);go_simp;try with_reducible rfl)
    try simp only [Act.put,List.setIfInBounds_toArray,List.set_cons_zero,List.set_cons_succ]
    refine wpAnyH_take (i:=2) (oi:=(.mk (some 34) (.move (.tmp 6)) 59 "read.go:41" #[] none)) (v:=?_) rfl (by kernel_rfl) (by kernel_rfl) (by kernel_rfl) (fun _ _ _ h=>hPn h rfl (put_at _ _ _ _ (by decide)) (put_at _ _ _ _ (by decide)) (put_at _ _ _ _ (by decide))) (Or.inl ⟨by rfl,?_⟩) trivial ?_
    rotate_left
    ·(intro w hSw;(try dsimp only at hSw);go_simp;try with_reducible rfl)
    try simp only [Act.put,List.setIfInBounds_toArray,List.set_cons_zero,List.set_cons_succ]
    refine wpAnyH_ready (rs:=[1,3]) (by kernel_rfl) (by simp) (AllReadyH.cons (o:=(.mk (some 33) (.load 22 (.tmp 32)) 22 "read.go:41" #[.mk 0 .data] none)) rfl (fun K hK=>?_) (AllReadyH.cons (o:=(.mk (some 35) (.call (.mk (.value (.func 20)) #[(.tmp 34)] #[59])) 43 "read.go:41" #[.mk 2 .data] none)) rfl (fun K hK=>?_) AllReadyH.nil))
    ·skip
     go_simp
     skip
     refine hK.out _ _ trivial (fun hHeld=>?_)
     clear hK K hHeld
     try simp only [Act.put,List.setIfInBounds_toArray,List.set_cons_zero,List.set_cons_succ]
     refine wpAnyH_ready (rs:=[3]) (by kernel_rfl) (by simp) (AllReadyH.cons (o:=(.mk (some 35) (.call (.mk (.value (.func 20)) #[(.tmp 34)] #[59])) 43 "read.go:41" #[.mk 2 .data] none)) rfl (fun K hK=>?_) AllReadyH.nil)
     go_simp
     go_at_call 20
     refine (hfn.out _ hPd.out).mono ?_
     rintro e w6 ⟨hT6,he⟩
     obtain rfl:=he
     have t6:Touch w4 w6 (fun k=>k=pb):=(Touch.refl w4 _).drew.trans hT6
     exact hE.out rfl rfl rfl rfl (t4.out.trans (t6.mono fun k _ e=>.inl e)) ⟨_,(t6.block b2 (Nat.lt_of_lt_of_le hL4.out.lt hL4.out.p.top) hL4.out.neP).trans hB4.out⟩ hR.out
    ·skip
     go_simp
     go_at_call 20
     refine (hfn.out _ hPd.out).mono ?_
     rintro e w6 ⟨hT6,he⟩
     obtain rfl:=he
     have t6:Touch w4 w6 (fun k=>k=pb):=(Touch.refl w4 _).drew.trans hT6
     exact hE.out rfl rfl rfl rfl (t4.out.trans (t6.mono fun k _ e=>.inl e)) ⟨_,(t6.block b2 (Nat.lt_of_lt_of_le hL4.out.lt hL4.out.p.top) hL4.out.neP).trans hB4.out⟩ hR.out
   | ok r=>
    obtain⟨d3,l3,ln6⟩:=r
    have hlt:=Lib.hid (func_lt hF)
    rw [hF] at hR hfn
    dsimp only at hR
    cases hbgv:beginP l3 ln6 with
    | error f=>
     rw [hbgv] at hR
     dsimp only at hR
     have hbg:=Lib.hid (fun (w':World) (i3:Nat) (e:l3=T.drop i3) (hP:PAt B w' pb gw cw T i3 ln6 vb bb)=>begin_bad hP (e ▸ hbgv))
     replace hR:=Lib.hid hR
     replace hS:=Lib.hid hS
     clear hF hbgv hk
     go_upto_region 9 with (go_at_call 19;refine hwd.out.mono ?_;rintro e w4 ⟨rfl,hb4⟩)
     have hL4:=hS.out.on (Touch.of_below hb4 _) (hS.out.p.below hb4) (Nat.le_refl _)
     have t4:=Lib.hid (hT.out.trans (Touch.of_below hb4 (fun k=>k=pb∨k=b2∨B≤k)))
     have hPd:=Lib.hid (hL4.p.below (Below.refl _ _).drew)
     have hB4:=hL4.blk
     have z4:w4.drew.cell? ⟨b2,0,none⟩=some (.slice av n2 cv):=by
      show w4.cell? _=_
      rw [blk_cell hB4]
      rfl
     replace hB4:=Lib.hid hB4
     replace hL4:=Lib.hid hL4
     clear hb4 hwd
     refine wp_region_held_drew (S:=(fun _=>True)) (by kernel_rfl) trivial (fun hHeld=>?_)
     clear hHeld
     refine wpAnyH_take (i:=0) (oi:=(.mk (some 32) (.fieldAddr 24 (.tmp 2) 0) 0 "read.go:41" #[] none)) (v:=?_) rfl (by kernel_rfl) (by kernel_rfl) (by kernel_rfl) (fun _ _ _ h=>hPn h rfl (put_at _ _ _ _ (by decide)) (put_at _ _ _ _ (by decide)) (put_at _ _ _ _ (by decide))) (Or.inl ⟨by rfl,?_⟩) trivial ?_
     rotate_left
     ·(intro w hSw;(try dsimp only at hSw);go_simp;try with_reducible rfl)
     try simp only [Act.put,List.setIfInBounds_toArray,List.set_cons_zero,List.set_cons_succ]
     refine wpAnyH_take (i:=2) (oi:=(.mk (some 34) (.move (.tmp 6)) 59 "read.go:41" #[] none)) (v:=?_) rfl (by kernel_rfl) (by kernel_rfl) (by kernel_rfl) (fun _ _ _ h=>hPn h rfl (put_at _ _ _ _ (by decide)) (put_at _ _ _ _ (by decide)) (put_at _ _ _ _ (by decide))) (Or.inl ⟨by rfl,?_⟩) trivial ?_
     rotate_left
     ·(intro w hSw;(try dsimp only at hSw);go_simp;try with_reducible rfl)
     try simp only [Act.put,List.setIfInBounds_toArray,List.set_cons_zero,List.set_cons_succ]
     refine wpAnyH_ready (rs:=[1,3]) (by kernel_rfl) (by simp) (AllReadyH.cons (o:=(.mk (some 33) (.load 22 (.tmp 32)) 22 "read.go:41" #[.mk 0 .data] none)) rfl (fun K hK=>?_) (AllReadyH.cons (o:=(.mk (some 35) (.call (.mk (.value (.func 20)) #[(.tmp 34)] #[59])) 43 "read.go:41" #[.mk 2 .data] none)) rfl (fun K hK=>?_) AllReadyH.nil))
     ·skip
      go_simp
      skip
      refine hK.out _ _ trivial (fun hHeld=>?_)
      clear hK K hHeld
      try simp only [Act.put,List.setIfInBounds_toArray,List.set_cons_zero,List.set_cons_succ]
      refine wpAnyH_ready (rs:=[3]) (by kernel_rfl) (by simp) (AllReadyH.cons (o:=(.mk (some 35) (.call (.mk (.value (.func 20)) #[(.tmp 34)] #[59])) 43 "read.go:41" #[.mk 2 .data] none)) rfl (fun K hK=>?_) AllReadyH.nil)
      go_simp
      go_at_call 20
      refine (hfn.out _ hPd.out).mono ?_
      rintro e w6 ⟨hT6,hx⟩
      dsimp only at hx
      obtain⟨a1,c1,a2,c2,i6,rfl,hl6,hP6,hnb6,hrd6⟩:=hx
      have t6:Touch w4 w6 (fun k=>k=pb):=(Touch.refl w4 _).drew.trans hT6
      have hB6:w6.heap[b2]?=some (.cells #[.slice av n2 cv] 24 (0,0)):=(t6.block b2 (Nat.lt_of_lt_of_le hL4.out.lt hL4.out.p.top) hL4.out.neP).trans hB4.out
      have z6:w6.cell? ⟨b2,0,none⟩=some (.slice av n2 cv):=by
       rw [blk_cell hB6]
       rfl
      obtain⟨xs,hx1,hx2⟩:=hL4.out.row
      have hlow6:B≤w6.heap.size:=hP6.top
      have h2i:=hL4.out.n
      have hi6:i2+1≤i6:=by
       have h7:=hlt.out
       have h8:=hP6.here
       have h9:=hL4.out.p.here
       rw [hl6,List.length_drop,List.length_drop] at h7
       omega
      have hi6T:i6<T.length:=hP6.here
      have hlenT:=hP6.ok.len
      have hnB:∀g,(Value.slice av n2 cv).ownBlock=some g→B≤g:=fun g hg=>(hx1.lt g hg).1
      have hpbB:=hL4.out.p.ltP
      have hb2B:=hL4.out.lt
      have hb2l:b2<w6.heap.size:=Nat.lt_of_lt_of_le hb2B hlow6
      rw [←hn2.out] at h2i
      have hO6:=ownsRow_touch hx1 t6 (fun g hg e=>by have:=hnB g hg;omega)
      rw [←hn2.out] at hO6
      have hown:=Lib.hid (ownsRow_touch (S:=fun _=>False) hO6 ((Touch.refl w6 _).alloc (.cells #[.string d3.name,.slice a1 d3.params.length c1,.slice a2 d3.blocks.length c2] 43)) (fun _ _ h=>h))
      replace hx1:=Lib.hid hx1
      replace hx2:=Lib.hid hx2
      replace t6:=Lib.hid t6
      replace hB6:=Lib.hid hB6
      replace hP6:=Lib.hid hP6
      replace hrd6:=Lib.hid hrd6
      replace hl6:=Lib.hid hl6
      replace hnB:=Lib.hid hnB
      clear hT6 hnb6 hO6
      go_simp
      refine hK.out _ _ trivial (fun hHeld=>?_)
      clear hK K hHeld
      try simp only [Act.put,List.setIfInBounds_toArray,List.set_cons_zero,List.set_cons_succ]
      refine wpAnyH_ready (rs:=[4]) (by kernel_rfl) (by simp) (AllReadyH.cons (o:=(.mk (some 36) (.buildSlice 22 1 #[(0,(.tmp 35))]) 22 "read.go:41" #[.mk 3 .data] none)) rfl (fun K hK=>?_) AllReadyH.nil)
      go_simp
      skip
      refine hK.out _ _ trivial (fun hHeld=>?_)
      clear hK K hHeld
      try simp only [Act.put,List.setIfInBounds_toArray,List.set_cons_zero,List.set_cons_succ]
      refine wpAnyH_ready (rs:=[5]) (by kernel_rfl) (by simp) (AllReadyH.cons (o:=(.mk (some 37) (.call (.mk (.builtin Builtin.append) #[(.tmp 33),(.tmp 36)] #[22,22])) 22 "read.go:41" #[.mk 1 .data,.mk 4 .data,.mk 3 .chain] none)) rfl (fun K hK=>?_) AllReadyH.nil)
      refine step_append_lies _ (by rfl) _ _ _ (by rfl) B 43 i0 _ 3 64 Tryd.underlying22 hi0 hz0 hz1 hz2 rfl (by omega) (.slice av n2 cv) n2 xs (by rfl) hown.out ⟨w6.heap.size,0,none⟩ 1 1 [.string d3.name,.slice a1 d3.params.length c1,.slice a2 d3.blocks.length c2] (by rfl) (by rfl) (World.news_of_block (cs:=#[.string d3.name,.slice a1 d3.params.length c1,.slice a2 d3.blocks.length c2]) (t:=43) (fr:=(0,0)) (heap_alloc_new w6 _)) (by simp [Value.oneCell']) (by omega) (by unfold maxLen;omega) (by omega) (by simp;omega) (w6.heap.size+1) (by simp) ?_
      intro gg cap2 w7 hO7 hg7 hat7 hlt7
      have h88:LAt B (w7.setCell ⟨b2,0,none⟩ (.slice (some ⟨gg,0,none⟩) (n2+1) cap2)) b2 pb gw cw T i6 ln6 vb bb (acc2++[d3]) (.slice (some ⟨gg,0,none⟩) (n2+1) cap2)∧Touch w4 (w7.setCell ⟨b2,0,none⟩ (.slice (some ⟨gg,0,none⟩) (n2+1) cap2)) (fun k=>k=pb∨k=b2∨B≤k):=by
       have hO7:=hO7
       have hL:=hL4.out
       have hx1:=hx1.out
       have hx2:=hx2.out
       have hgx:=hg7
       rw [hn2.out] at hO7 ⊢
       rw [hn2.out] at hL hx1 hx2 hgx hat7
       exact LAt.add hL t6.out hP6.out hi6 hrd6.out hx1 hx2 hO7 hgx hat7
      have hB7:w7.heap[b2]?=some (.cells #[.slice av n2 cv] 24 (0,0)):=((((Touch.refl w6 (fun k=>(Value.slice av n2 cv).ownBlock=some k)).alloc (.cells #[.string d3.name,.slice a1 d3.params.length c1,.slice a2 d3.blocks.length c2] 43)).trans (Touch.of_grown hg7 (fun k e=>e))).block b2 hb2l (fun e=>by have:=hnB.out _ e;omega)).trans hB6.out
      have z7:w7.cell? ⟨b2,0,none⟩=some (.slice av n2 cv):=by
       rw [blk_cell hB7]
       rfl
      have y7:=frozB hB7 0
      have h88:=Lib.hid h88
      have hgl:gg<w7.heap.size:=hlt7
      clear hO7 hg7 hat7 hown hlt7 z6 hB7
      refine hK.out _ _ trivial (fun hHeld=>?_)
      clear hK K hHeld
      try simp only [Act.put,List.setIfInBounds_toArray,List.set_cons_zero,List.set_cons_succ]
      refine wpAnyH_take (i:=6) (oi:=(.mk (some 38) (.fieldAddr 24 (.tmp 2) 0) 0 "read.go:41" #[.mk 0 .phase,.mk 1 .phase,.mk 2 .phase,.mk 3 .phase,.mk 4 .phase,.mk 5 .phase] none)) (v:=?_) rfl (by kernel_rfl) (by kernel_rfl) (by kernel_rfl) (fun _ _ _ h=>hPn h rfl (put_at _ _ _ _ (by decide)) (put_at _ _ _ _ (by decide)) (put_at _ _ _ _ (by decide))) (Or.inl ⟨by rfl,?_⟩) trivial ?_
      rotate_left
      ·(intro w hSw;(try dsimp only at hSw);go_simp;try with_reducible rfl)
      try simp only [Act.put,List.setIfInBounds_toArray,List.set_cons_zero,List.set_cons_succ]
      refine wpAnyH_ready (rs:=[7]) (by kernel_rfl) (by simp) (AllReadyH.cons (o:=(.mk none (.store 22 (.tmp 38) (.tmp 37)) 0 "read.go:41" #[.mk 6 .data,.mk 5 .data,.mk 5 .chain,.mk 0 .phase,.mk 1 .phase,.mk 2 .phase,.mk 3 .phase,.mk 4 .phase,.mk 5 .phase] none)) rfl (fun K hK=>?_) AllReadyH.nil)
      go_simp
      skip
      refine hK.out _ _ trivial (fun hHeld=>?_)
      clear hK K hHeld
      try simp only [Act.put,List.setIfInBounds_toArray,List.set_cons_zero,List.set_cons_succ]
      refine wpAnyH_done (by kernel_rfl) ?_ _
      have hL8:=h88.out.1
      have t8:=Lib.hid (t4.out.trans h88.out.2)
      replace hL8:=Lib.hid hL8
      have hbg2:=Lib.hid (hbg.out _ i6 hl6.out hL8.out.p)
      clear h88
      go_wp2_with (go_at_call 18;refine hbg2.out.mono ?_;rintro e w9 ⟨rfl,hb9⟩)
      exact hE.out rfl rfl rfl rfl (t8.out.trans (Touch.of_below hb9 _)) ⟨_,keepB hb9 hL8.out.blk⟩ hR.out
     ·skip
      go_simp
      go_at_call 20
      refine (hfn.out _ hPd.out).mono ?_
      rintro e w6 ⟨hT6,hx⟩
      dsimp only at hx
      obtain⟨a1,c1,a2,c2,i6,rfl,hl6,hP6,hnb6,hrd6⟩:=hx
      have t6:Touch w4 w6 (fun k=>k=pb):=(Touch.refl w4 _).drew.trans hT6
      have hB6:w6.heap[b2]?=some (.cells #[.slice av n2 cv] 24 (0,0)):=(t6.block b2 (Nat.lt_of_lt_of_le hL4.out.lt hL4.out.p.top) hL4.out.neP).trans hB4.out
      have z6:w6.cell? ⟨b2,0,none⟩=some (.slice av n2 cv):=by
       rw [blk_cell hB6]
       rfl
      obtain⟨xs,hx1,hx2⟩:=hL4.out.row
      have hlow6:B≤w6.heap.size:=hP6.top
      have h2i:=hL4.out.n
      have hi6:i2+1≤i6:=by
       have h7:=hlt.out
       have h8:=hP6.here
       have h9:=hL4.out.p.here
       rw [hl6,List.length_drop,List.length_drop] at h7
       omega
      have hi6T:i6<T.length:=hP6.here
      have hlenT:=hP6.ok.len
      have hnB:∀g,(Value.slice av n2 cv).ownBlock=some g→B≤g:=fun g hg=>(hx1.lt g hg).1
      have hpbB:=hL4.out.p.ltP
      have hb2B:=hL4.out.lt
      have hb2l:b2<w6.heap.size:=Nat.lt_of_lt_of_le hb2B hlow6
      rw [←hn2.out] at h2i
      have hO6:=ownsRow_touch hx1 t6 (fun g hg e=>by have:=hnB g hg;omega)
      rw [←hn2.out] at hO6
      have hown:=Lib.hid (ownsRow_touch (S:=fun _=>False) hO6 ((Touch.refl w6 _).alloc (.cells #[.string d3.name,.slice a1 d3.params.length c1,.slice a2 d3.blocks.length c2] 43)) (fun _ _ h=>h))
      replace hx1:=Lib.hid hx1
      replace hx2:=Lib.hid hx2
      replace t6:=Lib.hid t6
      replace hB6:=Lib.hid hB6
      replace hP6:=Lib.hid hP6
      replace hrd6:=Lib.hid hrd6
      replace hl6:=Lib.hid hl6
      replace hnB:=Lib.hid hnB
      clear hT6 hnb6 hO6
      go_simp
      refine hK.out _ _ trivial (fun hHeld=>?_)
      clear hK K hHeld
      try simp only [Act.put,List.setIfInBounds_toArray,List.set_cons_zero,List.set_cons_succ]
      refine wpAnyH_ready (rs:=[1,4]) (by kernel_rfl) (by simp) (AllReadyH.cons (o:=(.mk (some 33) (.load 22 (.tmp 32)) 22 "read.go:41" #[.mk 0 .data] none)) rfl (fun K hK=>?_) (AllReadyH.cons (o:=(.mk (some 36) (.buildSlice 22 1 #[(0,(.tmp 35))]) 22 "read.go:41" #[.mk 3 .data] none)) rfl (fun K hK=>?_) AllReadyH.nil))
      ·skip
       go_simp
       skip
       refine hK.out _ _ trivial (fun hHeld=>?_)
       clear hK K hHeld
       try simp only [Act.put,List.setIfInBounds_toArray,List.set_cons_zero,List.set_cons_succ]
       refine wpAnyH_ready (rs:=[4]) (by kernel_rfl) (by simp) (AllReadyH.cons (o:=(.mk (some 36) (.buildSlice 22 1 #[(0,(.tmp 35))]) 22 "read.go:41" #[.mk 3 .data] none)) rfl (fun K hK=>?_) AllReadyH.nil)
       go_simp
       skip
       refine hK.out _ _ trivial (fun hHeld=>?_)
       clear hK K hHeld
       try simp only [Act.put,List.setIfInBounds_toArray,List.set_cons_zero,List.set_cons_succ]
       refine wpAnyH_ready (rs:=[5]) (by kernel_rfl) (by simp) (AllReadyH.cons (o:=(.mk (some 37) (.call (.mk (.builtin Builtin.append) #[(.tmp 33),(.tmp 36)] #[22,22])) 22 "read.go:41" #[.mk 1 .data,.mk 4 .data,.mk 3 .chain] none)) rfl (fun K hK=>?_) AllReadyH.nil)
       refine step_append_lies _ (by rfl) _ _ _ (by rfl) B 43 i0 _ 3 64 Tryd.underlying22 hi0 hz0 hz1 hz2 rfl (by omega) (.slice av n2 cv) n2 xs (by rfl) hown.out ⟨w6.heap.size,0,none⟩ 1 1 [.string d3.name,.slice a1 d3.params.length c1,.slice a2 d3.blocks.length c2] (by rfl) (by rfl) (World.news_of_block (cs:=#[.string d3.name,.slice a1 d3.params.length c1,.slice a2 d3.blocks.length c2]) (t:=43) (fr:=(0,0)) (heap_alloc_new w6 _)) (by simp [Value.oneCell']) (by omega) (by unfold maxLen;omega) (by omega) (by simp;omega) (w6.heap.size+1) (by simp) ?_
       intro gg cap2 w7 hO7 hg7 hat7 hlt7
       have h88:LAt B (w7.setCell ⟨b2,0,none⟩ (.slice (some ⟨gg,0,none⟩) (n2+1) cap2)) b2 pb gw cw T i6 ln6 vb bb (acc2++[d3]) (.slice (some ⟨gg,0,none⟩) (n2+1) cap2)∧Touch w4 (w7.setCell ⟨b2,0,none⟩ (.slice (some ⟨gg,0,none⟩) (n2+1) cap2)) (fun k=>k=pb∨k=b2∨B≤k):=by
        have hO7:=hO7
        have hL:=hL4.out
        have hx1:=hx1.out
        have hx2:=hx2.out
        have hgx:=hg7
        rw [hn2.out] at hO7 ⊢
        rw [hn2.out] at hL hx1 hx2 hgx hat7
        exact LAt.add hL t6.out hP6.out hi6 hrd6.out hx1 hx2 hO7 hgx hat7
       have hB7:w7.heap[b2]?=some (.cells #[.slice av n2 cv] 24 (0,0)):=((((Touch.refl w6 (fun k=>(Value.slice av n2 cv).ownBlock=some k)).alloc (.cells #[.string d3.name,.slice a1 d3.params.length c1,.slice a2 d3.blocks.length c2] 43)).trans (Touch.of_grown hg7 (fun k e=>e))).block b2 hb2l (fun e=>by have:=hnB.out _ e;omega)).trans hB6.out
       have z7:w7.cell? ⟨b2,0,none⟩=some (.slice av n2 cv):=by
        rw [blk_cell hB7]
        rfl
       have y7:=frozB hB7 0
       have h88:=Lib.hid h88
       have hgl:gg<w7.heap.size:=hlt7
       clear hO7 hg7 hat7 hown hlt7 z6 hB7
       refine hK.out _ _ trivial (fun hHeld=>?_)
       clear hK K hHeld
       try simp only [Act.put,List.setIfInBounds_toArray,List.set_cons_zero,List.set_cons_succ]
       refine wpAnyH_take (i:=6) (oi:=(.mk (some 38) (.fieldAddr 24 (.tmp 2) 0) 0 "read.go:41" #[.mk 0 .phase,.mk 1 .phase,.mk 2 .phase,.mk 3 .phase,.mk 4 .phase,.mk 5 .phase] none)) (v:=?_) rfl (by kernel_rfl) (by kernel_rfl) (by kernel_rfl) (fun _ _ _ h=>hPn h rfl (put_at _ _ _ _ (by decide)) (put_at _ _ _ _ (by decide)) (put_at _ _ _ _ (by decide))) (Or.inl ⟨by rfl,?_⟩) trivial ?_
       rotate_left
       ·(intro w hSw;(try dsimp only at hSw);go_simp;try with_reducible rfl)
       try simp only [Act.put,List.setIfInBounds_toArray,List.set_cons_zero,List.set_cons_succ]
       refine wpAnyH_ready (rs:=[7]) (by kernel_rfl) (by simp) (AllReadyH.cons (o:=(.mk none (.store 22 (.tmp 38) (.tmp 37)) 0 "read.go:41" #[.mk 6 .data,.mk 5 .data,.mk 5 .chain,.mk 0 .phase,.mk 1 .phase,.mk 2 .phase,.mk 3 .phase,.mk 4 .phase,.mk 5 .phase] none)) rfl (fun K hK=>?_) AllReadyH.nil)
       go_simp
       skip
       refine hK.out _ _ trivial (fun hHeld=>?_)
       clear hK K hHeld
       try simp only [Act.put,List.setIfInBounds_toArray,List.set_cons_zero,List.set_cons_succ]
       refine wpAnyH_done (by kernel_rfl) ?_ _
       have hL8:=h88.out.1
       have t8:=Lib.hid (t4.out.trans h88.out.2)
       replace hL8:=Lib.hid hL8
       have hbg2:=Lib.hid (hbg.out _ i6 hl6.out hL8.out.p)
       clear h88
       go_wp2_with (go_at_call 18;refine hbg2.out.mono ?_;rintro e w9 ⟨rfl,hb9⟩)
       exact hE.out rfl rfl rfl rfl (t8.out.trans (Touch.of_below hb9 _)) ⟨_,keepB hb9 hL8.out.blk⟩ hR.out
      ·skip
       go_simp
       skip
       refine hK.out _ _ trivial (fun hHeld=>?_)
       clear hK K hHeld
       try simp only [Act.put,List.setIfInBounds_toArray,List.set_cons_zero,List.set_cons_succ]
       refine wpAnyH_ready (rs:=[1]) (by kernel_rfl) (by simp) (AllReadyH.cons (o:=(.mk (some 33) (.load 22 (.tmp 32)) 22 "read.go:41" #[.mk 0 .data] none)) rfl (fun K hK=>?_) AllReadyH.nil)
       go_simp
       skip
       refine hK.out _ _ trivial (fun hHeld=>?_)
       clear hK K hHeld
       try simp only [Act.put,List.setIfInBounds_toArray,List.set_cons_zero,List.set_cons_succ]
       refine wpAnyH_ready (rs:=[5]) (by kernel_rfl) (by simp) (AllReadyH.cons (o:=(.mk (some 37) (.call (.mk (.builtin Builtin.append) #[(.tmp 33),(.tmp 36)] #[22,22])) 22 "read.go:41" #[.mk 1 .data,.mk 4 .data,.mk 3 .chain] none)) rfl (fun K hK=>?_) AllReadyH.nil)
       refine step_append_lies _ (by rfl) _ _ _ (by rfl) B 43 i0 _ 3 64 Tryd.underlying22 hi0 hz0 hz1 hz2 rfl (by omega) (.slice av n2 cv) n2 xs (by rfl) hown.out ⟨w6.heap.size,0,none⟩ 1 1 [.string d3.name,.slice a1 d3.params.length c1,.slice a2 d3.blocks.length c2] (by rfl) (by rfl) (World.news_of_block (cs:=#[.string d3.name,.slice a1 d3.params.length c1,.slice a2 d3.blocks.length c2]) (t:=43) (fr:=(0,0)) (heap_alloc_new w6 _)) (by simp [Value.oneCell']) (by omega) (by unfold maxLen;omega) (by omega) (by simp;omega) (w6.heap.size+1) (by simp) ?_
       intro gg cap2 w7 hO7 hg7 hat7 hlt7
       have h88:LAt B (w7.setCell ⟨b2,0,none⟩ (.slice (some ⟨gg,0,none⟩) (n2+1) cap2)) b2 pb gw cw T i6 ln6 vb bb (acc2++[d3]) (.slice (some ⟨gg,0,none⟩) (n2+1) cap2)∧Touch w4 (w7.setCell ⟨b2,0,none⟩ (.slice (some ⟨gg,0,none⟩) (n2+1) cap2)) (fun k=>k=pb∨k=b2∨B≤k):=by
        have hO7:=hO7
        have hL:=hL4.out
        have hx1:=hx1.out
        have hx2:=hx2.out
        have hgx:=hg7
        rw [hn2.out] at hO7 ⊢
        rw [hn2.out] at hL hx1 hx2 hgx hat7
        exact LAt.add hL t6.out hP6.out hi6 hrd6.out hx1 hx2 hO7 hgx hat7
       have hB7:w7.heap[b2]?=some (.cells #[.slice av n2 cv] 24 (0,0)):=((((Touch.refl w6 (fun k=>(Value.slice av n2 cv).ownBlock=some k)).alloc (.cells #[.string d3.name,.slice a1 d3.params.length c1,.slice a2 d3.blocks.length c2] 43)).trans (Touch.of_grown hg7 (fun k e=>e))).block b2 hb2l (fun e=>by have:=hnB.out _ e;omega)).trans hB6.out
       have z7:w7.cell? ⟨b2,0,none⟩=some (.slice av n2 cv):=by
        rw [blk_cell hB7]
        rfl
       have y7:=frozB hB7 0
       have h88:=Lib.hid h88
       have hgl:gg<w7.heap.size:=hlt7
       clear hO7 hg7 hat7 hown hlt7 z6 hB7
       refine hK.out _ _ trivial (fun hHeld=>?_)
       clear hK K hHeld
       try simp only [Act.put,List.setIfInBounds_toArray,List.set_cons_zero,List.set_cons_succ]
       refine wpAnyH_take (i:=6) (oi:=(.mk (some 38) (.fieldAddr 24 (.tmp 2) 0) 0 "read.go:41" #[.mk 0 .phase,.mk 1 .phase,.mk 2 .phase,.mk 3 .phase,.mk 4 .phase,.mk 5 .phase] none)) (v:=?_) rfl (by kernel_rfl) (by kernel_rfl) (by kernel_rfl) (fun _ _ _ h=>hPn h rfl (put_at _ _ _ _ (by decide)) (put_at _ _ _ _ (by decide)) (put_at _ _ _ _ (by decide))) (Or.inl ⟨by rfl,?_⟩) trivial ?_
       rotate_left
       ·(intro w hSw;(try dsimp only at hSw);go_simp;try with_reducible rfl)
       try simp only [Act.put,List.setIfInBounds_toArray,List.set_cons_zero,List.set_cons_succ]
       refine wpAnyH_ready (rs:=[7]) (by kernel_rfl) (by simp) (AllReadyH.cons (o:=(.mk none (.store 22 (.tmp 38) (.tmp 37)) 0 "read.go:41" #[.mk 6 .data,.mk 5 .data,.mk 5 .chain,.mk 0 .phase,.mk 1 .phase,.mk 2 .phase,.mk 3 .phase,.mk 4 .phase,.mk 5 .phase] none)) rfl (fun K hK=>?_) AllReadyH.nil)
       go_simp
       skip
       refine hK.out _ _ trivial (fun hHeld=>?_)
       clear hK K hHeld
       try simp only [Act.put,List.setIfInBounds_toArray,List.set_cons_zero,List.set_cons_succ]
       refine wpAnyH_done (by kernel_rfl) ?_ _
       have hL8:=h88.out.1
       have t8:=Lib.hid (t4.out.trans h88.out.2)
       replace hL8:=Lib.hid hL8
       have hbg2:=Lib.hid (hbg.out _ i6 hl6.out hL8.out.p)
       clear h88
       go_wp2_with (go_at_call 18;refine hbg2.out.mono ?_;rintro e w9 ⟨rfl,hb9⟩)
       exact hE.out rfl rfl rfl rfl (t8.out.trans (Touch.of_below hb9 _)) ⟨_,keepB hb9 hL8.out.blk⟩ hR.out
    | ok ln7=>
     rw [hbgv] at hR
     dsimp only at hR
     have hbg:=Lib.hid (fun (w':World) (i3:Nat) (e:l3=T.drop i3) (hP:PAt B w' pb gw cw T i3 ln6 vb bb)=>begin_ok hP (e ▸ hbgv))
     replace hR:=Lib.hid hR
     replace hS:=Lib.hid hS
     clear hF hbgv
     go_upto_region 9 with (go_at_call 19;refine hwd.out.mono ?_;rintro e w4 ⟨rfl,hb4⟩)
     have hL4:=hS.out.on (Touch.of_below hb4 _) (hS.out.p.below hb4) (Nat.le_refl _)
     have t4:=Lib.hid (hT.out.trans (Touch.of_below hb4 (fun k=>k=pb∨k=b2∨B≤k)))
     have hPd:=Lib.hid (hL4.p.below (Below.refl _ _).drew)
     have hB4:=hL4.blk
     have z4:w4.drew.cell? ⟨b2,0,none⟩=some (.slice av n2 cv):=by
      show w4.cell? _=_
      rw [blk_cell hB4]
      rfl
     replace hB4:=Lib.hid hB4
     replace hL4:=Lib.hid hL4
     clear hb4 hwd
     refine wp_region_held_drew (S:=(fun _=>True)) (by kernel_rfl) trivial (fun hHeld=>?_)
     clear hHeld
     refine wpAnyH_take (i:=0) (oi:=(.mk (some 32) (.fieldAddr 24 (.tmp 2) 0) 0 "read.go:41" #[] none)) (v:=?_) rfl (by kernel_rfl) (by kernel_rfl) (by kernel_rfl) (fun _ _ _ h=>hPn h rfl (put_at _ _ _ _ (by decide)) (put_at _ _ _ _ (by decide)) (put_at _ _ _ _ (by decide))) (Or.inl ⟨by rfl,?_⟩) trivial ?_
     rotate_left
     ·(intro w hSw;(try dsimp only at hSw);go_simp;try with_reducible rfl)
     try simp only [Act.put,List.setIfInBounds_toArray,List.set_cons_zero,List.set_cons_succ]
     refine wpAnyH_take (i:=2) (oi:=(.mk (some 34) (.move (.tmp 6)) 59 "read.go:41" #[] none)) (v:=?_) rfl (by kernel_rfl) (by kernel_rfl) (by kernel_rfl) (fun _ _ _ h=>hPn h rfl (put_at _ _ _ _ (by decide)) (put_at _ _ _ _ (by decide)) (put_at _ _ _ _ (by decide))) (Or.inl ⟨by rfl,?_⟩) trivial ?_
     rotate_left
     ·(intro w hSw;(try dsimp only at hSw);go_simp;try with_reducible rfl)
     try simp only [Act.put,List.setIfInBounds_toArray,List.set_cons_zero,List.set_cons_succ]
     refine wpAnyH_ready (rs:=[1,3]) (by kernel_rfl) (by simp) (AllReadyH.cons (o:=(.mk (some 33) (.load 22 (.tmp 32)) 22 "read.go:41" #[.mk 0 .data] none)) rfl (fun K hK=>?_) (AllReadyH.cons (o:=(.mk (some 35) (.call (.mk (.value (.func 20)) #[(.tmp 34)] #[59])) 43 "read.go:41" #[.mk 2 .data] none)) rfl (fun K hK=>?_) AllReadyH.nil))
     ·skip
      go_simp
      skip
      refine hK.out _ _ trivial (fun hHeld=>?_)
      clear hK K hHeld
      try simp only [Act.put,List.setIfInBounds_toArray,List.set_cons_zero,List.set_cons_succ]
      refine wpAnyH_ready (rs:=[3]) (by kernel_rfl) (by simp) (AllReadyH.cons (o:=(.mk (some 35) (.call (.mk (.value (.func 20)) #[(.tmp 34)] #[59])) 43 "read.go:41" #[.mk 2 .data] none)) rfl (fun K hK=>?_) AllReadyH.nil)
      go_simp
      go_at_call 20
      refine (hfn.out _ hPd.out).mono ?_
      rintro e w6 ⟨hT6,hx⟩
      dsimp only at hx
      obtain⟨a1,c1,a2,c2,i6,rfl,hl6,hP6,hnb6,hrd6⟩:=hx
      have t6:Touch w4 w6 (fun k=>k=pb):=(Touch.refl w4 _).drew.trans hT6
      have hB6:w6.heap[b2]?=some (.cells #[.slice av n2 cv] 24 (0,0)):=(t6.block b2 (Nat.lt_of_lt_of_le hL4.out.lt hL4.out.p.top) hL4.out.neP).trans hB4.out
      have z6:w6.cell? ⟨b2,0,none⟩=some (.slice av n2 cv):=by
       rw [blk_cell hB6]
       rfl
      obtain⟨xs,hx1,hx2⟩:=hL4.out.row
      have hlow6:B≤w6.heap.size:=hP6.top
      have h2i:=hL4.out.n
      have hi6:i2+1≤i6:=by
       have h7:=hlt.out
       have h8:=hP6.here
       have h9:=hL4.out.p.here
       rw [hl6,List.length_drop,List.length_drop] at h7
       omega
      have hi6T:i6<T.length:=hP6.here
      have hlenT:=hP6.ok.len
      have hnB:∀g,(Value.slice av n2 cv).ownBlock=some g→B≤g:=fun g hg=>(hx1.lt g hg).1
      have hpbB:=hL4.out.p.ltP
      have hb2B:=hL4.out.lt
      have hb2l:b2<w6.heap.size:=Nat.lt_of_lt_of_le hb2B hlow6
      rw [←hn2.out] at h2i
      have hO6:=ownsRow_touch hx1 t6 (fun g hg e=>by have:=hnB g hg;omega)
      rw [←hn2.out] at hO6
      have hown:=Lib.hid (ownsRow_touch (S:=fun _=>False) hO6 ((Touch.refl w6 _).alloc (.cells #[.string d3.name,.slice a1 d3.params.length c1,.slice a2 d3.blocks.length c2] 43)) (fun _ _ h=>h))
      replace hx1:=Lib.hid hx1
      replace hx2:=Lib.hid hx2
      replace t6:=Lib.hid t6
      replace hB6:=Lib.hid hB6
      replace hP6:=Lib.hid hP6
      replace hrd6:=Lib.hid hrd6
      replace hl6:=Lib.hid hl6
      replace hnB:=Lib.hid hnB
      clear hT6 hnb6 hO6
      go_simp
      refine hK.out _ _ trivial (fun hHeld=>?_)
      clear hK K hHeld
      try simp only [Act.put,List.setIfInBounds_toArray,List.set_cons_zero,List.set_cons_succ]
      refine wpAnyH_ready (rs:=[4]) (by kernel_rfl) (by simp) (AllReadyH.cons (o:=(.mk (some 36) (.buildSlice 22 1 #[(0,(.tmp 35))]) 22 "read.go:41" #[.mk 3 .data] none)) rfl (fun K hK=>?_) AllReadyH.nil)
      go_simp
      skip
      refine hK.out _ _ trivial (fun hHeld=>?_)
      clear hK K hHeld
      try simp only [Act.put,List.setIfInBounds_toArray,List.set_cons_zero,List.set_cons_succ]
      refine wpAnyH_ready (rs:=[5]) (by kernel_rfl) (by simp) (AllReadyH.cons (o:=(.mk (some 37) (.call (.mk (.builtin Builtin.append) #[(.tmp 33),(.tmp 36)] #[22,22])) 22 "read.go:41" #[.mk 1 .data,.mk 4 .data,.mk 3 .chain] none)) rfl (fun K hK=>?_) AllReadyH.nil)
      refine step_append_lies _ (by rfl) _ _ _ (by rfl) B 43 i0 _ 3 64 Tryd.underlying22 hi0 hz0 hz1 hz2 rfl (by omega) (.slice av n2 cv) n2 xs (by rfl) hown.out ⟨w6.heap.size,0,none⟩ 1 1 [.string d3.name,.slice a1 d3.params.length c1,.slice a2 d3.blocks.length c2] (by rfl) (by rfl) (World.news_of_block (cs:=#[.string d3.name,.slice a1 d3.params.length c1,.slice a2 d3.blocks.length c2]) (t:=43) (fr:=(0,0)) (heap_alloc_new w6 _)) (by simp [Value.oneCell']) (by omega) (by unfold maxLen;omega) (by omega) (by simp;omega) (w6.heap.size+1) (by simp) ?_
      intro gg cap2 w7 hO7 hg7 hat7 hlt7
      have h88:LAt B (w7.setCell ⟨b2,0,none⟩ (.slice (some ⟨gg,0,none⟩) (n2+1) cap2)) b2 pb gw cw T i6 ln6 vb bb (acc2++[d3]) (.slice (some ⟨gg,0,none⟩) (n2+1) cap2)∧Touch w4 (w7.setCell ⟨b2,0,none⟩ (.slice (some ⟨gg,0,none⟩) (n2+1) cap2)) (fun k=>k=pb∨k=b2∨B≤k):=by
       have hO7:=hO7
       have hL:=hL4.out
       have hx1:=hx1.out
       have hx2:=hx2.out
       have hgx:=hg7
       rw [hn2.out] at hO7 ⊢
       rw [hn2.out] at hL hx1 hx2 hgx hat7
       exact LAt.add hL t6.out hP6.out hi6 hrd6.out hx1 hx2 hO7 hgx hat7
      have hB7:w7.heap[b2]?=some (.cells #[.slice av n2 cv] 24 (0,0)):=((((Touch.refl w6 (fun k=>(Value.slice av n2 cv).ownBlock=some k)).alloc (.cells #[.string d3.name,.slice a1 d3.params.length c1,.slice a2 d3.blocks.length c2] 43)).trans (Touch.of_grown hg7 (fun k e=>e))).block b2 hb2l (fun e=>by have:=hnB.out _ e;omega)).trans hB6.out
      have z7:w7.cell? ⟨b2,0,none⟩=some (.slice av n2 cv):=by
       rw [blk_cell hB7]
       rfl
      have y7:=frozB hB7 0
      have h88:=Lib.hid h88
      have hgl:gg<w7.heap.size:=hlt7
      clear hO7 hg7 hat7 hown hlt7 z6 hB7
      refine hK.out _ _ trivial (fun hHeld=>?_)
      clear hK K hHeld
      try simp only [Act.put,List.setIfInBounds_toArray,List.set_cons_zero,List.set_cons_succ]
      refine wpAnyH_take (i:=6) (oi:=(.mk (some 38) (.fieldAddr 24 (.tmp 2) 0) 0 "read.go:41" #[.mk 0 .phase,.mk 1 .phase,.mk 2 .phase,.mk 3 .phase,.mk 4 .phase,.mk 5 .phase] none)) (v:=?_) rfl (by kernel_rfl) (by kernel_rfl) (by kernel_rfl) (fun _ _ _ h=>hPn h rfl (put_at _ _ _ _ (by decide)) (put_at _ _ _ _ (by decide)) (put_at _ _ _ _ (by decide))) (Or.inl ⟨by rfl,?_⟩) trivial ?_
      rotate_left
      ·(intro w hSw;(try dsimp only at hSw);go_simp;try with_reducible rfl)
      try simp only [Act.put,List.setIfInBounds_toArray,List.set_cons_zero,List.set_cons_succ]
      refine wpAnyH_ready (rs:=[7]) (by kernel_rfl) (by simp) (AllReadyH.cons (o:=(.mk none (.store 22 (.tmp 38) (.tmp 37)) 0 "read.go:41" #[.mk 6 .data,.mk 5 .data,.mk 5 .chain,.mk 0 .phase,.mk 1 .phase,.mk 2 .phase,.mk 3 .phase,.mk 4 .phase,.mk 5 .phase] none)) rfl (fun K hK=>?_) AllReadyH.nil)
      go_simp
      skip
      refine hK.out _ _ trivial (fun hHeld=>?_)
      clear hK K hHeld
      try simp only [Act.put,List.setIfInBounds_toArray,List.set_cons_zero,List.set_cons_succ]
      refine wpAnyH_done (by kernel_rfl) ?_ _
      have hL8:=h88.out.1
      have t8:=Lib.hid (t4.out.trans h88.out.2)
      replace hL8:=Lib.hid hL8
      have hbg2:=Lib.hid (hbg.out _ i6 hl6.out hL8.out.p)
      clear h88
      go_wp2_with (go_at_call 18;refine hbg2.out.mono ?_;rintro e w9 ⟨rfl,hP9,hT9⟩)
      have hfin:Hid (R=progP m (acc2++[d3]) (T.drop i6) ln7∧(T.drop i6).length+1≤m∧LAt B w9 b2 pb gw cw T i6 ln7 vb bb (acc2++[d3]) (.slice (some ⟨gg,0,none⟩) (n2+1) cap2)∧Touch w w9 (fun k=>k=pb∨k=b2∨B≤k)):=Lib.hid ⟨by rw [hR.out,hl6.out],by have h1:=hlt.out;rw [hl6.out] at h1;omega,hL8.out.on hT9 hP9 (Nat.le_refl _),t8.out.trans (hT9.mono fun k _ e=>.inl e)⟩
      clear hP9 hT9 hL8 hl6 t8 hbg2 hR hlt hT hS hx1 hx2 t6 hB6 hP6 hrd6 hnB hB4 hL4 hPd t4
      go_roundg m
      case rel=>exact⟨i6,ln7,acc2++[d3],_,hfin⟩
      case measure=>omega
     ·skip
      go_simp
      go_at_call 20
      refine (hfn.out _ hPd.out).mono ?_
      rintro e w6 ⟨hT6,hx⟩
      dsimp only at hx
      obtain⟨a1,c1,a2,c2,i6,rfl,hl6,hP6,hnb6,hrd6⟩:=hx
      have t6:Touch w4 w6 (fun k=>k=pb):=(Touch.refl w4 _).drew.trans hT6
      have hB6:w6.heap[b2]?=some (.cells #[.slice av n2 cv] 24 (0,0)):=(t6.block b2 (Nat.lt_of_lt_of_le hL4.out.lt hL4.out.p.top) hL4.out.neP).trans hB4.out
      have z6:w6.cell? ⟨b2,0,none⟩=some (.slice av n2 cv):=by
       rw [blk_cell hB6]
       rfl
      obtain⟨xs,hx1,hx2⟩:=hL4.out.row
      have hlow6:B≤w6.heap.size:=hP6.top
      have h2i:=hL4.out.n
      have hi6:i2+1≤i6:=by
       have h7:=hlt.out
       have h8:=hP6.here
       have h9:=hL4.out.p.here
       rw [hl6,List.length_drop,List.length_drop] at h7
       omega
      have hi6T:i6<T.length:=hP6.here
      have hlenT:=hP6.ok.len
      have hnB:∀g,(Value.slice av n2 cv).ownBlock=some g→B≤g:=fun g hg=>(hx1.lt g hg).1
      have hpbB:=hL4.out.p.ltP
      have hb2B:=hL4.out.lt
      have hb2l:b2<w6.heap.size:=Nat.lt_of_lt_of_le hb2B hlow6
      rw [←hn2.out] at h2i
      have hO6:=ownsRow_touch hx1 t6 (fun g hg e=>by have:=hnB g hg;omega)
      rw [←hn2.out] at hO6
      have hown:=Lib.hid (ownsRow_touch (S:=fun _=>False) hO6 ((Touch.refl w6 _).alloc (.cells #[.string d3.name,.slice a1 d3.params.length c1,.slice a2 d3.blocks.length c2] 43)) (fun _ _ h=>h))
      replace hx1:=Lib.hid hx1
      replace hx2:=Lib.hid hx2
      replace t6:=Lib.hid t6
      replace hB6:=Lib.hid hB6
      replace hP6:=Lib.hid hP6
      replace hrd6:=Lib.hid hrd6
      replace hl6:=Lib.hid hl6
      replace hnB:=Lib.hid hnB
      clear hT6 hnb6 hO6
      go_simp
      refine hK.out _ _ trivial (fun hHeld=>?_)
      clear hK K hHeld
      try simp only [Act.put,List.setIfInBounds_toArray,List.set_cons_zero,List.set_cons_succ]
      refine wpAnyH_ready (rs:=[1,4]) (by kernel_rfl) (by simp) (AllReadyH.cons (o:=(.mk (some 33) (.load 22 (.tmp 32)) 22 "read.go:41" #[.mk 0 .data] none)) rfl (fun K hK=>?_) (AllReadyH.cons (o:=(.mk (some 36) (.buildSlice 22 1 #[(0,(.tmp 35))]) 22 "read.go:41" #[.mk 3 .data] none)) rfl (fun K hK=>?_) AllReadyH.nil))
      ·skip
       go_simp
       skip
       refine hK.out _ _ trivial (fun hHeld=>?_)
       clear hK K hHeld
       try simp only [Act.put,List.setIfInBounds_toArray,List.set_cons_zero,List.set_cons_succ]
       refine wpAnyH_ready (rs:=[4]) (by kernel_rfl) (by simp) (AllReadyH.cons (o:=(.mk (some 36) (.buildSlice 22 1 #[(0,(.tmp 35))]) 22 "read.go:41" #[.mk 3 .data] none)) rfl (fun K hK=>?_) AllReadyH.nil)
       go_simp
       skip
       refine hK.out _ _ trivial (fun hHeld=>?_)
       clear hK K hHeld
       try simp only [Act.put,List.setIfInBounds_toArray,List.set_cons_zero,List.set_cons_succ]
       refine wpAnyH_ready (rs:=[5]) (by kernel_rfl) (by simp) (AllReadyH.cons (o:=(.mk (some 37) (.call (.mk (.builtin Builtin.append) #[(.tmp 33),(.tmp 36)] #[22,22])) 22 "read.go:41" #[.mk 1 .data,.mk 4 .data,.mk 3 .chain] none)) rfl (fun K hK=>?_) AllReadyH.nil)
       refine step_append_lies _ (by rfl) _ _ _ (by rfl) B 43 i0 _ 3 64 Tryd.underlying22 hi0 hz0 hz1 hz2 rfl (by omega) (.slice av n2 cv) n2 xs (by rfl) hown.out ⟨w6.heap.size,0,none⟩ 1 1 [.string d3.name,.slice a1 d3.params.length c1,.slice a2 d3.blocks.length c2] (by rfl) (by rfl) (World.news_of_block (cs:=#[.string d3.name,.slice a1 d3.params.length c1,.slice a2 d3.blocks.length c2]) (t:=43) (fr:=(0,0)) (heap_alloc_new w6 _)) (by simp [Value.oneCell']) (by omega) (by unfold maxLen;omega) (by omega) (by simp;omega) (w6.heap.size+1) (by simp) ?_
       intro gg cap2 w7 hO7 hg7 hat7 hlt7
       have h88:LAt B (w7.setCell ⟨b2,0,none⟩ (.slice (some ⟨gg,0,none⟩) (n2+1) cap2)) b2 pb gw cw T i6 ln6 vb bb (acc2++[d3]) (.slice (some ⟨gg,0,none⟩) (n2+1) cap2)∧Touch w4 (w7.setCell ⟨b2,0,none⟩ (.slice (some ⟨gg,0,none⟩) (n2+1) cap2)) (fun k=>k=pb∨k=b2∨B≤k):=by
        have hO7:=hO7
        have hL:=hL4.out
        have hx1:=hx1.out
        have hx2:=hx2.out
        have hgx:=hg7
        rw [hn2.out] at hO7 ⊢
        rw [hn2.out] at hL hx1 hx2 hgx hat7
        exact LAt.add hL t6.out hP6.out hi6 hrd6.out hx1 hx2 hO7 hgx hat7
       have hB7:w7.heap[b2]?=some (.cells #[.slice av n2 cv] 24 (0,0)):=((((Touch.refl w6 (fun k=>(Value.slice av n2 cv).ownBlock=some k)).alloc (.cells #[.string d3.name,.slice a1 d3.params.length c1,.slice a2 d3.blocks.length c2] 43)).trans (Touch.of_grown hg7 (fun k e=>e))).block b2 hb2l (fun e=>by have:=hnB.out _ e;omega)).trans hB6.out
       have z7:w7.cell? ⟨b2,0,none⟩=some (.slice av n2 cv):=by
        rw [blk_cell hB7]
        rfl
       have y7:=frozB hB7 0
       have h88:=Lib.hid h88
       have hgl:gg<w7.heap.size:=hlt7
       clear hO7 hg7 hat7 hown hlt7 z6 hB7
       refine hK.out _ _ trivial (fun hHeld=>?_)
       clear hK K hHeld
       try simp only [Act.put,List.setIfInBounds_toArray,List.set_cons_zero,List.set_cons_succ]
       refine wpAnyH_take (i:=6) (oi:=(.mk (some 38) (.fieldAddr 24 (.tmp 2) 0) 0 "read.go:41" #[.mk 0 .phase,.mk 1 .phase,.mk 2 .phase,.mk 3 .phase,.mk 4 .phase,.mk 5 .phase] none)) (v:=?_) rfl (by kernel_rfl) (by kernel_rfl) (by kernel_rfl) (fun _ _ _ h=>hPn h rfl (put_at _ _ _ _ (by decide)) (put_at _ _ _ _ (by decide)) (put_at _ _ _ _ (by decide))) (Or.inl ⟨by rfl,?_⟩) trivial ?_
       rotate_left
       ·(intro w hSw;(try dsimp only at hSw);go_simp;try with_reducible rfl)
       try simp only [Act.put,List.setIfInBounds_toArray,List.set_cons_zero,List.set_cons_succ]
       refine wpAnyH_ready (rs:=[7]) (by kernel_rfl) (by simp) (AllReadyH.cons (o:=(.mk none (.store 22 (.tmp 38) (.tmp 37)) 0 "read.go:41" #[.mk 6 .data,.mk 5 .data,.mk 5 .chain,.mk 0 .phase,.mk 1 .phase,.mk 2 .phase,.mk 3 .phase,.mk 4 .phase,.mk 5 .phase] none)) rfl (fun K hK=>?_) AllReadyH.nil)
       go_simp
       skip
       refine hK.out _ _ trivial (fun hHeld=>?_)
       clear hK K hHeld
       try simp only [Act.put,List.setIfInBounds_toArray,List.set_cons_zero,List.set_cons_succ]
       refine wpAnyH_done (by kernel_rfl) ?_ _
       have hL8:=h88.out.1
       have t8:=Lib.hid (t4.out.trans h88.out.2)
       replace hL8:=Lib.hid hL8
       have hbg2:=Lib.hid (hbg.out _ i6 hl6.out hL8.out.p)
       clear h88
       go_wp2_with (go_at_call 18;refine hbg2.out.mono ?_;rintro e w9 ⟨rfl,hP9,hT9⟩)
       have hfin:Hid (R=progP m (acc2++[d3]) (T.drop i6) ln7∧(T.drop i6).length+1≤m∧LAt B w9 b2 pb gw cw T i6 ln7 vb bb (acc2++[d3]) (.slice (some ⟨gg,0,none⟩) (n2+1) cap2)∧Touch w w9 (fun k=>k=pb∨k=b2∨B≤k)):=Lib.hid ⟨by rw [hR.out,hl6.out],by have h1:=hlt.out;rw [hl6.out] at h1;omega,hL8.out.on hT9 hP9 (Nat.le_refl _),t8.out.trans (hT9.mono fun k _ e=>.inl e)⟩
       clear hP9 hT9 hL8 hl6 t8 hbg2 hR hlt hT hS hx1 hx2 t6 hB6 hP6 hrd6 hnB hB4 hL4 hPd t4
       go_roundg m
       case rel=>exact⟨i6,ln7,acc2++[d3],_,hfin⟩
       case measure=>omega
      ·skip
       go_simp
       skip
       refine hK.out _ _ trivial (fun hHeld=>?_)
       clear hK K hHeld
       try simp only [Act.put,List.setIfInBounds_toArray,List.set_cons_zero,List.set_cons_succ]
       refine wpAnyH_ready (rs:=[1]) (by kernel_rfl) (by simp) (AllReadyH.cons (o:=(.mk (some 33) (.load 22 (.tmp 32)) 22 "read.go:41" #[.mk 0 .data] none)) rfl (fun K hK=>?_) AllReadyH.nil)
       go_simp
       skip
       refine hK.out _ _ trivial (fun hHeld=>?_)
       clear hK K hHeld
       try simp only [Act.put,List.setIfInBounds_toArray,List.set_cons_zero,List.set_cons_succ]
       refine wpAnyH_ready (rs:=[5]) (by kernel_rfl) (by simp) (AllReadyH.cons (o:=(.mk (some 37) (.call (.mk (.builtin Builtin.append) #[(.tmp 33),(.tmp 36)] #[22,22])) 22 "read.go:41" #[.mk 1 .data,.mk 4 .data,.mk 3 .chain] none)) rfl (fun K hK=>?_) AllReadyH.nil)
       refine step_append_lies _ (by rfl) _ _ _ (by rfl) B 43 i0 _ 3 64 Tryd.underlying22 hi0 hz0 hz1 hz2 rfl (by omega) (.slice av n2 cv) n2 xs (by rfl) hown.out ⟨w6.heap.size,0,none⟩ 1 1 [.string d3.name,.slice a1 d3.params.length c1,.slice a2 d3.blocks.length c2] (by rfl) (by rfl) (World.news_of_block (cs:=#[.string d3.name,.slice a1 d3.params.length c1,.slice a2 d3.blocks.length c2]) (t:=43) (fr:=(0,0)) (heap_alloc_new w6 _)) (by simp [Value.oneCell']) (by omega) (by unfold maxLen;omega) (by omega) (by simp;omega) (w6.heap.size+1) (by simp) ?_
       intro gg cap2 w7 hO7 hg7 hat7 hlt7
       have h88:LAt B (w7.setCell ⟨b2,0,none⟩ (.slice (some ⟨gg,0,none⟩) (n2+1) cap2)) b2 pb gw cw T i6 ln6 vb bb (acc2++[d3]) (.slice (some ⟨gg,0,none⟩) (n2+1) cap2)∧Touch w4 (w7.setCell ⟨b2,0,none⟩ (.slice (some ⟨gg,0,none⟩) (n2+1) cap2)) (fun k=>k=pb∨k=b2∨B≤k):=by
        have hO7:=hO7
        have hL:=hL4.out
        have hx1:=hx1.out
        have hx2:=hx2.out
        have hgx:=hg7
        rw [hn2.out] at hO7 ⊢
        rw [hn2.out] at hL hx1 hx2 hgx hat7
        exact LAt.add hL t6.out hP6.out hi6 hrd6.out hx1 hx2 hO7 hgx hat7
       have hB7:w7.heap[b2]?=some (.cells #[.slice av n2 cv] 24 (0,0)):=((((Touch.refl w6 (fun k=>(Value.slice av n2 cv).ownBlock=some k)).alloc (.cells #[.string d3.name,.slice a1 d3.params.length c1,.slice a2 d3.blocks.length c2] 43)).trans (Touch.of_grown hg7 (fun k e=>e))).block b2 hb2l (fun e=>by have:=hnB.out _ e;omega)).trans hB6.out
       have z7:w7.cell? ⟨b2,0,none⟩=some (.slice av n2 cv):=by
        rw [blk_cell hB7]
        rfl
       have y7:=frozB hB7 0
       have h88:=Lib.hid h88
       have hgl:gg<w7.heap.size:=hlt7
       clear hO7 hg7 hat7 hown hlt7 z6 hB7
       refine hK.out _ _ trivial (fun hHeld=>?_)
       clear hK K hHeld
       try simp only [Act.put,List.setIfInBounds_toArray,List.set_cons_zero,List.set_cons_succ]
       refine wpAnyH_take (i:=6) (oi:=(.mk (some 38) (.fieldAddr 24 (.tmp 2) 0) 0 "read.go:41" #[.mk 0 .phase,.mk 1 .phase,.mk 2 .phase,.mk 3 .phase,.mk 4 .phase,.mk 5 .phase] none)) (v:=?_) rfl (by kernel_rfl) (by kernel_rfl) (by kernel_rfl) (fun _ _ _ h=>hPn h rfl (put_at _ _ _ _ (by decide)) (put_at _ _ _ _ (by decide)) (put_at _ _ _ _ (by decide))) (Or.inl ⟨by rfl,?_⟩) trivial ?_
       rotate_left
       ·(intro w hSw;(try dsimp only at hSw);go_simp;try with_reducible rfl)
       try simp only [Act.put,List.setIfInBounds_toArray,List.set_cons_zero,List.set_cons_succ]
       refine wpAnyH_ready (rs:=[7]) (by kernel_rfl) (by simp) (AllReadyH.cons (o:=(.mk none (.store 22 (.tmp 38) (.tmp 37)) 0 "read.go:41" #[.mk 6 .data,.mk 5 .data,.mk 5 .chain,.mk 0 .phase,.mk 1 .phase,.mk 2 .phase,.mk 3 .phase,.mk 4 .phase,.mk 5 .phase] none)) rfl (fun K hK=>?_) AllReadyH.nil)
       go_simp
       skip
       refine hK.out _ _ trivial (fun hHeld=>?_)
       clear hK K hHeld
       try simp only [Act.put,List.setIfInBounds_toArray,List.set_cons_zero,List.set_cons_succ]
       refine wpAnyH_done (by kernel_rfl) ?_ _
       have hL8:=h88.out.1
       have t8:=Lib.hid (t4.out.trans h88.out.2)
       replace hL8:=Lib.hid hL8
       have hbg2:=Lib.hid (hbg.out _ i6 hl6.out hL8.out.p)
       clear h88
       go_wp2_with (go_at_call 18;refine hbg2.out.mono ?_;rintro e w9 ⟨rfl,hP9,hT9⟩)
       have hfin:Hid (R=progP m (acc2++[d3]) (T.drop i6) ln7∧(T.drop i6).length+1≤m∧LAt B w9 b2 pb gw cw T i6 ln7 vb bb (acc2++[d3]) (.slice (some ⟨gg,0,none⟩) (n2+1) cap2)∧Touch w w9 (fun k=>k=pb∨k=b2∨B≤k)):=Lib.hid ⟨by rw [hR.out,hl6.out],by have h1:=hlt.out;rw [hl6.out] at h1;omega,hL8.out.on hT9 hP9 (Nat.le_refl _),t8.out.trans (hT9.mono fun k _ e=>.inl e)⟩
       clear hP9 hT9 hL8 hl6 t8 hbg2 hR hlt hT hS hx1 hx2 t6 hB6 hP6 hrd6 hnB hB4 hL4 hPd t4
       go_roundg m
       case rel=>exact⟨i6,ln7,acc2++[d3],_,hfin⟩
       case measure=>omega
end
end
end Go.Proofs.YtgcanabckogmmaaDoor
