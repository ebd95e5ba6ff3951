/- RdE. -/
import Derived.Test.YtgcanabckogmmaaDoorZR6
import Derived.Deep.RegionHeld3
import Derived.Deep.RegionLaw
import Derived.Deep.AppendLies
namespace Go.Proofs.YtgcanabckogmmaaDoor
set_option linter.unusedVariables false
set_option linter.unusedSimpArgs false
section
open Go.RowKit Go.Maps Go.Shelf
attribute [local go_sem] Oper.semAt_some fld0 fld1 fld2
theorem infoStrP:(Tryd.prog.info? 9).map (fun i=>(i.zero,i.size,i.bytes))=some (some (.string ⟨#[]⟩),1,16):=by kernel_rfl
theorem own_formP {w:World}{base n:Nat}{v:Value}{xs:List Value}{t:TypeId}{size:Nat}(h:w.ownsRow base t size v n xs):∃a c,v=.slice a n c:=by
 rcases h.2 with ⟨rfl,h0⟩ | ⟨g,cap,cur,rfl,h1,h2⟩
 ·exact⟨none,0,by rw [h0]⟩
 ·exact⟨_,cap,rfl⟩
section
variable {B Bx pb gw cw:Nat} {T:List Tok} {ln vb bb Sx:Nat} {w w2 w3:World} {i:Nat} {y:Ins} {va vl:Value}
theorem label_end {o:Obj}{al:Option Addr}{nl cl gg cap:Nat}{s:ByteArray}(hS:SAt B Bx pb gw cw T ln vb bb Sx w2 i y va (.slice al nl cl))(hg:(w2.alloc o).grownBy w3 (Value.slice al nl cl).ownBlock)(hO:w3.ownsRow Bx 9 1 (.slice (some ⟨gg,0,none⟩) (nl+1) cap) (nl+1) (y.labels.map Value.string++[.string s]))(hat:(Value.slice al nl cl).ownBlock=some gg∨gg=w2.heap.size+1)(hb:y.labels.length+1≤i):
  SAt B Bx pb gw cw T ln vb bb Sx (w3.setCell ⟨Sx,7,none⟩ (.slice (some ⟨gg,0,none⟩) (nl+1) cap)) i {y with labels:=y.labels++[s]} va (.slice (some ⟨gg,0,none⟩) (nl+1) cap)∧Touch w2 (w3.setCell ⟨Sx,7,none⟩ (.slice (some ⟨gg,0,none⟩) (nl+1) cap)) (fun k=>k=Sx∨Bx≤k):=by
 have hnl:nl=y.labels.length:=by obtain⟨a,c,e⟩:=own_formP hS.x.rl;simp only [Value.slice.injEq] at e;exact e.2.1
 have t3:Touch w2 w3 (fun k=>(Value.slice al nl cl).ownBlock=some k):=((Touch.refl w2 _).alloc o).trans (Touch.of_grown hg (fun k e=>e))
 have t4:Touch w3 (w3.setCell ⟨Sx,7,none⟩ (.slice (some ⟨gg,0,none⟩) (nl+1) cap)) (fun k=>k=Sx):=(Touch.refl w3 (fun k=>k=Sx)).setCell (a:=⟨Sx,7,none⟩) (fun _=>rfl) _
 have hlt:=hS.x.lt
 have hxl:Sx<w2.heap.size:=Nat.lt_of_lt_of_le hlt hS.x.top
 have hown:∀k,(Value.slice al nl cl).ownBlock=some k→Bx≤k:=fun k e=>(hS.x.rl.lt k e).1
 have tt:Touch w2 (w3.setCell ⟨Sx,7,none⟩ (.slice (some ⟨gg,0,none⟩) (nl+1) cap)) (fun k=>k=Sx∨Bx≤k):=(t3.mono (S':=fun k=>k=Sx∨Bx≤k) (fun k _ e=>.inr (hown k e))).trans (t4.mono (fun _ _ e=>.inl e))
 have hlo:=hS.lo
 have b3:w3.heap[Sx]?=some (.cells #[.int .u8 y.op,.string y.dst,.string y.a,.string y.b,.int .i64 y.n,.string y.fn,va,.slice al nl cl] 49 (0,0)):=(t3.block Sx hxl (fun e=>by have:=hown Sx e;omega)).trans hS.x.blk
 have ra3:=ownsRow_touch hS.x.ra t3 (fun g hg e=>hS.x.ne g hg e)
 refine⟨⟨hS.p.keep tt (fun k e=>by rcases e with e | e<;>omega),⟨blk_set (i:=7) _ b3,ownsRow_touch ra3 t4 (fun g hg e=>by have:=(ra3.lt g hg).1;omega),?_,fun g hg e=>?_,hlt,?_⟩,hS.ba,by simpa using hb,hlo⟩,tt⟩
 ·rw [List.map_append,List.length_append]
  have:=ownsRow_touch hO t4 (fun g hg e=>by have:=(hO.lt g hg).1;omega)
  rw [hnl] at this ⊢
  exact this
 ·simp only [Value.ownBlock,Option.some.injEq] at e
  rcases hat with e2 | e2
  ·exact hS.x.ne g hg (by rw [←e];exact e2)
  ·have:=(hS.x.ra.lt g hg).2;omega
 ·have:=tt.size;have:=hS.x.top;omega
theorem arg_end {o:Obj}{al:Option Addr}{nl cl gg cap:Nat}{s:ByteArray}(hS:SAt B Bx pb gw cw T ln vb bb Sx w2 i y (.slice al nl cl) vl)(hg:(w2.alloc o).grownBy w3 (Value.slice al nl cl).ownBlock)(hO:w3.ownsRow Bx 9 1 (.slice (some ⟨gg,0,none⟩) (nl+1) cap) (nl+1) (y.args.map Value.string++[.string s]))(hat:(Value.slice al nl cl).ownBlock=some gg∨gg=w2.heap.size+1)(hb:y.args.length+1≤i):
  SAt B Bx pb gw cw T ln vb bb Sx (w3.setCell ⟨Sx,6,none⟩ (.slice (some ⟨gg,0,none⟩) (nl+1) cap)) i {y with args:=y.args++[s]} (.slice (some ⟨gg,0,none⟩) (nl+1) cap) vl∧Touch w2 (w3.setCell ⟨Sx,6,none⟩ (.slice (some ⟨gg,0,none⟩) (nl+1) cap)) (fun k=>k=Sx∨Bx≤k):=by
 have hnl:nl=y.args.length:=by obtain⟨a,c,e⟩:=own_formP hS.x.ra;simp only [Value.slice.injEq] at e;exact e.2.1
 have t3:Touch w2 w3 (fun k=>(Value.slice al nl cl).ownBlock=some k):=((Touch.refl w2 _).alloc o).trans (Touch.of_grown hg (fun k e=>e))
 have t4:Touch w3 (w3.setCell ⟨Sx,6,none⟩ (.slice (some ⟨gg,0,none⟩) (nl+1) cap)) (fun k=>k=Sx):=(Touch.refl w3 (fun k=>k=Sx)).setCell (a:=⟨Sx,6,none⟩) (fun _=>rfl) _
 have hlt:=hS.x.lt
 have hxl:Sx<w2.heap.size:=Nat.lt_of_lt_of_le hlt hS.x.top
 have hown:∀k,(Value.slice al nl cl).ownBlock=some k→Bx≤k:=fun k e=>(hS.x.ra.lt k e).1
 have tt:Touch w2 (w3.setCell ⟨Sx,6,none⟩ (.slice (some ⟨gg,0,none⟩) (nl+1) cap)) (fun k=>k=Sx∨Bx≤k):=(t3.mono (S':=fun k=>k=Sx∨Bx≤k) (fun k _ e=>.inr (hown k e))).trans (t4.mono (fun _ _ e=>.inl e))
 have hlo:=hS.lo
 have b3:w3.heap[Sx]?=some (.cells #[.int .u8 y.op,.string y.dst,.string y.a,.string y.b,.int .i64 y.n,.string y.fn,.slice al nl cl,vl] 49 (0,0)):=(t3.block Sx hxl (fun e=>by have:=hown Sx e;omega)).trans hS.x.blk
 have rl3:=ownsRow_touch hS.x.rl t3 (fun g hg e=>hS.x.ne g e hg)
 refine⟨⟨hS.p.keep tt (fun k e=>by rcases e with e | e<;>omega),⟨blk_set (i:=6) _ b3,?_,ownsRow_touch rl3 t4 (fun g hg e=>by have:=(rl3.lt g hg).1;omega),fun g hg e=>?_,hlt,?_⟩,by simpa using hb,hS.bl,hlo⟩,tt⟩
 ·rw [List.map_append,List.length_append]
  have:=ownsRow_touch hO t4 (fun g hg e=>by have:=(hO.lt g hg).1;omega)
  rw [hnl] at this ⊢
  exact this
 ·simp only [Value.ownBlock,Option.some.injEq] at hg
  rcases hat with e2 | e2
  ·exact hS.x.ne g (by rw [←hg];exact e2) e
  ·have:=(hS.x.rl.lt g e).2;omega
 ·have:=tt.size;have:=hS.x.top;omega
theorem SAt.drew (h:SAt B Bx pb gw cw T ln vb bb Sx w i y va vl):SAt B Bx pb gw cw T ln vb bb Sx w.drew i y va vl:=⟨h.p.below (Below.refl _ _).drew,h.x.keep (No:=fun _=>False) (Touch.refl w _).drew (fun _ e=>e.elim),h.ba,h.bl,h.lo⟩
theorem touch_sx {w':World}(t:Touch w w' (fun k=>k=Sx∨Bx≤k)):Touch w w' (fun k=>k=pb∨k=Sx∨Bx≤k):=t.mono (fun _ _ h=>.inr h)
set_option maxRecDepth 20000 in
set_option maxHeartbeats 2000000 in
theorem label_any (h:SAt B Bx pb gw cw T ln vb bb Sx w i y va vl):Calls Tryd.prog 38 #[.pointer (some ⟨pb,0,none⟩),.pointer (some ⟨Sx,0,none⟩)] w (RPost B Bx pb gw cw T ln vb bb Sx w (labelP y (T.drop i) ln)):=by
 obtain⟨al,cl,rfl⟩:=own_formP h.x.rl
 obtain⟨nl,hnl⟩:∃nl,nl=y.labels.length:=⟨_,rfl⟩
 rw [←hnl] at h
 have z:w.drew.cell? ⟨Sx,7,none⟩=some (.slice al nl cl):=by rw [blk_cell h.drew.x.blk];rfl
 unfold labelP
 cases hn:nameP (T.drop i) ln with
 | error f=>
  have hk:=Lib.hid (name_bad h.drew.p hn)
  clear hn
  replace h:=Lib.hid h
  replace hnl:=Lib.hid hnl
  go_enter Tryd.func38,Tryd.ntmps38
  refine wp_region_held_drew (S:=(fun _=>True)) (by kernel_rfl) trivial (fun hHeld=>?_)
  clear hHeld
  refine wpAnyH_take (i:=0) (oi:=(.mk (some 4) (.move (.tmp 1)) 98 "read.go:204" #[] none)) (v:=?_) rfl (by kernel_rfl) (by kernel_rfl) (by kernel_rfl) (fun _ _ _ h=>h) (Or.inl ⟨by rfl,?_⟩) trivial ?_
  rotate_left
  ·(intro w hSw;(try dsimp only at hSw);go_simp;try with_reducible rfl)
  try simp only [Act.put,List.setIfInBounds_toArray,List.set_cons_zero,List.set_cons_succ]
  refine wpAnyH_take (i:=1) (oi:=(.mk (some 5) (.move (.tmp 1)) 98 "read.go:204" #[] none)) (v:=?_) rfl (by kernel_rfl) (by kernel_rfl) (by kernel_rfl) (fun _ _ _ h=>h) (Or.inl ⟨by rfl,?_⟩) trivial ?_
  rotate_left
  ·(intro w hSw;(try dsimp only at hSw);go_simp;try with_reducible rfl)
  try simp only [Act.put,List.setIfInBounds_toArray,List.set_cons_zero,List.set_cons_succ]
  refine wpAnyH_take (i:=2) (oi:=(.mk (some 6) (.nilCheck (.tmp 5)) 0 "read.go:204" #[.mk 1 .data] none)) (v:=?_) rfl (by kernel_rfl) (by kernel_rfl) (by kernel_rfl) (fun _ _ _ h=>h) (Or.inl ⟨by rfl,?_⟩) trivial ?_
  rotate_left
  ·(intro w hSw;(try dsimp only at hSw);go_simp;try with_reducible rfl)
  try simp only [Act.put,List.setIfInBounds_toArray,List.set_cons_zero,List.set_cons_succ]
  refine wpAnyH_take (i:=3) (oi:=(.mk (some 7) (.fieldAddr 49 (.tmp 6) 7) 0 "read.go:204" #[.mk 2 .data] none)) (v:=?_) rfl (by kernel_rfl) (by kernel_rfl) (by kernel_rfl) (fun _ _ _ h=>h) (Or.inl ⟨by rfl,?_⟩) trivial ?_
  rotate_left
  ·(intro w hSw;(try dsimp only at hSw);go_simp;try with_reducible rfl)
  try simp only [Act.put,List.setIfInBounds_toArray,List.set_cons_zero,List.set_cons_succ]
  refine wpAnyH_take (i:=5) (oi:=(.mk (some 9) (.move (.tmp 0)) 59 "read.go:204" #[] none)) (v:=?_) rfl (by kernel_rfl) (by kernel_rfl) (by kernel_rfl) (fun _ _ _ h=>h) (Or.inl ⟨by rfl,?_⟩) trivial ?_
  rotate_left
  ·(intro w hSw;(try dsimp only at hSw);go_simp;try with_reducible rfl)
  try simp only [Act.put,List.setIfInBounds_toArray,List.set_cons_zero,List.set_cons_succ]
  refine wpAnyH_ready (rs:=[4,6]) (by kernel_rfl) (by simp) (AllReadyH.cons (o:=(.mk (some 8) (.load 39 (.tmp 7)) 39 "read.go:204" #[.mk 3 .data] none)) rfl (fun K hK=>?_) (AllReadyH.cons (o:=(.mk (some 10) (.call (.mk (.value (.func 41)) #[(.tmp 9)] #[59])) 9 "read.go:204" #[.mk 5 .data] none)) rfl (fun K hK=>?_) AllReadyH.nil))
  ·skip
   go_simp
   skip
   refine hK.out _ _ trivial (fun hHeld=>?_)
   clear hK K hHeld
   try simp only [Act.put,List.setIfInBounds_toArray,List.set_cons_zero,List.set_cons_succ]
   refine wpAnyH_ready (rs:=[6]) (by kernel_rfl) (by simp) (AllReadyH.cons (o:=(.mk (some 10) (.call (.mk (.value (.func 41)) #[(.tmp 9)] #[59])) 9 "read.go:204" #[.mk 5 .data] none)) rfl (fun K hK=>?_) AllReadyH.nil)
   go_simp
   go_at_call 41
   refine hk.out.mono ?_
   rintro e w2 ⟨rfl,hb⟩
   exact⟨rfl,touch_pb ((Touch.refl w _).drew.trans (Touch.of_below hb _)),rfl⟩
  ·skip
   go_simp
   go_at_call 41
   refine hk.out.mono ?_
   rintro e w2 ⟨rfl,hb⟩
   exact⟨rfl,touch_pb ((Touch.refl w _).drew.trans (Touch.of_below hb _)),rfl⟩
 | ok x=>
  obtain⟨s,r⟩:=x
  have hk:=Lib.hid (name_ok h.drew.p hn)
  obtain⟨i0,hi0,hz0,hz1,hz2⟩:=info_parts infoStrP
  have hr:r=T.drop (i+1):=by
   obtain⟨t,e,-⟩:=name_len hn
   exact drop_next e
  have hS:=Lib.hid h
  have hlen:nl≤2000000:=by have:=h.bl;have:=h.p.here;have:=h.p.ok.len;omega
  replace hnl:=Lib.hid hnl
  clear hn h
  go_enter Tryd.func38,Tryd.ntmps38
  refine wp_region_held_drew (S:=(fun _=>True)) (by kernel_rfl) trivial (fun hHeld=>?_)
  clear hHeld
  refine wpAnyH_take (i:=0) (oi:=(.mk (some 4) (.move (.tmp 1)) 98 "read.go:204" #[] none)) (v:=?_) rfl (by kernel_rfl) (by kernel_rfl) (by kernel_rfl) (fun _ _ _ h=>h) (Or.inl ⟨by rfl,?_⟩) trivial ?_
  rotate_left
  ·(intro w hSw;(try dsimp only at hSw);go_simp;try with_reducible rfl)
  try simp only [Act.put,List.setIfInBounds_toArray,List.set_cons_zero,List.set_cons_succ]
  refine wpAnyH_take (i:=1) (oi:=(.mk (some 5) (.move (.tmp 1)) 98 "read.go:204" #[] none)) (v:=?_) rfl (by kernel_rfl) (by kernel_rfl) (by kernel_rfl) (fun _ _ _ h=>h) (Or.inl ⟨by rfl,?_⟩) trivial ?_
  rotate_left
  ·(intro w hSw;(try dsimp only at hSw);go_simp;try with_reducible rfl)
  try simp only [Act.put,List.setIfInBounds_toArray,List.set_cons_zero,List.set_cons_succ]
  refine wpAnyH_take (i:=2) (oi:=(.mk (some 6) (.nilCheck (.tmp 5)) 0 "read.go:204" #[.mk 1 .data] none)) (v:=?_) rfl (by kernel_rfl) (by kernel_rfl) (by kernel_rfl) (fun _ _ _ h=>h) (Or.inl ⟨by rfl,?_⟩) trivial ?_
  rotate_left
  ·(intro w hSw;(try dsimp only at hSw);go_simp;try with_reducible rfl)
  try simp only [Act.put,List.setIfInBounds_toArray,List.set_cons_zero,List.set_cons_succ]
  refine wpAnyH_take (i:=3) (oi:=(.mk (some 7) (.fieldAddr 49 (.tmp 6) 7) 0 "read.go:204" #[.mk 2 .data] none)) (v:=?_) rfl (by kernel_rfl) (by kernel_rfl) (by kernel_rfl) (fun _ _ _ h=>h) (Or.inl ⟨by rfl,?_⟩) trivial ?_
  rotate_left
  ·(intro w hSw;(try dsimp only at hSw);go_simp;try with_reducible rfl)
  try simp only [Act.put,List.setIfInBounds_toArray,List.set_cons_zero,List.set_cons_succ]
  refine wpAnyH_take (i:=5) (oi:=(.mk (some 9) (.move (.tmp 0)) 59 "read.go:204" #[] none)) (v:=?_) rfl (by kernel_rfl) (by kernel_rfl) (by kernel_rfl) (fun _ _ _ h=>h) (Or.inl ⟨by rfl,?_⟩) trivial ?_
  rotate_left
  ·(intro w hSw;(try dsimp only at hSw);go_simp;try with_reducible rfl)
  try simp only [Act.put,List.setIfInBounds_toArray,List.set_cons_zero,List.set_cons_succ]
  refine wpAnyH_ready (rs:=[4,6]) (by kernel_rfl) (by simp) (AllReadyH.cons (o:=(.mk (some 8) (.load 39 (.tmp 7)) 39 "read.go:204" #[.mk 3 .data] none)) rfl (fun K hK=>?_) (AllReadyH.cons (o:=(.mk (some 10) (.call (.mk (.value (.func 41)) #[(.tmp 9)] #[59])) 9 "read.go:204" #[.mk 5 .data] none)) rfl (fun K hK=>?_) AllReadyH.nil))
  ·skip
   go_simp
   skip
   refine hK.out _ _ trivial (fun hHeld=>?_)
   clear hK K hHeld
   try simp only [Act.put,List.setIfInBounds_toArray,List.set_cons_zero,List.set_cons_succ]
   refine wpAnyH_ready (rs:=[6]) (by kernel_rfl) (by simp) (AllReadyH.cons (o:=(.mk (some 10) (.call (.mk (.value (.func 41)) #[(.tmp 9)] #[59])) 9 "read.go:204" #[.mk 5 .data] none)) rfl (fun K hK=>?_) AllReadyH.nil)
   go_simp
   go_at_call 41
   refine hk.out.mono ?_
   rintro e w2 ⟨rfl,hP,hT⟩
   have hS2:=hS.out.drew.on (Nat.le_succ i) hP hT
   have z:w2.cell? ⟨Sx,7,none⟩=some (.slice al nl cl):=by rw [blk_cell hS2.x.blk];rfl
   have lSx:Sx<w2.heap.size:=Nat.lt_of_lt_of_le hS2.x.lt hS2.x.top
   have hown2:=Lib.hid (ownsRow_touch (S:=fun _=>False) hS2.x.rl ((Touch.refl w2 _).alloc (.cells #[.string s] 9)) (fun _ _ h=>h))
   have htop:Bx≤w2.heap.size:=hS2.x.top
   replace hS2:=Lib.hid hS2
   have hT2:Hid (Touch w w2 (fun k=>k=pb)):=Lib.hid ((Touch.refl w _).drew.trans hT)
   clear hP hT
   go_simp
   refine hK.out _ _ trivial (fun hHeld=>?_)
   clear hK K hHeld
   try simp only [Act.put,List.setIfInBounds_toArray,List.set_cons_zero,List.set_cons_succ]
   refine wpAnyH_ready (rs:=[7]) (by kernel_rfl) (by simp) (AllReadyH.cons (o:=(.mk (some 11) (.buildSlice 39 1 #[(0,(.tmp 10))]) 39 "read.go:204" #[.mk 6 .data] none)) rfl (fun K hK=>?_) AllReadyH.nil)
   go_simp
   skip
   refine hK.out _ _ trivial (fun hHeld=>?_)
   clear hK K hHeld
   try simp only [Act.put,List.setIfInBounds_toArray,List.set_cons_zero,List.set_cons_succ]
   refine wpAnyH_ready (rs:=[8]) (by kernel_rfl) (by simp) (AllReadyH.cons (o:=(.mk (some 12) (.call (.mk (.builtin Builtin.append) #[(.tmp 8),(.tmp 11)] #[39,39])) 39 "read.go:204" #[.mk 4 .data,.mk 7 .data,.mk 6 .chain] none)) rfl (fun K hK=>?_) AllReadyH.nil)
   refine step_append_lies _ (by rfl) _ _ _ (by rfl) Bx 9 i0 _ 1 16 Tryd.underlying39 hi0 hz0 hz1 hz2 rfl (by omega) (.slice al nl cl) nl (y.labels.map Value.string) (by rfl) (by rw [hnl.out];rw [hnl.out] at hown2;exact hown2.out) ⟨w2.heap.size,0,none⟩ 1 1 [.string s] (by rfl) (by rfl) (World.news_of_block (cs:=#[.string s]) (t:=9) (fr:=(0,0)) (heap_alloc_new w2 _)) (by simp [Value.oneCell']) (by omega) (by unfold maxLen;omega) (by omega) (by simp;omega) (w2.heap.size+1) (by simp) ?_
   intro gg cap2 w3 hO3 hg3 hat3 hlt3
   have he:=Lib.hid (label_end hS2.out hg3 hO3 hat3 (by have:=hS.out.bl;omega))
   have y7:w3.frozen? ⟨Sx,7,none⟩=false:=frozB ((hg3.block Sx (by simp;omega) (fun e=>by have:=(hS2.out.x.rl.lt Sx e.symm).1;have:=hS2.out.x.lt;omega)).trans (at_oldP hS2.out.x.blk)) 7
   have z7:w3.cell? ⟨Sx,7,none⟩=some (.slice al nl cl):=by rw [blk_cell ((hg3.block Sx (by simp;omega) (fun e=>by have:=(hS2.out.x.rl.lt Sx e.symm).1;have:=hS2.out.x.lt;omega)).trans (at_oldP hS2.out.x.blk))];rfl
   clear hO3 hg3 hat3 hlt3 hown2 z
   refine hK.out _ _ trivial (fun hHeld=>?_)
   clear hK K hHeld
   try simp only [Act.put,List.setIfInBounds_toArray,List.set_cons_zero,List.set_cons_succ]
   refine wpAnyH_take (i:=9) (oi:=(.mk (some 13) (.nilCheck (.tmp 4)) 0 "read.go:204" #[.mk 0 .data,.mk 0 .phase,.mk 1 .phase,.mk 2 .phase,.mk 3 .phase,.mk 4 .phase,.mk 5 .phase,.mk 6 .phase,.mk 7 .phase,.mk 8 .phase] none)) (v:=?_) rfl (by kernel_rfl) (by kernel_rfl) (by kernel_rfl) (fun _ _ _ h=>h) (Or.inl ⟨by rfl,?_⟩) trivial ?_
   rotate_left
   ·(intro w hSw;(try dsimp only at hSw);go_simp;try with_reducible rfl)
   try simp only [Act.put,List.setIfInBounds_toArray,List.set_cons_zero,List.set_cons_succ]
   refine wpAnyH_take (i:=10) (oi:=(.mk (some 14) (.fieldAddr 49 (.tmp 13) 7) 0 "read.go:204" #[.mk 9 .data,.mk 0 .phase,.mk 1 .phase,.mk 2 .phase,.mk 3 .phase,.mk 4 .phase,.mk 5 .phase,.mk 6 .phase,.mk 7 .phase,.mk 8 .phase] none)) (v:=?_) rfl (by kernel_rfl) (by kernel_rfl) (by kernel_rfl) (fun _ _ _ h=>h) (Or.inl ⟨by rfl,?_⟩) trivial ?_
   rotate_left
   ·(intro w hSw;(try dsimp only at hSw);go_simp;try with_reducible rfl)
   try simp only [Act.put,List.setIfInBounds_toArray,List.set_cons_zero,List.set_cons_succ]
   refine wpAnyH_ready (rs:=[11]) (by kernel_rfl) (by simp) (AllReadyH.cons (o:=(.mk none (.store 39 (.tmp 14) (.tmp 12)) 0 "read.go:204" #[.mk 10 .data,.mk 8 .data,.mk 8 .chain,.mk 0 .phase,.mk 1 .phase,.mk 2 .phase,.mk 3 .phase,.mk 4 .phase,.mk 5 .phase,.mk 6 .phase,.mk 7 .phase,.mk 8 .phase] none)) rfl (fun K hK=>?_) AllReadyH.nil)
   go_simp
   skip
   refine hK.out _ _ trivial (fun hHeld=>?_)
   clear hK K hHeld
   try simp only [Act.put,List.setIfInBounds_toArray,List.set_cons_zero,List.set_cons_succ]
   refine wpAnyH_done (by kernel_rfl) ?_ _
   go_wp2_with fail
   go_end0
   exact⟨(touch_pb hT2.out).trans (touch_sx he.out.2),rfl,va,_,i+1,hr,he.out.1⟩
  ·skip
   go_simp
   go_at_call 41
   refine hk.out.mono ?_
   rintro e w2 ⟨rfl,hP,hT⟩
   have hS2:=hS.out.drew.on (Nat.le_succ i) hP hT
   have z:w2.cell? ⟨Sx,7,none⟩=some (.slice al nl cl):=by rw [blk_cell hS2.x.blk];rfl
   have lSx:Sx<w2.heap.size:=Nat.lt_of_lt_of_le hS2.x.lt hS2.x.top
   have hown2:=Lib.hid (ownsRow_touch (S:=fun _=>False) hS2.x.rl ((Touch.refl w2 _).alloc (.cells #[.string s] 9)) (fun _ _ h=>h))
   have htop:Bx≤w2.heap.size:=hS2.x.top
   replace hS2:=Lib.hid hS2
   have hT2:Hid (Touch w w2 (fun k=>k=pb)):=Lib.hid ((Touch.refl w _).drew.trans hT)
   clear hP hT
   go_simp
   refine hK.out _ _ trivial (fun hHeld=>?_)
   clear hK K hHeld
   try simp only [Act.put,List.setIfInBounds_toArray,List.set_cons_zero,List.set_cons_succ]
   refine wpAnyH_ready (rs:=[4,7]) (by kernel_rfl) (by simp) (AllReadyH.cons (o:=(.mk (some 8) (.load 39 (.tmp 7)) 39 "read.go:204" #[.mk 3 .data] none)) rfl (fun K hK=>?_) (AllReadyH.cons (o:=(.mk (some 11) (.buildSlice 39 1 #[(0,(.tmp 10))]) 39 "read.go:204" #[.mk 6 .data] none)) rfl (fun K hK=>?_) AllReadyH.nil))
   ·skip
    go_simp
    skip
    refine hK.out _ _ trivial (fun hHeld=>?_)
    clear hK K hHeld
    try simp only [Act.put,List.setIfInBounds_toArray,List.set_cons_zero,List.set_cons_succ]
    refine wpAnyH_ready (rs:=[7]) (by kernel_rfl) (by simp) (AllReadyH.cons (o:=(.mk (some 11) (.buildSlice 39 1 #[(0,(.tmp 10))]) 39 "read.go:204" #[.mk 6 .data] none)) rfl (fun K hK=>?_) AllReadyH.nil)
    go_simp
    skip
    refine hK.out _ _ trivial (fun hHeld=>?_)
    clear hK K hHeld
    try simp only [Act.put,List.setIfInBounds_toArray,List.set_cons_zero,List.set_cons_succ]
    refine wpAnyH_ready (rs:=[8]) (by kernel_rfl) (by simp) (AllReadyH.cons (o:=(.mk (some 12) (.call (.mk (.builtin Builtin.append) #[(.tmp 8),(.tmp 11)] #[39,39])) 39 "read.go:204" #[.mk 4 .data,.mk 7 .data,.mk 6 .chain] none)) rfl (fun K hK=>?_) AllReadyH.nil)
    refine step_append_lies _ (by rfl) _ _ _ (by rfl) Bx 9 i0 _ 1 16 Tryd.underlying39 hi0 hz0 hz1 hz2 rfl (by omega) (.slice al nl cl) nl (y.labels.map Value.string) (by rfl) (by rw [hnl.out];rw [hnl.out] at hown2;exact hown2.out) ⟨w2.heap.size,0,none⟩ 1 1 [.string s] (by rfl) (by rfl) (World.news_of_block (cs:=#[.string s]) (t:=9) (fr:=(0,0)) (heap_alloc_new w2 _)) (by simp [Value.oneCell']) (by omega) (by unfold maxLen;omega) (by omega) (by simp;omega) (w2.heap.size+1) (by simp) ?_
    intro gg cap2 w3 hO3 hg3 hat3 hlt3
    have he:=Lib.hid (label_end hS2.out hg3 hO3 hat3 (by have:=hS.out.bl;omega))
    have y7:w3.frozen? ⟨Sx,7,none⟩=false:=frozB ((hg3.block Sx (by simp;omega) (fun e=>by have:=(hS2.out.x.rl.lt Sx e.symm).1;have:=hS2.out.x.lt;omega)).trans (at_oldP hS2.out.x.blk)) 7
    have z7:w3.cell? ⟨Sx,7,none⟩=some (.slice al nl cl):=by rw [blk_cell ((hg3.block Sx (by simp;omega) (fun e=>by have:=(hS2.out.x.rl.lt Sx e.symm).1;have:=hS2.out.x.lt;omega)).trans (at_oldP hS2.out.x.blk))];rfl
    clear hO3 hg3 hat3 hlt3 hown2 z
    refine hK.out _ _ trivial (fun hHeld=>?_)
    clear hK K hHeld
    try simp only [Act.put,List.setIfInBounds_toArray,List.set_cons_zero,List.set_cons_succ]
    refine wpAnyH_take (i:=9) (oi:=(.mk (some 13) (.nilCheck (.tmp 4)) 0 "read.go:204" #[.mk 0 .data,.mk 0 .phase,.mk 1 .phase,.mk 2 .phase,.mk 3 .phase,.mk 4 .phase,.mk 5 .phase,.mk 6 .phase,.mk 7 .phase,.mk 8 .phase] none)) (v:=?_) rfl (by kernel_rfl) (by kernel_rfl) (by kernel_rfl) (fun _ _ _ h=>h) (Or.inl ⟨by rfl,?_⟩) trivial ?_
    rotate_left
    ·(intro w hSw;(try dsimp only at hSw);go_simp;try with_reducible rfl)
    try simp only [Act.put,List.setIfInBounds_toArray,List.set_cons_zero,List.set_cons_succ]
    refine wpAnyH_take (i:=10) (oi:=(.mk (some 14) (.fieldAddr 49 (.tmp 13) 7) 0 "read.go:204" #[.mk 9 .data,.mk 0 .phase,.mk 1 .phase,.mk 2 .phase,.mk 3 .phase,.mk 4 .phase,.mk 5 .phase,.mk 6 .phase,.mk 7 .phase,.mk 8 .phase] none)) (v:=?_) rfl (by kernel_rfl) (by kernel_rfl) (by kernel_rfl) (fun _ _ _ h=>h) (Or.inl ⟨by rfl,?_⟩) trivial ?_
    rotate_left
    ·(intro w hSw;(try dsimp only at hSw);go_simp;try with_reducible rfl)
    try simp only [Act.put,List.setIfInBounds_toArray,List.set_cons_zero,List.set_cons_succ]
    refine wpAnyH_ready (rs:=[11]) (by kernel_rfl) (by simp) (AllReadyH.cons (o:=(.mk none (.store 39 (.tmp 14) (.tmp 12)) 0 "read.go:204" #[.mk 10 .data,.mk 8 .data,.mk 8 .chain,.mk 0 .phase,.mk 1 .phase,.mk 2 .phase,.mk 3 .phase,.mk 4 .phase,.mk 5 .phase,.mk 6 .phase,.mk 7 .phase,.mk 8 .phase] none)) rfl (fun K hK=>?_) AllReadyH.nil)
    go_simp
    skip
    refine hK.out _ _ trivial (fun hHeld=>?_)
    clear hK K hHeld
    try simp only [Act.put,List.setIfInBounds_toArray,List.set_cons_zero,List.set_cons_succ]
    refine wpAnyH_done (by kernel_rfl) ?_ _
    go_wp2_with fail
    go_end0
    exact⟨(touch_pb hT2.out).trans (touch_sx he.out.2),rfl,va,_,i+1,hr,he.out.1⟩
   ·skip
    go_simp
    skip
    refine hK.out _ _ trivial (fun hHeld=>?_)
    clear hK K hHeld
    try simp only [Act.put,List.setIfInBounds_toArray,List.set_cons_zero,List.set_cons_succ]
    refine wpAnyH_ready (rs:=[4]) (by kernel_rfl) (by simp) (AllReadyH.cons (o:=(.mk (some 8) (.load 39 (.tmp 7)) 39 "read.go:204" #[.mk 3 .data] none)) rfl (fun K hK=>?_) AllReadyH.nil)
    go_simp
    skip
    refine hK.out _ _ trivial (fun hHeld=>?_)
    clear hK K hHeld
    try simp only [Act.put,List.setIfInBounds_toArray,List.set_cons_zero,List.set_cons_succ]
    refine wpAnyH_ready (rs:=[8]) (by kernel_rfl) (by simp) (AllReadyH.cons (o:=(.mk (some 12) (.call (.mk (.builtin Builtin.append) #[(.tmp 8),(.tmp 11)] #[39,39])) 39 "read.go:204" #[.mk 4 .data,.mk 7 .data,.mk 6 .chain] none)) rfl (fun K hK=>?_) AllReadyH.nil)
    refine step_append_lies _ (by rfl) _ _ _ (by rfl) Bx 9 i0 _ 1 16 Tryd.underlying39 hi0 hz0 hz1 hz2 rfl (by omega) (.slice al nl cl) nl (y.labels.map Value.string) (by rfl) (by rw [hnl.out];rw [hnl.out] at hown2;exact hown2.out) ⟨w2.heap.size,0,none⟩ 1 1 [.string s] (by rfl) (by rfl) (World.news_of_block (cs:=#[.string s]) (t:=9) (fr:=(0,0)) (heap_alloc_new w2 _)) (by simp [Value.oneCell']) (by omega) (by unfold maxLen;omega) (by omega) (by simp;omega) (w2.heap.size+1) (by simp) ?_
    intro gg cap2 w3 hO3 hg3 hat3 hlt3
    have he:=Lib.hid (label_end hS2.out hg3 hO3 hat3 (by have:=hS.out.bl;omega))
    have y7:w3.frozen? ⟨Sx,7,none⟩=false:=frozB ((hg3.block Sx (by simp;omega) (fun e=>by have:=(hS2.out.x.rl.lt Sx e.symm).1;have:=hS2.out.x.lt;omega)).trans (at_oldP hS2.out.x.blk)) 7
    have z7:w3.cell? ⟨Sx,7,none⟩=some (.slice al nl cl):=by rw [blk_cell ((hg3.block Sx (by simp;omega) (fun e=>by have:=(hS2.out.x.rl.lt Sx e.symm).1;have:=hS2.out.x.lt;omega)).trans (at_oldP hS2.out.x.blk))];rfl
    clear hO3 hg3 hat3 hlt3 hown2 z
    refine hK.out _ _ trivial (fun hHeld=>?_)
    clear hK K hHeld
    try simp only [Act.put,List.setIfInBounds_toArray,List.set_cons_zero,List.set_cons_succ]
    refine wpAnyH_take (i:=9) (oi:=(.mk (some 13) (.nilCheck (.tmp 4)) 0 "read.go:204" #[.mk 0 .data,.mk 0 .phase,.mk 1 .phase,.mk 2 .phase,.mk 3 .phase,.mk 4 .phase,.mk 5 .phase,.mk 6 .phase,.mk 7 .phase,.mk 8 .phase] none)) (v:=?_) rfl (by kernel_rfl) (by kernel_rfl) (by kernel_rfl) (fun _ _ _ h=>h) (Or.inl ⟨by rfl,?_⟩) trivial ?_
    rotate_left
    ·(intro w hSw;(try dsimp only at hSw);go_simp;try with_reducible rfl)
    try simp only [Act.put,List.setIfInBounds_toArray,List.set_cons_zero,List.set_cons_succ]
    refine wpAnyH_take (i:=10) (oi:=(.mk (some 14) (.fieldAddr 49 (.tmp 13) 7) 0 "read.go:204" #[.mk 9 .data,.mk 0 .phase,.mk 1 .phase,.mk 2 .phase,.mk 3 .phase,.mk 4 .phase,.mk 5 .phase,.mk 6 .phase,.mk 7 .phase,.mk 8 .phase] none)) (v:=?_) rfl (by kernel_rfl) (by kernel_rfl) (by kernel_rfl) (fun _ _ _ h=>h) (Or.inl ⟨by rfl,?_⟩) trivial ?_
    rotate_left
    ·(intro w hSw;(try dsimp only at hSw);go_simp;try with_reducible rfl)
    try simp only [Act.put,List.setIfInBounds_toArray,List.set_cons_zero,List.set_cons_succ]
    refine wpAnyH_ready (rs:=[11]) (by kernel_rfl) (by simp) (AllReadyH.cons (o:=(.mk none (.store 39 (.tmp 14) (.tmp 12)) 0 "read.go:204" #[.mk 10 .data,.mk 8 .data,.mk 8 .chain,.mk 0 .phase,.mk 1 .phase,.mk 2 .phase,.mk 3 .phase,.mk 4 .phase,.mk 5 .phase,.mk 6 .phase,.mk 7 .phase,.mk 8 .phase] none)) rfl (fun K hK=>?_) AllReadyH.nil)
    go_simp
    skip
    refine hK.out _ _ trivial (fun hHeld=>?_)
    clear hK K hHeld
    try simp only [Act.put,List.setIfInBounds_toArray,List.set_cons_zero,List.set_cons_succ]
    refine wpAnyH_done (by kernel_rfl) ?_ _
    go_wp2_with fail
    go_end0
    exact⟨(touch_pb hT2.out).trans (touch_sx he.out.2),rfl,va,_,i+1,hr,he.out.1⟩
end
end
end Go.Proofs.YtgcanabckogmmaaDoor
