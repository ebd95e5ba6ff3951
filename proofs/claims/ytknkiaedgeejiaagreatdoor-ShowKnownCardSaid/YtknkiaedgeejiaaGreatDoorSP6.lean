/- NStateA. -/
import Derived.Test.YtknkiaedgeejiaaGreatDoorSP5
namespace Go.Proofs.YtknkiaedgeejiaaGreatDoor
set_option linter.unusedVariables false
set_option linter.unusedSimpArgs false
section
open Go.RowKit Go.Maps Go.Shelf
theorem firstBad_init {σ:Type}{step:σ→Prt→Bool × σ}:∀{l r:List Prt} {s:σ},firstBad step s (l++r)=none→firstBad step s l=none
 | [],_,_,_=>rfl
 | x::l,r,s,h=>by
  rw [List.cons_append,firstBad_cons] at h
  rw [firstBad_cons]
  split at h
  ·cases h
  ·rename_i hn
   rw [if_neg hn]
   exact firstBad_init h
def step8 (n:Nat)(x:Prt):Bool × Nat:=match x with
 | .ins _ _ _ _ _ _=>(decide (n+1 > 4096),n+1)
 | .fn _ _=>(decide (n > 4096),n)
 | .blk _ _ _ _=>(decide (n > 4096),n)
theorem step8_le (n:Nat)(x:Prt)(h:¬(step8 n x).1=true):(step8 n x).2≤4096:=by
 cases x<;>simp [step8] at h ⊢<;>omega
theorem count_le:∀(pre:List Prt),firstBad step8 0 pre=none→runSt step8 0 pre≤4096:=by
 refine snocP (fun _=>Nat.zero_le _) (fun l x _ h=>?_)
 have h1:=firstBad_init h
 rw [firstBad_app h1,firstBad_cons] at h
 rw [runSt_snoc]
 split at h
 ·cases h
 ·rename_i hn
  exact step8_le _ _ hn
def CntBx (Bx:Nat)(n:Nat)(U:Nat→Prop)(W:World):Prop:=W.heap[Bx]?=some (.cells #[.int .i64 n] 3 (0,0))∧∀k,U k↔k=Bx
set_option maxHeartbeats 2000000 in
theorem c8_any {W:World}{x:Prt}{vs:Array Value}{n Bx:Nat}(h:PrtV W x vs)(hb:W.heap[Bx]?=some (.cells #[.int .i64 n] 3 (0,0)))(hn:n≤4096):
  Calls Tryz.prog 138 #[.agg vs,.pointer (some ⟨Bx,0,none⟩)] W fun e W'=>e=.returned (.bool (step8 n x).1)∧W'.heap[Bx]?=some (.cells #[.int .i64 ((step8 n x).2:Nat)] 3 (0,0))∧Touch W W' (fun k=>k=Bx):=by
 cases x with
 | fn f d=>
  obtain⟨b,o,rfl,-⟩:=h
  have hB0:=box_below W (.cells #[.int .i64 f,.int .i64 0,.int .i64 0,.pointer (some ⟨b,o,none⟩),.pointer none,.pointer none] 144)
  have hN:=(hB0.block Bx (Array.getElem?_eq_some_iff.1 hb).1).trans hb
  have c0:(W.alloc (.cells #[.int .i64 f,.int .i64 0,.int .i64 0,.pointer (some ⟨b,o,none⟩),.pointer none,.pointer none] 144)).cell? ⟨Bx,0,none⟩=some (.int .i64 n):=by rw [blk_cell hN];rfl
  have y0:(W.alloc (.cells #[.int .i64 f,.int .i64 0,.int .i64 0,.pointer (some ⟨b,o,none⟩),.pointer none,.pointer none] 144)).frozen? ⟨Bx,0,none⟩=false:=by simp [World.frozen?,hN]
  have hT2:=Lib.hid (Touch.of_below hB0 (fun k=>k=Bx))
  have j1:decide ((n:Int) > 4096)=decide (n > 4096):=decide_eq_decide.2 (by omega)
  have hE:Hid ((step8 n (.fn f d))=(decide (n > 4096),n)):=Lib.hid rfl
  rw [hE.out]
  generalize decide (n > 4096)=q at j1 ⊢
  replace hN:=Lib.hid hN
  clear hB0 hb
  cases q<;>(
   go_enter Tryz.func138,Tryz.ntmps138
   go_wp2
   go_ret
   exact⟨rfl,hN.out,hT2.out⟩)
 | blk f k d x=>
  obtain⟨b,o,b2,o2,rfl,-⟩:=h
  have hB0:=box_below W (.cells #[.int .i64 f,.int .i64 k,.int .i64 0,.pointer (some ⟨b,o,none⟩),.pointer (some ⟨b2,o2,none⟩),.pointer none] 144)
  have hN:=(hB0.block Bx (Array.getElem?_eq_some_iff.1 hb).1).trans hb
  have c0:(W.alloc (.cells #[.int .i64 f,.int .i64 k,.int .i64 0,.pointer (some ⟨b,o,none⟩),.pointer (some ⟨b2,o2,none⟩),.pointer none] 144)).cell? ⟨Bx,0,none⟩=some (.int .i64 n):=by rw [blk_cell hN];rfl
  have y0:(W.alloc (.cells #[.int .i64 f,.int .i64 k,.int .i64 0,.pointer (some ⟨b,o,none⟩),.pointer (some ⟨b2,o2,none⟩),.pointer none] 144)).frozen? ⟨Bx,0,none⟩=false:=by simp [World.frozen?,hN]
  have hT2:=Lib.hid (Touch.of_below hB0 (fun k=>k=Bx))
  have j1:decide ((n:Int) > 4096)=decide (n > 4096):=decide_eq_decide.2 (by omega)
  have hE:Hid ((step8 n (.blk f k d x))=(decide (n > 4096),n)):=Lib.hid rfl
  rw [hE.out]
  generalize decide (n > 4096)=q at j1 ⊢
  replace hN:=Lib.hid hN
  clear hB0 hb
  cases q<;>(
   go_enter Tryz.func138,Tryz.ntmps138
   go_wp2
   go_ret
   exact⟨rfl,hN.out,hT2.out⟩)
 | ins f k i d x c=>
  obtain⟨b,o,b2,o2,b3,o3,rfl,-⟩:=h
  have hB0:=box_below W (.cells #[.int .i64 f,.int .i64 k,.int .i64 i,.pointer (some ⟨b,o,none⟩),.pointer (some ⟨b2,o2,none⟩),.pointer (some ⟨b3,o3,none⟩)] 144)
  have hN:=(hB0.block Bx (Array.getElem?_eq_some_iff.1 hb).1).trans hb
  have c0:(W.alloc (.cells #[.int .i64 f,.int .i64 k,.int .i64 i,.pointer (some ⟨b,o,none⟩),.pointer (some ⟨b2,o2,none⟩),.pointer (some ⟨b3,o3,none⟩)] 144)).cell? ⟨Bx,0,none⟩=some (.int .i64 n):=by rw [blk_cell hN];rfl
  have y0:(W.alloc (.cells #[.int .i64 f,.int .i64 k,.int .i64 i,.pointer (some ⟨b,o,none⟩),.pointer (some ⟨b2,o2,none⟩),.pointer (some ⟨b3,o3,none⟩)] 144)).frozen? ⟨Bx,0,none⟩=false:=by simp [World.frozen?,hN]
  have hN2:=Lib.hid (set_one (v0:=.int .i64 ((n+1:Nat):Int)) hN)
  have hT2:=Lib.hid ((Touch.of_below hB0 (fun k=>k=Bx)).setCell (a:=⟨Bx,0,none⟩) (fun _=>rfl) (.int .i64 ((n+1:Nat):Int)))
  have j1:decide ((n:Int)+1 > 4096)=decide (n+1 > 4096):=decide_eq_decide.2 (by omega)
  have hE:Hid ((step8 n (.ins f k i d x c))=(decide (n+1 > 4096),n+1)):=Lib.hid rfl
  rw [hE.out]
  generalize decide (n+1 > 4096)=q at j1 ⊢
  clear hB0 hN hb
  cases q<;>(
   go_enter Tryz.func138,Tryz.ntmps138
   go_wp2
   go_ret
   exact⟨rfl,by have:=hN2.out;exact this,by have:=hT2.out;exact this⟩)
theorem keeps8 {P:List Fun}{m Bx:Nat}{W0:World}(hm:m=W0.heap.size):Keeps P m W0 138 #[.pointer (some ⟨Bx,0,none⟩)] step8 0 (CntBx Bx) where
 calm:=fun s U W W' h hT=>⟨(hT.block _ (Array.getElem?_eq_some_iff.1 h.1).1 (fun hn=>hn ((h.2 _).2 rfl))).trans h.1,h.2⟩
 call:=fun s U x vs W ⟨pre,rest,e,es,hok⟩ hx hbel hU=>by
  have h1:=c8_any (x:=x) (hx.below (by rw [←hm];exact hbel)) hU.1 (by rw [es];exact count_le pre hok)
  refine Calls.mono h1 ?_
  rintro e' W' ⟨rfl,h2,h3⟩
  exact⟨U,rfl,⟨h2,hU.2⟩,h3.mono (fun k _ hk=>(hU.2 k).2 hk),fun k hk=>.inl hk⟩
theorem conj8 {w w':World}{p1 p2 p3 p4 p5 p6 p7 p8:Addr}{v1 v2 v3 v4 v5 v6 v7 v8:Value}(hk:∀{p:Addr} {v:Value},w.cell? p=some v→w'.cell? p=some v)
  (h:w.cell? p1=some v1∧w.cell? p2=some v2∧w.cell? p3=some v3∧w.cell? p4=some v4∧w.cell? p5=some v5∧w.cell? p6=some v6∧w.cell? p7=some v7∧w.cell? p8=some v8):
  w'.cell? p1=some v1∧w'.cell? p2=some v2∧w'.cell? p3=some v3∧w'.cell? p4=some v4∧w'.cell? p5=some v5∧w'.cell? p6=some v6∧w'.cell? p7=some v7∧w'.cell? p8=some v8:=
 ⟨hk h.1,hk h.2.1,hk h.2.2.1,hk h.2.2.2.1,hk h.2.2.2.2.1,hk h.2.2.2.2.2.1,hk h.2.2.2.2.2.2.1,hk h.2.2.2.2.2.2.2⟩
set_option maxRecDepth 20000 in
set_option maxHeartbeats 4000000 in
theorem c3_fn {W:World}{f:Nat}{d:Fun}{vs:Array Value}{Bx bm:Nat}{l:List ByteArray}{U:Nat→Prop}(hf:(Prt.fn f d).Fits)(h:PrtV W (Prt.fn f d) vs)(hX:SetBx Bx l U bm W)(hll:l.length≤2000000000000000000):
  Calls Tryz.prog 130 #[.agg vs,.pointer (some ⟨Bx,0,none⟩)] W fun e W'=>e=.returned (.bool (twiceL l [d.name]).1)∧SetBx Bx (twiceL l [d.name]).2 U bm W'∧Touch W W' (fun k=>k=bm):=by
 obtain⟨b,o,pa,ba,pc,bc,rfl,hF⟩:=FnBox.mk' h
 have hB0:=box_below W (.cells #[.int .i64 f,.int .i64 0,.int .i64 0,.pointer (some ⟨b,o,none⟩),.pointer none,.pointer none] 144)
 have hXb:=hX.below hB0
 have hfit:∀s∈[d.name],s.size≤maxLen:=fun s hs=>by rw [List.mem_singleton.1 hs];exact hf.1
 have hC:(W.alloc (.cells #[.int .i64 f,.int .i64 0,.int .i64 0,.pointer (some ⟨b,o,none⟩),.pointer none,.pointer none] 144)).drew.cell? ⟨W.heap.size,0,none⟩=some (.int .i64 f)∧(W.alloc (.cells #[.int .i64 f,.int .i64 0,.int .i64 0,.pointer (some ⟨b,o,none⟩),.pointer none,.pointer none] 144)).drew.cell? ⟨W.heap.size,1,none⟩=some (.int .i64 0)∧(W.alloc (.cells #[.int .i64 f,.int .i64 0,.int .i64 0,.pointer (some ⟨b,o,none⟩),.pointer none,.pointer none] 144)).drew.cell? ⟨W.heap.size,2,none⟩=some (.int .i64 0)∧(W.alloc (.cells #[.int .i64 f,.int .i64 0,.int .i64 0,.pointer (some ⟨b,o,none⟩),.pointer none,.pointer none] 144)).drew.cell? ⟨W.heap.size,3,none⟩=some (.pointer (some ⟨b,o,none⟩))∧(W.alloc (.cells #[.int .i64 f,.int .i64 0,.int .i64 0,.pointer (some ⟨b,o,none⟩),.pointer none,.pointer none] 144)).drew.cell? ⟨W.heap.size,4,none⟩=some (.pointer none)∧(W.alloc (.cells #[.int .i64 f,.int .i64 0,.int .i64 0,.pointer (some ⟨b,o,none⟩),.pointer none,.pointer none] 144)).drew.cell? ⟨W.heap.size,5,none⟩=some (.pointer none)∧(W.alloc (.cells #[.int .i64 f,.int .i64 0,.int .i64 0,.pointer (some ⟨b,o,none⟩),.pointer none,.pointer none] 144)).drew.cell? ⟨b,o,none⟩=some (.string d.name)∧(W.alloc (.cells #[.int .i64 f,.int .i64 0,.int .i64 0,.pointer (some ⟨b,o,none⟩),.pointer none,.pointer none] 144)).drew.cell? ⟨Bx,0,none⟩=some (.map (some bm)):=⟨hF.s0,hF.s1,hF.s2,hF.s3,hF.s4,hF.s5,hF.f0,(show (W.alloc (.cells #[.int .i64 f,.int .i64 0,.int .i64 0,.pointer (some ⟨b,o,none⟩),.pointer none,.pointer none] 144)).cell? ⟨Bx,0,none⟩=some (.map (some bm)) from by rw [blk_cell hXb.box];rfl)⟩
 clear h hX
 have hM:Hid (SetBx Bx l U bm (W.alloc (.cells #[.int .i64 f,.int .i64 0,.int .i64 0,.pointer (some ⟨b,o,none⟩),.pointer none,.pointer none] 144)).drew):=Lib.hid (hXb.below (Below.refl _ _).drew)
 have hT:Hid (Touch W (W.alloc (.cells #[.int .i64 f,.int .i64 0,.int .i64 0,.pointer (some ⟨b,o,none⟩),.pointer none,.pointer none] 144)).drew (fun k=>k=bm)):=Lib.hid ((Touch.of_below hB0 _).drew)
 clear hXb hF hB0
 go_enter Tryz.func130,Tryz.ntmps130
 go_upto_region 1 with fail
 refine wp_region_held_drew (S:=(fun w'=>w'.cell? ⟨W.heap.size,0,none⟩=some (.int .i64 f)∧w'.cell? ⟨W.heap.size,1,none⟩=some (.int .i64 0)∧w'.cell? ⟨W.heap.size,2,none⟩=some (.int .i64 0)∧w'.cell? ⟨W.heap.size,3,none⟩=some (.pointer (some ⟨b,o,none⟩))∧w'.cell? ⟨W.heap.size,4,none⟩=some (.pointer none)∧w'.cell? ⟨W.heap.size,5,none⟩=some (.pointer none)∧w'.cell? ⟨b,o,none⟩=some (.string d.name)∧w'.cell? ⟨Bx,0,none⟩=some (.map (some bm)))) (by kernel_rfl) hC (fun hHeld=>?_)
 clear hHeld
 refine wpAnyH_take (i:=0) (oi:=(.mk (some 4) (.load 144 (.tmp 2)) 144 "rules.go:46" #[] none)) (v:=?_) rfl (by kernel_rfl) (by kernel_rfl) (by kernel_rfl) (fun _ _ _ h=>h) (Or.inl ⟨by rfl,?_⟩) hC ?_
 rotate_left
 ·(intro w hSw;(try dsimp only at hSw);go_simp;try with_reducible rfl)
 try simp only [Act.put,List.setIfInBounds_toArray,List.set_cons_zero,List.set_cons_succ]
 refine wpAnyH_ready (rs:=[1]) (by kernel_rfl) (by simp) (AllReadyH.cons (o:=(.mk (some 5) (.call (.mk (.value (.func 126)) #[(.tmp 4)] #[144])) 4 "rules.go:46" #[.mk 0 .data] none)) rfl (fun K hK=>?_) AllReadyH.nil)
 go_simp
 (go_at_call 126;refine Calls.mono (isFunc_v) ?_;rintro e w2 ⟨rfl,hb⟩;replace hC:=conj8 (fun h=>keepC hb h) hC;replace hM:=Lib.hid (hM.out.below hb);replace hT:=Lib.hid (hT.out.trans (Touch.of_below hb _)))
 refine hK.out _ _ hC (fun hHeld=>?_)
 clear hK K hHeld
 try simp only [Act.put,List.setIfInBounds_toArray,List.set_cons_zero,List.set_cons_succ]
 refine wpAnyH_take (i:=2) (oi:=(.mk (some 6) (.move (.tmp 5)) 4 "rules.go:46" #[.mk 1 .data,.mk 1 .chain] none)) (v:=?_) rfl (by kernel_rfl) (by kernel_rfl) (by kernel_rfl) (fun _ _ _ h=>h) (Or.inl ⟨by rfl,?_⟩) hC ?_
 rotate_left
 ·(intro w hSw;(try dsimp only at hSw);go_simp;try with_reducible rfl)
 try simp only [Act.put,List.setIfInBounds_toArray,List.set_cons_zero,List.set_cons_succ]
 refine wpAnyH_take (i:=3) (oi:=(.mk (some 7) (.load 148 (.tmp 1)) 148 "rules.go:46" #[.mk 2 .guard] (some (2,true)))) (v:=?_) rfl (by kernel_rfl) (by kernel_rfl) (by kernel_rfl) (fun _ _ _ h=>h) (Or.inl ⟨by rfl,?_⟩) hC ?_
 rotate_left
 ·(intro w hSw;(try dsimp only at hSw);go_simp;try with_reducible rfl)
 try simp only [Act.put,List.setIfInBounds_toArray,List.set_cons_zero,List.set_cons_succ]
 refine wpAnyH_take (i:=4) (oi:=(.mk (some 8) (.fieldAddr 144 (.tmp 2) 1) 0 "rules.go:46" #[.mk 2 .guard] (some (2,true)))) (v:=?_) rfl (by kernel_rfl) (by kernel_rfl) (by kernel_rfl) (fun _ _ _ h=>h) (Or.inl ⟨by rfl,?_⟩) hC ?_
 rotate_left
 ·(intro w hSw;(try dsimp only at hSw);go_simp;try with_reducible rfl)
 try simp only [Act.put,List.setIfInBounds_toArray,List.set_cons_zero,List.set_cons_succ]
 refine wpAnyH_take (i:=5) (oi:=(.mk (some 9) (.load 120 (.tmp 8)) 120 "rules.go:46" #[.mk 4 .data,.mk 2 .guard] (some (2,true)))) (v:=?_) rfl (by kernel_rfl) (by kernel_rfl) (by kernel_rfl) (fun _ _ _ h=>h) (Or.inl ⟨by rfl,?_⟩) hC ?_
 rotate_left
 ·(intro w hSw;(try dsimp only at hSw);go_simp;try with_reducible rfl)
 try simp only [Act.put,List.setIfInBounds_toArray,List.set_cons_zero,List.set_cons_succ]
 refine wpAnyH_take (i:=6) (oi:=(.mk (some 10) (.nilCheck (.tmp 9)) 0 "rules.go:46" #[.mk 5 .data,.mk 2 .guard] (some (2,true)))) (v:=?_) rfl (by kernel_rfl) (by kernel_rfl) (by kernel_rfl) (fun _ _ _ h=>h) (Or.inl ⟨by rfl,?_⟩) hC ?_
 rotate_left
 ·(intro w hSw;(try dsimp only at hSw);go_simp;try with_reducible rfl)
 try simp only [Act.put,List.setIfInBounds_toArray,List.set_cons_zero,List.set_cons_succ]
 refine wpAnyH_take (i:=7) (oi:=(.mk (some 11) (.fieldAddr 40 (.tmp 10) 0) 0 "rules.go:46" #[.mk 6 .data,.mk 2 .guard] (some (2,true)))) (v:=?_) rfl (by kernel_rfl) (by kernel_rfl) (by kernel_rfl) (fun _ _ _ h=>h) (Or.inl ⟨by rfl,?_⟩) hC ?_
 rotate_left
 ·(intro w hSw;(try dsimp only at hSw);go_simp;try with_reducible rfl)
 try simp only [Act.put,List.setIfInBounds_toArray,List.set_cons_zero,List.set_cons_succ]
 refine wpAnyH_take (i:=8) (oi:=(.mk (some 12) (.load 9 (.tmp 11)) 9 "rules.go:46" #[.mk 7 .data,.mk 2 .guard] (some (2,true)))) (v:=?_) rfl (by kernel_rfl) (by kernel_rfl) (by kernel_rfl) (fun _ _ _ h=>h) (Or.inl ⟨by rfl,?_⟩) hC ?_
 rotate_left
 ·(intro w hSw;(try dsimp only at hSw);go_simp;try with_reducible rfl)
 try simp only [Act.put,List.setIfInBounds_toArray,List.set_cons_zero,List.set_cons_succ]
 refine wpAnyH_ready (rs:=[9]) (by kernel_rfl) (by simp) (AllReadyH.cons (o:=(.mk (some 13) (.buildSlice 37 1 #[(0,(.tmp 12))]) 37 "rules.go:46" #[.mk 8 .data,.mk 2 .guard] (some (2,true)))) rfl (fun K hK=>?_) AllReadyH.nil)
 go_simp
 have hb9:=box_below w2 (.cells #[.string d.name] 9);have hR:RdS (w2.alloc (.cells #[.string d.name] 9)) (.slice (some ⟨w2.heap.size,0,none⟩) 1 1) [d.name]:=rds_one (at_newN rfl);replace hC:=conj8 (fun h=>keepC hb9 h) hC;replace hM:=Lib.hid (hM.out.below hb9);replace hT:=Lib.hid (hT.out.trans (Touch.of_below hb9 _))
 refine hK.out _ _ hC (fun hHeld=>?_)
 clear hK K hHeld
 try simp only [Act.put,List.setIfInBounds_toArray,List.set_cons_zero,List.set_cons_succ]
 refine wpAnyH_ready (rs:=[10]) (by kernel_rfl) (by simp) (AllReadyH.cons (o:=(.mk (some 14) (.call (.mk (.value (.func 131)) #[(.tmp 7),(.tmp 13)] #[148,37])) 4 "rules.go:46" #[.mk 3 .data,.mk 9 .data,.mk 2 .chain,.mk 2 .guard] (some (2,true)))) rfl (fun K hK=>?_) AllReadyH.nil)
 go_simp
 (go_at_call 131;refine Calls.mono (twice_any hM.out.set hR hfit (by simp;omega)) ?_;rintro e w3 ⟨rfl,hs3,hT3⟩;replace hC:=conj8 (fun h=>cell_apart hM.out.set hT3 h) hC;replace hT:=Lib.hid (hT.out.trans hT3);replace hM:=Lib.hid (hM.out.turned hs3 hT3))
 refine hK.out _ _ hC (fun hHeld=>?_)
 clear hK K hHeld
 try simp only [Act.put,List.setIfInBounds_toArray,List.set_cons_zero,List.set_cons_succ]
 refine wpAnyH_take (i:=11) (oi:=(.mk (some 15) (.pick (.tmp 6) (.tmp 14) (.const (Value.bool false))) 4 "rules.go:46" #[.mk 2 .data,.mk 10 .data] none)) (v:=?_) rfl (by kernel_rfl) (by kernel_rfl) (by kernel_rfl) (fun _ _ _ h=>h) (Or.inl ⟨by rfl,?_⟩) hC ?_
 rotate_left
 ·(intro w hSw;(try dsimp only at hSw);go_simp;try with_reducible rfl)
 try simp only [Act.put,List.setIfInBounds_toArray,List.set_cons_zero,List.set_cons_succ]
 refine wpAnyH_take (i:=12) (oi:=(.mk (some 3) (.assign (.tmp 15)) 4 "rules.go:46" #[.mk 11 .data,.mk 10 .chain,.mk 0 .phase,.mk 1 .phase,.mk 2 .phase,.mk 3 .phase,.mk 4 .phase,.mk 5 .phase,.mk 6 .phase,.mk 7 .phase,.mk 8 .phase,.mk 9 .phase,.mk 10 .phase,.mk 11 .phase] none)) (v:=?_) rfl (by kernel_rfl) (by kernel_rfl) (by kernel_rfl) (fun _ _ _ h=>h) (Or.inl ⟨by rfl,?_⟩) hC ?_
 rotate_left
 ·(intro w hSw;(try dsimp only at hSw);go_simp;try with_reducible rfl)
 try simp only [Act.put,List.setIfInBounds_toArray,List.set_cons_zero,List.set_cons_succ]
 refine wpAnyH_done (by kernel_rfl) ?_ _
 go_wp2_with fail
 go_ret
 exact⟨rfl,hM.out,hT.out⟩
set_option maxRecDepth 20000 in
set_option maxHeartbeats 4000000 in
theorem c3_blk {W:World}{f k:Nat}{d:Fun}{x:Blk}{vs:Array Value}{Bx bm:Nat}{l:List ByteArray}{U:Nat→Prop}(hf:(Prt.blk f k d x).Fits)(h:PrtV W (Prt.blk f k d x) vs)(hX:SetBx Bx l U bm W)(hll:l.length≤2000000000000000000):
  Calls Tryz.prog 130 #[.agg vs,.pointer (some ⟨Bx,0,none⟩)] W fun e W'=>e=.returned (.bool false)∧SetBx Bx l U bm W'∧Touch W W' (fun k=>k=bm):=by
 obtain⟨b,o,b2,o2,ca,cc,rfl,hF⟩:=BlkBox.mk' h
 have hB0:=box_below W (.cells #[.int .i64 f,.int .i64 k,.int .i64 0,.pointer (some ⟨b,o,none⟩),.pointer (some ⟨b2,o2,none⟩),.pointer none] 144)
 have hXb:=hX.below hB0
 have hC:(W.alloc (.cells #[.int .i64 f,.int .i64 k,.int .i64 0,.pointer (some ⟨b,o,none⟩),.pointer (some ⟨b2,o2,none⟩),.pointer none] 144)).drew.cell? ⟨W.heap.size,0,none⟩=some (.int .i64 f)∧(W.alloc (.cells #[.int .i64 f,.int .i64 k,.int .i64 0,.pointer (some ⟨b,o,none⟩),.pointer (some ⟨b2,o2,none⟩),.pointer none] 144)).drew.cell? ⟨W.heap.size,1,none⟩=some (.int .i64 k)∧(W.alloc (.cells #[.int .i64 f,.int .i64 k,.int .i64 0,.pointer (some ⟨b,o,none⟩),.pointer (some ⟨b2,o2,none⟩),.pointer none] 144)).drew.cell? ⟨W.heap.size,2,none⟩=some (.int .i64 0)∧(W.alloc (.cells #[.int .i64 f,.int .i64 k,.int .i64 0,.pointer (some ⟨b,o,none⟩),.pointer (some ⟨b2,o2,none⟩),.pointer none] 144)).drew.cell? ⟨W.heap.size,3,none⟩=some (.pointer (some ⟨b,o,none⟩))∧(W.alloc (.cells #[.int .i64 f,.int .i64 k,.int .i64 0,.pointer (some ⟨b,o,none⟩),.pointer (some ⟨b2,o2,none⟩),.pointer none] 144)).drew.cell? ⟨W.heap.size,4,none⟩=some (.pointer (some ⟨b2,o2,none⟩))∧(W.alloc (.cells #[.int .i64 f,.int .i64 k,.int .i64 0,.pointer (some ⟨b,o,none⟩),.pointer (some ⟨b2,o2,none⟩),.pointer none] 144)).drew.cell? ⟨W.heap.size,5,none⟩=some (.pointer none)∧(W.alloc (.cells #[.int .i64 f,.int .i64 k,.int .i64 0,.pointer (some ⟨b,o,none⟩),.pointer (some ⟨b2,o2,none⟩),.pointer none] 144)).drew.cell? ⟨b2,o2,none⟩=some (.string x.label)∧(W.alloc (.cells #[.int .i64 f,.int .i64 k,.int .i64 0,.pointer (some ⟨b,o,none⟩),.pointer (some ⟨b2,o2,none⟩),.pointer none] 144)).drew.cell? ⟨Bx,0,none⟩=some (.map (some bm)):=⟨hF.s0,hF.s1,hF.s2,hF.s3,hF.s4,hF.s5,hF.f0,(show (W.alloc (.cells #[.int .i64 f,.int .i64 k,.int .i64 0,.pointer (some ⟨b,o,none⟩),.pointer (some ⟨b2,o2,none⟩),.pointer none] 144)).cell? ⟨Bx,0,none⟩=some (.map (some bm)) from by rw [blk_cell hXb.box];rfl)⟩
 clear h hX
 have hM:Hid (SetBx Bx l U bm (W.alloc (.cells #[.int .i64 f,.int .i64 k,.int .i64 0,.pointer (some ⟨b,o,none⟩),.pointer (some ⟨b2,o2,none⟩),.pointer none] 144)).drew):=Lib.hid (hXb.below (Below.refl _ _).drew)
 have hT:Hid (Touch W (W.alloc (.cells #[.int .i64 f,.int .i64 k,.int .i64 0,.pointer (some ⟨b,o,none⟩),.pointer (some ⟨b2,o2,none⟩),.pointer none] 144)).drew (fun k=>k=bm)):=Lib.hid ((Touch.of_below hB0 _).drew)
 clear hXb hF hB0
 go_enter Tryz.func130,Tryz.ntmps130
 go_upto_region 1 with fail
 refine wp_region_held_drew (S:=(fun w'=>w'.cell? ⟨W.heap.size,0,none⟩=some (.int .i64 f)∧w'.cell? ⟨W.heap.size,1,none⟩=some (.int .i64 k)∧w'.cell? ⟨W.heap.size,2,none⟩=some (.int .i64 0)∧w'.cell? ⟨W.heap.size,3,none⟩=some (.pointer (some ⟨b,o,none⟩))∧w'.cell? ⟨W.heap.size,4,none⟩=some (.pointer (some ⟨b2,o2,none⟩))∧w'.cell? ⟨W.heap.size,5,none⟩=some (.pointer none)∧w'.cell? ⟨b2,o2,none⟩=some (.string x.label)∧w'.cell? ⟨Bx,0,none⟩=some (.map (some bm)))) (by kernel_rfl) hC (fun hHeld=>?_)
 clear hHeld
 refine wpAnyH_take (i:=0) (oi:=(.mk (some 4) (.load 144 (.tmp 2)) 144 "rules.go:46" #[] none)) (v:=?_) rfl (by kernel_rfl) (by kernel_rfl) (by kernel_rfl) (fun _ _ _ h=>h) (Or.inl ⟨by rfl,?_⟩) hC ?_
 rotate_left
 ·(intro w hSw;(try dsimp only at hSw);go_simp;try with_reducible rfl)
 try simp only [Act.put,List.setIfInBounds_toArray,List.set_cons_zero,List.set_cons_succ]
 refine wpAnyH_ready (rs:=[1]) (by kernel_rfl) (by simp) (AllReadyH.cons (o:=(.mk (some 5) (.call (.mk (.value (.func 126)) #[(.tmp 4)] #[144])) 4 "rules.go:46" #[.mk 0 .data] none)) rfl (fun K hK=>?_) AllReadyH.nil)
 go_simp
 (go_at_call 126;refine Calls.mono (isFunc_v) ?_;rintro e w2 ⟨rfl,hb⟩;replace hC:=conj8 (fun h=>keepC hb h) hC;replace hM:=Lib.hid (hM.out.below hb);replace hT:=Lib.hid (hT.out.trans (Touch.of_below hb _)))
 refine hK.out _ _ hC (fun hHeld=>?_)
 clear hK K hHeld
 try simp only [Act.put,List.setIfInBounds_toArray,List.set_cons_zero,List.set_cons_succ]
 refine wpAnyH_take (i:=2) (oi:=(.mk (some 6) (.move (.tmp 5)) 4 "rules.go:46" #[.mk 1 .data,.mk 1 .chain] none)) (v:=?_) rfl (by kernel_rfl) (by kernel_rfl) (by kernel_rfl) (fun _ _ _ h=>h) (Or.inl ⟨by rfl,?_⟩) hC ?_
 rotate_left
 ·(intro w hSw;(try dsimp only at hSw);go_simp;try with_reducible rfl)
 try simp only [Act.put,List.setIfInBounds_toArray,List.set_cons_zero,List.set_cons_succ]
 refine wpAnyH_take (i:=3) (oi:=(.mk (some 7) (.load 148 (.tmp 1)) 148 "rules.go:46" #[.mk 2 .guard] (some (2,true)))) (v:=undef) rfl (by kernel_rfl) (by kernel_rfl) (by kernel_rfl) (fun _ _ _ h=>h) (Or.inr ⟨by rfl,rfl⟩) hC ?_
 try simp only [Act.put,List.setIfInBounds_toArray,List.set_cons_zero,List.set_cons_succ]
 refine wpAnyH_take (i:=4) (oi:=(.mk (some 8) (.fieldAddr 144 (.tmp 2) 1) 0 "rules.go:46" #[.mk 2 .guard] (some (2,true)))) (v:=undef) rfl (by kernel_rfl) (by kernel_rfl) (by kernel_rfl) (fun _ _ _ h=>h) (Or.inr ⟨by rfl,rfl⟩) hC ?_
 try simp only [Act.put,List.setIfInBounds_toArray,List.set_cons_zero,List.set_cons_succ]
 refine wpAnyH_take (i:=5) (oi:=(.mk (some 9) (.load 120 (.tmp 8)) 120 "rules.go:46" #[.mk 4 .data,.mk 2 .guard] (some (2,true)))) (v:=undef) rfl (by kernel_rfl) (by kernel_rfl) (by kernel_rfl) (fun _ _ _ h=>h) (Or.inr ⟨by rfl,rfl⟩) hC ?_
 try simp only [Act.put,List.setIfInBounds_toArray,List.set_cons_zero,List.set_cons_succ]
 refine wpAnyH_take (i:=6) (oi:=(.mk (some 10) (.nilCheck (.tmp 9)) 0 "rules.go:46" #[.mk 5 .data,.mk 2 .guard] (some (2,true)))) (v:=undef) rfl (by kernel_rfl) (by kernel_rfl) (by kernel_rfl) (fun _ _ _ h=>h) (Or.inr ⟨by rfl,rfl⟩) hC ?_
 try simp only [Act.put,List.setIfInBounds_toArray,List.set_cons_zero,List.set_cons_succ]
 refine wpAnyH_take (i:=7) (oi:=(.mk (some 11) (.fieldAddr 40 (.tmp 10) 0) 0 "rules.go:46" #[.mk 6 .data,.mk 2 .guard] (some (2,true)))) (v:=undef) rfl (by kernel_rfl) (by kernel_rfl) (by kernel_rfl) (fun _ _ _ h=>h) (Or.inr ⟨by rfl,rfl⟩) hC ?_
 try simp only [Act.put,List.setIfInBounds_toArray,List.set_cons_zero,List.set_cons_succ]
 refine wpAnyH_take (i:=8) (oi:=(.mk (some 12) (.load 9 (.tmp 11)) 9 "rules.go:46" #[.mk 7 .data,.mk 2 .guard] (some (2,true)))) (v:=undef) rfl (by kernel_rfl) (by kernel_rfl) (by kernel_rfl) (fun _ _ _ h=>h) (Or.inr ⟨by rfl,rfl⟩) hC ?_
 try simp only [Act.put,List.setIfInBounds_toArray,List.set_cons_zero,List.set_cons_succ]
 refine wpAnyH_take (i:=9) (oi:=(.mk (some 13) (.buildSlice 37 1 #[(0,(.tmp 12))]) 37 "rules.go:46" #[.mk 8 .data,.mk 2 .guard] (some (2,true)))) (v:=undef) rfl (by kernel_rfl) (by kernel_rfl) (by kernel_rfl) (fun _ _ _ h=>h) (Or.inr ⟨by rfl,rfl⟩) hC ?_
 try simp only [Act.put,List.setIfInBounds_toArray,List.set_cons_zero,List.set_cons_succ]
 refine wpAnyH_take (i:=10) (oi:=(.mk (some 14) (.call (.mk (.value (.func 131)) #[(.tmp 7),(.tmp 13)] #[148,37])) 4 "rules.go:46" #[.mk 3 .data,.mk 9 .data,.mk 2 .chain,.mk 2 .guard] (some (2,true)))) (v:=undef) rfl (by kernel_rfl) (by kernel_rfl) (by kernel_rfl) (fun _ _ _ h=>h) (Or.inr ⟨by rfl,rfl⟩) hC ?_
 try simp only [Act.put,List.setIfInBounds_toArray,List.set_cons_zero,List.set_cons_succ]
 refine wpAnyH_take (i:=11) (oi:=(.mk (some 15) (.pick (.tmp 6) (.tmp 14) (.const (Value.bool false))) 4 "rules.go:46" #[.mk 2 .data,.mk 10 .data] none)) (v:=?_) rfl (by kernel_rfl) (by kernel_rfl) (by kernel_rfl) (fun _ _ _ h=>h) (Or.inl ⟨by rfl,?_⟩) hC ?_
 rotate_left
 ·(intro w hSw;(try dsimp only at hSw);go_simp;try with_reducible rfl)
 try simp only [Act.put,List.setIfInBounds_toArray,List.set_cons_zero,List.set_cons_succ]
 refine wpAnyH_take (i:=12) (oi:=(.mk (some 3) (.assign (.tmp 15)) 4 "rules.go:46" #[.mk 11 .data,.mk 10 .chain,.mk 0 .phase,.mk 1 .phase,.mk 2 .phase,.mk 3 .phase,.mk 4 .phase,.mk 5 .phase,.mk 6 .phase,.mk 7 .phase,.mk 8 .phase,.mk 9 .phase,.mk 10 .phase,.mk 11 .phase] none)) (v:=?_) rfl (by kernel_rfl) (by kernel_rfl) (by kernel_rfl) (fun _ _ _ h=>h) (Or.inl ⟨by rfl,?_⟩) hC ?_
 rotate_left
 ·(intro w hSw;(try dsimp only at hSw);go_simp;try with_reducible rfl)
 try simp only [Act.put,List.setIfInBounds_toArray,List.set_cons_zero,List.set_cons_succ]
 refine wpAnyH_done (by kernel_rfl) ?_ _
 go_wp2_with fail
 go_ret
 exact⟨rfl,hM.out,hT.out⟩
set_option maxRecDepth 20000 in
set_option maxHeartbeats 4000000 in
theorem c3_ins {W:World}{f k i:Nat}{d:Fun}{x:Blk}{c:Ins}{vs:Array Value}{Bx bm:Nat}{l:List ByteArray}{U:Nat→Prop}(hf:(Prt.ins f k i d x c).Fits)(h:PrtV W (Prt.ins f k i d x c) vs)(hX:SetBx Bx l U bm W)(hll:l.length≤2000000000000000000):
  Calls Tryz.prog 130 #[.agg vs,.pointer (some ⟨Bx,0,none⟩)] W fun e W'=>e=.returned (.bool false)∧SetBx Bx l U bm W'∧Touch W W' (fun k=>k=bm):=by
 obtain⟨b,o,b2,o2,b3,o3,ca,aa,la,cc,ac,lc,rfl,hF⟩:=InsBox.mk' h
 have hB0:=box_below W (.cells #[.int .i64 f,.int .i64 k,.int .i64 i,.pointer (some ⟨b,o,none⟩),.pointer (some ⟨b2,o2,none⟩),.pointer (some ⟨b3,o3,none⟩)] 144)
 have hXb:=hX.below hB0
 have hC:(W.alloc (.cells #[.int .i64 f,.int .i64 k,.int .i64 i,.pointer (some ⟨b,o,none⟩),.pointer (some ⟨b2,o2,none⟩),.pointer (some ⟨b3,o3,none⟩)] 144)).drew.cell? ⟨W.heap.size,0,none⟩=some (.int .i64 f)∧(W.alloc (.cells #[.int .i64 f,.int .i64 k,.int .i64 i,.pointer (some ⟨b,o,none⟩),.pointer (some ⟨b2,o2,none⟩),.pointer (some ⟨b3,o3,none⟩)] 144)).drew.cell? ⟨W.heap.size,1,none⟩=some (.int .i64 k)∧(W.alloc (.cells #[.int .i64 f,.int .i64 k,.int .i64 i,.pointer (some ⟨b,o,none⟩),.pointer (some ⟨b2,o2,none⟩),.pointer (some ⟨b3,o3,none⟩)] 144)).drew.cell? ⟨W.heap.size,2,none⟩=some (.int .i64 i)∧(W.alloc (.cells #[.int .i64 f,.int .i64 k,.int .i64 i,.pointer (some ⟨b,o,none⟩),.pointer (some ⟨b2,o2,none⟩),.pointer (some ⟨b3,o3,none⟩)] 144)).drew.cell? ⟨W.heap.size,3,none⟩=some (.pointer (some ⟨b,o,none⟩))∧(W.alloc (.cells #[.int .i64 f,.int .i64 k,.int .i64 i,.pointer (some ⟨b,o,none⟩),.pointer (some ⟨b2,o2,none⟩),.pointer (some ⟨b3,o3,none⟩)] 144)).drew.cell? ⟨W.heap.size,4,none⟩=some (.pointer (some ⟨b2,o2,none⟩))∧(W.alloc (.cells #[.int .i64 f,.int .i64 k,.int .i64 i,.pointer (some ⟨b,o,none⟩),.pointer (some ⟨b2,o2,none⟩),.pointer (some ⟨b3,o3,none⟩)] 144)).drew.cell? ⟨W.heap.size,5,none⟩=some (.pointer (some ⟨b3,o3,none⟩))∧(W.alloc (.cells #[.int .i64 f,.int .i64 k,.int .i64 i,.pointer (some ⟨b,o,none⟩),.pointer (some ⟨b2,o2,none⟩),.pointer (some ⟨b3,o3,none⟩)] 144)).drew.cell? ⟨b3,o3+1,none⟩=some (.string c.dst)∧(W.alloc (.cells #[.int .i64 f,.int .i64 k,.int .i64 i,.pointer (some ⟨b,o,none⟩),.pointer (some ⟨b2,o2,none⟩),.pointer (some ⟨b3,o3,none⟩)] 144)).drew.cell? ⟨Bx,0,none⟩=some (.map (some bm)):=⟨hF.s0,hF.s1,hF.s2,hF.s3,hF.s4,hF.s5,hF.c1,(show (W.alloc (.cells #[.int .i64 f,.int .i64 k,.int .i64 i,.pointer (some ⟨b,o,none⟩),.pointer (some ⟨b2,o2,none⟩),.pointer (some ⟨b3,o3,none⟩)] 144)).cell? ⟨Bx,0,none⟩=some (.map (some bm)) from by rw [blk_cell hXb.box];rfl)⟩
 clear h hX
 have hM:Hid (SetBx Bx l U bm (W.alloc (.cells #[.int .i64 f,.int .i64 k,.int .i64 i,.pointer (some ⟨b,o,none⟩),.pointer (some ⟨b2,o2,none⟩),.pointer (some ⟨b3,o3,none⟩)] 144)).drew):=Lib.hid (hXb.below (Below.refl _ _).drew)
 have hT:Hid (Touch W (W.alloc (.cells #[.int .i64 f,.int .i64 k,.int .i64 i,.pointer (some ⟨b,o,none⟩),.pointer (some ⟨b2,o2,none⟩),.pointer (some ⟨b3,o3,none⟩)] 144)).drew (fun k=>k=bm)):=Lib.hid ((Touch.of_below hB0 _).drew)
 clear hXb hF hB0
 go_enter Tryz.func130,Tryz.ntmps130
 go_upto_region 1 with fail
 refine wp_region_held_drew (S:=(fun w'=>w'.cell? ⟨W.heap.size,0,none⟩=some (.int .i64 f)∧w'.cell? ⟨W.heap.size,1,none⟩=some (.int .i64 k)∧w'.cell? ⟨W.heap.size,2,none⟩=some (.int .i64 i)∧w'.cell? ⟨W.heap.size,3,none⟩=some (.pointer (some ⟨b,o,none⟩))∧w'.cell? ⟨W.heap.size,4,none⟩=some (.pointer (some ⟨b2,o2,none⟩))∧w'.cell? ⟨W.heap.size,5,none⟩=some (.pointer (some ⟨b3,o3,none⟩))∧w'.cell? ⟨b3,o3+1,none⟩=some (.string c.dst)∧w'.cell? ⟨Bx,0,none⟩=some (.map (some bm)))) (by kernel_rfl) hC (fun hHeld=>?_)
 clear hHeld
 refine wpAnyH_take (i:=0) (oi:=(.mk (some 4) (.load 144 (.tmp 2)) 144 "rules.go:46" #[] none)) (v:=?_) rfl (by kernel_rfl) (by kernel_rfl) (by kernel_rfl) (fun _ _ _ h=>h) (Or.inl ⟨by rfl,?_⟩) hC ?_
 rotate_left
 ·(intro w hSw;(try dsimp only at hSw);go_simp;try with_reducible rfl)
 try simp only [Act.put,List.setIfInBounds_toArray,List.set_cons_zero,List.set_cons_succ]
 refine wpAnyH_ready (rs:=[1]) (by kernel_rfl) (by simp) (AllReadyH.cons (o:=(.mk (some 5) (.call (.mk (.value (.func 126)) #[(.tmp 4)] #[144])) 4 "rules.go:46" #[.mk 0 .data] none)) rfl (fun K hK=>?_) AllReadyH.nil)
 go_simp
 (go_at_call 126;refine Calls.mono (isFunc_v) ?_;rintro e w2 ⟨rfl,hb⟩;replace hC:=conj8 (fun h=>keepC hb h) hC;replace hM:=Lib.hid (hM.out.below hb);replace hT:=Lib.hid (hT.out.trans (Touch.of_below hb _)))
 refine hK.out _ _ hC (fun hHeld=>?_)
 clear hK K hHeld
 try simp only [Act.put,List.setIfInBounds_toArray,List.set_cons_zero,List.set_cons_succ]
 refine wpAnyH_take (i:=2) (oi:=(.mk (some 6) (.move (.tmp 5)) 4 "rules.go:46" #[.mk 1 .data,.mk 1 .chain] none)) (v:=?_) rfl (by kernel_rfl) (by kernel_rfl) (by kernel_rfl) (fun _ _ _ h=>h) (Or.inl ⟨by rfl,?_⟩) hC ?_
 rotate_left
 ·(intro w hSw;(try dsimp only at hSw);go_simp;try with_reducible rfl)
 try simp only [Act.put,List.setIfInBounds_toArray,List.set_cons_zero,List.set_cons_succ]
 refine wpAnyH_take (i:=3) (oi:=(.mk (some 7) (.load 148 (.tmp 1)) 148 "rules.go:46" #[.mk 2 .guard] (some (2,true)))) (v:=undef) rfl (by kernel_rfl) (by kernel_rfl) (by kernel_rfl) (fun _ _ _ h=>h) (Or.inr ⟨by rfl,rfl⟩) hC ?_
 try simp only [Act.put,List.setIfInBounds_toArray,List.set_cons_zero,List.set_cons_succ]
 refine wpAnyH_take (i:=4) (oi:=(.mk (some 8) (.fieldAddr 144 (.tmp 2) 1) 0 "rules.go:46" #[.mk 2 .guard] (some (2,true)))) (v:=undef) rfl (by kernel_rfl) (by kernel_rfl) (by kernel_rfl) (fun _ _ _ h=>h) (Or.inr ⟨by rfl,rfl⟩) hC ?_
 try simp only [Act.put,List.setIfInBounds_toArray,List.set_cons_zero,List.set_cons_succ]
 refine wpAnyH_take (i:=5) (oi:=(.mk (some 9) (.load 120 (.tmp 8)) 120 "rules.go:46" #[.mk 4 .data,.mk 2 .guard] (some (2,true)))) (v:=undef) rfl (by kernel_rfl) (by kernel_rfl) (by kernel_rfl) (fun _ _ _ h=>h) (Or.inr ⟨by rfl,rfl⟩) hC ?_
 try simp only [Act.put,List.setIfInBounds_toArray,List.set_cons_zero,List.set_cons_succ]
 refine wpAnyH_take (i:=6) (oi:=(.mk (some 10) (.nilCheck (.tmp 9)) 0 "rules.go:46" #[.mk 5 .data,.mk 2 .guard] (some (2,true)))) (v:=undef) rfl (by kernel_rfl) (by kernel_rfl) (by kernel_rfl) (fun _ _ _ h=>h) (Or.inr ⟨by rfl,rfl⟩) hC ?_
 try simp only [Act.put,List.setIfInBounds_toArray,List.set_cons_zero,List.set_cons_succ]
 refine wpAnyH_take (i:=7) (oi:=(.mk (some 11) (.fieldAddr 40 (.tmp 10) 0) 0 "rules.go:46" #[.mk 6 .data,.mk 2 .guard] (some (2,true)))) (v:=undef) rfl (by kernel_rfl) (by kernel_rfl) (by kernel_rfl) (fun _ _ _ h=>h) (Or.inr ⟨by rfl,rfl⟩) hC ?_
 try simp only [Act.put,List.setIfInBounds_toArray,List.set_cons_zero,List.set_cons_succ]
 refine wpAnyH_take (i:=8) (oi:=(.mk (some 12) (.load 9 (.tmp 11)) 9 "rules.go:46" #[.mk 7 .data,.mk 2 .guard] (some (2,true)))) (v:=undef) rfl (by kernel_rfl) (by kernel_rfl) (by kernel_rfl) (fun _ _ _ h=>h) (Or.inr ⟨by rfl,rfl⟩) hC ?_
 try simp only [Act.put,List.setIfInBounds_toArray,List.set_cons_zero,List.set_cons_succ]
 refine wpAnyH_take (i:=9) (oi:=(.mk (some 13) (.buildSlice 37 1 #[(0,(.tmp 12))]) 37 "rules.go:46" #[.mk 8 .data,.mk 2 .guard] (some (2,true)))) (v:=undef) rfl (by kernel_rfl) (by kernel_rfl) (by kernel_rfl) (fun _ _ _ h=>h) (Or.inr ⟨by rfl,rfl⟩) hC ?_
 try simp only [Act.put,List.setIfInBounds_toArray,List.set_cons_zero,List.set_cons_succ]
 refine wpAnyH_take (i:=10) (oi:=(.mk (some 14) (.call (.mk (.value (.func 131)) #[(.tmp 7),(.tmp 13)] #[148,37])) 4 "rules.go:46" #[.mk 3 .data,.mk 9 .data,.mk 2 .chain,.mk 2 .guard] (some (2,true)))) (v:=undef) rfl (by kernel_rfl) (by kernel_rfl) (by kernel_rfl) (fun _ _ _ h=>h) (Or.inr ⟨by rfl,rfl⟩) hC ?_
 try simp only [Act.put,List.setIfInBounds_toArray,List.set_cons_zero,List.set_cons_succ]
 refine wpAnyH_take (i:=11) (oi:=(.mk (some 15) (.pick (.tmp 6) (.tmp 14) (.const (Value.bool false))) 4 "rules.go:46" #[.mk 2 .data,.mk 10 .data] none)) (v:=?_) rfl (by kernel_rfl) (by kernel_rfl) (by kernel_rfl) (fun _ _ _ h=>h) (Or.inl ⟨by rfl,?_⟩) hC ?_
 rotate_left
 ·(intro w hSw;(try dsimp only at hSw);go_simp;try with_reducible rfl)
 try simp only [Act.put,List.setIfInBounds_toArray,List.set_cons_zero,List.set_cons_succ]
 refine wpAnyH_take (i:=12) (oi:=(.mk (some 3) (.assign (.tmp 15)) 4 "rules.go:46" #[.mk 11 .data,.mk 10 .chain,.mk 0 .phase,.mk 1 .phase,.mk 2 .phase,.mk 3 .phase,.mk 4 .phase,.mk 5 .phase,.mk 6 .phase,.mk 7 .phase,.mk 8 .phase,.mk 9 .phase,.mk 10 .phase,.mk 11 .phase] none)) (v:=?_) rfl (by kernel_rfl) (by kernel_rfl) (by kernel_rfl) (fun _ _ _ h=>h) (Or.inl ⟨by rfl,?_⟩) hC ?_
 rotate_left
 ·(intro w hSw;(try dsimp only at hSw);go_simp;try with_reducible rfl)
 try simp only [Act.put,List.setIfInBounds_toArray,List.set_cons_zero,List.set_cons_succ]
 refine wpAnyH_done (by kernel_rfl) ?_ _
 go_wp2_with fail
 go_ret
 exact⟨rfl,hM.out,hT.out⟩
set_option maxRecDepth 20000 in
set_option maxHeartbeats 4000000 in
theorem c7_blk {W:World}{f k:Nat}{d:Fun}{x:Blk}{vs:Array Value}{Bx bm:Nat}{l:List ByteArray}{U:Nat→Prop}(hf:(Prt.blk f k d x).Fits)(h:PrtV W (Prt.blk f k d x) vs)(hX:SetBx Bx l U bm W)(hll:l.length≤2000000000000000000):
  Calls Tryz.prog 137 #[.agg vs,.pointer (some ⟨Bx,0,none⟩)] W fun e W'=>e=.returned (.bool (twiceL l [x.label]).1)∧SetBx Bx (twiceL l [x.label]).2 U bm W'∧Touch W W' (fun k=>k=bm):=by
 obtain⟨b,o,b2,o2,ca,cc,rfl,hF⟩:=BlkBox.mk' h
 have hB0:=box_below W (.cells #[.int .i64 f,.int .i64 k,.int .i64 0,.pointer (some ⟨b,o,none⟩),.pointer (some ⟨b2,o2,none⟩),.pointer none] 144)
 have hM:=hX.below hB0
 have hT:=Touch.of_below hB0 (fun k=>k=bm)
 have hfit:∀s∈[x.label],s.size≤maxLen:=fun s hs=>by rw [List.mem_singleton.1 hs];exact hf.2.1
 clear h hX hB0
 go_enter Tryz.func137,Tryz.ntmps137
 go_upto_region 1 with fail
 generalize (W.alloc (.cells #[.int .i64 f,.int .i64 k,.int .i64 0,.pointer (some ⟨b,o,none⟩),.pointer (some ⟨b2,o2,none⟩),.pointer none] 144))=wb at hF hM hT ⊢
 replace hF:=Lib.hid hF
 replace hM:=Lib.hid hM
 replace hT:=Lib.hid hT
 obtain⟨s0,s1,s2,s3,s4,s5,f0,f1⟩:=hF.out
 go_wp2_with ((go_at_call 126;refine Calls.mono (isFunc_v) ?_;rintro e w2 ⟨rfl,hb⟩;replace hF:=Lib.hid (hF.out.keep hb);replace hM:=Lib.hid (hM.out.below hb);replace hT:=Lib.hid (hT.out.trans (Touch.of_below hb _))))
 have hC:w2.drew.cell? ⟨W.heap.size,0,none⟩=some (.int .i64 f)∧w2.drew.cell? ⟨W.heap.size,1,none⟩=some (.int .i64 k)∧w2.drew.cell? ⟨W.heap.size,2,none⟩=some (.int .i64 0)∧w2.drew.cell? ⟨W.heap.size,3,none⟩=some (.pointer (some ⟨b,o,none⟩))∧w2.drew.cell? ⟨W.heap.size,4,none⟩=some (.pointer (some ⟨b2,o2,none⟩))∧w2.drew.cell? ⟨W.heap.size,5,none⟩=some (.pointer none)∧w2.drew.cell? ⟨b2,o2,none⟩=some (.string x.label)∧w2.drew.cell? ⟨Bx,0,none⟩=some (.map (some bm)):=⟨hF.out.s0,hF.out.s1,hF.out.s2,hF.out.s3,hF.out.s4,hF.out.s5,hF.out.f0,(show w2.cell? ⟨Bx,0,none⟩=some (.map (some bm)) from by rw [blk_cell hM.out.box];rfl)⟩
 replace hM:=Lib.hid (hM.out.below (Below.refl _ _).drew)
 replace hT:=Lib.hid hT.out.drew
 clear s0 s1 s2 s3 s4 s5 f0 f1 hF
 refine wp_region_held_drew (S:=(fun w'=>w'.cell? ⟨W.heap.size,0,none⟩=some (.int .i64 f)∧w'.cell? ⟨W.heap.size,1,none⟩=some (.int .i64 k)∧w'.cell? ⟨W.heap.size,2,none⟩=some (.int .i64 0)∧w'.cell? ⟨W.heap.size,3,none⟩=some (.pointer (some ⟨b,o,none⟩))∧w'.cell? ⟨W.heap.size,4,none⟩=some (.pointer (some ⟨b2,o2,none⟩))∧w'.cell? ⟨W.heap.size,5,none⟩=some (.pointer none)∧w'.cell? ⟨b2,o2,none⟩=some (.string x.label)∧w'.cell? ⟨Bx,0,none⟩=some (.map (some bm)))) (by kernel_rfl) hC (fun hHeld=>?_)
 clear hHeld
 refine wpAnyH_take (i:=0) (oi:=(.mk (some 7) (.load 144 (.tmp 2)) 144 "rules.go:99" #[] none)) (v:=?_) rfl (by kernel_rfl) (by kernel_rfl) (by kernel_rfl) (fun _ _ _ h=>h) (Or.inl ⟨by rfl,?_⟩) hC ?_
 rotate_left
 ·(intro w hSw;(try dsimp only at hSw);go_simp;try with_reducible rfl)
 try simp only [Act.put,List.setIfInBounds_toArray,List.set_cons_zero,List.set_cons_succ]
 refine wpAnyH_ready (rs:=[1]) (by kernel_rfl) (by simp) (AllReadyH.cons (o:=(.mk (some 8) (.call (.mk (.value (.func 128)) #[(.tmp 7)] #[144])) 4 "rules.go:99" #[.mk 0 .data] none)) rfl (fun K hK=>?_) AllReadyH.nil)
 go_simp
 (go_at_call 128;refine Calls.mono (isBlock_v) ?_;rintro e w2 ⟨rfl,hb⟩;replace hC:=conj8 (fun h=>keepC hb h) hC;replace hM:=Lib.hid (hM.out.below hb);replace hT:=Lib.hid (hT.out.trans (Touch.of_below hb _)))
 refine hK.out _ _ hC (fun hHeld=>?_)
 clear hK K hHeld
 try simp only [Act.put,List.setIfInBounds_toArray,List.set_cons_zero,List.set_cons_succ]
 refine wpAnyH_take (i:=2) (oi:=(.mk (some 9) (.move (.tmp 8)) 4 "rules.go:99" #[.mk 1 .data,.mk 1 .chain] none)) (v:=?_) rfl (by kernel_rfl) (by kernel_rfl) (by kernel_rfl) (fun _ _ _ h=>h) (Or.inl ⟨by rfl,?_⟩) hC ?_
 rotate_left
 ·(intro w hSw;(try dsimp only at hSw);go_simp;try with_reducible rfl)
 try simp only [Act.put,List.setIfInBounds_toArray,List.set_cons_zero,List.set_cons_succ]
 refine wpAnyH_take (i:=3) (oi:=(.mk (some 10) (.load 148 (.tmp 1)) 148 "rules.go:99" #[.mk 2 .guard] (some (2,true)))) (v:=?_) rfl (by kernel_rfl) (by kernel_rfl) (by kernel_rfl) (fun _ _ _ h=>h) (Or.inl ⟨by rfl,?_⟩) hC ?_
 rotate_left
 ·(intro w hSw;(try dsimp only at hSw);go_simp;try with_reducible rfl)
 try simp only [Act.put,List.setIfInBounds_toArray,List.set_cons_zero,List.set_cons_succ]
 refine wpAnyH_take (i:=4) (oi:=(.mk (some 11) (.fieldAddr 144 (.tmp 2) 2) 0 "rules.go:99" #[.mk 2 .guard] (some (2,true)))) (v:=?_) rfl (by kernel_rfl) (by kernel_rfl) (by kernel_rfl) (fun _ _ _ h=>h) (Or.inl ⟨by rfl,?_⟩) hC ?_
 rotate_left
 ·(intro w hSw;(try dsimp only at hSw);go_simp;try with_reducible rfl)
 try simp only [Act.put,List.setIfInBounds_toArray,List.set_cons_zero,List.set_cons_succ]
 refine wpAnyH_take (i:=5) (oi:=(.mk (some 12) (.load 142 (.tmp 11)) 142 "rules.go:99" #[.mk 4 .data,.mk 2 .guard] (some (2,true)))) (v:=?_) rfl (by kernel_rfl) (by kernel_rfl) (by kernel_rfl) (fun _ _ _ h=>h) (Or.inl ⟨by rfl,?_⟩) hC ?_
 rotate_left
 ·(intro w hSw;(try dsimp only at hSw);go_simp;try with_reducible rfl)
 try simp only [Act.put,List.setIfInBounds_toArray,List.set_cons_zero,List.set_cons_succ]
 refine wpAnyH_take (i:=6) (oi:=(.mk (some 13) (.nilCheck (.tmp 12)) 0 "rules.go:99" #[.mk 5 .data,.mk 2 .guard] (some (2,true)))) (v:=?_) rfl (by kernel_rfl) (by kernel_rfl) (by kernel_rfl) (fun _ _ _ h=>h) (Or.inl ⟨by rfl,?_⟩) hC ?_
 rotate_left
 ·(intro w hSw;(try dsimp only at hSw);go_simp;try with_reducible rfl)
 try simp only [Act.put,List.setIfInBounds_toArray,List.set_cons_zero,List.set_cons_succ]
 refine wpAnyH_take (i:=7) (oi:=(.mk (some 14) (.fieldAddr 43 (.tmp 13) 0) 0 "rules.go:99" #[.mk 6 .data,.mk 2 .guard] (some (2,true)))) (v:=?_) rfl (by kernel_rfl) (by kernel_rfl) (by kernel_rfl) (fun _ _ _ h=>h) (Or.inl ⟨by rfl,?_⟩) hC ?_
 rotate_left
 ·(intro w hSw;(try dsimp only at hSw);go_simp;try with_reducible rfl)
 try simp only [Act.put,List.setIfInBounds_toArray,List.set_cons_zero,List.set_cons_succ]
 refine wpAnyH_take (i:=8) (oi:=(.mk (some 15) (.load 9 (.tmp 14)) 9 "rules.go:99" #[.mk 7 .data,.mk 2 .guard] (some (2,true)))) (v:=?_) rfl (by kernel_rfl) (by kernel_rfl) (by kernel_rfl) (fun _ _ _ h=>h) (Or.inl ⟨by rfl,?_⟩) hC ?_
 rotate_left
 ·(intro w hSw;(try dsimp only at hSw);go_simp;try with_reducible rfl)
 try simp only [Act.put,List.setIfInBounds_toArray,List.set_cons_zero,List.set_cons_succ]
 refine wpAnyH_ready (rs:=[9]) (by kernel_rfl) (by simp) (AllReadyH.cons (o:=(.mk (some 16) (.buildSlice 37 1 #[(0,(.tmp 15))]) 37 "rules.go:99" #[.mk 8 .data,.mk 2 .guard] (some (2,true)))) rfl (fun K hK=>?_) AllReadyH.nil)
 go_simp
 have hb9:=box_below w2 (.cells #[.string x.label] 9);have hR:RdS (w2.alloc (.cells #[.string x.label] 9)) (.slice (some ⟨w2.heap.size,0,none⟩) 1 1) [x.label]:=rds_one (at_newN rfl);replace hC:=conj8 (fun h=>keepC hb9 h) hC;replace hM:=Lib.hid (hM.out.below hb9);replace hT:=Lib.hid (hT.out.trans (Touch.of_below hb9 _))
 refine hK.out _ _ hC (fun hHeld=>?_)
 clear hK K hHeld
 try simp only [Act.put,List.setIfInBounds_toArray,List.set_cons_zero,List.set_cons_succ]
 refine wpAnyH_ready (rs:=[10]) (by kernel_rfl) (by simp) (AllReadyH.cons (o:=(.mk (some 17) (.call (.mk (.value (.func 131)) #[(.tmp 10),(.tmp 16)] #[148,37])) 4 "rules.go:99" #[.mk 3 .data,.mk 9 .data,.mk 2 .chain,.mk 2 .guard] (some (2,true)))) rfl (fun K hK=>?_) AllReadyH.nil)
 go_simp
 (go_at_call 131;refine Calls.mono (twice_any hM.out.set hR hfit (by simp;omega)) ?_;rintro e w3 ⟨rfl,hs3,hT3⟩;replace hC:=conj8 (fun h=>cell_apart hM.out.set hT3 h) hC;replace hT:=Lib.hid (hT.out.trans hT3);replace hM:=Lib.hid (hM.out.turned hs3 hT3))
 refine hK.out _ _ hC (fun hHeld=>?_)
 clear hK K hHeld
 try simp only [Act.put,List.setIfInBounds_toArray,List.set_cons_zero,List.set_cons_succ]
 refine wpAnyH_take (i:=11) (oi:=(.mk (some 18) (.pick (.tmp 9) (.tmp 17) (.const (Value.bool false))) 4 "rules.go:99" #[.mk 2 .data,.mk 10 .data] none)) (v:=?_) rfl (by kernel_rfl) (by kernel_rfl) (by kernel_rfl) (fun _ _ _ h=>h) (Or.inl ⟨by rfl,?_⟩) hC ?_
 rotate_left
 ·(intro w hSw;(try dsimp only at hSw);go_simp;try with_reducible rfl)
 try simp only [Act.put,List.setIfInBounds_toArray,List.set_cons_zero,List.set_cons_succ]
 refine wpAnyH_take (i:=12) (oi:=(.mk (some 3) (.assign (.tmp 18)) 4 "rules.go:99" #[.mk 11 .data,.mk 10 .chain,.mk 0 .phase,.mk 1 .phase,.mk 2 .phase,.mk 3 .phase,.mk 4 .phase,.mk 5 .phase,.mk 6 .phase,.mk 7 .phase,.mk 8 .phase,.mk 9 .phase,.mk 10 .phase,.mk 11 .phase] none)) (v:=?_) rfl (by kernel_rfl) (by kernel_rfl) (by kernel_rfl) (fun _ _ _ h=>h) (Or.inl ⟨by rfl,?_⟩) hC ?_
 rotate_left
 ·(intro w hSw;(try dsimp only at hSw);go_simp;try with_reducible rfl)
 try simp only [Act.put,List.setIfInBounds_toArray,List.set_cons_zero,List.set_cons_succ]
 refine wpAnyH_done (by kernel_rfl) ?_ _
 go_wp2_with fail
 go_ret
 exact⟨rfl,hM.out,hT.out⟩
set_option maxRecDepth 20000 in
set_option maxHeartbeats 4000000 in
theorem c7_ins {W:World}{f k i:Nat}{d:Fun}{x:Blk}{c:Ins}{vs:Array Value}{Bx bm:Nat}{l:List ByteArray}{U:Nat→Prop}(hf:(Prt.ins f k i d x c).Fits)(h:PrtV W (Prt.ins f k i d x c) vs)(hX:SetBx Bx l U bm W)(hll:l.length≤2000000000000000000):
  Calls Tryz.prog 137 #[.agg vs,.pointer (some ⟨Bx,0,none⟩)] W fun e W'=>e=.returned (.bool false)∧SetBx Bx l U bm W'∧Touch W W' (fun k=>k=bm):=by
 obtain⟨b,o,b2,o2,b3,o3,ca,aa,la,cc,ac,lc,rfl,hF⟩:=InsBox.mk' h
 have hB0:=box_below W (.cells #[.int .i64 f,.int .i64 k,.int .i64 i,.pointer (some ⟨b,o,none⟩),.pointer (some ⟨b2,o2,none⟩),.pointer (some ⟨b3,o3,none⟩)] 144)
 have hM:=hX.below hB0
 have hT:=Touch.of_below hB0 (fun k=>k=bm)
 clear h hX hB0
 go_enter Tryz.func137,Tryz.ntmps137
 go_upto_region 1 with fail
 generalize (W.alloc (.cells #[.int .i64 f,.int .i64 k,.int .i64 i,.pointer (some ⟨b,o,none⟩),.pointer (some ⟨b2,o2,none⟩),.pointer (some ⟨b3,o3,none⟩)] 144))=wb at hF hM hT ⊢
 replace hF:=Lib.hid hF
 replace hM:=Lib.hid hM
 replace hT:=Lib.hid hT
 obtain⟨s0,s1,s2,s3,s4,s5,f1,c0,c1,c5,c6,c7,hat,ra,rl,rc⟩:=hF.out
 go_wp2_with ((go_at_call 126;refine Calls.mono (isFunc_v) ?_;rintro e w2 ⟨rfl,hb⟩;replace hF:=Lib.hid (hF.out.keep hb);replace hM:=Lib.hid (hM.out.below hb);replace hT:=Lib.hid (hT.out.trans (Touch.of_below hb _))))
 have hC:w2.drew.cell? ⟨W.heap.size,0,none⟩=some (.int .i64 f)∧w2.drew.cell? ⟨W.heap.size,1,none⟩=some (.int .i64 k)∧w2.drew.cell? ⟨W.heap.size,2,none⟩=some (.int .i64 i)∧w2.drew.cell? ⟨W.heap.size,3,none⟩=some (.pointer (some ⟨b,o,none⟩))∧w2.drew.cell? ⟨W.heap.size,4,none⟩=some (.pointer (some ⟨b2,o2,none⟩))∧w2.drew.cell? ⟨W.heap.size,5,none⟩=some (.pointer (some ⟨b3,o3,none⟩))∧w2.drew.cell? ⟨b3,o3+1,none⟩=some (.string c.dst)∧w2.drew.cell? ⟨Bx,0,none⟩=some (.map (some bm)):=⟨hF.out.s0,hF.out.s1,hF.out.s2,hF.out.s3,hF.out.s4,hF.out.s5,hF.out.c1,(show w2.cell? ⟨Bx,0,none⟩=some (.map (some bm)) from by rw [blk_cell hM.out.box];rfl)⟩
 replace hM:=Lib.hid (hM.out.below (Below.refl _ _).drew)
 replace hT:=Lib.hid hT.out.drew
 clear s0 s1 s2 s3 s4 s5 f1 c0 c1 c5 c6 c7 hat ra rl rc hF
 refine wp_region_held_drew (S:=(fun w'=>w'.cell? ⟨W.heap.size,0,none⟩=some (.int .i64 f)∧w'.cell? ⟨W.heap.size,1,none⟩=some (.int .i64 k)∧w'.cell? ⟨W.heap.size,2,none⟩=some (.int .i64 i)∧w'.cell? ⟨W.heap.size,3,none⟩=some (.pointer (some ⟨b,o,none⟩))∧w'.cell? ⟨W.heap.size,4,none⟩=some (.pointer (some ⟨b2,o2,none⟩))∧w'.cell? ⟨W.heap.size,5,none⟩=some (.pointer (some ⟨b3,o3,none⟩))∧w'.cell? ⟨b3,o3+1,none⟩=some (.string c.dst)∧w'.cell? ⟨Bx,0,none⟩=some (.map (some bm)))) (by kernel_rfl) hC (fun hHeld=>?_)
 clear hHeld
 refine wpAnyH_take (i:=0) (oi:=(.mk (some 7) (.load 144 (.tmp 2)) 144 "rules.go:99" #[] none)) (v:=?_) rfl (by kernel_rfl) (by kernel_rfl) (by kernel_rfl) (fun _ _ _ h=>h) (Or.inl ⟨by rfl,?_⟩) hC ?_
 rotate_left
 ·(intro w hSw;(try dsimp only at hSw);go_simp;try with_reducible rfl)
 try simp only [Act.put,List.setIfInBounds_toArray,List.set_cons_zero,List.set_cons_succ]
 refine wpAnyH_ready (rs:=[1]) (by kernel_rfl) (by simp) (AllReadyH.cons (o:=(.mk (some 8) (.call (.mk (.value (.func 128)) #[(.tmp 7)] #[144])) 4 "rules.go:99" #[.mk 0 .data] none)) rfl (fun K hK=>?_) AllReadyH.nil)
 go_simp
 (go_at_call 128;refine Calls.mono (isBlock_v) ?_;rintro e w2 ⟨rfl,hb⟩;replace hC:=conj8 (fun h=>keepC hb h) hC;replace hM:=Lib.hid (hM.out.below hb);replace hT:=Lib.hid (hT.out.trans (Touch.of_below hb _)))
 refine hK.out _ _ hC (fun hHeld=>?_)
 clear hK K hHeld
 try simp only [Act.put,List.setIfInBounds_toArray,List.set_cons_zero,List.set_cons_succ]
 refine wpAnyH_take (i:=2) (oi:=(.mk (some 9) (.move (.tmp 8)) 4 "rules.go:99" #[.mk 1 .data,.mk 1 .chain] none)) (v:=?_) rfl (by kernel_rfl) (by kernel_rfl) (by kernel_rfl) (fun _ _ _ h=>h) (Or.inl ⟨by rfl,?_⟩) hC ?_
 rotate_left
 ·(intro w hSw;(try dsimp only at hSw);go_simp;try with_reducible rfl)
 try simp only [Act.put,List.setIfInBounds_toArray,List.set_cons_zero,List.set_cons_succ]
 refine wpAnyH_take (i:=3) (oi:=(.mk (some 10) (.load 148 (.tmp 1)) 148 "rules.go:99" #[.mk 2 .guard] (some (2,true)))) (v:=undef) rfl (by kernel_rfl) (by kernel_rfl) (by kernel_rfl) (fun _ _ _ h=>h) (Or.inr ⟨by rfl,rfl⟩) hC ?_
 try simp only [Act.put,List.setIfInBounds_toArray,List.set_cons_zero,List.set_cons_succ]
 refine wpAnyH_take (i:=4) (oi:=(.mk (some 11) (.fieldAddr 144 (.tmp 2) 2) 0 "rules.go:99" #[.mk 2 .guard] (some (2,true)))) (v:=undef) rfl (by kernel_rfl) (by kernel_rfl) (by kernel_rfl) (fun _ _ _ h=>h) (Or.inr ⟨by rfl,rfl⟩) hC ?_
 try simp only [Act.put,List.setIfInBounds_toArray,List.set_cons_zero,List.set_cons_succ]
 refine wpAnyH_take (i:=5) (oi:=(.mk (some 12) (.load 142 (.tmp 11)) 142 "rules.go:99" #[.mk 4 .data,.mk 2 .guard] (some (2,true)))) (v:=undef) rfl (by kernel_rfl) (by kernel_rfl) (by kernel_rfl) (fun _ _ _ h=>h) (Or.inr ⟨by rfl,rfl⟩) hC ?_
 try simp only [Act.put,List.setIfInBounds_toArray,List.set_cons_zero,List.set_cons_succ]
 refine wpAnyH_take (i:=6) (oi:=(.mk (some 13) (.nilCheck (.tmp 12)) 0 "rules.go:99" #[.mk 5 .data,.mk 2 .guard] (some (2,true)))) (v:=undef) rfl (by kernel_rfl) (by kernel_rfl) (by kernel_rfl) (fun _ _ _ h=>h) (Or.inr ⟨by rfl,rfl⟩) hC ?_
 try simp only [Act.put,List.setIfInBounds_toArray,List.set_cons_zero,List.set_cons_succ]
 refine wpAnyH_take (i:=7) (oi:=(.mk (some 14) (.fieldAddr 43 (.tmp 13) 0) 0 "rules.go:99" #[.mk 6 .data,.mk 2 .guard] (some (2,true)))) (v:=undef) rfl (by kernel_rfl) (by kernel_rfl) (by kernel_rfl) (fun _ _ _ h=>h) (Or.inr ⟨by rfl,rfl⟩) hC ?_
 try simp only [Act.put,List.setIfInBounds_toArray,List.set_cons_zero,List.set_cons_succ]
 refine wpAnyH_take (i:=8) (oi:=(.mk (some 15) (.load 9 (.tmp 14)) 9 "rules.go:99" #[.mk 7 .data,.mk 2 .guard] (some (2,true)))) (v:=undef) rfl (by kernel_rfl) (by kernel_rfl) (by kernel_rfl) (fun _ _ _ h=>h) (Or.inr ⟨by rfl,rfl⟩) hC ?_
 try simp only [Act.put,List.setIfInBounds_toArray,List.set_cons_zero,List.set_cons_succ]
 refine wpAnyH_take (i:=9) (oi:=(.mk (some 16) (.buildSlice 37 1 #[(0,(.tmp 15))]) 37 "rules.go:99" #[.mk 8 .data,.mk 2 .guard] (some (2,true)))) (v:=undef) rfl (by kernel_rfl) (by kernel_rfl) (by kernel_rfl) (fun _ _ _ h=>h) (Or.inr ⟨by rfl,rfl⟩) hC ?_
 try simp only [Act.put,List.setIfInBounds_toArray,List.set_cons_zero,List.set_cons_succ]
 refine wpAnyH_take (i:=10) (oi:=(.mk (some 17) (.call (.mk (.value (.func 131)) #[(.tmp 10),(.tmp 16)] #[148,37])) 4 "rules.go:99" #[.mk 3 .data,.mk 9 .data,.mk 2 .chain,.mk 2 .guard] (some (2,true)))) (v:=undef) rfl (by kernel_rfl) (by kernel_rfl) (by kernel_rfl) (fun _ _ _ h=>h) (Or.inr ⟨by rfl,rfl⟩) hC ?_
 try simp only [Act.put,List.setIfInBounds_toArray,List.set_cons_zero,List.set_cons_succ]
 refine wpAnyH_take (i:=11) (oi:=(.mk (some 18) (.pick (.tmp 9) (.tmp 17) (.const (Value.bool false))) 4 "rules.go:99" #[.mk 2 .data,.mk 10 .data] none)) (v:=?_) rfl (by kernel_rfl) (by kernel_rfl) (by kernel_rfl) (fun _ _ _ h=>h) (Or.inl ⟨by rfl,?_⟩) hC ?_
 rotate_left
 ·(intro w hSw;(try dsimp only at hSw);go_simp;try with_reducible rfl)
 try simp only [Act.put,List.setIfInBounds_toArray,List.set_cons_zero,List.set_cons_succ]
 refine wpAnyH_take (i:=12) (oi:=(.mk (some 3) (.assign (.tmp 18)) 4 "rules.go:99" #[.mk 11 .data,.mk 10 .chain,.mk 0 .phase,.mk 1 .phase,.mk 2 .phase,.mk 3 .phase,.mk 4 .phase,.mk 5 .phase,.mk 6 .phase,.mk 7 .phase,.mk 8 .phase,.mk 9 .phase,.mk 10 .phase,.mk 11 .phase] none)) (v:=?_) rfl (by kernel_rfl) (by kernel_rfl) (by kernel_rfl) (fun _ _ _ h=>h) (Or.inl ⟨by rfl,?_⟩) hC ?_
 rotate_left
 ·(intro w hSw;(try dsimp only at hSw);go_simp;try with_reducible rfl)
 try simp only [Act.put,List.setIfInBounds_toArray,List.set_cons_zero,List.set_cons_succ]
 refine wpAnyH_done (by kernel_rfl) ?_ _
 go_wp2_with fail
 go_ret
 exact⟨rfl,hM.out,hT.out⟩
set_option maxRecDepth 20000 in
set_option maxHeartbeats 4000000 in
theorem c7_fn {W:World}{f:Nat}{d:Fun}{vs:Array Value}{Bx:Nat}{ob:Option Nat}(h:PrtV W (Prt.fn f d) vs)(hX:W.heap[Bx]?=some (.cells #[.map ob] 148 (0,0))):
  Calls Tryz.prog 137 #[.agg vs,.pointer (some ⟨Bx,0,none⟩)] W fun e W'=>e=.returned (.bool false)∧∃bm,W.heap.size≤bm∧SetBx Bx [] (fun k=>k=Bx∨k=bm) bm W'∧Touch W W' (fun k=>k=Bx):=by
 obtain⟨b,o,rfl,-⟩:=h
 have hX1:=(box_below W (.cells #[.int .i64 f,.int .i64 0,.int .i64 0,.pointer (some ⟨b,o,none⟩),.pointer none,.pointer none] 144)).block Bx (Array.getElem?_eq_some_iff.1 hX).1
 rw [hX] at hX1
 have hN:(W.alloc (.cells #[.int .i64 f,.int .i64 0,.int .i64 0,.pointer (some ⟨b,o,none⟩),.pointer none,.pointer none] 144)).heap[W.heap.size]?=some (.cells #[.int .i64 f,.int .i64 0,.int .i64 0,.pointer (some ⟨b,o,none⟩),.pointer none,.pointer none] 144 (0,0)):=at_newN rfl
 have hT:Touch W (W.alloc (.cells #[.int .i64 f,.int .i64 0,.int .i64 0,.pointer (some ⟨b,o,none⟩),.pointer none,.pointer none] 144)) (fun k=>k=Bx):=Touch.of_below (box_below W _) _
 have hBx:Bx<W.heap.size:=(Array.getElem?_eq_some_iff.1 hX).1
 clear hX
 have hmm:=@run_makeMap Tryz.prog
 go_enter Tryz.func137,Tryz.ntmps137
 go_upto_region 1 with fail
 generalize (W.alloc (.cells #[.int .i64 f,.int .i64 0,.int .i64 0,.pointer (some ⟨b,o,none⟩),.pointer none,.pointer none] 144))=wb at hX1 hN hT ⊢
 have hlt:=(Array.getElem?_eq_some_iff.1 hN).1
 have s0:wb.cell? ⟨W.heap.size,0,none⟩=some (.int .i64 f):=by rw [blk_cell hN];rfl
 have s1:wb.cell? ⟨W.heap.size,1,none⟩=some (.int .i64 0):=by rw [blk_cell hN];rfl
 have s2:wb.cell? ⟨W.heap.size,2,none⟩=some (.int .i64 0):=by rw [blk_cell hN];rfl
 have s3:wb.cell? ⟨W.heap.size,3,none⟩=some (.pointer (some ⟨b,o,none⟩)):=by rw [blk_cell hN];rfl
 have s4:wb.cell? ⟨W.heap.size,4,none⟩=some (.pointer none):=by rw [blk_cell hN];rfl
 have s5:wb.cell? ⟨W.heap.size,5,none⟩=some (.pointer none):=by rw [blk_cell hN];rfl
 replace hX1:=Lib.hid hX1
 replace hN:=Lib.hid hN
 replace hT:=Lib.hid hT
 go_upto_region 2 with (go_at_call 126;refine Calls.mono isFunc_v ?_;rintro e w2 ⟨rfl,hb⟩)
 have hX2:=Lib.hid ((hb.block Bx (by omega)).trans hX1.out)
 have hN2:=Lib.hid ((hb.block _ hlt).trans hN.out)
 have hT2:=Lib.hid (hT.out.trans (Touch.of_below hb _))
 have hlt2:=Nat.lt_of_lt_of_le hlt hb.size
 have e0:w2.cell? ⟨Bx,0,none⟩=some (.map ob):=by rw [blk_cell hX2.out];rfl
 have y0:w2.frozen? ⟨Bx,0,none⟩=false:=by simp [World.frozen?,hX2.out]
 have e1:(w2.alloc (.map #[] 0)).cell? ⟨Bx,0,none⟩=some (.map ob):=by rw [blk_cell (at_oldN hX2.out)];rfl
 have y1:(w2.alloc (.map #[] 0)).frozen? ⟨Bx,0,none⟩=false:=by simp [World.frozen?,at_oldN hX2.out]
 clear s0 s1 s2 s3 s4 s5 hX1 hN hT hb hlt
 go_upto_region 3 with fail
 have hN4:((w2.alloc (.map #[] 0)).setCell ⟨Bx,0,none⟩ (.map (some w2.heap.size))).heap[W.heap.size]?=some (.cells #[.int .i64 f,.int .i64 0,.int .i64 0,.pointer (some ⟨b,o,none⟩),.pointer none,.pointer none] 144 (0,0)):=(Below.heap_setCell _ _ _ _ (show W.heap.size≠Bx by omega)).trans (at_oldN hN2.out)
 have hM4:SetBx Bx [] (fun k=>k=Bx∨k=w2.heap.size) w2.heap.size ((w2.alloc (.map #[] 0)).setCell ⟨Bx,0,none⟩ (.map (some w2.heap.size))):=
  ⟨set_one (at_oldN hX2.out),(SetS.new w2).block (Below.heap_setCell _ _ _ _ (show w2.heap.size≠Bx by omega)),by omega,fun k=>Iff.rfl⟩
 have hT4:Touch W ((w2.alloc (.map #[] 0)).setCell ⟨Bx,0,none⟩ (.map (some w2.heap.size))) (fun k=>k=Bx):=(hT2.out.alloc _).setCell (a:=⟨Bx,0,none⟩) (fun _=>rfl) _
 have hge:W.heap.size≤w2.heap.size:=by omega
 clear hX2 hN2 hT2 e0 y0 e1 y1 hlt2 hmm
 generalize ((w2.alloc (.map #[] 0)).setCell ⟨Bx,0,none⟩ (.map (some w2.heap.size)))=w4 at hN4 hM4 hT4 ⊢
 generalize w2.heap.size=bm at hM4 hge ⊢
 have hC:w4.drew.cell? ⟨W.heap.size,0,none⟩=some (.int .i64 f)∧w4.drew.cell? ⟨W.heap.size,1,none⟩=some (.int .i64 0)∧w4.drew.cell? ⟨W.heap.size,2,none⟩=some (.int .i64 0)∧w4.drew.cell? ⟨W.heap.size,3,none⟩=some (.pointer (some ⟨b,o,none⟩))∧w4.drew.cell? ⟨W.heap.size,4,none⟩=some (.pointer none)∧w4.drew.cell? ⟨W.heap.size,5,none⟩=some (.pointer none)∧w4.drew.cell? ⟨W.heap.size,5,none⟩=some (.pointer none)∧w4.drew.cell? ⟨Bx,0,none⟩=some (.map (some bm)):=⟨by rw [show w4.drew.cell? ⟨W.heap.size,0,none⟩=w4.cell? ⟨W.heap.size,0,none⟩ from rfl,blk_cell hN4];rfl,by rw [show w4.drew.cell? ⟨W.heap.size,1,none⟩=w4.cell? ⟨W.heap.size,1,none⟩ from rfl,blk_cell hN4];rfl,by rw [show w4.drew.cell? ⟨W.heap.size,2,none⟩=w4.cell? ⟨W.heap.size,2,none⟩ from rfl,blk_cell hN4];rfl,by rw [show w4.drew.cell? ⟨W.heap.size,3,none⟩=w4.cell? ⟨W.heap.size,3,none⟩ from rfl,blk_cell hN4];rfl,by rw [show w4.drew.cell? ⟨W.heap.size,4,none⟩=w4.cell? ⟨W.heap.size,4,none⟩ from rfl,blk_cell hN4];rfl,by rw [show w4.drew.cell? ⟨W.heap.size,5,none⟩=w4.cell? ⟨W.heap.size,5,none⟩ from rfl,blk_cell hN4];rfl,by rw [show w4.drew.cell? ⟨W.heap.size,5,none⟩=w4.cell? ⟨W.heap.size,5,none⟩ from rfl,blk_cell hN4];rfl,(show w4.cell? ⟨Bx,0,none⟩=some (.map (some bm)) from by rw [blk_cell hM4.box];rfl)⟩
 have hM:Hid (SetBx Bx [] (fun k=>k=Bx∨k=bm) bm w4.drew):=Lib.hid (hM4.below (Below.refl _ _).drew)
 have hT:Hid (Touch W w4.drew (fun k=>k=Bx)):=Lib.hid hT4.drew
 clear hN4 hM4 hT4
 refine wp_region_held_drew (S:=(fun w'=>w'.cell? ⟨W.heap.size,0,none⟩=some (.int .i64 f)∧w'.cell? ⟨W.heap.size,1,none⟩=some (.int .i64 0)∧w'.cell? ⟨W.heap.size,2,none⟩=some (.int .i64 0)∧w'.cell? ⟨W.heap.size,3,none⟩=some (.pointer (some ⟨b,o,none⟩))∧w'.cell? ⟨W.heap.size,4,none⟩=some (.pointer none)∧w'.cell? ⟨W.heap.size,5,none⟩=some (.pointer none)∧w'.cell? ⟨W.heap.size,5,none⟩=some (.pointer none)∧w'.cell? ⟨Bx,0,none⟩=some (.map (some bm)))) (by kernel_rfl) hC (fun hHeld=>?_)
 clear hHeld
 refine wpAnyH_take (i:=0) (oi:=(.mk (some 7) (.load 144 (.tmp 2)) 144 "rules.go:99" #[] none)) (v:=?_) rfl (by kernel_rfl) (by kernel_rfl) (by kernel_rfl) (fun _ _ _ h=>h) (Or.inl ⟨by rfl,?_⟩) hC ?_
 rotate_left
 ·(intro w hSw;(try dsimp only at hSw);go_simp;try with_reducible rfl)
 try simp only [Act.put,List.setIfInBounds_toArray,List.set_cons_zero,List.set_cons_succ]
 refine wpAnyH_ready (rs:=[1]) (by kernel_rfl) (by simp) (AllReadyH.cons (o:=(.mk (some 8) (.call (.mk (.value (.func 128)) #[(.tmp 7)] #[144])) 4 "rules.go:99" #[.mk 0 .data] none)) rfl (fun K hK=>?_) AllReadyH.nil)
 go_simp
 (go_at_call 128;refine Calls.mono (isBlock_v) ?_;rintro e w2 ⟨rfl,hb⟩;replace hC:=conj8 (fun h=>keepC hb h) hC;replace hM:=Lib.hid (hM.out.below hb);replace hT:=Lib.hid (hT.out.trans (Touch.of_below hb _)))
 refine hK.out _ _ hC (fun hHeld=>?_)
 clear hK K hHeld
 try simp only [Act.put,List.setIfInBounds_toArray,List.set_cons_zero,List.set_cons_succ]
 refine wpAnyH_take (i:=2) (oi:=(.mk (some 9) (.move (.tmp 8)) 4 "rules.go:99" #[.mk 1 .data,.mk 1 .chain] none)) (v:=?_) rfl (by kernel_rfl) (by kernel_rfl) (by kernel_rfl) (fun _ _ _ h=>h) (Or.inl ⟨by rfl,?_⟩) hC ?_
 rotate_left
 ·(intro w hSw;(try dsimp only at hSw);go_simp;try with_reducible rfl)
 try simp only [Act.put,List.setIfInBounds_toArray,List.set_cons_zero,List.set_cons_succ]
 refine wpAnyH_take (i:=3) (oi:=(.mk (some 10) (.load 148 (.tmp 1)) 148 "rules.go:99" #[.mk 2 .guard] (some (2,true)))) (v:=undef) rfl (by kernel_rfl) (by kernel_rfl) (by kernel_rfl) (fun _ _ _ h=>h) (Or.inr ⟨by rfl,rfl⟩) hC ?_
 try simp only [Act.put,List.setIfInBounds_toArray,List.set_cons_zero,List.set_cons_succ]
 refine wpAnyH_take (i:=4) (oi:=(.mk (some 11) (.fieldAddr 144 (.tmp 2) 2) 0 "rules.go:99" #[.mk 2 .guard] (some (2,true)))) (v:=undef) rfl (by kernel_rfl) (by kernel_rfl) (by kernel_rfl) (fun _ _ _ h=>h) (Or.inr ⟨by rfl,rfl⟩) hC ?_
 try simp only [Act.put,List.setIfInBounds_toArray,List.set_cons_zero,List.set_cons_succ]
 refine wpAnyH_take (i:=5) (oi:=(.mk (some 12) (.load 142 (.tmp 11)) 142 "rules.go:99" #[.mk 4 .data,.mk 2 .guard] (some (2,true)))) (v:=undef) rfl (by kernel_rfl) (by kernel_rfl) (by kernel_rfl) (fun _ _ _ h=>h) (Or.inr ⟨by rfl,rfl⟩) hC ?_
 try simp only [Act.put,List.setIfInBounds_toArray,List.set_cons_zero,List.set_cons_succ]
 refine wpAnyH_take (i:=6) (oi:=(.mk (some 13) (.nilCheck (.tmp 12)) 0 "rules.go:99" #[.mk 5 .data,.mk 2 .guard] (some (2,true)))) (v:=undef) rfl (by kernel_rfl) (by kernel_rfl) (by kernel_rfl) (fun _ _ _ h=>h) (Or.inr ⟨by rfl,rfl⟩) hC ?_
 try simp only [Act.put,List.setIfInBounds_toArray,List.set_cons_zero,List.set_cons_succ]
 refine wpAnyH_take (i:=7) (oi:=(.mk (some 14) (.fieldAddr 43 (.tmp 13) 0) 0 "rules.go:99" #[.mk 6 .data,.mk 2 .guard] (some (2,true)))) (v:=undef) rfl (by kernel_rfl) (by kernel_rfl) (by kernel_rfl) (fun _ _ _ h=>h) (Or.inr ⟨by rfl,rfl⟩) hC ?_
 try simp only [Act.put,List.setIfInBounds_toArray,List.set_cons_zero,List.set_cons_succ]
 refine wpAnyH_take (i:=8) (oi:=(.mk (some 15) (.load 9 (.tmp 14)) 9 "rules.go:99" #[.mk 7 .data,.mk 2 .guard] (some (2,true)))) (v:=undef) rfl (by kernel_rfl) (by kernel_rfl) (by kernel_rfl) (fun _ _ _ h=>h) (Or.inr ⟨by rfl,rfl⟩) hC ?_
 try simp only [Act.put,List.setIfInBounds_toArray,List.set_cons_zero,List.set_cons_succ]
 refine wpAnyH_take (i:=9) (oi:=(.mk (some 16) (.buildSlice 37 1 #[(0,(.tmp 15))]) 37 "rules.go:99" #[.mk 8 .data,.mk 2 .guard] (some (2,true)))) (v:=undef) rfl (by kernel_rfl) (by kernel_rfl) (by kernel_rfl) (fun _ _ _ h=>h) (Or.inr ⟨by rfl,rfl⟩) hC ?_
 try simp only [Act.put,List.setIfInBounds_toArray,List.set_cons_zero,List.set_cons_succ]
 refine wpAnyH_take (i:=10) (oi:=(.mk (some 17) (.call (.mk (.value (.func 131)) #[(.tmp 10),(.tmp 16)] #[148,37])) 4 "rules.go:99" #[.mk 3 .data,.mk 9 .data,.mk 2 .chain,.mk 2 .guard] (some (2,true)))) (v:=undef) rfl (by kernel_rfl) (by kernel_rfl) (by kernel_rfl) (fun _ _ _ h=>h) (Or.inr ⟨by rfl,rfl⟩) hC ?_
 try simp only [Act.put,List.setIfInBounds_toArray,List.set_cons_zero,List.set_cons_succ]
 refine wpAnyH_take (i:=11) (oi:=(.mk (some 18) (.pick (.tmp 9) (.tmp 17) (.const (Value.bool false))) 4 "rules.go:99" #[.mk 2 .data,.mk 10 .data] none)) (v:=?_) rfl (by kernel_rfl) (by kernel_rfl) (by kernel_rfl) (fun _ _ _ h=>h) (Or.inl ⟨by rfl,?_⟩) hC ?_
 rotate_left
 ·(intro w hSw;(try dsimp only at hSw);go_simp;try with_reducible rfl)
 try simp only [Act.put,List.setIfInBounds_toArray,List.set_cons_zero,List.set_cons_succ]
 refine wpAnyH_take (i:=12) (oi:=(.mk (some 3) (.assign (.tmp 18)) 4 "rules.go:99" #[.mk 11 .data,.mk 10 .chain,.mk 0 .phase,.mk 1 .phase,.mk 2 .phase,.mk 3 .phase,.mk 4 .phase,.mk 5 .phase,.mk 6 .phase,.mk 7 .phase,.mk 8 .phase,.mk 9 .phase,.mk 10 .phase,.mk 11 .phase] none)) (v:=?_) rfl (by kernel_rfl) (by kernel_rfl) (by kernel_rfl) (fun _ _ _ h=>h) (Or.inl ⟨by rfl,?_⟩) hC ?_
 rotate_left
 ·(intro w hSw;(try dsimp only at hSw);go_simp;try with_reducible rfl)
 try simp only [Act.put,List.setIfInBounds_toArray,List.set_cons_zero,List.set_cons_succ]
 refine wpAnyH_done (by kernel_rfl) ?_ _
 go_wp2_with fail
 go_ret
 exact⟨rfl,bm,hge,hM.out,hT.out⟩
end
end Go.Proofs.YtknkiaedgeejiaaGreatDoor
