/- NLabel, NQuestD, NArity. -/
import Derived.Test.YtknkiaedgeejiaaGreatDoorSP7
namespace Go.Proofs.YtknkiaedgeejiaaGreatDoor
set_option linter.unusedVariables false
set_option linter.unusedSimpArgs false
section
open Go.RowKit Go.Maps Go.Shelf
def labelsL (l:List Blk):List ByteArray:=l.foldl (fun s x=>plusS s x.label) []
theorem labels_succ {l:List Blk}{k:Nat}{x:Blk}(h:l[k]?=some x):labelsL (l.take (k+1))=plusS (labelsL (l.take k)) x.label:=by
 unfold labelsL
 rw [take_snocS h,List.foldl_append]
 rfl
theorem blk_off {W W':World}{Bx:Nat}{ob:Option Nat}(hX:W.heap[Bx]?=some (.cells #[.map ob] 148 (0,0)))(hT:Touch W W' (fun k=>k=Bx)){pa:Option Addr}{n pc:Nat}{L:List Blk}(h:RdE 2 RdBlk W (.slice pa n pc) L){k:Nat}{x:Blk}(hx:L[k]?=some x):
  ∃g off ca cl cc,pa=some ⟨g,off,none⟩∧W'.cell? ⟨g,off+k*2,none⟩=some (.string x.label)∧W'.cell? ⟨g,off+k*2+1,none⟩=some (.slice ca cl cc):=by
 obtain⟨g,off,cap,cs,e,hlt,⟨vc,rfl,rc⟩,-,hc⟩:=RdE.at h hx
 obtain⟨a,c,rfl⟩:=rc.form
 cases e
 exact⟨g,off,a,_,c,rfl,cell_off hX hT (hc 0 _ rfl) (by simp),cell_off hX hT (hc 1 _ rfl) (by simp)⟩
theorem labels_len (l:List Blk):(labelsL l).length≤l.length:=by
 have:∀(l:List Blk) (s:List ByteArray),(l.foldl (fun s x=>plusS s x.label) s).length≤s.length+l.length:=by
  intro l
  induction l with
  | nil=>intro s;simp
  | cons x l ih=>intro s;have h1:=ih (plusS s x.label);have h2:=plusS_len s x.label;simp at h1 ⊢;omega
 have:=this l []
 simpa [labelsL] using this
set_option maxRecDepth 20000 in
set_option maxHeartbeats 4000000 in
theorem c12_blk {W:World}{f k:Nat}{d:Fun}{x:Blk}{vs:Array Value}{Bx bm:Nat}{l:List ByteArray}{U:Nat→Prop}(hf:(Prt.blk f k d x).Fits)(h:PrtV W (Prt.blk f k d x) vs)(hX:SetBx Bx l U bm W)(hll:l.length≤2000000000000000000):
  Calls Tryz.prog 144 #[.agg vs,.pointer (some ⟨Bx,0,none⟩)] W fun e W'=>e=.returned (.bool false)∧SetBx Bx l U bm W'∧Touch W W' (fun k=>k=bm):=by
 obtain⟨b,o,b2,o2,ca,cc,rfl,hF⟩:=BlkBox.mk' h
 have hB0:=box_below W (.cells #[.int .i64 f,.int .i64 k,.int .i64 0,.pointer (some ⟨b,o,none⟩),.pointer (some ⟨b2,o2,none⟩),.pointer none] 144)
 have hM:=hX.below hB0
 have hT:=Touch.of_below hB0 (fun k=>k=bm)
 clear h hX hB0
 go_enter Tryz.func144,Tryz.ntmps144
 go_upto_region 1 with fail
 generalize (W.alloc (.cells #[.int .i64 f,.int .i64 k,.int .i64 0,.pointer (some ⟨b,o,none⟩),.pointer (some ⟨b2,o2,none⟩),.pointer none] 144))=wb at hF hM hT ⊢
 replace hF:=Lib.hid hF
 replace hM:=Lib.hid hM
 replace hT:=Lib.hid hT
 obtain⟨s0,s1,s2,s3,s4,s5,f0,f1⟩:=hF.out
 go_wp2_with ((go_at_call 126;refine Calls.mono (isFunc_v) ?_;rintro e w2 ⟨rfl,hb⟩;replace hF:=Lib.hid (hF.out.keep hb);replace hM:=Lib.hid (hM.out.below hb);replace hT:=Lib.hid (hT.out.trans (Touch.of_below hb _))))
 clear s0 s1 s2 s3 s4 s5 f0 f1
 obtain⟨s0,s1,s2,s3,s4,s5,f0,f1⟩:=hF.out
 go_quiet (fail)
 replace hM:=Lib.hid (hM.out.below (below_drawn (Below.refl _ _) nq))
 replace hT:=Lib.hid (hT.out.trans (Touch.of_below (below_drawn (Below.refl _ _) nq) _))
 go_wp2_with fail
 go_ret
 exact⟨rfl,hM.out,hT.out⟩
set_option maxRecDepth 20000 in
set_option maxHeartbeats 4000000 in
theorem c12_ins {W:World}{f k i:Nat}{d:Fun}{x:Blk}{c:Ins}{vs:Array Value}{Bx bm:Nat}{l:List ByteArray}{U:Nat→Prop}(hf:(Prt.ins f k i d x c).Fits)(h:PrtV W (Prt.ins f k i d x c) vs)(hX:SetBx Bx l U bm W)(hll:l.length≤2000000000000000000):
  Calls Tryz.prog 144 #[.agg vs,.pointer (some ⟨Bx,0,none⟩)] W fun e W'=>e=.returned (.bool (!c.labels.all fun s=>decide (s∈l)))∧SetBx Bx l U bm W'∧Touch W W' (fun k=>k=bm):=by
 obtain⟨b,o,b2,o2,b3,o3,ca,aa,la,cc,ac,lc,rfl,hF⟩:=InsBox.mk' h
 have hB0:=box_below W (.cells #[.int .i64 f,.int .i64 k,.int .i64 i,.pointer (some ⟨b,o,none⟩),.pointer (some ⟨b2,o2,none⟩),.pointer (some ⟨b3,o3,none⟩)] 144)
 have hM:=hX.below hB0
 have hT:=Touch.of_below hB0 (fun k=>k=bm)
 have hfit:∀s∈c.labels,s.size≤maxLen:=hf.2.2.1.2.2.2.2.2.2.2.2.1
 have hlen:c.labels.length≤maxLen:=hf.2.2.1.2.2.2.2.2.2.2.2.2.2
 clear h hX hB0
 go_enter Tryz.func144,Tryz.ntmps144
 go_upto_region 1 with fail
 generalize (W.alloc (.cells #[.int .i64 f,.int .i64 k,.int .i64 i,.pointer (some ⟨b,o,none⟩),.pointer (some ⟨b2,o2,none⟩),.pointer (some ⟨b3,o3,none⟩)] 144))=wb at hF hM hT ⊢
 replace hF:=Lib.hid hF
 replace hM:=Lib.hid hM
 replace hT:=Lib.hid hT
 obtain⟨s0,s1,s2,s3,s4,s5,f1,c0,c1,c5,c6,c7,hat,ra,rl,rc⟩:=hF.out
 go_wp2_with ((go_at_call 126;refine Calls.mono (isFunc_v) ?_;rintro e w2 ⟨rfl,hb⟩;replace hF:=Lib.hid (hF.out.keep hb);replace hM:=Lib.hid (hM.out.below hb);replace hT:=Lib.hid (hT.out.trans (Touch.of_below hb _))))
 have hC:w2.drew.cell? ⟨W.heap.size,0,none⟩=some (.int .i64 f)∧w2.drew.cell? ⟨W.heap.size,1,none⟩=some (.int .i64 k)∧w2.drew.cell? ⟨W.heap.size,2,none⟩=some (.int .i64 i)∧w2.drew.cell? ⟨W.heap.size,3,none⟩=some (.pointer (some ⟨b,o,none⟩))∧w2.drew.cell? ⟨W.heap.size,4,none⟩=some (.pointer (some ⟨b2,o2,none⟩))∧w2.drew.cell? ⟨W.heap.size,5,none⟩=some (.pointer (some ⟨b3,o3,none⟩))∧w2.drew.cell? ⟨b3,o3+7,none⟩=some (.slice la c.labels.length lc)∧w2.drew.cell? ⟨Bx,0,none⟩=some (.map (some bm)):=⟨hF.out.s0,hF.out.s1,hF.out.s2,hF.out.s3,hF.out.s4,hF.out.s5,hF.out.c7,(show w2.cell? ⟨Bx,0,none⟩=some (.map (some bm)) from by rw [blk_cell hM.out.box];rfl)⟩
 have hR:RdS w2.drew (.slice la c.labels.length lc) c.labels:=Rd.below hF.out.rl (Below.refl _ _).drew
 replace hM:=Lib.hid (hM.out.below (Below.refl _ _).drew)
 replace hT:=Lib.hid hT.out.drew
 clear s0 s1 s2 s3 s4 s5 f1 c0 c1 c5 c6 c7 hat ra rl rc hF
 refine wp_region_held_drew (S:=(fun w'=>w'.cell? ⟨W.heap.size,0,none⟩=some (.int .i64 f)∧w'.cell? ⟨W.heap.size,1,none⟩=some (.int .i64 k)∧w'.cell? ⟨W.heap.size,2,none⟩=some (.int .i64 i)∧w'.cell? ⟨W.heap.size,3,none⟩=some (.pointer (some ⟨b,o,none⟩))∧w'.cell? ⟨W.heap.size,4,none⟩=some (.pointer (some ⟨b2,o2,none⟩))∧w'.cell? ⟨W.heap.size,5,none⟩=some (.pointer (some ⟨b3,o3,none⟩))∧w'.cell? ⟨b3,o3+7,none⟩=some (.slice la c.labels.length lc)∧w'.cell? ⟨Bx,0,none⟩=some (.map (some bm)))) (by kernel_rfl) hC (fun hHeld=>?_)
 clear hHeld
 refine wpAnyH_take (i:=0) (oi:=(.mk (some 24) (.fieldAddr 144 (.tmp 2) 3) 0 "rules.go:147" #[] none)) (v:=?_) rfl (by kernel_rfl) (by kernel_rfl) (by kernel_rfl) (fun _ _ _ h=>h) (Or.inl ⟨by rfl,?_⟩) hC ?_
 rotate_left
 ·(intro w hSw;(try dsimp only at hSw);go_simp;try with_reducible rfl)
 try simp only [Act.put,List.setIfInBounds_toArray,List.set_cons_zero,List.set_cons_succ]
 refine wpAnyH_take (i:=1) (oi:=(.mk (some 25) (.load 135 (.tmp 24)) 135 "rules.go:147" #[.mk 0 .data] none)) (v:=?_) rfl (by kernel_rfl) (by kernel_rfl) (by kernel_rfl) (fun _ _ _ h=>h) (Or.inl ⟨by rfl,?_⟩) hC ?_
 rotate_left
 ·(intro w hSw;(try dsimp only at hSw);go_simp;try with_reducible rfl)
 try simp only [Act.put,List.setIfInBounds_toArray,List.set_cons_zero,List.set_cons_succ]
 refine wpAnyH_take (i:=2) (oi:=(.mk (some 26) (.binOp BinOp.neq 135 (.tmp 25) (.const (Value.pointer none)) 135) 4 "rules.go:147" #[.mk 1 .data] none)) (v:=?_) rfl (by kernel_rfl) (by kernel_rfl) (by kernel_rfl) (fun _ _ _ h=>h) (Or.inl ⟨by rfl,?_⟩) hC ?_
 rotate_left
 ·(intro w hSw;(try dsimp only at hSw);go_simp;try with_reducible rfl)
 try simp only [Act.put,List.setIfInBounds_toArray,List.set_cons_zero,List.set_cons_succ]
 refine wpAnyH_take (i:=3) (oi:=(.mk (some 27) (.move (.tmp 26)) 4 "rules.go:147" #[.mk 2 .data] none)) (v:=?_) rfl (by kernel_rfl) (by kernel_rfl) (by kernel_rfl) (fun _ _ _ h=>h) (Or.inl ⟨by rfl,?_⟩) hC ?_
 rotate_left
 ·(intro w hSw;(try dsimp only at hSw);go_simp;try with_reducible rfl)
 try simp only [Act.put,List.setIfInBounds_toArray,List.set_cons_zero,List.set_cons_succ]
 refine wpAnyH_take (i:=4) (oi:=(.mk (some 28) (.load 148 (.tmp 1)) 148 "rules.go:147" #[.mk 3 .guard] (some (3,true)))) (v:=?_) rfl (by kernel_rfl) (by kernel_rfl) (by kernel_rfl) (fun _ _ _ h=>h) (Or.inl ⟨by rfl,?_⟩) hC ?_
 rotate_left
 ·(intro w hSw;(try dsimp only at hSw);go_simp;try with_reducible rfl)
 try simp only [Act.put,List.setIfInBounds_toArray,List.set_cons_zero,List.set_cons_succ]
 refine wpAnyH_take (i:=5) (oi:=(.mk (some 29) (.fieldAddr 144 (.tmp 2) 3) 0 "rules.go:147" #[.mk 3 .guard] (some (3,true)))) (v:=?_) rfl (by kernel_rfl) (by kernel_rfl) (by kernel_rfl) (fun _ _ _ h=>h) (Or.inl ⟨by rfl,?_⟩) hC ?_
 rotate_left
 ·(intro w hSw;(try dsimp only at hSw);go_simp;try with_reducible rfl)
 try simp only [Act.put,List.setIfInBounds_toArray,List.set_cons_zero,List.set_cons_succ]
 refine wpAnyH_take (i:=6) (oi:=(.mk (some 30) (.load 135 (.tmp 29)) 135 "rules.go:147" #[.mk 5 .data,.mk 3 .guard] (some (3,true)))) (v:=?_) rfl (by kernel_rfl) (by kernel_rfl) (by kernel_rfl) (fun _ _ _ h=>h) (Or.inl ⟨by rfl,?_⟩) hC ?_
 rotate_left
 ·(intro w hSw;(try dsimp only at hSw);go_simp;try with_reducible rfl)
 try simp only [Act.put,List.setIfInBounds_toArray,List.set_cons_zero,List.set_cons_succ]
 refine wpAnyH_take (i:=7) (oi:=(.mk (some 31) (.nilCheck (.tmp 30)) 0 "rules.go:147" #[.mk 6 .data,.mk 3 .guard] (some (3,true)))) (v:=?_) rfl (by kernel_rfl) (by kernel_rfl) (by kernel_rfl) (fun _ _ _ h=>h) (Or.inl ⟨by rfl,?_⟩) hC ?_
 rotate_left
 ·(intro w hSw;(try dsimp only at hSw);go_simp;try with_reducible rfl)
 try simp only [Act.put,List.setIfInBounds_toArray,List.set_cons_zero,List.set_cons_succ]
 refine wpAnyH_take (i:=8) (oi:=(.mk (some 32) (.fieldAddr 46 (.tmp 31) 7) 0 "rules.go:147" #[.mk 7 .data,.mk 3 .guard] (some (3,true)))) (v:=?_) rfl (by kernel_rfl) (by kernel_rfl) (by kernel_rfl) (fun _ _ _ h=>h) (Or.inl ⟨by rfl,?_⟩) hC ?_
 rotate_left
 ·(intro w hSw;(try dsimp only at hSw);go_simp;try with_reducible rfl)
 try simp only [Act.put,List.setIfInBounds_toArray,List.set_cons_zero,List.set_cons_succ]
 refine wpAnyH_take (i:=9) (oi:=(.mk (some 33) (.load 37 (.tmp 32)) 37 "rules.go:147" #[.mk 8 .data,.mk 3 .guard] (some (3,true)))) (v:=?_) rfl (by kernel_rfl) (by kernel_rfl) (by kernel_rfl) (fun _ _ _ h=>h) (Or.inl ⟨by rfl,?_⟩) hC ?_
 rotate_left
 ·(intro w hSw;(try dsimp only at hSw);go_simp;try with_reducible rfl)
 try simp only [Act.put,List.setIfInBounds_toArray,List.set_cons_zero,List.set_cons_succ]
 refine wpAnyH_ready (rs:=[10]) (by kernel_rfl) (by simp) (AllReadyH.cons (o:=(.mk (some 34) (.call (.mk (.value (.func 145)) #[(.tmp 28),(.tmp 33)] #[148,37])) 4 "rules.go:147" #[.mk 4 .data,.mk 9 .data,.mk 3 .chain,.mk 3 .guard] (some (3,true)))) rfl (fun K hK=>?_) AllReadyH.nil)
 go_simp
 (go_at_call 145;refine Calls.mono (hasAll_any hM.out.set hR hfit hlen) ?_;rintro e w5 ⟨rfl,hb5⟩;replace hC:=conj8 (fun h=>keepC hb5 h) hC;replace hM:=Lib.hid (hM.out.below hb5);replace hT:=Lib.hid (hT.out.trans (Touch.of_below hb5 _)))
 refine hK.out _ _ hC (fun hHeld=>?_)
 clear hK K hHeld
 try simp only [Act.put,List.setIfInBounds_toArray,List.set_cons_zero,List.set_cons_succ]
 refine wpAnyH_take (i:=11) (oi:=(.mk (some 35) (.unOp UnOp.not 4 (.tmp 34)) 4 "rules.go:147" #[.mk 10 .data,.mk 3 .guard] (some (3,true)))) (v:=?_) rfl (by kernel_rfl) (by kernel_rfl) (by kernel_rfl) (fun _ _ _ h=>h) (Or.inl ⟨by rfl,?_⟩) hC ?_
 rotate_left
 ·(intro w hSw;(try dsimp only at hSw);go_simp;try with_reducible rfl)
 try simp only [Act.put,List.setIfInBounds_toArray,List.set_cons_zero,List.set_cons_succ]
 refine wpAnyH_take (i:=12) (oi:=(.mk (some 36) (.pick (.tmp 27) (.tmp 35) (.const (Value.bool false))) 4 "rules.go:147" #[.mk 3 .data,.mk 11 .data] none)) (v:=?_) rfl (by kernel_rfl) (by kernel_rfl) (by kernel_rfl) (fun _ _ _ h=>h) (Or.inl ⟨by rfl,?_⟩) hC ?_
 rotate_left
 ·(intro w hSw;(try dsimp only at hSw);go_simp;try with_reducible rfl)
 try simp only [Act.put,List.setIfInBounds_toArray,List.set_cons_zero,List.set_cons_succ]
 refine wpAnyH_take (i:=13) (oi:=(.mk (some 3) (.assign (.tmp 36)) 4 "rules.go:147" #[.mk 12 .data,.mk 10 .chain,.mk 0 .phase,.mk 1 .phase,.mk 2 .phase,.mk 3 .phase,.mk 4 .phase,.mk 5 .phase,.mk 6 .phase,.mk 7 .phase,.mk 8 .phase,.mk 9 .phase,.mk 10 .phase,.mk 11 .phase,.mk 12 .phase] none)) (v:=?_) rfl (by kernel_rfl) (by kernel_rfl) (by kernel_rfl) (fun _ _ _ h=>h) (Or.inl ⟨by rfl,?_⟩) hC ?_
 rotate_left
 ·(intro w hSw;(try dsimp only at hSw);go_simp;try with_reducible rfl)
 try simp only [Act.put,List.setIfInBounds_toArray,List.set_cons_zero,List.set_cons_succ]
 refine wpAnyH_done (by kernel_rfl) ?_ _
 go_wp2_with fail
 go_ret
 exact⟨rfl,hM.out,hT.out⟩
set_option maxRecDepth 20000 in
set_option maxHeartbeats 4000000 in
theorem c12_fn {W:World}{f:Nat}{d:Fun}{vs:Array Value}{Bx:Nat}{ob:Option Nat}(hf:(Prt.fn f d).Fits)(hp4:d.blocks.length≤1000000)(h:PrtV W (Prt.fn f d) vs)(hX:W.heap[Bx]?=some (.cells #[.map ob] 148 (0,0))):
  Calls Tryz.prog 144 #[.agg vs,.pointer (some ⟨Bx,0,none⟩)] W fun e W'=>e=.returned (.bool false)∧∃bm,W.heap.size≤bm∧SetBx Bx (labelsL d.blocks) (fun k=>k=Bx∨k=bm) bm W'∧Touch W W' (fun k=>k=Bx):=by
 obtain⟨b,o,rfl,hF⟩:=h
 obtain⟨pa,pc,hp,rp⟩:=hF.blocks
 have hfit:=Lib.hid (fun x (hx:x∈d.blocks)=>(hf.2.2.1 x hx).1)
 have hD:=Lib.hid (fun (W':World) (hT:Touch W W' (fun k=>k=Bx))=>(⟨cell_off hX hT hp (by simp),fun k x hx=>blk_off hX hT rp hx⟩:W'.cell? ⟨b,o+2,none⟩=some (.slice pa d.blocks.length pc)∧∀k x,d.blocks[k]?=some x→∃g off ca cl cc,pa=some ⟨g,off,none⟩∧W'.cell? ⟨g,off+k*2,none⟩=some (.string x.label)∧W'.cell? ⟨g,off+k*2+1,none⟩=some (.slice ca cl cc)))
 clear hF hp rp hf
 generalize hn:d.blocks.length=n at hD hp4
 replace hn:=Lib.hid hn
 have hX1:=(box_below W (.cells #[.int .i64 f,.int .i64 0,.int .i64 0,.pointer (some ⟨b,o,none⟩),.pointer none,.pointer none] 144)).block Bx (Array.getElem?_eq_some_iff.1 hX).1
 rw [hX] at hX1
 have hN:(W.alloc (.cells #[.int .i64 f,.int .i64 0,.int .i64 0,.pointer (some ⟨b,o,none⟩),.pointer none,.pointer none] 144)).heap[W.heap.size]?=some (.cells #[.int .i64 f,.int .i64 0,.int .i64 0,.pointer (some ⟨b,o,none⟩),.pointer none,.pointer none] 144 (0,0)):=at_newN rfl
 have hT:Touch W (W.alloc (.cells #[.int .i64 f,.int .i64 0,.int .i64 0,.pointer (some ⟨b,o,none⟩),.pointer none,.pointer none] 144)) (fun k=>k=Bx):=Touch.of_below (box_below W _) _
 have hBx:Bx<W.heap.size:=(Array.getElem?_eq_some_iff.1 hX).1
 clear hX
 have hmm:=@run_makeMap Tryz.prog
 go_enter Tryz.func144,Tryz.ntmps144
 go_upto_region 1 with fail
 generalize (W.alloc (.cells #[.int .i64 f,.int .i64 0,.int .i64 0,.pointer (some ⟨b,o,none⟩),.pointer none,.pointer none] 144))=wb at hX1 hN hT ⊢
 have hlt:=(Array.getElem?_eq_some_iff.1 hN).1
 have s0:wb.cell? ⟨W.heap.size,0,none⟩=some (.int .i64 f):=by rw [blk_cell hN];rfl
 have s1:wb.cell? ⟨W.heap.size,1,none⟩=some (.int .i64 0):=by rw [blk_cell hN];rfl
 have s2:wb.cell? ⟨W.heap.size,2,none⟩=some (.int .i64 0):=by rw [blk_cell hN];rfl
 have s3:wb.cell? ⟨W.heap.size,3,none⟩=some (.pointer (some ⟨b,o,none⟩)):=by rw [blk_cell hN];rfl
 have s4:wb.cell? ⟨W.heap.size,4,none⟩=some (.pointer none):=by rw [blk_cell hN];rfl
 have s5:wb.cell? ⟨W.heap.size,5,none⟩=some (.pointer none):=by rw [blk_cell hN];rfl
 replace hX1:=Lib.hid hX1
 replace hN:=Lib.hid hN
 replace hT:=Lib.hid hT
 go_upto_region 2 with (go_at_call 126;refine Calls.mono isFunc_v ?_;rintro e w2 ⟨rfl,hb⟩)
 have hX2:=Lib.hid ((hb.block Bx (by omega)).trans hX1.out)
 have hN2:=Lib.hid ((hb.block _ hlt).trans hN.out)
 have hT2:=Lib.hid (hT.out.trans (Touch.of_below hb _))
 have hlt2:=Nat.lt_of_lt_of_le hlt hb.size
 have e0:w2.cell? ⟨Bx,0,none⟩=some (.map ob):=by rw [blk_cell hX2.out];rfl
 have y0:w2.frozen? ⟨Bx,0,none⟩=false:=by simp [World.frozen?,hX2.out]
 have e1:(w2.alloc (.map #[] 0)).cell? ⟨Bx,0,none⟩=some (.map ob):=by rw [blk_cell (at_oldN hX2.out)];rfl
 have y1:(w2.alloc (.map #[] 0)).frozen? ⟨Bx,0,none⟩=false:=by simp [World.frozen?,at_oldN hX2.out]
 clear s0 s1 s2 s3 s4 s5 hX1 hN hT hb hlt
 go_upto_region 3 with fail
 have hN4:((w2.alloc (.map #[] 0)).setCell ⟨Bx,0,none⟩ (.map (some w2.heap.size))).heap[W.heap.size]?=some (.cells #[.int .i64 f,.int .i64 0,.int .i64 0,.pointer (some ⟨b,o,none⟩),.pointer none,.pointer none] 144 (0,0)):=(Below.heap_setCell _ _ _ _ (show W.heap.size≠Bx by omega)).trans (at_oldN hN2.out)
 have hM4:SetBx Bx [] (fun k=>k=Bx∨k=w2.heap.size) w2.heap.size ((w2.alloc (.map #[] 0)).setCell ⟨Bx,0,none⟩ (.map (some w2.heap.size))):=
  ⟨set_one (at_oldN hX2.out),(SetS.new w2).block (Below.heap_setCell _ _ _ _ (show w2.heap.size≠Bx by omega)),by omega,fun k=>Iff.rfl⟩
 have hT4:Touch W ((w2.alloc (.map #[] 0)).setCell ⟨Bx,0,none⟩ (.map (some w2.heap.size))) (fun k=>k=Bx):=(hT2.out.alloc _).setCell (a:=⟨Bx,0,none⟩) (fun _=>rfl) _
 have hge:W.heap.size≤w2.heap.size:=by omega
 clear hX2 hN2 hT2 e0 y0 e1 y1 hlt2 hmm
 generalize ((w2.alloc (.map #[] 0)).setCell ⟨Bx,0,none⟩ (.map (some w2.heap.size)))=w4 at hN4 hM4 hT4 ⊢
 generalize w2.heap.size=bm at hM4 hge ⊢
 obtain⟨q1,-⟩:=hD.out w4 hT4
 have s3:w4.cell? ⟨W.heap.size,3,none⟩=some (.pointer (some ⟨b,o,none⟩)):=by rw [blk_cell hN4];rfl
 replace hN4:=Lib.hid hN4
 replace hM4:=Lib.hid hM4
 replace hT4:=Lib.hid hT4
 go_wp2_with fail
 clear q1 s3
 go_loopw [5,15] (fun _ i wr=>∃k:Nat,k≤n∧i=.int .i64 k∧Hid (wr.heap[W.heap.size]?=some (.cells #[.int .i64 f,.int .i64 0,.int .i64 0,.pointer (some ⟨b,o,none⟩),.pointer none,.pointer none] 144 (0,0)))∧Hid (SetBx Bx (labelsL (d.blocks.take k)) (fun k=>k=Bx∨k=bm) bm wr)∧Hid (Touch W wr (fun k=>k=Bx))) (fun _ i _=>n-(intOf i).toNat)
 case atStart=>exact⟨0,Nat.zero_le _,rfl,hN4,hM4,hT4⟩
 case round=>
  clear hN4 hM4 hT4
  obtain⟨k,hk,rfl,hN,hM,hT⟩:=hrel
  by_cases hlt:k<n
  ·have j1:decide ((k:Int)<(n:Int))=true:=by simpa using hlt
   have j2:(k:Int)<(n:Int):=by omega
   obtain⟨x,hx⟩:∃x,d.blocks[k]?=some x:=⟨_,List.getElem?_eq_getElem (by rw [hn.out];exact hlt)⟩
   obtain⟨g,off,ca,cl,cc,e,c0,c1⟩:=(hD.out wr hT.out).2 k x hx
   cases e
   have hsz:=hfit.out x (List.mem_of_getElem? hx)
   have hat:=Lib.hid (labels_succ hx)
   have hll:(labelsL (d.blocks.take k)).length≤n:=by have:=labels_len (d.blocks.take k);rw [List.length_take] at this;omega
   have hB0:=box_below wr (.cells #[.string x.label,.slice ca cl cc] 43)
   have hM2:=Lib.hid (hM.out.below hB0)
   have hT2:=Lib.hid (hT.out.trans (Touch.of_below hB0 (fun k=>k=Bx)))
   have hN2:=Lib.hid ((hB0.block _ (Array.getElem?_eq_some_iff.1 hN.out).1).trans hN.out)
   have hX0:(wr.alloc (.cells #[.string x.label,.slice ca cl cc] 43)).cell? ⟨Bx,0,none⟩=some (.map (some bm)):=by rw [blk_cell hM2.out.box];rfl
   clear hx hN hM hT hB0
   go_wp2_with (at_mapUpdate;refine wpList_setS_put rfl _ _ _ rfl bm _ hM2.out.set rfl x.label rfl rfl hsz (by omega) ?_;intro w3 hM3 hT3;go_frame)
   have hM4:=Lib.hid (hM2.out.turned hM3 hT3)
   have hN4:=Lib.hid ((hT3.block _ (Array.getElem?_eq_some_iff.1 hN2.out).1 (fun e=>by obtain⟨D,⟨es,clock,hb,-⟩,-⟩:=hM2.out.set;have h:=hN2.out;rw [e,hb] at h;cases h)).trans hN2.out)
   have hT4:=Lib.hid (hT2.out.newer hT3 hge)
   rw [←hat.out] at hM4
   clear hM3 hT3 hM2 hT2 hN2
   go_wp2_with fail
   exact⟨⟨k+1,by omega,by go_num,hN4,hM4,hT4⟩,by simp [intOf];omega⟩
  ·obtain rfl:k=n:=by omega
   have j1:decide ((k:Int)<(k:Int))=false:=by simp
   have hE:d.blocks.take k=d.blocks:=List.take_of_length_le (by rw [hn.out];exact Nat.le_refl _)
   rw [hE] at hM
   have s5:wr.cell? ⟨W.heap.size,5,none⟩=some (.pointer none):=by rw [blk_cell hN.out];rfl
   go_upto_region 8 with fail
   go_quiet (fail)
   replace hM:=Lib.hid (hM.out.below (below_drawn (Below.refl _ _) nq))
   replace hT:=Lib.hid (hT.out.trans (Touch.of_below (below_drawn (Below.refl _ _) nq) _))
   go_wp2_with fail
   go_ret
   exact⟨rfl,bm,hge,hM.out,hT.out⟩
end
section
open Go.RowKit Go.Maps Go.Shelf
def step12 (s:Option (List ByteArray))(x:Prt):Bool × Option (List ByteArray):=match x,s with
 | .fn _ d,_=>(false,some (labelsL d.blocks))
 | .blk _ _ _ _,s=>(false,s)
 | .ins _ _ _ _ _ c,some l=>(!c.labels.all fun s=>decide (s∈l),some l)
 | .ins _ _ _ _ _ _,none=>(false,none)
theorem step12_len {P:List Fun}(hP:POk P):∀pre:List Prt,(∀x∈pre,x∈partsL P)→olen (runSt step12 none pre)≤1000000:=by
 refine snocP (by simp [runSt,olen]) (fun l x ih hm=>?_)
 rw [runSt_snoc]
 have ih:=ih (fun y hy=>hm y (List.mem_append_left _ hy))
 have hx:=hm x (by simp)
 generalize runSt step12 none l=s at ih ⊢
 cases x with
 | fn f d=>
  have h1:=labels_len d.blocks
  have h2:=hP.l2 d (parts_fun hx)
  simp [step12,olen] at h1 ⊢
  omega
 | blk f k d x=>simpa [step12] using ih
 | ins f k i d x c=>
  cases s with
  | none=>simp [step12,olen]
  | some l2=>simpa [step12,olen] using ih
theorem keeps12 {P:List Fun}(hP:POk P){m Bx:Nat}{W0:World}(hm:m=W0.heap.size):Keeps P m W0 144 #[.pointer (some ⟨Bx,0,none⟩)] step12 none (OptBx Bx) where
 calm:=fun s U W W' h hT=>h.calm hT
 call:=fun s U x vs W ⟨pre,rest,e,es,hok⟩ hx hbel hU=>by
  have hl:=step12_len hP pre (fun y hy=>by rw [e];exact List.mem_append_left _ hy)
  rw [←es] at hl
  have hp:=pre_len hP e
  have hf:=parts_fits hP.fits (partsCalls_at e)
  have hv:PrtV W x vs:=hx.below (by rw [←hm];exact hbel)
  have hnone:s=none→∃d,x=.fn 0 d:=fun hs=>none_fn (step:=step12) (fun l x=>by cases x<;>exact⟨_,rfl⟩) (fun _ _=>⟨_,rfl⟩) e (by rw [←es];exact hs)
  cases x with
  | fn f d=>
   obtain⟨hUB,ob,hb⟩:=hU.box
   have hd:Prt.fn f d∈partsL P:=by rw [e];simp
   refine Calls.mono (c12_fn hf (hP.l2 d (parts_fun hd)) hv hb) ?_
   rintro e' W' ⟨rfl,bm,hge,h2,h3⟩
   refine⟨fun k=>k=Bx∨k=bm,rfl,⟨bm,h2⟩,h3.mono (fun k _ hk=>by rw [hk];exact hUB),fun k hk=>?_⟩
   rcases hk with rfl | rfl
   ·exact .inl hUB
   ·exact .inr ⟨hge,h2.set.lt⟩
  | blk f k d x=>
   cases s with
   | none=>obtain⟨d',e'⟩:=hnone rfl;cases e'
   | some l=>
    obtain⟨bm,hU⟩:=hU
    refine Calls.mono (c12_blk hf hv hU (by simp [olen] at hl;omega)) ?_
    rintro e' W' ⟨rfl,h2,h3⟩
    exact⟨U,rfl,⟨bm,h2⟩,h3.mono (fun k _ hk=>(hU.own k).2 (.inr hk)),fun k hk=>.inl hk⟩
  | ins f k i d x c=>
   cases s with
   | none=>obtain⟨d',e'⟩:=hnone rfl;cases e'
   | some l=>
    obtain⟨bm,hU⟩:=hU
    refine Calls.mono (c12_ins hf hv hU (by simp [olen] at hl;omega)) ?_
    rintro e' W' ⟨rfl,h2,h3⟩
    exact⟨U,rfl,⟨bm,h2⟩,h3.mono (fun k _ hk=>(hU.own k).2 (.inr hk)),fun k hk=>.inl hk⟩
set_option maxRecDepth 20000 in
set_option maxHeartbeats 2000000 in
theorem q12_any {P:List Fun}(hP:POk P){w:World}{v:Value}(h:RdE 3 RdFun w v P):Calls Tryz.prog 92 #[.agg #[v]] w fun e w'=>e=.returned (ansV (firstBad step12 none (partsL P)))∧Below w.heap.size w w':=by
 obtain⟨a0,c0,rfl⟩:=h.form
 have hb0:Below w.heap.size w ((w.alloc (.cells #[.slice a0 P.length c0] 91)).alloc (.cells #[.int .i64 0,.int .i64 0,.int .i64 0] 53)):=((Below.refl _ _).alloc (Nat.le_refl _) _).alloc (by simp) _
 have hsz:((w.alloc (.cells #[.slice a0 P.length c0] 91)).alloc (.cells #[.int .i64 0,.int .i64 0,.int .i64 0] 53)).heap.size=w.heap.size+2:=by simp
 have hN:((w.alloc (.cells #[.slice a0 P.length c0] 91)).alloc (.cells #[.int .i64 0,.int .i64 0,.int .i64 0] 53)).heap[w.heap.size+1]?=some (.cells #[.int .i64 0,.int .i64 0,.int .i64 0] 53 (0,0)):=at_newN (by simp)
 have hl:((w.alloc (.cells #[.slice a0 P.length c0] 91)).alloc (.cells #[.int .i64 0,.int .i64 0,.int .i64 0] 53)).cell? ⟨w.heap.size,0,none⟩=some (.slice a0 P.length c0):=by rw [blk_cell (at_oldN (at_newN rfl))];rfl
 have hPb:RdE 3 RdFun ((w.alloc (.cells #[.slice a0 P.length c0] 91)).alloc (.cells #[.int .i64 0,.int .i64 0,.int .i64 0] 53)) (.slice a0 P.length c0) P:=RdE.below (fun _ _ h=>h.below hb0) h hb0
 have hmm:=@run_makeMap Tryz.prog
 unfold ansV ptA
 generalize hfb:firstBad step12 none (partsL P)=fb
 go_enter Tryz.func92,Tryz.ntmps92
 go_upto_region 1 with fail
 generalize ((w.alloc (.cells #[.slice a0 P.length c0] 91)).alloc (.cells #[.int .i64 0,.int .i64 0,.int .i64 0] 53))=wb at hb0 hsz hN hl hPb ⊢
 obtain⟨wc,hwc⟩:∃wc,wc=wb.alloc (.cells #[.map none] 148):=⟨_,rfl⟩
 have hbc:Below wb.heap.size wb wc:=by rw [hwc];exact (Below.refl _ _).alloc (Nat.le_refl _) _
 have hI:OptBx (w.heap.size+2) none (fun k=>k=w.heap.size+2) wc:=⟨by rw [hwc];exact at_newN (by omega),fun k=>Iff.rfl⟩
 have hw:=where_any (W0:=wb) (keeps12 (Bx:=w.heap.size+2) hP rfl) (enters_of Tryz.func144 (by kernel_rfl) rfl) rfl hPb hbc (U0:=fun k=>k=w.heap.size+2) (fun k hk=>by rw [hk,hwc];simp;omega) hI hP.l1 hP.l2 hP.l3
 rw [hfb] at hw
 unfold ptA at hw
 have hlc:=keepC hbc hl
 generalize P.length=p at h hw hPb hl hlc ⊢
 replace hb0:=Lib.hid hb0
 replace hN:=Lib.hid hN
 replace hw:=Lib.hid hw
 clear h hPb hfb hI
 replace hbc:=Lib.hid hbc
 go_upto_region 2 with fail
 rw [←hwc]
 replace hwc:=Lib.hid hwc
 go_wp2_with fail
 refine hw.out.mono ?_
 rintro e w2 ⟨rfl,hb2⟩
 have hN2:=(hb2.block _ (Array.getElem?_eq_some_iff.1 hN.out).1).trans hN.out
 have hf:=Lib.hid (show Below w.heap.size w ((((w2.setCell ⟨w.heap.size+1,0,none⟩ (.int .i64 (resAt fb).1)).setCell ⟨w.heap.size+1,1,none⟩ (.int .i64 (resAt fb).2.1)).setCell ⟨w.heap.size+1,2,none⟩ (.int .i64 (resAt fb).2.2))) from (((hb0.out.trans (hb2.mono hb0.out.size)).setCell (p:=⟨w.heap.size+1,0,none⟩) (Nat.le_succ _) _).setCell (p:=⟨w.heap.size+1,1,none⟩) (Nat.le_succ _) _).setCell (p:=⟨w.heap.size+1,2,none⟩) (Nat.le_succ _) _)
 have hN3:=Lib.hid (set_three (v0:=.int .i64 (resAt fb).1) (v1:=.int .i64 (resAt fb).2.1) (v2:=.int .i64 (resAt fb).2.2) hN2)
 have z0:w2.cell? ⟨w.heap.size+1,0,none⟩=some (.int .i64 0):=by rw [blk_cell hN2];rfl
 have z1:w2.cell? ⟨w.heap.size+1,1,none⟩=some (.int .i64 0):=by rw [blk_cell hN2];rfl
 have z2:w2.cell? ⟨w.heap.size+1,2,none⟩=some (.int .i64 0):=by rw [blk_cell hN2];rfl
 have y0:w2.frozen? ⟨w.heap.size+1,0,none⟩=false:=by simp [World.frozen?,hN2]
 have y1:w2.frozen? ⟨w.heap.size+1,1,none⟩=false:=by simp [World.frozen?,hN2]
 have y2:w2.frozen? ⟨w.heap.size+1,2,none⟩=false:=by simp [World.frozen?,hN2]
 clear hb2 hN2 hw hl hlc
 go_wp2_with fail
 generalize (((w2.setCell ⟨w.heap.size+1,0,none⟩ (.int .i64 (resAt fb).1)).setCell ⟨w.heap.size+1,1,none⟩ (.int .i64 (resAt fb).2.1)).setCell ⟨w.heap.size+1,2,none⟩ (.int .i64 (resAt fb).2.2))=w3 at hf hN3 ⊢
 have c0:w3.cell? ⟨w.heap.size+1,0,none⟩=some (.int .i64 (resAt fb).1):=by rw [blk_cell hN3.out];rfl
 have c1:w3.cell? ⟨w.heap.size+1,1,none⟩=some (.int .i64 (resAt fb).2.1):=by rw [blk_cell hN3.out];rfl
 have c2:w3.cell? ⟨w.heap.size+1,2,none⟩=some (.int .i64 (resAt fb).2.2):=by rw [blk_cell hN3.out];rfl
 exact bodyPost_ret (v:=.tuple #[.agg #[.int .i64 (resAt fb).1,.int .i64 (resAt fb).2.1,.int .i64 (resAt fb).2.2],.bool fb.isSome]) (by simp [results,Tryz.results92,go_sem,c0,c1,c2]) rfl ⟨rfl,hf.out⟩
end
section
open Go.RowKit Go.Maps Go.Shelf Go.WideMaps
structure NumMap (D:DataW Unit) (f:ByteArray→Option Nat):Prop where
 isMap:IsMap D
 has:∀s,Maps.has D (litS s)=(f s).isSome
 at_:∀s n,f s=some n→∀z,D.atKey (litS s) z=.lit (.int .i64 n)
theorem NumMap.nil:NumMap (.map []) (fun _=>none):=⟨isMap_empty,fun s=>by simp [Maps.has],fun s n h=>by cases h⟩
theorem NumMap.put {D:DataW Unit}{f:ByteArray→Option Nat}(h:NumMap D f)(y:ByteArray)(n:Nat):NumMap (D.put (litS y) (.lit (.int .i64 n))) (fun s=>if s=y then some n else f s):=by
 refine⟨h.isMap.put _ _,fun s=>?_,fun s m hs z=>?_⟩
 ·by_cases e:s=y
  ·subst e
   rw [has_put_same h.isMap (litS_key s),if_pos rfl]
   rfl
  ·rw [has_put_other (fun h=>e (litS_inj h)),h.has,if_neg e]
 ·by_cases e:s=y
  ·subst e
   rw [if_pos rfl] at hs
   cases hs
   rw [atKey_put_same h.isMap (litS_key s)]
  ·rw [if_neg e] at hs
   rw [atKey_put_other (fun h=>e (litS_inj h)),h.at_ s m hs z]
def MapN (w:World)(b k:Nat)(f:ByteArray→Option Nat):Prop:=∃D:DataW Unit,w.ownsMap Tryz.prog 9 (plainElem Tryz.prog 3) b k D∧NumMap D f
theorem MapN.block {w w':World}{b k:Nat}{f:ByteArray→Option Nat}(h:MapN w b k f)(hb:w'.heap[b]?=w.heap[b]?):MapN w' b k f:=by
 obtain⟨D,h1,h2⟩:=h
 exact⟨D,ownsMap_block h1 hb,h2⟩
theorem MapN.lt {w:World}{b k:Nat}{f:ByteArray→Option Nat}(h:MapN w b k f):b<w.heap.size:=by
 obtain⟨D,h1,h2⟩:=h
 exact h1.lt
theorem MapN.more {w:World}{b k:Nat}{f:ByteArray→Option Nat}(h:MapN w b k f):MapN w b (k+1) f:=by
 obtain⟨D,h1,h2⟩:=h
 exact⟨D,h1.mono (Nat.le_succ _),h2⟩
theorem MapN.new (w:World):MapN (w.alloc (.map #[] 0)) w.heap.size 0 (fun _=>none):=⟨.map [],World.ownsMap_made w _ _ _,NumMap.nil⟩
section
variable {w:World} {ops:Array Oper} {rest:List Oper} {o:Oper} {a:Act} {Q:Exit→Act→World→Prop}
theorem wpList_num_look (hg:o.guard=none)(m x:Operand)(hop:o.op=Op.lookup 153 m x true)(b k:Nat)(f:ByteArray→Option Nat)(h:MapN w b k f)(hm:a.eval m=.map (some b))(y:ByteArray)(hx:a.eval x=.string y)(hy:y.size≤maxLen)
  (hK:wpList Tryz.prog ops Q rest (a.put o.dst (.tuple #[.int .i64 ((f y).getD 0:Nat),.bool (f y).isSome])) w):wpList Tryz.prog ops Q (o::rest) a w:=by
 obtain⟨D,hown,hD⟩:=h
 refine wpList_lookup_own_ok_int w hg m x 153 hop 9 3 .i64 lawS Tryz.underlying153 Tryz.underlying3 (zeroI _) b k D hm hown _ _ hx (keyS y hy) ?_
 intro c hc hwc
 have hh:=hD.has y
 rw [hh]
 have hcn:c=(((f y).getD 0:Nat):Int):=by
  cases hf:f y with
  | none=>
   rw [hf] at hh
   rw [atKey_of_not_has hh] at hc
   simpa using hc.symm
  | some n=>
   rw [hD.at_ y n hf] at hc
   simpa using hc.symm
 rw [hcn]
 exact hK
theorem wpList_num_put (hg:o.guard=none)(m x v:Operand)(hop:o.op=Op.mapUpdate 153 m x v)(b k:Nat)(f:ByteArray→Option Nat)(h:MapN w b k f)(hk:k<maxLen)(hm:a.eval m=.map (some b))(y:ByteArray)(n:Nat)(hx:a.eval x=.string y)(hv:a.eval v=.int .i64 n)(hy:y.size≤maxLen)(hn:n≤4000000000000000000)
  (hK:∀w',MapN w' b (k+1) (fun s=>if s=y then some n else f s)→Touch w w' (fun j=>j=b)→wpList Tryz.prog ops Q rest (a.put o.dst undef) w'):wpList Tryz.prog ops Q (o::rest) a w:=by
 obtain⟨D,hown,hD⟩:=h
 have hwf:(Lit.int .i64 (n:Int)).wf=true:=WalkArith.wf_i64 (by omega)
 refine wpList_mapUpdate_own w hg m x v 153 hop 9 3 lawS Tryz.underlying153 _ b k D hm hown hk _ _ _ hx hv (keyS y hy) _ [] (plainElem_int Tryz.underlying3 hwf) ?_
 intro w1 hown1 hgrow1
 exact hK w1 ⟨_,hown1,hD.put y n⟩ (Touch.of_grown hgrow1 (fun b e=>(Option.some.inj e).symm))
end
def arityF (l:List Fun)(s:ByteArray):Option Nat:=(l.find? (fun d=>decide (d.name=s))).map (fun d=>d.params.length)
theorem arity_hit {l:List Fun}{k:Nat}{x:Fun}(h:l[k]?=some x)(hs:(arityF (l.take k) x.name).isSome=true):arityF (l.take (k+1))=arityF (l.take k):=by
 funext s
 unfold arityF at hs ⊢
 rw [take_snocS h,List.find?_append]
 cases hf:(l.take k).find? (fun d=>decide (d.name=s)) with
 | some y=>rfl
 | none=>
  by_cases e:x.name=s
  ·subst e
   rw [hf] at hs
   cases hs
  ·simp [e]
theorem arity_miss {l:List Fun}{k:Nat}{x:Fun}(h:l[k]?=some x)(hs:(arityF (l.take k) x.name).isSome=false):arityF (l.take (k+1))=fun s=>if s=x.name then some x.params.length else arityF (l.take k) s:=by
 funext s
 unfold arityF at hs ⊢
 rw [take_snocS h,List.find?_append]
 by_cases e:s=x.name
 ·subst e
  rw [if_pos rfl]
  cases hf:(l.take k).find? (fun d=>decide (d.name=x.name)) with
  | some y=>rw [hf] at hs;cases hs
  | none=>simp
 ·rw [if_neg e]
  have:decide (x.name=s)=false:=decide_eq_false (fun h=>e h.symm)
  simp [this]
set_option maxHeartbeats 4000000 in
theorem arities_any {P:List Fun}(hfit:∀d∈P,d.name.size≤maxLen)(hl:P.length≤1000000)(hlp:∀d∈P,d.params.length≤1000000){w:World}{v:Value}(h:RdE 3 RdFun w v P):
  Calls Tryz.prog 146 #[.agg #[v]] w fun e w'=>∃bm,e=.returned (.map (some bm))∧w.heap.size≤bm∧MapN w' bm P.length (arityF P)∧Below w.heap.size w w':=by
 obtain⟨a0,c0,rfl⟩:=h.form
 generalize hn:P.length=n at h hl ⊢
 have hmm:=@run_makeMap Tryz.prog
 have hb0:Below w.heap.size w ((w.alloc (.cells #[.slice a0 n c0] 91)).alloc (.map #[] 0)):=((Below.refl _ _).alloc (Nat.le_refl _) _).alloc (by simp) _
 have hM0:MapN ((w.alloc (.cells #[.slice a0 n c0] 91)).alloc (.map #[] 0)) (w.heap.size+1) 0 (arityF (P.take 0)):=by
  have h1:=MapN.new (w.alloc (.cells #[.slice a0 n c0] 91))
  rw [show (w.alloc (.cells #[.slice a0 n c0] 91)).heap.size=w.heap.size+1 from by simp] at h1
  exact h1
 have hc0:((w.alloc (.cells #[.slice a0 n c0] 91)).alloc (.map #[] 0)).cell? ⟨w.heap.size,0,none⟩=some (.slice a0 n c0):=by rw [blk_cell (at_oldN (at_newN rfl))];rfl
 replace hb0:=Lib.hid hb0
 replace hM0:=Lib.hid hM0
 replace hn:=Lib.hid hn
 replace hfit:=Lib.hid hfit
 replace hlp:=Lib.hid hlp
 replace h:=Lib.hid h
 go_enter Tryz.func146,Tryz.ntmps146
 go_wp2_with fail
 generalize ((w.alloc (.cells #[.slice a0 n c0] 91)).alloc (.map #[] 0))=w0 at hb0 hM0 hc0 ⊢
 clear hc0
 generalize hbm:w.heap.size+1=bm at hM0 ⊢
 have hge:w.heap.size≤bm:=by omega
 clear hbm hmm
 go_loopw [5,6,7,13] (fun _ _ _ i wr=>∃k:Nat,k≤n∧i=.int .i64 k∧Hid (MapN wr bm k (arityF (P.take k)))∧Hid (Below w.heap.size w wr)) (fun _ _ _ i _=>n-(intOf i).toNat)
 case atStart=>exact⟨0,Nat.zero_le _,rfl,hM0,hb0⟩
 case round=>
  clear hM0 hb0
  obtain⟨k,hk,rfl,hM,hB⟩:=hrel
  by_cases hlt:k<n
  ·have j1:decide ((k:Int)<(n:Int))=true:=by simpa using hlt
   have j2:(k:Int)<(n:Int):=by omega
   obtain⟨x,hx⟩:∃x,P[k]?=some x:=⟨_,List.getElem?_eq_getElem (by rw [hn.out];exact hlt)⟩
   obtain⟨g,off,cap,cs,e,hgl,⟨vp,vb,rfl,hp,hb⟩,-,hcell⟩:=(RdE.below (fun _ _ h=>h.below hB.out) h.out hB.out).at hx
   simp only [Value.slice.injEq] at e
   obtain⟨rfl,-,rfl⟩:=e
   obtain⟨ap,cp,rfl⟩:=hp.shape
   obtain⟨ab,cb,rfl⟩:=hb.form
   have c0:wr.cell? ⟨g,off+k*3,none⟩=some (.string x.name):=hcell 0 _ rfl
   have c1:=hcell 1 _ rfl
   have c2:=hcell 2 _ rfl
   have hxm:=List.mem_of_getElem? hx
   have hsz:=hfit.out x hxm
   have hpl:=hlp.out x hxm
   have hM2:=Lib.hid (hM.out.block (Below.heap_alloc _ (.cells #[.string x.name,.slice ap x.params.length cp,.slice ab x.blocks.length cb] 40) _ hM.out.lt))
   have hB2:=Lib.hid (hB.out.alloc hB.out.size (.cells #[.string x.name,.slice ap x.params.length cp,.slice ab x.blocks.length cb] 40))
   clear hcell hp hb hxm
   cases hq:(arityF (P.take k) x.name).isSome with
   | true=>
    have hat:=arity_hit hx hq
    have hM3:=Lib.hid hM2.out.more
    rw [←hat] at hM3
    clear hx hM hB hat
    generalize x.params.length=pl at hpl c1 hM2 hB2 hM3 ⊢
    generalize x.blocks.length=bl at c2 hM2 hB2 hM3 ⊢
    go_wp2_with (at_lookup;refine wpList_num_look rfl _ _ rfl bm k _ hM2.out rfl x.name rfl hsz ?_;rw [hq])
    exact⟨⟨k+1,by omega,by go_num,hM3,hB2⟩,by simp [intOf];omega⟩
   | false=>
    have hat:=Lib.hid (arity_miss hx hq)
    clear hx hM hB
    generalize x.params.length=pl at hpl c1 hM2 hB2 hat ⊢
    generalize x.blocks.length=bl at c2 hM2 hB2 ⊢
    go_wp2_with (first
     | (at_lookup;refine wpList_num_look rfl _ _ rfl bm k _ hM2.out rfl x.name rfl hsz ?_;rw [hq])
     | (at_mapUpdate;refine wpList_num_put rfl _ _ _ rfl bm k _ hM2.out (by unfold maxLen;omega) rfl x.name pl rfl rfl hsz (by omega) ?_;intro w3 hM3 hT3))
    rw [←hat.out] at hM3
    replace hM3:=Lib.hid hM3
    have hB3:=Lib.hid (hB2.out.trans (hT3.below hB2.out.size (fun b hb e=>by omega)))
    clear hM2 hB2 hT3
    go_wp2_with fail
    exact⟨⟨k+1,by omega,by go_num,hM3,hB3⟩,by simp [intOf];omega⟩
  ·obtain rfl:k=n:=by omega
   have j1:decide ((k:Int)<(k:Int))=false:=by simp
   have hE:P.take k=P:=List.take_of_length_le (by rw [hn.out];exact Nat.le_refl _)
   rw [hE] at hM
   go_wp2_with fail
   go_ret
   exact⟨bm,rfl,hge,hM.out,hB.out⟩
end
end Go.Proofs.YtknkiaedgeejiaaGreatDoor
