/- Sr4, Sr5, SwHv. -/
import Derived.Test.YtknkiaedgeejiaaGreatDoorSP18
import Derived.Test.YtknkiaedgeejiaaGreatDoorSP17
namespace Go.Proofs.YtknkiaedgeejiaaGreatDoor
set_option linter.unusedVariables false
set_option linter.unusedSimpArgs false
section
open Go.RowKit Go.Maps Go.Shelf Go.WideMaps
attribute [local go_sem] Oper.semAt_some
def phL (d:Ins)(k:Nat):List UInt8:=bL d.dst++([32,61,32,112,104,105,32,91]++Lib.join (((pairB d).take k).map bL) [44,32])
theorem ph_len {d:Ins}(hk:InsOk d)(k:Nat):(phL d k).length≤6710000:=by
 have:=join_len [44,32] 3300 (by decide) (((pairB d).take k).map bL) (fun x hx=>by
  obtain⟨s,hs,rfl⟩:=List.mem_map.1 hx
  replace hs:=List.mem_of_mem_take hs
  unfold pairB at hs
  obtain⟨k,hk1⟩:=List.mem_iff_getElem?.1 hs
  rw [List.getElem?_zipWith] at hk1
  cases h1:d.labels[k]? with
  | none=>rw [h1] at hk1;simp at hk1
  | some a=>
   cases h2:d.args[k]? with
   | none=>rw [h1,h2] at hk1;simp at hk1
   | some b=>
    rw [h1,h2] at hk1
    simp only [Option.some.injEq] at hk1
    subst hk1
    have i1:=hk.gl a (List.mem_of_getElem? h1)
    have i2:=hk.ga b (List.mem_of_getElem? h2)
    rw [bL_len,ByteArray.size_append,ByteArray.size_append]
    show a.size+2+b.size≤3300
    omega)
 have hp:=(pairs_join hk).2
 have hd:(bL d.dst).length=d.dst.size:=rfl
 have hs:=hk.sd
 rw [List.length_map,List.length_take] at this
 unfold phL
 rw [List.length_append,List.length_append,hd]
 show d.dst.size+(8+_)≤_
 omega
set_option maxRecDepth 20000 in
set_option maxHeartbeats 4000000 in
theorem l6_6 {w:World}{d:Ins}{va vl:Value}(ha:RdC w va d.args)(hl:RdC w vl d.labels)(hk:InsOk d)(ho:d.op=6)(hx:bL d.dst≠[]):Calls Tryz.prog 23 #[.agg (insV d va vl).toArray] w fun e w'=>(∃s,e=.returned (.string s)∧bL s=refT d)∧Below w.heap.size w w':=by
 obtain⟨aa,ca,rfl,hca,hac⟩:=ha.cells
 obtain⟨al,cl,rfl,hcl,hlc⟩:=hl.cells
 obtain⟨W2,hW2⟩:∃W2,w.alloc (.cells (insV d (.slice aa d.args.length ca) (.slice al d.labels.length cl)).toArray 46)=W2:=⟨_,rfl⟩
 have hb:W2.heap[w.heap.size]?=some (.cells (insV d (.slice aa d.args.length ca) (.slice al d.labels.length cl)).toArray 46 (0,0)):=by rw [←hW2];exact at_newN rfl
 have hB:Below w.heap.size w W2:=by rw [←hW2];exact (Below.refl _ _).alloc (Nat.le_refl _) _
 have hlt:w.heap.size<W2.heap.size:=(Array.getElem?_eq_some_iff.1 hb).1
 have c0:W2.cell? ⟨w.heap.size,0,none⟩=some (.int .u8 d.op):=by rw [blk_cell hb];rfl
 have c1:W2.cell? ⟨w.heap.size,1,none⟩=some (.string d.dst):=by rw [blk_cell hb];rfl
 have c2:W2.cell? ⟨w.heap.size,2,none⟩=some (.string d.a):=by rw [blk_cell hb];rfl
 have c3:W2.cell? ⟨w.heap.size,3,none⟩=some (.string d.b):=by rw [blk_cell hb];rfl
 have c4:W2.cell? ⟨w.heap.size,4,none⟩=some (.int .i64 d.n):=by rw [blk_cell hb];rfl
 have c5:W2.cell? ⟨w.heap.size,5,none⟩=some (.string d.fn):=by rw [blk_cell hb];rfl
 have c6:W2.cell? ⟨w.heap.size,6,none⟩=some (.slice aa d.args.length ca):=by rw [blk_cell hb];rfl
 have c7:W2.cell? ⟨w.heap.size,7,none⟩=some (.slice al d.labels.length cl):=by rw [blk_cell hb];rfl
 rw [ho] at c0
 obtain⟨q,hq⟩:∃q:Nat,(q:Int)=d.n:=⟨d.n.toNat,by have:=hk.n0;omega⟩
 have hq1:q<100:=by have:=hk.n1;omega
 have hqt:d.n.toNat=q:=by omega
 rw [←hq] at c4
 replace hq:=Lib.hid hq
 have hsd:=hk.sd
 have hsa:=hk.sa
 have hsb:=hk.sb
 have hsf:=hk.sf
 have e1:=ne_list hx
 have q0:¬9223372036854775807<d.dst.size+3:=by omega
 obtain⟨n,hnn⟩:∃n,n=d.args.length:=⟨_,rfl⟩
 have hnl:d.labels.length=n:=by rw [hnn];exact (hk.ph ho).symm
 have hpl:(pairB d).length=n:=by unfold pairB;rw [List.length_zipWith];omega
 rw [hnl,←hnn] at hW2 ⊢
 rw [hnl] at c7
 rw [←hnn] at c6
 have hcells:=Lib.hid (fun (W:World) (hw:Below W2.heap.size W2 W) (k:Nat) (hkn:k<n)=>(by
  obtain⟨x,hx⟩:∃x,d.args[k]?=some x:=⟨_,List.getElem?_eq_getElem (by omega)⟩
  obtain⟨y,hy⟩:∃y,d.labels[k]?=some y:=⟨_,List.getElem?_eq_getElem (by omega)⟩
  rcases hac with h1 | ⟨b1,o1,rfl,hb1,hc1⟩
  ·rw [h1] at hx;simp at hx
  rcases hlc with h2 | ⟨b2,o2,rfl,hb2,hc2⟩
  ·rw [h2] at hy;simp at hy
  have hbw:Below w.heap.size w W:=hB.trans (hw.mono hB.size)
  exact⟨x,y,b1,o1,b2,o2,pairB_at hy hx,rfl,rfl,(hbw.cell (p:=⟨b1,o1+k,none⟩) hb1).trans (hc1 k x hx),(hbw.cell (p:=⟨b2,o2+k,none⟩) hb2).trans (hc2 k y hy),hk.ga x (List.mem_of_getElem? hx),hk.gl y (List.mem_of_getElem? hy)⟩:∃x y b1 o1 b2 o2,(pairB d)[k]?=some (y++⟨#[58,32]⟩++x)∧aa=some ⟨b1,o1,none⟩∧al=some ⟨b2,o2,none⟩∧W.cell? ⟨b1,o1+k,none⟩=some (.string x)∧W.cell? ⟨b2,o2+k,none⟩=some (.string y)∧x.size≤1600∧y.size≤1600))
 have hCS:=Lib.hid (fun (W:World) (hw:Below W2.heap.size W2 W)=>(⟨(hw.cell (p:=⟨w.heap.size,6,none⟩) hlt).trans c6,(hw.cell (p:=⟨w.heap.size,7,none⟩) hlt).trans c7⟩:W.cell? ⟨w.heap.size,6,none⟩=some (.slice aa n ca)∧W.cell? ⟨w.heap.size,7,none⟩=some (.slice al n cl)))
 have hn:n≤1000:=by have:=hk.na;omega
 have q1:¬9223372036854775807<d.dst.size+3+5:=by omega
 replace hpl:=Lib.hid hpl
 replace hnl:=Lib.hid hnl
 replace hnn:=Lib.hid hnn
 clear hb hac hlc
 replace hW2:=Lib.hid hW2
 replace hB:=Lib.hid hB
 replace ha:=Lib.hid ha
 replace hl:=Lib.hid hl
 go_enter Tryz.func23,Tryz.ntmps23
 go_upto_region 1 with fail
 rw [hW2.out]
 clear hW2
 go_upto_block 1 with fail
 go_wp2_with fail
 go_loopw [3,4] (fun s i wr=>∃k:Nat,∃S:ByteArray,s=.string S∧i=.int .i64 k∧k≤n∧Hid (bL S=phL d k)∧Hid (Below W2.heap.size W2 wr)) (fun _ i _=>n-(intOf i).toNat)
 case atStart=>exact⟨0,_,rfl,rfl,Nat.zero_le _,Lib.hid (by unfold phL;simp only [bL_app,List.append_assoc];rfl),Lib.hid (Below.refl _ _)⟩
 case round=>
  obtain⟨k,S,rfl,rfl,hkk,hS,hbr⟩:=hrel
  have hSl:S.size≤6710000:=by
   have h9:(bL S).length=S.size:=rfl
   rw [←h9,hS.out]
   exact ph_len hk k
  have hcc:=hCS.out wr hbr.out
  clear c0 c1 c2 c3 c4 c5 c6 c7
  by_cases hkn:k<n
  ·have i1:(k:Int)<(n:Int):=by omega
   obtain⟨x,y,b1,o1,b2,o2,he,rfl,rfl,hcx,hcy,hxs,hys⟩:=hcells.out wr hbr.out k hkn
   obtain⟨c6,c7⟩:=hcc
   by_cases hk0:0<k
   ·have g1:decide ((k:Int) > 0)=true:=by simp;omega
    have q2:¬9223372036854775807<S.size+2:=by omega
    have q3:¬9223372036854775807<S.size+2+y.size:=by omega
    have q4:¬9223372036854775807<S.size+2+y.size+2:=by omega
    have q5:¬9223372036854775807<S.size+2+y.size+2+x.size:=by omega
    have hS2:=Lib.hid (show bL (S++⟨#[44,32]⟩++y++⟨#[58,32]⟩++x)=phL d (k+1) from by
     simp only [bL_app]
     rw [hS.out]
     unfold phL
     rw [take_snocT he,List.map_append,List.map_cons,List.map_nil,join_snoc _ _ _ (by intro e;have h1:(((pairB d).take k).map bL).length=0:=(by rw [e];rfl);rw [List.length_map,List.length_take] at h1;have h2:=hpl.out;omega)]
     simp only [bL_app,List.append_assoc]
     rfl)
    have hC:=(⟨c6,c7,hcx,hcy⟩:wr.cell? ⟨w.heap.size,6,none⟩=some (.slice (some ⟨b1,o1,none⟩) n ca)∧wr.cell? ⟨w.heap.size,7,none⟩=some (.slice (some ⟨b2,o2,none⟩) n cl)∧wr.cell? ⟨b1,o1+k,none⟩=some (.string x)∧wr.cell? ⟨b2,o2+k,none⟩=some (.string y))
    clear hS he hSl c6 c7 hcx hcy
    go_upto_region 39 with fail
    refine wp_region_held_drew (S:=(fun w'=>w'.cell? ⟨w.heap.size,6,none⟩=some (.slice (some ⟨b1,o1,none⟩) n ca)∧w'.cell? ⟨w.heap.size,7,none⟩=some (.slice (some ⟨b2,o2,none⟩) n cl)∧w'.cell? ⟨b1,o1+k,none⟩=some (.string x)∧w'.cell? ⟨b2,o2+k,none⟩=some (.string y))) (by kernel_rfl) hC (fun hHeld=>?_)
    clear hHeld
    refine wpAnyH_take (i:=0) (oi:=(.mk (some 138) (.move (.tmp 3)) 9 "ref.go:71" #[] none)) (v:=?_) rfl (by kernel_rfl) (by kernel_rfl) (by kernel_rfl) (fun _ _ _ h=>h) (Or.inl ⟨by rfl,?_⟩) hC ?_
    rotate_left
    ·(intro w hSw;(try dsimp only at hSw);go_simp;try with_reducible rfl)
    try simp only [Act.put,List.setIfInBounds_toArray,List.set_cons_zero,List.set_cons_succ]
    refine wpAnyH_take (i:=1) (oi:=(.mk (some 139) (.fieldAddr 46 (.tmp 1) 7) 0 "ref.go:71" #[] none)) (v:=?_) rfl (by kernel_rfl) (by kernel_rfl) (by kernel_rfl) (fun _ _ _ h=>h) (Or.inl ⟨by rfl,?_⟩) hC ?_
    rotate_left
    ·(intro w hSw;(try dsimp only at hSw);go_simp;try with_reducible rfl)
    try simp only [Act.put,List.setIfInBounds_toArray,List.set_cons_zero,List.set_cons_succ]
    refine wpAnyH_take (i:=2) (oi:=(.mk (some 140) (.load 37 (.tmp 139)) 37 "ref.go:71" #[.mk 1 .data] none)) (v:=?_) rfl (by kernel_rfl) (by kernel_rfl) (by kernel_rfl) (fun _ _ _ h=>h) (Or.inl ⟨by rfl,?_⟩) hC ?_
    rotate_left
    ·(intro w hSw;(try dsimp only at hSw);go_simp;try with_reducible rfl)
    try simp only [Act.put,List.setIfInBounds_toArray,List.set_cons_zero,List.set_cons_succ]
    refine wpAnyH_take (i:=3) (oi:=(.mk (some 141) (.move (.tmp 4)) 3 "ref.go:71" #[] none)) (v:=?_) rfl (by kernel_rfl) (by kernel_rfl) (by kernel_rfl) (fun _ _ _ h=>h) (Or.inl ⟨by rfl,?_⟩) hC ?_
    rotate_left
    ·(intro w hSw;(try dsimp only at hSw);go_simp;try with_reducible rfl)
    try simp only [Act.put,List.setIfInBounds_toArray,List.set_cons_zero,List.set_cons_succ]
    refine wpAnyH_take (i:=4) (oi:=(.mk (some 142) (.indexAddr 37 (.tmp 140) (.tmp 141)) 0 "ref.go:71" #[.mk 2 .data,.mk 3 .data] none)) (v:=?_) rfl (by kernel_rfl) (by kernel_rfl) (by kernel_rfl) (fun _ _ _ h=>h) (Or.inl ⟨by rfl,?_⟩) hC ?_
    rotate_left
    ·(intro w hSw;(try dsimp only at hSw);go_simp;try with_reducible rfl)
    try simp only [Act.put,List.setIfInBounds_toArray,List.set_cons_zero,List.set_cons_succ]
    refine wpAnyH_take (i:=5) (oi:=(.mk (some 143) (.load 9 (.tmp 142)) 9 "ref.go:71" #[.mk 4 .data] none)) (v:=?_) rfl (by kernel_rfl) (by kernel_rfl) (by kernel_rfl) (fun _ _ _ h=>h) (Or.inl ⟨by rfl,?_⟩) hC ?_
    rotate_left
    ·(intro w hSw;(try dsimp only at hSw);go_simp;try with_reducible rfl)
    try simp only [Act.put,List.setIfInBounds_toArray,List.set_cons_zero,List.set_cons_succ]
    refine wpAnyH_take (i:=6) (oi:=(.mk (some 144) (.binOp BinOp.add 9 (.tmp 138) (.tmp 143) 9) 9 "ref.go:71" #[.mk 0 .data,.mk 5 .data] none)) (v:=?_) rfl (by kernel_rfl) (by kernel_rfl) (by kernel_rfl) (fun _ _ _ h=>h) (Or.inl ⟨by rfl,?_⟩) hC ?_
    rotate_left
    ·(intro w hSw;(try dsimp only at hSw);go_simp;try with_reducible rfl)
    try simp only [Act.put,List.setIfInBounds_toArray,List.set_cons_zero,List.set_cons_succ]
    refine wpAnyH_take (i:=7) (oi:=(.mk (some 145) (.binOp BinOp.add 9 (.tmp 144) (.const (Value.string (ByteArray.mk #[58,32]))) 9) 9 "ref.go:71" #[.mk 6 .data] none)) (v:=?_) rfl (by kernel_rfl) (by kernel_rfl) (by kernel_rfl) (fun _ _ _ h=>h) (Or.inl ⟨by rfl,?_⟩) hC ?_
    rotate_left
    ·(intro w hSw;(try dsimp only at hSw);go_simp;try with_reducible rfl)
    try simp only [Act.put,List.setIfInBounds_toArray,List.set_cons_zero,List.set_cons_succ]
    refine wpAnyH_take (i:=8) (oi:=(.mk (some 146) (.fieldAddr 46 (.tmp 1) 6) 0 "ref.go:71" #[] none)) (v:=?_) rfl (by kernel_rfl) (by kernel_rfl) (by kernel_rfl) (fun _ _ _ h=>h) (Or.inl ⟨by rfl,?_⟩) hC ?_
    rotate_left
    ·(intro w hSw;(try dsimp only at hSw);go_simp;try with_reducible rfl)
    try simp only [Act.put,List.setIfInBounds_toArray,List.set_cons_zero,List.set_cons_succ]
    refine wpAnyH_take (i:=9) (oi:=(.mk (some 147) (.load 37 (.tmp 146)) 37 "ref.go:71" #[.mk 8 .data] none)) (v:=?_) rfl (by kernel_rfl) (by kernel_rfl) (by kernel_rfl) (fun _ _ _ h=>h) (Or.inl ⟨by rfl,?_⟩) hC ?_
    rotate_left
    ·(intro w hSw;(try dsimp only at hSw);go_simp;try with_reducible rfl)
    try simp only [Act.put,List.setIfInBounds_toArray,List.set_cons_zero,List.set_cons_succ]
    refine wpAnyH_take (i:=10) (oi:=(.mk (some 148) (.move (.tmp 4)) 3 "ref.go:71" #[] none)) (v:=?_) rfl (by kernel_rfl) (by kernel_rfl) (by kernel_rfl) (fun _ _ _ h=>h) (Or.inl ⟨by rfl,?_⟩) hC ?_
    rotate_left
    ·(intro w hSw;(try dsimp only at hSw);go_simp;try with_reducible rfl)
    try simp only [Act.put,List.setIfInBounds_toArray,List.set_cons_zero,List.set_cons_succ]
    refine wpAnyH_take (i:=11) (oi:=(.mk (some 149) (.indexAddr 37 (.tmp 147) (.tmp 148)) 0 "ref.go:71" #[.mk 9 .data,.mk 10 .data] none)) (v:=?_) rfl (by kernel_rfl) (by kernel_rfl) (by kernel_rfl) (fun _ _ _ h=>h) (Or.inl ⟨by rfl,?_⟩) hC ?_
    rotate_left
    ·(intro w hSw;(try dsimp only at hSw);go_simp;try with_reducible rfl)
    try simp only [Act.put,List.setIfInBounds_toArray,List.set_cons_zero,List.set_cons_succ]
    refine wpAnyH_take (i:=12) (oi:=(.mk (some 150) (.load 9 (.tmp 149)) 9 "ref.go:71" #[.mk 11 .data] none)) (v:=?_) rfl (by kernel_rfl) (by kernel_rfl) (by kernel_rfl) (fun _ _ _ h=>h) (Or.inl ⟨by rfl,?_⟩) hC ?_
    rotate_left
    ·(intro w hSw;(try dsimp only at hSw);go_simp;try with_reducible rfl)
    try simp only [Act.put,List.setIfInBounds_toArray,List.set_cons_zero,List.set_cons_succ]
    refine wpAnyH_take (i:=13) (oi:=(.mk (some 151) (.binOp BinOp.add 9 (.tmp 145) (.tmp 150) 9) 9 "ref.go:71" #[.mk 7 .data,.mk 12 .data] none)) (v:=?_) rfl (by kernel_rfl) (by kernel_rfl) (by kernel_rfl) (fun _ _ _ h=>h) (Or.inl ⟨by rfl,?_⟩) hC ?_
    rotate_left
    ·(intro w hSw;(try dsimp only at hSw);go_simp;try with_reducible rfl)
    try simp only [Act.put,List.setIfInBounds_toArray,List.set_cons_zero,List.set_cons_succ]
    refine wpAnyH_take (i:=14) (oi:=(.mk (some 3) (.assign (.tmp 151)) 9 "ref.go:71" #[.mk 13 .data,.mk 0 .phase,.mk 1 .phase,.mk 2 .phase,.mk 3 .phase,.mk 4 .phase,.mk 5 .phase,.mk 6 .phase,.mk 7 .phase,.mk 8 .phase,.mk 9 .phase,.mk 10 .phase,.mk 11 .phase,.mk 12 .phase,.mk 13 .phase] none)) (v:=?_) rfl (by kernel_rfl) (by kernel_rfl) (by kernel_rfl) (fun _ _ _ h=>h) (Or.inl ⟨by rfl,?_⟩) hC ?_
    rotate_left
    ·(intro w hSw;(try dsimp only at hSw);go_simp;try with_reducible rfl)
    try simp only [Act.put,List.setIfInBounds_toArray,List.set_cons_zero,List.set_cons_succ]
    refine wpAnyH_done (by kernel_rfl) ?_ _
    go_wp2_with fail
    go_roundw
    case rel=>exact⟨k+1,_,rfl,by go_num,by omega,hS2,by first | exact hbr | exact Lib.hid hbr.out.drew⟩
    case measure=>simp [intOf];omega
   ·have hk00:=Lib.hid (show k=0 from by omega)
    have g1:decide ((k:Int) > 0)=false:=by simp;omega
    have q3:¬9223372036854775807<S.size+y.size:=by omega
    have q4:¬9223372036854775807<S.size+y.size+2:=by omega
    have q5:¬9223372036854775807<S.size+y.size+2+x.size:=by omega
    have hS2:=Lib.hid (show bL (S++y++⟨#[58,32]⟩++x)=phL d (k+1) from by
     simp only [bL_app]
     rw [hS.out]
     unfold phL
     rw [take_snocT he,hk00.out]
     simp [join1,Lib.join,bL_app])
    have hC:=(⟨c6,c7,hcx,hcy⟩:wr.cell? ⟨w.heap.size,6,none⟩=some (.slice (some ⟨b1,o1,none⟩) n ca)∧wr.cell? ⟨w.heap.size,7,none⟩=some (.slice (some ⟨b2,o2,none⟩) n cl)∧wr.cell? ⟨b1,o1+k,none⟩=some (.string x)∧wr.cell? ⟨b2,o2+k,none⟩=some (.string y))
    clear hS he hSl c6 c7 hcx hcy
    go_upto_region 39 with fail
    refine wp_region_held_drew (S:=(fun w'=>w'.cell? ⟨w.heap.size,6,none⟩=some (.slice (some ⟨b1,o1,none⟩) n ca)∧w'.cell? ⟨w.heap.size,7,none⟩=some (.slice (some ⟨b2,o2,none⟩) n cl)∧w'.cell? ⟨b1,o1+k,none⟩=some (.string x)∧w'.cell? ⟨b2,o2+k,none⟩=some (.string y))) (by kernel_rfl) hC (fun hHeld=>?_)
    clear hHeld
    refine wpAnyH_take (i:=0) (oi:=(.mk (some 138) (.move (.tmp 3)) 9 "ref.go:71" #[] none)) (v:=?_) rfl (by kernel_rfl) (by kernel_rfl) (by kernel_rfl) (fun _ _ _ h=>h) (Or.inl ⟨by rfl,?_⟩) hC ?_
    rotate_left
    ·(intro w hSw;(try dsimp only at hSw);go_simp;try with_reducible rfl)
    try simp only [Act.put,List.setIfInBounds_toArray,List.set_cons_zero,List.set_cons_succ]
    refine wpAnyH_take (i:=1) (oi:=(.mk (some 139) (.fieldAddr 46 (.tmp 1) 7) 0 "ref.go:71" #[] none)) (v:=?_) rfl (by kernel_rfl) (by kernel_rfl) (by kernel_rfl) (fun _ _ _ h=>h) (Or.inl ⟨by rfl,?_⟩) hC ?_
    rotate_left
    ·(intro w hSw;(try dsimp only at hSw);go_simp;try with_reducible rfl)
    try simp only [Act.put,List.setIfInBounds_toArray,List.set_cons_zero,List.set_cons_succ]
    refine wpAnyH_take (i:=2) (oi:=(.mk (some 140) (.load 37 (.tmp 139)) 37 "ref.go:71" #[.mk 1 .data] none)) (v:=?_) rfl (by kernel_rfl) (by kernel_rfl) (by kernel_rfl) (fun _ _ _ h=>h) (Or.inl ⟨by rfl,?_⟩) hC ?_
    rotate_left
    ·(intro w hSw;(try dsimp only at hSw);go_simp;try with_reducible rfl)
    try simp only [Act.put,List.setIfInBounds_toArray,List.set_cons_zero,List.set_cons_succ]
    refine wpAnyH_take (i:=3) (oi:=(.mk (some 141) (.move (.tmp 4)) 3 "ref.go:71" #[] none)) (v:=?_) rfl (by kernel_rfl) (by kernel_rfl) (by kernel_rfl) (fun _ _ _ h=>h) (Or.inl ⟨by rfl,?_⟩) hC ?_
    rotate_left
    ·(intro w hSw;(try dsimp only at hSw);go_simp;try with_reducible rfl)
    try simp only [Act.put,List.setIfInBounds_toArray,List.set_cons_zero,List.set_cons_succ]
    refine wpAnyH_take (i:=4) (oi:=(.mk (some 142) (.indexAddr 37 (.tmp 140) (.tmp 141)) 0 "ref.go:71" #[.mk 2 .data,.mk 3 .data] none)) (v:=?_) rfl (by kernel_rfl) (by kernel_rfl) (by kernel_rfl) (fun _ _ _ h=>h) (Or.inl ⟨by rfl,?_⟩) hC ?_
    rotate_left
    ·(intro w hSw;(try dsimp only at hSw);go_simp;try with_reducible rfl)
    try simp only [Act.put,List.setIfInBounds_toArray,List.set_cons_zero,List.set_cons_succ]
    refine wpAnyH_take (i:=5) (oi:=(.mk (some 143) (.load 9 (.tmp 142)) 9 "ref.go:71" #[.mk 4 .data] none)) (v:=?_) rfl (by kernel_rfl) (by kernel_rfl) (by kernel_rfl) (fun _ _ _ h=>h) (Or.inl ⟨by rfl,?_⟩) hC ?_
    rotate_left
    ·(intro w hSw;(try dsimp only at hSw);go_simp;try with_reducible rfl)
    try simp only [Act.put,List.setIfInBounds_toArray,List.set_cons_zero,List.set_cons_succ]
    refine wpAnyH_take (i:=6) (oi:=(.mk (some 144) (.binOp BinOp.add 9 (.tmp 138) (.tmp 143) 9) 9 "ref.go:71" #[.mk 0 .data,.mk 5 .data] none)) (v:=?_) rfl (by kernel_rfl) (by kernel_rfl) (by kernel_rfl) (fun _ _ _ h=>h) (Or.inl ⟨by rfl,?_⟩) hC ?_
    rotate_left
    ·(intro w hSw;(try dsimp only at hSw);go_simp;try with_reducible rfl)
    try simp only [Act.put,List.setIfInBounds_toArray,List.set_cons_zero,List.set_cons_succ]
    refine wpAnyH_take (i:=7) (oi:=(.mk (some 145) (.binOp BinOp.add 9 (.tmp 144) (.const (Value.string (ByteArray.mk #[58,32]))) 9) 9 "ref.go:71" #[.mk 6 .data] none)) (v:=?_) rfl (by kernel_rfl) (by kernel_rfl) (by kernel_rfl) (fun _ _ _ h=>h) (Or.inl ⟨by rfl,?_⟩) hC ?_
    rotate_left
    ·(intro w hSw;(try dsimp only at hSw);go_simp;try with_reducible rfl)
    try simp only [Act.put,List.setIfInBounds_toArray,List.set_cons_zero,List.set_cons_succ]
    refine wpAnyH_take (i:=8) (oi:=(.mk (some 146) (.fieldAddr 46 (.tmp 1) 6) 0 "ref.go:71" #[] none)) (v:=?_) rfl (by kernel_rfl) (by kernel_rfl) (by kernel_rfl) (fun _ _ _ h=>h) (Or.inl ⟨by rfl,?_⟩) hC ?_
    rotate_left
    ·(intro w hSw;(try dsimp only at hSw);go_simp;try with_reducible rfl)
    try simp only [Act.put,List.setIfInBounds_toArray,List.set_cons_zero,List.set_cons_succ]
    refine wpAnyH_take (i:=9) (oi:=(.mk (some 147) (.load 37 (.tmp 146)) 37 "ref.go:71" #[.mk 8 .data] none)) (v:=?_) rfl (by kernel_rfl) (by kernel_rfl) (by kernel_rfl) (fun _ _ _ h=>h) (Or.inl ⟨by rfl,?_⟩) hC ?_
    rotate_left
    ·(intro w hSw;(try dsimp only at hSw);go_simp;try with_reducible rfl)
    try simp only [Act.put,List.setIfInBounds_toArray,List.set_cons_zero,List.set_cons_succ]
    refine wpAnyH_take (i:=10) (oi:=(.mk (some 148) (.move (.tmp 4)) 3 "ref.go:71" #[] none)) (v:=?_) rfl (by kernel_rfl) (by kernel_rfl) (by kernel_rfl) (fun _ _ _ h=>h) (Or.inl ⟨by rfl,?_⟩) hC ?_
    rotate_left
    ·(intro w hSw;(try dsimp only at hSw);go_simp;try with_reducible rfl)
    try simp only [Act.put,List.setIfInBounds_toArray,List.set_cons_zero,List.set_cons_succ]
    refine wpAnyH_take (i:=11) (oi:=(.mk (some 149) (.indexAddr 37 (.tmp 147) (.tmp 148)) 0 "ref.go:71" #[.mk 9 .data,.mk 10 .data] none)) (v:=?_) rfl (by kernel_rfl) (by kernel_rfl) (by kernel_rfl) (fun _ _ _ h=>h) (Or.inl ⟨by rfl,?_⟩) hC ?_
    rotate_left
    ·(intro w hSw;(try dsimp only at hSw);go_simp;try with_reducible rfl)
    try simp only [Act.put,List.setIfInBounds_toArray,List.set_cons_zero,List.set_cons_succ]
    refine wpAnyH_take (i:=12) (oi:=(.mk (some 150) (.load 9 (.tmp 149)) 9 "ref.go:71" #[.mk 11 .data] none)) (v:=?_) rfl (by kernel_rfl) (by kernel_rfl) (by kernel_rfl) (fun _ _ _ h=>h) (Or.inl ⟨by rfl,?_⟩) hC ?_
    rotate_left
    ·(intro w hSw;(try dsimp only at hSw);go_simp;try with_reducible rfl)
    try simp only [Act.put,List.setIfInBounds_toArray,List.set_cons_zero,List.set_cons_succ]
    refine wpAnyH_take (i:=13) (oi:=(.mk (some 151) (.binOp BinOp.add 9 (.tmp 145) (.tmp 150) 9) 9 "ref.go:71" #[.mk 7 .data,.mk 12 .data] none)) (v:=?_) rfl (by kernel_rfl) (by kernel_rfl) (by kernel_rfl) (fun _ _ _ h=>h) (Or.inl ⟨by rfl,?_⟩) hC ?_
    rotate_left
    ·(intro w hSw;(try dsimp only at hSw);go_simp;try with_reducible rfl)
    try simp only [Act.put,List.setIfInBounds_toArray,List.set_cons_zero,List.set_cons_succ]
    refine wpAnyH_take (i:=14) (oi:=(.mk (some 3) (.assign (.tmp 151)) 9 "ref.go:71" #[.mk 13 .data,.mk 0 .phase,.mk 1 .phase,.mk 2 .phase,.mk 3 .phase,.mk 4 .phase,.mk 5 .phase,.mk 6 .phase,.mk 7 .phase,.mk 8 .phase,.mk 9 .phase,.mk 10 .phase,.mk 11 .phase,.mk 12 .phase,.mk 13 .phase] none)) (v:=?_) rfl (by kernel_rfl) (by kernel_rfl) (by kernel_rfl) (fun _ _ _ h=>h) (Or.inl ⟨by rfl,?_⟩) hC ?_
    rotate_left
    ·(intro w hSw;(try dsimp only at hSw);go_simp;try with_reducible rfl)
    try simp only [Act.put,List.setIfInBounds_toArray,List.set_cons_zero,List.set_cons_succ]
    refine wpAnyH_done (by kernel_rfl) ?_ _
    go_wp2_with fail
    go_roundw
    case rel=>exact⟨k+1,_,rfl,by go_num,by omega,hS2,by first | exact hbr | exact Lib.hid hbr.out.drew⟩
    case measure=>simp [intOf];omega
  ·have i1:decide ((k:Int)<(n:Int))=false:=by simp;omega
   obtain rfl:k=n:=by omega
   obtain⟨c6,c7⟩:=hcc
   have e0:(pairB d).take k=pairB d:=List.take_of_length_le (by rw [hpl.out];exact Nat.le_refl _)
   have q2:¬9223372036854775807<S.size+1:=by omega
   have hR:=Lib.hid (show bL (S++⟨#[93]⟩)=refT d from by
    rw [bL_app,hS.out,ref_6 ho,pre_val hx]
    unfold phL
    rw [e0,pairB_T]
    simp only [List.append_assoc]
    rfl)
   clear hS hSl
   go_wp2_with fail
   go_ret
   exact⟨⟨_,rfl,hR.out⟩,hB.out.trans (hbr.out.mono hB.out.size)⟩
end
section
open Go.RowKit Go.Maps Go.Shelf Go.WideMaps
theorem line6_any {w:World}{d:Ins}{va vl:Value}(h:badFieldsB d=false)(ha:RdC w va d.args)(hl:RdC w vl d.labels)(hk:InsOk d):Calls Tryz.prog 23 #[.agg (insV d va vl).toArray] w fun e w'=>(∃s,e=.returned (.string s)∧bL s=refT d)∧Below w.heap.size w w':=by
 obtain⟨s,hs,hd,-,-,-,-,-,-,hl9,-⟩:=fields_ok h
 have ho:=ops_ok hs
 rcases ho with e | e | e | e | e | e | e | e | e | e | e | e | e | e
 all_goals (rw [e] at hs;obtain rfl:=Option.some.inj hs;clear hs)
 ·exact l6_1 ha hl hk e (miss_must hd)
 ·exact l6_2 ha hl hk e (miss_must hd)
 ·exact l6_3 ha hl hk e (miss_must hd)
 ·exact l6_4 ha hl hk e (miss_must hd)
 ·exact l6_5 ha hl hk e (miss_must hd)
 ·exact l6_6 ha hl hk e (miss_must hd)
 ·exact l6_7 ha hl hk e (miss_must hd)
 ·exact l6_8 ha hl hk e (miss_must hd)
 ·exact l6_9e ha hl hk e (miss_none hd)
 ·by_cases hx:bL d.dst=[]
  ·exact l6_10e ha hl hk e hx
  ·exact l6_10 ha hl hk e hx
 ·by_cases hx:bL d.dst=[]
  ·exact l6_11e ha hl hk e hx
  ·exact l6_11 ha hl hk e hx
 ·obtain⟨a,b,h2⟩:=two_of hl9
  exact l6_12e ha hl hk e h2 (miss_none hd)
 ·obtain⟨a,h2⟩:=one_of hl9
  exact l6_13e ha hl hk e h2 (miss_none hd)
 ·exact l6_14e ha hl hk e (miss_none hd)
end
section
open Go.RowKit Go.Maps Go.Shelf
def LightI (c:Ins):Prop:=c.args.length≤20∧c.labels.length≤20
def LightB (x:Blk):Prop:=x.code.length≤200∧∀c∈x.code,LightI c
def LightF (d:Fun):Prop:=d.params.length≤20∧d.blocks.length≤70∧∀x∈d.blocks,LightB x
def LightP (P:List Fun):Prop:=P.length≤70∧∀d∈P,LightF d
theorem LightP.ok {P:List Fun}(h:LightP P)(hf:∀d∈P,d.Fits):POkA P:=by
 refine⟨⟨hf,by have:=h.1;omega,fun d hd=>by have:=(h.2 d hd).2.1;omega,fun d hd x hx=>by have:=((h.2 d hd).2.2 x hx).1;omega,fun d hd=>by have:=(h.2 d hd).1;omega⟩,fun d hd x hx c hc=>by have:=(((h.2 d hd).2.2 x hx).2 c hc).1;omega⟩
def longB (l:List ByteArray):Bool:=l.any fun s=>decide (s.size > 200)
set_option maxHeartbeats 1000000 in
theorem long_any {w:World}{v:Value}{ss:List ByteArray}(h:RdS w v ss)(hl:ss.length≤maxLen):Calls Tryz.prog 15 #[v] w fun e w'=>e=.returned (.bool (longB ss))∧w=w':=by
 obtain⟨a,c,rfl⟩:=h.shape
 obtain⟨n,hn⟩:∃n,n=ss.length:=⟨_,rfl⟩
 rw [←hn] at hl h ⊢
 unfold maxLen at hl
 generalize hA:longB ss=A
 replace hA:=Lib.hid hA
 replace h:=Lib.hid h
 replace hn:=Lib.hid hn
 go_enter Tryz.func15,Tryz.ntmps15
 go_wp2_with fail
 go_loop [3] (fun i=>∃k:Nat,k≤n∧i=.int .i64 k∧Hid (longB (ss.take k)=false)) (fun i=>n-(intOf i).toNat)
 case atStart=>exact⟨0,Nat.zero_le _,rfl,Lib.hid rfl⟩
 case round=>
  obtain⟨k,hk,rfl,ha⟩:=hrel
  by_cases hlt:k<n
  ·have j1:decide ((k:Int)<(n:Int))=true:=by simpa using hlt
   have j2:(k:Int)<(n:Int):=by omega
   obtain⟨s,hs⟩:∃s,ss[k]?=some s:=⟨_,List.getElem?_eq_getElem (by rw [←hn.out];exact hlt)⟩
   obtain⟨b,off,cap,e,hc⟩:=h.out.cell hs
   rw [←hn.out] at e
   simp only [Value.slice.injEq] at e
   obtain⟨rfl,-,rfl⟩:=e
   have hat:longB (ss.take (k+1))=decide (s.size > 200):=by
    have:=ha.out
    unfold longB at this ⊢
    rw [take_snocS hs,List.any_append,this]
    simp
   have hsub:Hid (longB (ss.take (k+1))=true→longB ss=true):=Lib.hid (fun e=>by
    unfold longB at e ⊢
    rw [List.any_eq_true] at e ⊢
    obtain⟨x,hx,hy⟩:=e
    exact⟨x,List.mem_of_mem_take hx,hy⟩)
   clear hs
   by_cases h2:s.size > 200
   ·have d1:decide ((s.size:Int) > 200)=true:=by simp;omega
    have hAt:Hid (true=A):=Lib.hid (by rw [←hA.out];exact (hsub.out (by rw [hat];simpa using h2)).symm)
    clear hat hsub
    go_wp2_with fail
    go_ret
    exact⟨by rw [←hAt.out];rfl,rfl⟩
   ·have d1:decide ((s.size:Int) > 200)=false:=by simp;omega
    have hat2:=Lib.hid (show longB (ss.take (k+1))=false from by rw [hat];simpa using h2)
    clear hat hsub
    go_wp2_with fail
    go_round
    case rel=>exact⟨k+1,by omega,by go_num,hat2⟩
    case measure=>simp [intOf];omega
  ·obtain rfl:k=n:=by omega
   have j1:decide ((k:Int)<(k:Int))=false:=by simp
   have hal:Hid (longB ss=false):=Lib.hid (by have:=ha.out;rwa [List.take_of_length_le (by rw [←hn.out];exact Nat.le_refl _)] at this)
   clear ha
   go_wp2_with fail
   go_ret
   exact⟨by rw [←hA.out,hal.out];rfl,rfl⟩
def HeavyPost (w:World)(P:List Fun)(e:Ending)(w':World):Prop:=∃q,e=.returned (.bool q)∧Below w.heap.size w w'∧(q=false→LightP P)
set_option maxRecDepth 20000 in
set_option maxHeartbeats 8000000 in
theorem heavy_any {w:World}{v:Value}{P:List Fun}(h:RdE 3 RdFun w v P)(hf:∀d∈P,d.Fits)(hl:P.length≤maxLen):Calls Tryz.prog 7 #[.agg #[v]] w (HeavyPost w P):=by
 obtain⟨a0,c0,rfl⟩:=h.form
 obtain⟨p,hp⟩:∃p,p=P.length:=⟨_,rfl⟩
 rw [←hp] at h hl ⊢
 unfold maxLen at hl
 replace h:=Lib.hid h
 replace hp:=Lib.hid hp
 replace hf:=Lib.hid hf
 have hbe0:Below w.heap.size w (w.alloc (.cells #[.slice a0 p c0] 24)):=(Below.refl _ _).alloc (Nat.le_refl _) _
 have hS0:(w.alloc (.cells #[.slice a0 p c0] 24)).heap[w.heap.size]?=some (.cells #[.slice a0 p c0] 24 (0,0)):=heap_alloc_new _ _
 by_cases h70:p≤70
 case neg=>
  have d1:decide ((p:Int) > 70)=true:=by simp;omega
  have hbe:=Lib.hid hbe0
  clear hbe0 hS0
  go_enter Tryz.func7,Tryz.ntmps7
  go_wp2_with fail
  go_ret
  exact⟨true,rfl,hbe.out,fun h=>by cases h⟩
 have d1:decide ((p:Int) > 70)=false:=by simp;omega
 go_enter Tryz.func7,Tryz.ntmps7
 go_wp2_with fail
 generalize (w.alloc (.cells #[.slice a0 p c0] 24))=w0 at hbe0 hS0 ⊢
 obtain⟨S,hS⟩:∃S,S=w.heap.size:=⟨_,rfl⟩
 rw [←hS] at hS0 ⊢
 have hlt0:=(Array.getElem?_eq_some_iff.1 hS0).1
 have hcS:=Lib.hid (fun (wr:World) (hb:Below w0.heap.size w0 wr)=>(by rw [blk_cell ((hb.block S hlt0).trans hS0)];rfl:wr.cell? ⟨S,0,none⟩=some (.slice a0 p c0)))
 replace hS:=Lib.hid hS
 have hbeW:=Lib.hid hbe0
 clear hS0 hbe0 d1
 go_loopw [3,4,5,6,7,8,9] (fun m i _ _ _ _ _ wr=>∃k N:Nat,k≤p∧N≤200∧i=.int .i64 k∧m=.int .i64 N∧Hid (Below w0.heap.size w0 wr)∧Hid (∀d∈P.take k,LightF d)) (fun _ i _ _ _ _ _ _=>p-(intOf i).toNat)
 case atStart=>exact⟨0,0,Nat.zero_le _,Nat.zero_le _,rfl,rfl,Lib.hid (Below.refl _ _),Lib.hid (fun b hb=>by simp at hb)⟩
 case round=>
  obtain⟨k,N,hk,hN,rfl,rfl,hB,hall⟩:=hrel
  have cS:=hcS.out wr hB.out
  by_cases hlt:k<p
  case neg=>
   obtain rfl:k=p:=by omega
   have j1:decide ((k:Int)<(k:Int))=false:=by simp
   go_wp2_with fail
   go_ret
   exact⟨false,rfl,hbeW.out.trans (hB.out.mono hbeW.out.size),fun _=>⟨by rw [←hp.out];exact h70,by have:=hall.out;rwa [List.take_of_length_le (by rw [hp.out];exact Nat.le_refl _)] at this⟩⟩
  have j1:decide ((k:Int)<(p:Int))=true:=by simpa using hlt
  have j2:(k:Int)<(p:Int):=by omega
  obtain⟨d,hd⟩:∃d,P[k]?=some d:=⟨_,List.getElem?_eq_getElem (by rw [←hp.out];exact hlt)⟩
  obtain⟨g,off,cap,cs,e,hgl,⟨vp,vb,rfl,rp,rb⟩,-,hcell⟩:=h.out.at hd
  rw [←hp.out] at e
  simp only [Value.slice.injEq] at e
  obtain⟨rfl,-,rfl⟩:=e
  obtain⟨ap,cp,rfl⟩:=rp.shape
  obtain⟨ab,cb,rfl⟩:=rb.form
  have hBw:=hbeW.out.trans (hB.out.mono hbeW.out.size)
  have e0:wr.cell? ⟨g,off+k*3,none⟩=some (.string d.name):=keepC hBw (hcell 0 _ rfl)
  have e1:=keepC hBw (hcell 1 _ rfl)
  have e2:=keepC hBw (hcell 2 _ rfl)
  have hfd:=hf.out d (List.mem_of_getElem? hd)
  have htk:=Lib.hid (take_snocS hd)
  obtain⟨np,hnp⟩:∃n,n=d.params.length:=⟨_,rfl⟩
  obtain⟨nb,hnb⟩:∃n,n=d.blocks.length:=⟨_,rfl⟩
  have hnbl:nb≤maxLen:=by rw [hnb];exact hfd.2.2.2.2
  unfold maxLen at hnbl
  rw [←hnp] at rp e1
  rw [←hnb] at rb e2
  have hlo:=Lib.hid (fun w' (hb:Below w.heap.size w w')=>long_any (Rd.below rp hb) hfd.2.2.2.1)
  have hbx:=hB.out.alloc hB.out.size (.cells #[.string d.name,.slice ap np cp,.slice ab nb cb] 40)
  have hF0:(wr.alloc (.cells #[.string d.name,.slice ap np cp,.slice ab nb cb] 40)).heap[wr.heap.size]?=some (.cells #[.string d.name,.slice ap np cp,.slice ab nb cb] 40 (0,0)):=heap_alloc_new _ _
  replace hnp:=Lib.hid hnp
  replace hnb:=Lib.hid hnb
  replace hfd:=Lib.hid hfd
  replace rb:=Lib.hid rb
  replace hbx:=Lib.hid hbx
  replace hB:=Lib.hid hB.out
  generalize hx1:decide ((d.name.size:Int) > 200)=q1
  generalize hx2:decide ((np:Int) > 20)=q2
  generalize hx3:decide ((nb:Int) > 70)=q3
  generalize longB d.params=q4 at hlo
  clear hcell rp hd hgl hBw
  go_upto_region 8 with fail
  generalize (wr.alloc (.cells #[.string d.name,.slice ap np cp,.slice ab nb cb] 40))=w1 at hbx hF0 ⊢
  have f0:w1.cell? ⟨wr.heap.size,0,none⟩=some (.string d.name):=by rw [blk_cell hF0];rfl
  have f1:w1.cell? ⟨wr.heap.size,1,none⟩=some (.slice ap np cp):=by rw [blk_cell hF0];rfl
  have f2:w1.cell? ⟨wr.heap.size,2,none⟩=some (.slice ab nb cb):=by rw [blk_cell hF0];rfl
  have hFl:=(Array.getElem?_eq_some_iff.1 hF0).1
  generalize wr.heap.size=Sd at f0 f1 f2 hFl hF0 ⊢
  have hcF:=Lib.hid (fun (wx:World) (hb:Below w1.heap.size w1 wx)=>(by rw [blk_cell ((hb.block Sd hFl).trans hF0)];rfl:wx.cell? ⟨Sd,2,none⟩=some (.slice ab nb cb)))
  have hW1:=Lib.hid (hbeW.out.trans (hbx.out.mono hbeW.out.size))
  clear e0 e1 e2 hB hF0 cS
  cases q1 with
  | true=>
   go_wp2_with (go_at_call 15;refine (hlo.out _ hW1.out).mono ?_;rintro e w' ⟨rfl,rfl⟩)
   go_ret
   exact⟨true,rfl,hW1.out,fun h=>by cases h⟩
  | false=>
    cases q2 with
    | true=>
     go_wp2_with (go_at_call 15;refine (hlo.out _ hW1.out).mono ?_;rintro e w' ⟨rfl,rfl⟩)
     go_ret
     exact⟨true,rfl,hW1.out,fun h=>by cases h⟩
    | false=>
      cases q3 with
      | true=>
       go_wp2_with (go_at_call 15;refine (hlo.out _ hW1.out).mono ?_;rintro e w' ⟨rfl,rfl⟩)
       go_ret
       exact⟨true,rfl,hW1.out,fun h=>by cases h⟩
      | false=>
        cases q4 with
        | true=>
         go_wp2_with (go_at_call 15;refine (hlo.out _ hW1.out).mono ?_;rintro e w' ⟨rfl,rfl⟩)
         go_ret
         exact⟨true,rfl,hW1.out,fun h=>by cases h⟩
        | false=>
          have hnp20:np≤20:=by simp at hx2;omega
          have hnb70:nb≤70:=by simp at hx3;omega
          go_upto_region 10 with (go_at_call 15;refine (hlo.out _ hW1.out).mono ?_;rintro e w' ⟨rfl,rfl⟩)
          clear hx1 hx2 hx3 f0 f1
          go_wp2_with fail
          clear f2
          go_loopw [3,6,7,8,9] (fun m i _ _ _ wx=>∃k2 N:Nat,k2≤nb∧N≤200∧i=.int .i64 k2∧m=.int .i64 N∧Hid (Below w1.heap.size w1 wx)∧Hid (∀x∈d.blocks.take k2,LightB x)) (fun _ i _ _ _ _=>nb-(intOf i).toNat)
          case atStart=>exact⟨0,N,Nat.zero_le _,hN,rfl,rfl,Lib.hid (Below.refl _ _),Lib.hid (fun b hb=>by simp at hb)⟩
          case round=>
           obtain⟨k2,N2,hk2,hN2,rfl,rfl,hB,hallB⟩:=hrel
           have cF:=hcF.out wr hB.out
           by_cases hlt2:k2<nb
           case neg=>
            obtain rfl:k2=nb:=by omega
            have i1:decide ((k2:Int)<(k2:Int))=false:=by simp
            have hall2:Hid (∀z∈P.take (k+1),LightF z):=Lib.hid (by
             rw [htk.out]
             intro z hz
             rcases List.mem_append.1 hz with h | h
             ·exact hall.out z h
             ·rw [List.mem_singleton.1 h]
              exact⟨by rw [←hnp.out];exact hnp20,by rw [←hnb.out];exact hnb70,by have:=hallB.out;rwa [List.take_of_length_le (by rw [hnb.out];exact Nat.le_refl _)] at this⟩)
            have hB3:=Lib.hid (hbx.out.trans (hB.out.mono hbx.out.size))
            clear hallB hB hall
            go_wp2_with fail
            exact⟨⟨k+1,N2,by omega,hN2,by go_num,rfl,hB3,hall2⟩,by simp [intOf];omega⟩
           have i1:decide ((k2:Int)<(nb:Int))=true:=by simpa using hlt2
           have i2:(k2:Int)<(nb:Int):=by omega
           obtain⟨x,hx⟩:∃x,d.blocks[k2]?=some x:=⟨_,List.getElem?_eq_getElem (by rw [←hnb.out];exact hlt2)⟩
           obtain⟨g,off,cap,cs,e,hgl,⟨vc,rfl,rc⟩,-,hcell⟩:=rb.out.at hx
           rw [←hnb.out] at e
           simp only [Value.slice.injEq] at e
           obtain⟨rfl,-,rfl⟩:=e
           obtain⟨ac,cc,rfl⟩:=rc.form
           have hBw:=hW1.out.trans (hB.out.mono hW1.out.size)
           have e0:wr.cell? ⟨g,off+k2*2,none⟩=some (.string x.label):=keepC hBw (hcell 0 _ rfl)
           have e1:=keepC hBw (hcell 1 _ rfl)
           have hfx:=Lib.hid (hfd.out.2.2.1 x (List.mem_of_getElem? hx))
           have htx:=Lib.hid (take_snocS hx)
           obtain⟨nc,hnc⟩:∃n,n=x.code.length:=⟨_,rfl⟩
           have hncl:nc≤maxLen:=by rw [hnc];exact hfx.out.2.2
           unfold maxLen at hncl
           rw [←hnc] at rc e1
           replace hnc:=Lib.hid hnc
           replace rc:=Lib.hid rc
           replace hBw:=Lib.hid hBw
           generalize hx1:decide ((nc:Int) > 200-(N2:Int))=q5
           generalize hx2:decide ((x.label.size:Int) > 200)=q6
           clear hcell hx hgl
           cases q5 with
           | true=>
            go_wp2_with fail
            go_ret
            exact⟨true,rfl,hBw.out,fun h=>by cases h⟩
           | false=>
             cases q6 with
             | true=>
              go_wp2_with fail
              go_ret
              exact⟨true,rfl,hBw.out,fun h=>by cases h⟩
             | false=>
               have hncN:nc+N2≤200:=by simp at hx1;omega
               go_upto_region 17 with fail
               have hSum:=Lib.hid (show (N2:Int)+(nc:Int)=((N2+nc:Nat):Int) from by omega)
               clear hx1 hx2 e0 e1 cF
               go_wp2_with fail
               go_loopw [8,9] (fun i _ wx=>∃k3:Nat,k3≤nc∧i=.int .i64 k3∧Hid (Below w1.heap.size w1 wx)∧Hid (∀c∈x.code.take k3,LightI c)) (fun i _ _=>nc-(intOf i).toNat)
               case atStart=>exact⟨0,Nat.zero_le _,rfl,hB,Lib.hid (fun b hb=>by simp at hb)⟩
               case round=>
                clear hB hBw
                obtain⟨k3,hk3,rfl,hB,hallI⟩:=hrel
                by_cases hlt3:k3<nc
                case neg=>
                 obtain rfl:k3=nc:=by omega
                 have l1:decide ((k3:Int)<(k3:Int))=false:=by simp
                 have hall2:Hid (∀z∈d.blocks.take (k2+1),LightB z):=Lib.hid (by
                  rw [htx.out]
                  intro z hz
                  rcases List.mem_append.1 hz with h | h
                  ·exact hallB.out z h
                  ·rw [List.mem_singleton.1 h]
                   exact⟨by rw [←hnc.out];omega,by have:=hallI.out;rwa [List.take_of_length_le (by rw [hnc.out];exact Nat.le_refl _)] at this⟩)
                 clear hallI hallB
                 go_wp2_with fail
                 exact⟨⟨k2+1,N2+k3,by omega,by omega,by go_num,by first | rfl | (rw [hSum.out];rfl) | go_num,hB,hall2⟩,by simp [intOf];omega⟩
                have l1:decide ((k3:Int)<(nc:Int))=true:=by simpa using hlt3
                have l2:(k3:Int)<(nc:Int):=by omega
                obtain⟨y,hy⟩:∃y,x.code[k3]?=some y:=⟨_,List.getElem?_eq_getElem (by rw [←hnc.out];exact hlt3)⟩
                obtain⟨g,off,cap,cs,e,hgl,⟨va,vl,rfl,ra,rl⟩,-,hc⟩:=rc.out.at hy
                rw [←hnc.out] at e
                simp only [Value.slice.injEq] at e
                obtain⟨rfl,-,rfl⟩:=e
                obtain⟨aa,ca,rfl⟩:=ra.shape
                obtain⟨la,cl,rfl⟩:=rl.shape
                have hBw:=hW1.out.trans (hB.out.mono hW1.out.size)
                have e0:wr.cell? ⟨g,off+k3*8,none⟩=some (.int .u8 y.op):=keepC hBw (hc 0 _ rfl)
                have e1:=keepC hBw (hc 1 _ rfl)
                have e2:=keepC hBw (hc 2 _ rfl)
                have e3:=keepC hBw (hc 3 _ rfl)
                have e4:=keepC hBw (hc 4 _ rfl)
                have e5:=keepC hBw (hc 5 _ rfl)
                have e6:=keepC hBw (hc 6 _ rfl)
                have e7:=keepC hBw (hc 7 _ rfl)
                have hfy:=hfx.out.2.1 y (List.mem_of_getElem? hy)
                have hty:=Lib.hid (take_snocS hy)
                have hzl:y.args.length≤maxLen:=hfy.2.2.2.2.2.2.2.2.2.1
                have hzm:y.labels.length≤maxLen:=hfy.2.2.2.2.2.2.2.2.2.2
                obtain⟨na,hna⟩:∃n,n=y.args.length:=⟨_,rfl⟩
                obtain⟨nl,hnl⟩:∃n,n=y.labels.length:=⟨_,rfl⟩
                have hnal:na≤maxLen:=by rw [hna];exact hfy.2.2.2.2.2.2.2.2.2.1
                have hnll:nl≤maxLen:=by rw [hnl];exact hfy.2.2.2.2.2.2.2.2.2.2
                unfold maxLen at hnal hnll
                rw [←hna] at e6 ra
                rw [←hnl] at e7 rl
                replace hna:=Lib.hid hna
                replace hnl:=Lib.hid hnl
                have hbx2:=hB.out.alloc hB.out.size (.cells #[.int .u8 y.op,.string y.dst,.string y.a,.string y.b,.int .i64 y.n,.string y.fn,.slice aa na ca,.slice la nl cl] 46)
                have hI0:(wr.alloc (.cells #[.int .u8 y.op,.string y.dst,.string y.a,.string y.b,.int .i64 y.n,.string y.fn,.slice aa na ca,.slice la nl cl] 46)).heap[wr.heap.size]?=some (.cells #[.int .u8 y.op,.string y.dst,.string y.a,.string y.b,.int .i64 y.n,.string y.fn,.slice aa na ca,.slice la nl cl] 46 (0,0)):=heap_alloc_new _ _
                replace hbx2:=Lib.hid hbx2
                generalize hy1:decide ((y.dst.size:Int) > 200)=r1
                generalize hy2:decide ((y.a.size:Int) > 200)=r2
                generalize hy3:decide ((y.b.size:Int) > 200)=r3
                generalize hy4:decide ((y.fn.size:Int) > 200)=r4
                generalize hy5:decide ((na:Int) > 20)=r5
                generalize hy6:decide ((nl:Int) > 20)=r6
                generalize hr7:longB y.args=r7
                generalize hr8:longB y.labels=r8
                replace hr7:=Lib.hid hr7
                replace hr8:=Lib.hid hr8
                have hra:=Lib.hid ra
                have hrl:=Lib.hid rl
                clear hc ra rl hy hgl hfy hBw hB
                go_upto_region 21 with fail
                clear e0 e1 e2 e3 e4 e5 e6 e7
                generalize (wr.alloc (.cells #[.int .u8 y.op,.string y.dst,.string y.a,.string y.b,.int .i64 y.n,.string y.fn,.slice aa na ca,.slice la nl cl] 46))=w2 at hbx2 hI0 ⊢
                have f1:w2.cell? ⟨wr.heap.size,1,none⟩=some (.string y.dst):=by rw [blk_cell hI0];rfl
                have f2:w2.cell? ⟨wr.heap.size,2,none⟩=some (.string y.a):=by rw [blk_cell hI0];rfl
                have f3:w2.cell? ⟨wr.heap.size,3,none⟩=some (.string y.b):=by rw [blk_cell hI0];rfl
                have f5:w2.cell? ⟨wr.heap.size,5,none⟩=some (.string y.fn):=by rw [blk_cell hI0];rfl
                have f6:w2.cell? ⟨wr.heap.size,6,none⟩=some (.slice aa na ca):=by rw [blk_cell hI0];rfl
                have f7:w2.cell? ⟨wr.heap.size,7,none⟩=some (.slice la nl cl):=by rw [blk_cell hI0];rfl
                generalize wr.heap.size=Sy at f1 f2 f3 f5 f6 f7 ⊢
                have hW2:=Lib.hid (hW1.out.trans (hbx2.out.mono hW1.out.size))
                have hra2:=Rd.below hra.out hW2.out
                have hrl2:=Rd.below hrl.out hW2.out
                clear hI0
                cases r1 with
                | true=>
                 go_wp2_with (go_at_call 15;refine Calls.mono (long_any (by assumption) (by assumption)) ?_;rintro e w' ⟨rfl,rfl⟩;first | rw [hr7.out] | rw [hr8.out])
                 go_ret
                 exact⟨true,rfl,hW2.out,fun h=>by cases h⟩
                | false=>
                  cases r2 with
                  | true=>
                   go_wp2_with (go_at_call 15;refine Calls.mono (long_any (by assumption) (by assumption)) ?_;rintro e w' ⟨rfl,rfl⟩;first | rw [hr7.out] | rw [hr8.out])
                   go_ret
                   exact⟨true,rfl,hW2.out,fun h=>by cases h⟩
                  | false=>
                    cases r3 with
                    | true=>
                     go_wp2_with (go_at_call 15;refine Calls.mono (long_any (by assumption) (by assumption)) ?_;rintro e w' ⟨rfl,rfl⟩;first | rw [hr7.out] | rw [hr8.out])
                     go_ret
                     exact⟨true,rfl,hW2.out,fun h=>by cases h⟩
                    | false=>
                      cases r4 with
                      | true=>
                       go_wp2_with (go_at_call 15;refine Calls.mono (long_any (by assumption) (by assumption)) ?_;rintro e w' ⟨rfl,rfl⟩;first | rw [hr7.out] | rw [hr8.out])
                       go_ret
                       exact⟨true,rfl,hW2.out,fun h=>by cases h⟩
                      | false=>
                        cases r5 with
                        | true=>
                         go_wp2_with (go_at_call 15;refine Calls.mono (long_any (by assumption) (by assumption)) ?_;rintro e w' ⟨rfl,rfl⟩;first | rw [hr7.out] | rw [hr8.out])
                         go_ret
                         exact⟨true,rfl,hW2.out,fun h=>by cases h⟩
                        | false=>
                          cases r6 with
                          | true=>
                           go_wp2_with (go_at_call 15;refine Calls.mono (long_any (by assumption) (by assumption)) ?_;rintro e w' ⟨rfl,rfl⟩;first | rw [hr7.out] | rw [hr8.out])
                           go_ret
                           exact⟨true,rfl,hW2.out,fun h=>by cases h⟩
                          | false=>
                            cases r7 with
                            | true=>
                             go_wp2_with (go_at_call 15;refine Calls.mono (long_any (by assumption) (by assumption)) ?_;rintro e w' ⟨rfl,rfl⟩;first | rw [hr7.out] | rw [hr8.out])
                             go_ret
                             exact⟨true,rfl,hW2.out,fun h=>by cases h⟩
                            | false=>
                              cases r8 with
                              | true=>
                               go_wp2_with (go_at_call 15;refine Calls.mono (long_any (by assumption) (by assumption)) ?_;rintro e w' ⟨rfl,rfl⟩;first | rw [hr7.out] | rw [hr8.out])
                               go_ret
                               exact⟨true,rfl,hW2.out,fun h=>by cases h⟩
                              | false=>
                                have hall2:Hid (∀c∈x.code.take (k3+1),LightI c):=Lib.hid (by
                                 rw [hty.out]
                                 intro z hz
                                 rcases List.mem_append.1 hz with h | h
                                 ·exact hallI.out z h
                                 ·rw [List.mem_singleton.1 h]
                                  exact⟨by rw [←hna.out];simp at hy5;omega,by rw [←hnl.out];simp at hy6;omega⟩)
                                clear hallI
                                go_wp2_with (go_at_call 15;refine Calls.mono (long_any (by assumption) (by assumption)) ?_;rintro e w' ⟨rfl,rfl⟩;first | rw [hr7.out] | rw [hr8.out])
                                exact⟨⟨k3+1,by omega,by go_num,hbx2,hall2⟩,by simp [intOf];omega⟩
end
end Go.Proofs.YtknkiaedgeejiaaGreatDoor
