/- Sr6, Sr7, Sr8, Sr9, SwIs, Sr10. -/
import Derived.Test.YtknkiaedgeejiaaGreatDoorSP19
import Derived.Test.YtknkiaedgeejiaaGreatDoorSP2
import Derived.Test.YtknkiaedgeejiaaGreatDoorSP1
import Derived.Test.YtknkiaedgeejiaaGreatDoorShelf
import Derived.Test.YtknkiaedgeejiaaGreatDoorSP16
namespace Go.Proofs.YtknkiaedgeejiaaGreatDoor
set_option linter.unusedVariables false
set_option linter.unusedSimpArgs false
section
open Go.RowKit Go.Maps Go.Shelf Go.WideMaps
attribute [local go_sem] Oper.semAt_some
theorem bL_size (s:ByteArray):(bL s).length=s.size:=rfl
theorem sz_step {a j k s I B:Nat}(h:s≤a+j*B+1700+k*I)(hk:k≤200)(hB:1700+200*I≤B):s≤a+(j+1)*B:=by
 have h1:k*I≤200*I:=Nat.mul_le_mul_right _ hk
 rw [Nat.succ_mul]
 omega
theorem ins_ref {c:Ins}(hv:badFieldsB c=false):insT c=[32,32]++refT c++[10]:=by unfold insT;rw [words_ref hv]
set_option maxRecDepth 20000 in
set_option maxHeartbeats 16000000 in
theorem rprint_any {P:List Fun}(hL:LightP P)(hok:brokenP P=false→∀d∈P,FunOk d){w:World}{v:Value}(h:RdE 3 RdFunC w v P)(hF:∀(r:Nat),r=2∨r=9→∀W,Below w.heap.size w W→Calls Tryz.prog 21 #[.agg #[v],.int .u8 r] W fun e W'=>(∃p1 p2 p3:Int,e=.returned (.tuple #[.agg #[.int .i64 p1,.int .i64 p2,.int .i64 p3],.bool (ruleAt P r).isSome]))∧Below W.heap.size W W'):Calls Tryz.prog 11 #[.agg #[v]] w fun e w'=>e=.returned (.tuple #[.string (showS P),.int .i64 (showE P)])∧Below w.heap.size w w':=by
 obtain⟨ap,cp,rfl⟩:=h.form
 obtain⟨n,hn⟩:∃n,n=P.length:=⟨_,rfl⟩
 have hn70:n≤70:=by rw [hn];exact hL.1
 rw [←hn] at h hF ⊢
 obtain⟨W2,hW2⟩:∃W2,w.alloc (.cells #[.slice ap n cp] 24)=W2:=⟨_,rfl⟩
 have hX:W2.heap[w.heap.size]?=some (.cells #[.slice ap n cp] 24 (0,0)):=by rw [←hW2];exact at_newN rfl
 have hw2:Below w.heap.size w W2:=by rw [←hW2];exact (Below.refl _ _).alloc (Nat.le_refl _) _
 have hXl:w.heap.size<W2.heap.size:=(Array.getElem?_eq_some_iff.1 hX).1
 have hcX:=Lib.hid (fun (W:World) (hb:Below W2.heap.size W2 W)=>(⟨by rw [blk_cell ((hb.block _ hXl).trans hX)];rfl,Nat.lt_of_lt_of_le hXl hb.size⟩:W.cell? ⟨w.heap.size,0,none⟩=some (.slice ap n cp)∧w.heap.size<W.heap.size))
 obtain⟨SS,hSS⟩:∃S,S=showS P:=⟨_,rfl⟩
 obtain⟨SE,hSE⟩:∃S,S=showE P:=⟨_,rfl⟩
 rw [←hSS,←hSE]
 have cX:=(hcX.out W2 (Below.refl _ _)).1
 replace hSS:=Lib.hid hSS
 replace hSE:=Lib.hid hSE
 replace hW2:=Lib.hid hW2
 replace hw2:=Lib.hid hw2
 replace hn:=Lib.hid hn
 replace hL:=Lib.hid hL
 replace h:=Lib.hid h
 replace hF:=Lib.hid hF
 replace hok:=Lib.hid hok
 clear hX hXl
 go_enter Tryz.func11,Tryz.ntmps11
 go_upto_region 1 with fail
 rw [hW2.out]
 clear hW2
 go_wp2_with fail
 refine (hF.out 2 (.inl rfl) _ hw2.out).mono ?_
 rintro e w3 ⟨⟨p1,p2,p3,rfl⟩,hb3⟩
 clear cX
 dsimp only
 go_upto_region 2 with fail
 have hb4:=hb3.alloc hb3.size (.cells #[.int .i64 p1,.int .i64 p2,.int .i64 p3] 53)
 generalize (w3.alloc (.cells #[.int .i64 p1,.int .i64 p2,.int .i64 p3] 53))=W4 at hb4 ⊢
 have cX:=(hcX.out W4 hb4).1
 have hB4:=Lib.hid (hw2.out.trans (hb4.mono hw2.out.size))
 clear hb3
 replace hb4:=Lib.hid hb4
 go_wp2_with fail
 refine (hF.out 9 (.inr rfl) _ hB4.out).mono ?_
 rintro e w5 ⟨⟨r1,r2,r3,rfl⟩,hb5⟩
 clear cX
 dsimp only
 go_upto_region 3 with fail
 have hb6:=hb5.alloc hb5.size (.cells #[.int .i64 r1,.int .i64 r2,.int .i64 r3] 53)
 generalize (w5.alloc (.cells #[.int .i64 r1,.int .i64 r2,.int .i64 r3] 53))=W6 at hb6 ⊢
 have hB6:=Lib.hid (hb4.out.trans (hb6.mono hb4.out.size))
 clear hb5 hb6 hF
 by_cases hbk:brokenP P=true
 ·have e1:SS=⟨#[]⟩:=by rw [hSS.out];unfold showS;rw [if_pos hbk]
  have e2:SE=5:=by rw [hSE.out];unfold showE;rw [if_pos hbk]
  subst e1 e2
  have hfin:=Lib.hid (hw2.out.trans (hB6.out.mono hw2.out.size))
  unfold brokenP at hbk
  cases h2:(ruleAt P 2).isSome with
  | true=>
   clear hbk h2
   go_wp2_with fail
   go_ret2
   exact⟨rfl,hfin.out⟩
  | false=>
   rw [h2,Bool.false_or] at hbk
   rw [hbk]
   clear hbk h2
   go_wp2_with fail
   go_ret2
   exact⟨rfl,hfin.out⟩
 ·have hbf:brokenP P=false:=by simpa using hbk
  have hok:=Lib.hid (hok.out hbf)
  have h29:(ruleAt P 2).isSome=false∧(ruleAt P 9).isSome=false:=by
   unfold brokenP at hbf
   exact Bool.or_eq_false_iff.1 hbf
  rw [h29.1,h29.2]
  replace hbf:=Lib.hid hbf
  clear hbk h29
  go_upto_block 0 with fail
  go_wp2_with fail
  go_loopw [8,9] (fun s i wr=>∃k:Nat,∃S:ByteArray,s=.string S∧i=.int .i64 k∧k≤n∧Hid (bL S=((P.take k).map funT).flatten)∧S.size≤k*98010000000∧Hid (Below W2.heap.size W2 wr)) (fun _ i _=>n-(intOf i).toNat)
  case atStart=>exact⟨0,_,rfl,rfl,Nat.zero_le _,Lib.hid (by rfl),by decide,hB6⟩
  case round=>
   obtain⟨f,S,rfl,rfl,hf,hS,hSz,hbr⟩:=hrel
   obtain⟨cX,hXw⟩:=hcX.out wr hbr.out
   by_cases hfn:f<n
   ·have i1:(f:Int)<(n:Int):=by omega
    obtain⟨d,hd⟩:∃d,P[f]?=some d:=⟨_,List.getElem?_eq_getElem (by rw [←hn.out];exact hfn)⟩
    obtain⟨g,off,cap,cs,e,hgl,⟨vp,vb,rfl,rp,rb⟩,-,hcell⟩:=h.out.at hd
    rw [←hn.out] at e
    simp only [Value.slice.injEq] at e
    obtain⟨rfl,-,rfl⟩:=e
    obtain⟨aq,cq,rfl,hcq,-⟩:=rp.cells
    obtain⟨ab,cb,rfl⟩:=rb.form
    obtain⟨np,hnp⟩:∃n,n=d.params.length:=⟨_,rfl⟩
    obtain⟨nb,hnb⟩:∃n,n=d.blocks.length:=⟨_,rfl⟩
    rw [←hnp,←hnb] at hcell
    rw [←hnp] at rp
    rw [←hnb] at rb
    have hBr:=hw2.out.trans (hbr.out.mono hw2.out.size)
    have z0:wr.cell? ⟨g,off+f*3,none⟩=some (.string d.name):=keepB hBr hgl (hcell 0 _ rfl)
    have z1:=keepB hBr hgl (hcell 1 _ rfl)
    have z2:=keepB hBr hgl (hcell 2 _ rfl)
    have hglw:g<wr.heap.size:=Nat.lt_of_lt_of_le hgl hBr.size
    have hfk:=Lib.hid (hok.out d (List.mem_of_getElem? hd))
    have hlf:=hL.out.2 d (List.mem_of_getElem? hd)
    have hnb70:nb≤70:=by rw [hnb];exact hlf.2.1
    have hlx:=Lib.hid hlf.2.2
    have hYb:(wr.alloc (.cells #[.string d.name,.slice aq np cq,.slice ab nb cb] 40)).heap[wr.heap.size]?=some (.cells #[.string d.name,.slice aq np cq,.slice ab nb cb] 40 (0,0)):=heap_alloc_new _ _
    have hba:Below wr.heap.size wr (wr.alloc (.cells #[.string d.name,.slice aq np cq,.slice ab nb cb] 40)):=(Below.refl _ _).alloc (Nat.le_refl _) _
    have hBr':=Lib.hid hBr
    replace rp:=Lib.hid rp
    replace rb:=Lib.hid rb
    replace hd:=Lib.hid hd
    replace hnp:=Lib.hid hnp
    replace hnb:=Lib.hid hnb
    clear hcell hgl hcq hBr hlf
    go_upto_region 10 with fail
    clear z0 z1 z2 hglw cX hXw
    obtain⟨Y,hY⟩:∃Y,Y=wr.heap.size:=⟨_,rfl⟩
    rw [←hY] at hYb ⊢
    generalize (wr.alloc (.cells #[.string d.name,.slice aq np cq,.slice ab nb cb] 40))=Wa at hYb hba ⊢
    have hBa:=Lib.hid (hBr'.out.trans (hba.mono hBr'.out.size))
    have hBa2:=Lib.hid (hbr.out.trans (hba.mono hbr.out.size))
    have hYl:Y<Wa.heap.size:=(Array.getElem?_eq_some_iff.1 hYb).1
    have hcY:=Lib.hid (fun (W:World) (hb:Below Wa.heap.size Wa W)=>(by
     have e:=(hb.block _ hYl).trans hYb
     exact⟨by rw [blk_cell e];rfl,by rw [blk_cell e];rfl,by rw [blk_cell e];rfl⟩:W.cell? ⟨Y,0,none⟩=some (.string d.name)∧W.cell? ⟨Y,1,none⟩=some (.slice aq np cq)∧W.cell? ⟨Y,2,none⟩=some (.slice ab nb cb)))
    have hLs:=Lib.hid (fun (W:World) (hw:Below w.heap.size w W)=>(by
     have h0:=rp.out.below hw
     rw [hnp.out] at h0 ⊢
     exact list6_any h0.1 hfk.out.np hfk.out.gp:Calls Tryz.prog 22 #[.slice aq np cq] W fun e w'=>(∃s,e=.returned (.string s)∧bL s=brkT 40 41 (d.params.map bL))∧w'=W))
    have hC:=(⟨(hcY.out Wa (Below.refl _ _)).1,(hcY.out Wa (Below.refl _ _)).2.1⟩:Wa.cell? ⟨Y,0,none⟩=some (.string d.name)∧Wa.cell? ⟨Y,1,none⟩=some (.slice aq np cq))
    have hnz:=hfk.out.sn
    have q1:¬9223372036854775807<S.size+5:=by omega
    have q2:¬9223372036854775807<S.size+5+d.name.size:=by omega
    clear hYb hba hY hYl
    refine wp_region_held_drew (S:=(fun W'=>W'.cell? ⟨Y,0,none⟩=some (.string d.name)∧W'.cell? ⟨Y,1,none⟩=some (.slice aq np cq))) (by kernel_rfl) hC (fun hHeld=>?_)
    clear hHeld
    refine wpAnyH_take (i:=0) (oi:=(.mk (some 39) (.move (.tmp 8)) 9 "ref.go:86" #[] none)) (v:=?_) rfl (by kernel_rfl) (by kernel_rfl) (by kernel_rfl) (fun _ _ _ h=>h) (Or.inl ⟨by rfl,?_⟩) hC ?_
    rotate_left
    ·(intro w hSw;(try dsimp only at hSw);go_simp;try with_reducible rfl)
    try simp only [Act.put,List.setIfInBounds_toArray,List.set_cons_zero,List.set_cons_succ]
    refine wpAnyH_take (i:=1) (oi:=(.mk (some 40) (.binOp BinOp.add 9 (.tmp 39) (.const (Value.string (ByteArray.mk #[102,117,110,99,32]))) 9) 9 "ref.go:86" #[.mk 0 .data] none)) (v:=?_) rfl (by kernel_rfl) (by kernel_rfl) (by kernel_rfl) (fun _ _ _ h=>h) (Or.inl ⟨by rfl,?_⟩) hC ?_
    rotate_left
    ·(intro w hSw;(try dsimp only at hSw);go_simp;try with_reducible rfl)
    try simp only [Act.put,List.setIfInBounds_toArray,List.set_cons_zero,List.set_cons_succ]
    refine wpAnyH_take (i:=2) (oi:=(.mk (some 41) (.fieldAddr 40 (.tmp 10) 0) 0 "ref.go:86" #[] none)) (v:=?_) rfl (by kernel_rfl) (by kernel_rfl) (by kernel_rfl) (fun _ _ _ h=>h) (Or.inl ⟨by rfl,?_⟩) hC ?_
    rotate_left
    ·(intro w hSw;(try dsimp only at hSw);go_simp;try with_reducible rfl)
    try simp only [Act.put,List.setIfInBounds_toArray,List.set_cons_zero,List.set_cons_succ]
    refine wpAnyH_take (i:=3) (oi:=(.mk (some 42) (.load 9 (.tmp 41)) 9 "ref.go:86" #[.mk 2 .data] none)) (v:=?_) rfl (by kernel_rfl) (by kernel_rfl) (by kernel_rfl) (fun _ _ _ h=>h) (Or.inl ⟨by rfl,?_⟩) hC ?_
    rotate_left
    ·(intro w hSw;(try dsimp only at hSw);go_simp;try with_reducible rfl)
    try simp only [Act.put,List.setIfInBounds_toArray,List.set_cons_zero,List.set_cons_succ]
    refine wpAnyH_take (i:=4) (oi:=(.mk (some 43) (.binOp BinOp.add 9 (.tmp 40) (.tmp 42) 9) 9 "ref.go:86" #[.mk 1 .data,.mk 3 .data] none)) (v:=?_) rfl (by kernel_rfl) (by kernel_rfl) (by kernel_rfl) (fun _ _ _ h=>h) (Or.inl ⟨by rfl,?_⟩) hC ?_
    rotate_left
    ·(intro w hSw;(try dsimp only at hSw);go_simp;try with_reducible rfl)
    try simp only [Act.put,List.setIfInBounds_toArray,List.set_cons_zero,List.set_cons_succ]
    refine wpAnyH_take (i:=5) (oi:=(.mk (some 44) (.fieldAddr 40 (.tmp 10) 1) 0 "ref.go:86" #[] none)) (v:=?_) rfl (by kernel_rfl) (by kernel_rfl) (by kernel_rfl) (fun _ _ _ h=>h) (Or.inl ⟨by rfl,?_⟩) hC ?_
    rotate_left
    ·(intro w hSw;(try dsimp only at hSw);go_simp;try with_reducible rfl)
    try simp only [Act.put,List.setIfInBounds_toArray,List.set_cons_zero,List.set_cons_succ]
    refine wpAnyH_take (i:=6) (oi:=(.mk (some 45) (.load 37 (.tmp 44)) 37 "ref.go:86" #[.mk 5 .data] none)) (v:=?_) rfl (by kernel_rfl) (by kernel_rfl) (by kernel_rfl) (fun _ _ _ h=>h) (Or.inl ⟨by rfl,?_⟩) hC ?_
    rotate_left
    ·(intro w hSw;(try dsimp only at hSw);go_simp;try with_reducible rfl)
    try simp only [Act.put,List.setIfInBounds_toArray,List.set_cons_zero,List.set_cons_succ]
    refine wpAnyH_ready (rs:=[7]) (by kernel_rfl) (by simp) (AllReadyH.cons (o:=(.mk (some 46) (.call (.mk (.value (.func 22)) #[(.tmp 45)] #[37])) 9 "ref.go:86" #[.mk 6 .data] none)) rfl (fun K hK=>?_) AllReadyH.nil)
    go_simp
    (go_at_call 22;refine Calls.mono (hLs.out _ (hBa.out.drew)) ?_;rintro e w3 ⟨⟨sp,rfl,hsp⟩,hw3⟩)
    have hB3:=Lib.hid (show Below Wa.heap.size Wa w3 from by rw [hw3];exact Below.drew (Below.refl Wa.heap.size Wa))
    clear hw3
    replace hC:=(⟨(hcY.out w3 hB3.out).1,(hcY.out w3 hB3.out).2.1⟩:w3.cell? ⟨Y,0,none⟩=some (.string d.name)∧w3.cell? ⟨Y,1,none⟩=some (.slice aq np cq))
    have hspz:sp.size≤3300002:=by
     rw [←bL_size,hsp,brk_len]
     have:=params_join hfk.out
     omega
    replace hsp:=Lib.hid hsp
    have q3:¬9223372036854775807<S.size+5+d.name.size+sp.size:=by omega
    have q4:¬9223372036854775807<S.size+5+d.name.size+sp.size+3:=by omega
    refine hK.out _ _ hC (fun hHeld=>?_)
    clear hK K hHeld
    try simp only [Act.put,List.setIfInBounds_toArray,List.set_cons_zero,List.set_cons_succ]
    refine wpAnyH_take (i:=8) (oi:=(.mk (some 47) (.binOp BinOp.add 9 (.tmp 43) (.tmp 46) 9) 9 "ref.go:86" #[.mk 4 .data,.mk 7 .data] none)) (v:=?_) rfl (by kernel_rfl) (by kernel_rfl) (by kernel_rfl) (fun _ _ _ h=>h) (Or.inl ⟨by rfl,?_⟩) hC ?_
    rotate_left
    ·(intro w hSw;(try dsimp only at hSw);go_simp;try with_reducible rfl)
    try simp only [Act.put,List.setIfInBounds_toArray,List.set_cons_zero,List.set_cons_succ]
    refine wpAnyH_take (i:=9) (oi:=(.mk (some 48) (.binOp BinOp.add 9 (.tmp 47) (.const (Value.string (ByteArray.mk #[32,123,10]))) 9) 9 "ref.go:86" #[.mk 8 .data] none)) (v:=?_) rfl (by kernel_rfl) (by kernel_rfl) (by kernel_rfl) (fun _ _ _ h=>h) (Or.inl ⟨by rfl,?_⟩) hC ?_
    rotate_left
    ·(intro w hSw;(try dsimp only at hSw);go_simp;try with_reducible rfl)
    try simp only [Act.put,List.setIfInBounds_toArray,List.set_cons_zero,List.set_cons_succ]
    refine wpAnyH_take (i:=10) (oi:=(.mk (some 8) (.assign (.tmp 48)) 9 "ref.go:86" #[.mk 9 .data,.mk 7 .chain,.mk 0 .phase,.mk 1 .phase,.mk 2 .phase,.mk 3 .phase,.mk 4 .phase,.mk 5 .phase,.mk 6 .phase,.mk 7 .phase,.mk 8 .phase,.mk 9 .phase] none)) (v:=?_) rfl (by kernel_rfl) (by kernel_rfl) (by kernel_rfl) (fun _ _ _ h=>h) (Or.inl ⟨by rfl,?_⟩) hC ?_
    rotate_left
    ·(intro w hSw;(try dsimp only at hSw);go_simp;try with_reducible rfl)
    try simp only [Act.put,List.setIfInBounds_toArray,List.set_cons_zero,List.set_cons_succ]
    refine wpAnyH_done (by kernel_rfl) ?_ _
    obtain⟨M,hM⟩:∃M,M=S++⟨#[102,117,110,99,32]⟩++d.name++sp++⟨#[32,123,10]⟩:=⟨_,rfl⟩
    have hMt:=Lib.hid (show bL M=((P.take f).map funT).flatten++headT d from by
     rw [hM]
     simp only [bL_app]
     rw [hS.out,hsp.out]
     unfold headT
     simp only [List.append_assoc]
     rfl)
    have hMz:M.size≤f*98010000000+3400000:=by rw [hM];simp only [ByteArray.size_append];show S.size+5+d.name.size+sp.size+3≤_;omega
    clear hC hLs hsp hspz q1 q2 q3 q4
    go_upto_region 11 with fail
    rw [←hM]
    clear hM hS hSz
    go_upto_block 2 with fail
    go_wp2_with fail
    go_loopw [8,11] (fun s i wr=>∃k:Nat,∃S:ByteArray,s=.string S∧i=.int .i64 k∧k≤nb∧Hid (bL S=bL M++((d.blocks.take k).map blkT).flatten)∧S.size≤f*98010000000+3400000+k*1400010000∧Hid (Below Wa.heap.size Wa wr)) (fun _ i _=>nb-(intOf i).toNat)
    case atStart=>exact⟨0,_,rfl,rfl,Nat.zero_le _,Lib.hid (by simp),by omega,hB3⟩
    case round=>
     clear hB3
     obtain⟨j,S,rfl,rfl,hj,hS,hSz,hbr2⟩:=hrel
     have f2:=(hcY.out _ hbr2.out).2.2
     by_cases hjn:j<nb
     ·have i2:(j:Int)<(nb:Int):=by omega
      obtain⟨x,hx⟩:∃x,d.blocks[j]?=some x:=⟨_,List.getElem?_eq_getElem (by rw [←hnb.out];exact hjn)⟩
      obtain⟨g1,off1,cap1,cs1,e1,hg1,⟨vc,rfl,rc⟩,-,hcell1⟩:=rb.out.at hx
      rw [←hnb.out] at e1
      simp only [Value.slice.injEq] at e1
      obtain⟨rfl,-,rfl⟩:=e1
      obtain⟨ac,cc,rfl⟩:=rc.form
      obtain⟨nc,hnc⟩:∃n,n=x.code.length:=⟨_,rfl⟩
      rw [←hnc] at rc hcell1
      have hBw:=hBa.out.trans (hbr2.out.mono hBa.out.size)
      have e0:wr.cell? ⟨g1,off1+j*2,none⟩=some (.string x.label):=keepB hBw hg1 (hcell1 0 _ rfl)
      have hE1:=Lib.hid (fun (W:World) (hb:Below Wa.heap.size Wa W)=>(⟨keepB (hBa.out.trans (hb.mono hBa.out.size)) hg1 (hcell1 1 _ rfl),Nat.lt_of_lt_of_le hg1 (hBa.out.trans (hb.mono hBa.out.size)).size⟩:W.cell? ⟨g1,off1+j*2+1,none⟩=some (.slice ac nc cc)∧g1<W.heap.size))
      have hg1w:=(hE1.out _ hbr2.out).2
      obtain⟨hxl,-,hxi⟩:=hfk.out.code x (List.mem_of_getElem? hx)
      have hnc2:nc≤200:=by rw [hnc];exact (hlx.out x (List.mem_of_getElem? hx)).1
      have q1:¬9223372036854775807<S.size+x.label.size:=by omega
      have q2:¬9223372036854775807<S.size+x.label.size+2:=by omega
      obtain⟨M2,hM2⟩:∃M,M=S++x.label++⟨#[58,10]⟩:=⟨_,rfl⟩
      have hM2t:=Lib.hid (show bL M2=bL M++((d.blocks.take j).map blkT).flatten++(bL x.label++[58,10]) from by
       rw [hM2]
       simp only [bL_app]
       rw [hS.out]
       simp only [List.append_assoc]
       rfl)
      have hM2z:M2.size≤f*98010000000+3400000+j*1400010000+1700:=by rw [hM2];simp only [ByteArray.size_append];show S.size+x.label.size+2≤_;omega
      replace hnc:=Lib.hid hnc
      replace rc:=Lib.hid rc
      replace hxi:=Lib.hid hxi
      replace hx:=Lib.hid hx
      clear hcell1 hg1 hBw
      go_upto_region 15 with fail
      rw [←hM2]
      clear hM2 hS hSz e0 f2 q1 q2 hg1w
      go_upto_block 4 with fail
      go_wp2_with fail
      go_loopw [8,12] (fun s i wr=>∃k:Nat,∃S:ByteArray,s=.string S∧i=.int .i64 k∧k≤nc∧Hid (bL S=bL M2++((x.code.take k).map insT).flatten)∧S.size≤f*98010000000+3400000+j*1400010000+1700+k*7000000∧Hid (Below Wa.heap.size Wa wr)) (fun _ i _=>nc-(intOf i).toNat)
      case atStart=>exact⟨0,_,rfl,rfl,Nat.zero_le _,Lib.hid (by simp),by omega,hbr2⟩
      case round=>
       clear hbr2
       obtain⟨k,S,rfl,rfl,hkk,hS,hSz,hbr3⟩:=hrel
       have f2:=(hcY.out _ hbr3.out).2.2
       obtain⟨f3,hg1w⟩:=hE1.out _ hbr3.out
       by_cases hkn:k<nc
       ·have i3:(k:Int)<(nc:Int):=by omega
        obtain⟨c,hc⟩:∃c,x.code[k]?=some c:=⟨_,List.getElem?_eq_getElem (by rw [←hnc.out];exact hkn)⟩
        obtain⟨g2,off2,cap2,cs2,e2,hg2,⟨va,vl,rfl,ra,rl⟩,-,hcell2⟩:=rc.out.at hc
        rw [←hnc.out] at e2
        simp only [Value.slice.injEq] at e2
        obtain⟨rfl,-,rfl⟩:=e2
        obtain⟨hok1,hval⟩:=hxi.out c (List.mem_of_getElem? hc)
        have hBw:=hBa.out.trans (hbr3.out.mono hBa.out.size)
        have hLn:=Lib.hid (line6_any hval (ra.below hBw) (rl.below hBw) hok1:Calls Tryz.prog 23 #[.agg #[.int .u8 c.op,.string c.dst,.string c.a,.string c.b,.int .i64 c.n,.string c.fn,va,vl]] wr fun e w'=>(∃s,e=.returned (.string s)∧bL s=refT c)∧Below wr.heap.size wr w')
        have y0:wr.cell? ⟨g2,off2+k*8,none⟩=some (.int .u8 c.op):=keepB hBw hg2 (hcell2 0 _ rfl)
        have y1:=keepB hBw hg2 (hcell2 1 _ rfl)
        have y2:=keepB hBw hg2 (hcell2 2 _ rfl)
        have y3:=keepB hBw hg2 (hcell2 3 _ rfl)
        have y4:=keepB hBw hg2 (hcell2 4 _ rfl)
        have y5:=keepB hBw hg2 (hcell2 5 _ rfl)
        have y6:=keepB hBw hg2 (hcell2 6 _ rfl)
        have y7:=keepB hBw hg2 (hcell2 7 _ rfl)
        have hg2w:g2<wr.heap.size:=Nat.lt_of_lt_of_le hg2 hBw.size
        have hrl:=ref_len hok1 hval
        have q1:¬9223372036854775807<S.size+2:=by omega
        replace hc:=Lib.hid hc
        replace hval:=Lib.hid hval
        replace hS:=Lib.hid hS
        clear hcell2 hg2 hBw ra rl hok1
        go_wp2_with fail
        refine hLn.out.mono ?_
        rintro e w7 ⟨⟨s,rfl,hs⟩,hb7⟩
        have hsz:s.size≤6800000:=by rw [←bL_size,hs];exact hrl
        have q2:¬9223372036854775807<S.size+2+s.size:=by omega
        have q3:¬9223372036854775807<S.size+2+s.size+1:=by omega
        have hB7:=Lib.hid (hbr3.out.trans (hb7.mono hbr3.out.size))
        have hS2:=Lib.hid (show bL (S++⟨#[32,32]⟩++s++⟨#[10]⟩)=bL M2++((x.code.take (k+1)).map insT).flatten from by
         simp only [bL_app]
         rw [hS.out.out,hs,take_snocT hc.out]
         simp only [List.map_append,List.map_cons,List.map_nil,List.flatten_append,List.flatten_cons,List.flatten_nil,List.append_nil]
         rw [ins_ref hval.out]
         simp only [List.append_assoc]
         rfl)
        have hz2:(S++⟨#[32,32]⟩++s++⟨#[10]⟩).size≤f*98010000000+3400000+j*1400010000+1700+(k+1)*7000000:=by simp only [ByteArray.size_append];show S.size+2+s.size+1≤_;omega
        clear hLn y0 y1 y2 y3 y4 y5 y6 y7 hs hb7 f2 f3
        dsimp only
        go_wp2_with fail
        go_roundw
        case rel=>exact⟨k+1,_,rfl,by go_num,by omega,hS2,hz2,hB7⟩
        case measure=>simp [intOf];omega
       ·have i3:decide ((k:Int)<(nc:Int))=false:=by simp;omega
        obtain rfl:k=nc:=by omega
        have e0:x.code.take k=x.code:=List.take_of_length_le (by rw [←hnc.out];exact Nat.le_refl _)
        have hS2:=Lib.hid (show bL S=bL M++((d.blocks.take (j+1)).map blkT).flatten from by
         rw [hS.out,hM2t.out,e0,take_snocT hx.out]
         simp only [List.map_append,List.map_cons,List.map_nil,List.flatten_append,List.flatten_cons,List.flatten_nil,List.append_nil,blkT,List.append_assoc])
        have hz3:S.size≤f*98010000000+3400000+(j+1)*1400010000:=sz_step (I:=7000000) (B:=1400010000) hSz hnc2 (by decide)
        clear hS
        go_wp2_with fail
        go_roundw
        case rel=>exact⟨j+1,_,rfl,by go_num,by omega,hS2,hz3,hbr3⟩
        case measure=>simp [intOf];omega
     ·have i2:decide ((j:Int)<(nb:Int))=false:=by simp;omega
      obtain rfl:j=nb:=by omega
      have e0:d.blocks.take j=d.blocks:=List.take_of_length_le (by rw [←hnb.out];exact Nat.le_refl _)
      have q1:¬9223372036854775807<S.size+2:=by omega
      have hS2:=Lib.hid (show bL (S++⟨#[125,10]⟩)=((P.take (f+1)).map funT).flatten from by
       rw [bL_app,hS.out,hMt.out,e0,take_snocT hd.out]
       simp only [List.map_append,List.map_cons,List.map_nil,List.flatten_append,List.flatten_cons,List.flatten_nil,List.append_nil,funT,List.append_assoc]
       rfl)
      have hz2:(S++⟨#[125,10]⟩).size≤(f+1)*98010000000:=by rw [ByteArray.size_append];show S.size+2≤_;omega
      have hB9:=Lib.hid (hBa2.out.trans (hbr2.out.mono hBa2.out.size))
      clear hS hMt hMz
      go_wp2_with fail
      go_roundw
      case rel=>exact⟨f+1,_,rfl,by go_num,by omega,hS2,hz2,hB9⟩
      case measure=>simp [intOf];omega
   ·have i1:decide ((f:Int)<(n:Int))=false:=by simp;omega
    obtain rfl:f=n:=by omega
    have e0:P.take f=P:=List.take_of_length_le (by rw [←hn.out];exact Nat.le_refl _)
    have hSp:bL S=progT P:=by rw [hS.out,e0];rfl
    have hfin:=Lib.hid (hw2.out.trans (hbr.out.mono hw2.out.size))
    have hlen:(progT P).length=S.size:=by rw [←hSp];rfl
    by_cases hq:1048576<S.size
    ·have i2:decide ((S.size:Int) > 1048576)=true:=by simp;omega
     have e1:SS=⟨#[]⟩:=by rw [hSS.out];unfold showS;rw [if_neg (by rw [hbf.out];decide),if_pos (by omega)]
     have e2:SE=2:=by rw [hSE.out];unfold showE;rw [if_neg (by rw [hbf.out];decide),if_pos (by omega)]
     subst e1 e2
     clear hS hSp hlen
     go_wp2_with fail
     go_ret2
     exact⟨rfl,hfin.out⟩
    ·have i2:decide ((S.size:Int) > 1048576)=false:=by simp;omega
     have e1:SS=S:=by
      rw [hSS.out]
      unfold showS
      rw [if_neg (by rw [hbf.out];decide),if_neg (by omega),←hSp]
      rfl
     have e2:SE=0:=by rw [hSE.out];unfold showE;rw [if_neg (by rw [hbf.out];decide),if_neg (by omega)]
     subst e1 e2
     clear hS hSp hlen
     go_wp2_with fail
     go_ret2
     exact⟨rfl,hfin.out⟩
end
section
open Go.RowKit Go.Maps Go.Shelf Go.WideMaps
attribute [local go_sem] Oper.semAt_some
theorem any_take (s:ByteArray)(k:Nat)(h:k<s.size)(p:UInt8→Bool):(s.data.toList.take (k+1)).any p=((s.data.toList.take k).any p || p s[k]):=by
 have h1:s.data.toList[k]?=some s[k]:=by
  rw [Array.getElem?_toList]
  exact Array.getElem?_eq_getElem h
 rw [take_snocT h1]
 simp
set_option maxRecDepth 20000 in
set_option maxHeartbeats 1000000 in
theorem must_any (s:ByteArray)(c:UInt8)(w:World)(hs:s.size≤maxLen):Calls Tryz.prog 160 #[.string s,.int .u8 c.toNat] w fun e w'=>e=.returned (.bool (s.data.toList.any (·==c)))∧w=w':=by
 unfold maxLen at hs
 obtain⟨A,hA⟩:∃A,A=s.data.toList.any (·==c):=⟨_,rfl⟩
 rw [←hA]
 replace hA:=Lib.hid hA
 go_enter Tryz.func160,Tryz.ntmps160
 go_wp2_with fail
 go_loop [5] (fun i=>∃k:Nat,k≤s.size∧i=.int .i64 k∧Hid ((s.data.toList.take k).any (·==c)=false)) (fun i=>s.size-(intOf i).toNat)
 case atStart=>exact⟨0,Nat.zero_le _,rfl,Lib.hid (by simp)⟩
 case round=>
  obtain⟨k,hk,rfl,ha⟩:=hrel
  by_cases hlt:k<s.size
  ·have j1:decide ((k:Int)<(s.size:Int))=true:=by simpa using hlt
   have hat:=any_take s k hlt (·==c)
   rw [ha.out,Bool.false_or] at hat
   by_cases hc:s[k]=c
   ·have e1:((s[k].toNat:Int)==(c.toNat:Int))=true:=by rw [hc];simp
    have hAt:A=true:=by
     rw [hA.out]
     exact List.any_eq_true.2 ⟨s[k],by exact Array.getElem_mem_toList hlt,by simp [hc]⟩
    subst hAt
    go_wp2_with fail
    go_ret
    exact⟨rfl,rfl⟩
   ·have e1:((s[k].toNat:Int)==(c.toNat:Int))=false:=by
     rw [beq_eq_false_iff_ne]
     intro e
     exact hc (UInt8.toNat_inj.1 (by omega))
    have hn:=Lib.hid (show (s.data.toList.take (k+1)).any (·==c)=false from by rw [hat];simp [hc])
    clear hat
    go_wp2_with fail
    go_round
    case rel=>exact⟨k+1,by omega,by go_num,hn⟩
    case measure=>simp [intOf];omega
  ·have j1:decide ((k:Int)<(s.size:Int))=false:=by simp;omega
   have hAf:A=false:=by
    rw [hA.out]
    have:=ha.out
    rw [List.take_of_length_le (by show s.size≤k;omega)] at this
    exact this
   subst hAf
   go_wp2_with fail
   go_ret
   exact⟨rfl,rfl⟩
end
section
open Go.RowKit Go.Maps Go.Shelf Go.WideMaps
attribute [local go_sem] Oper.semAt_some
set_option maxRecDepth 20000 in
set_option maxHeartbeats 1000000 in
theorem has5_any (s:ByteArray)(c:UInt8)(w:World)(hs:s.size≤maxLen)(h97:97≤c.toNat):Calls Tryz.prog 158 #[.string s,.int .u8 c.toNat] w fun e w'=>e=.returned (.bool (s.data.toList.any (fun b=>b==c || b==c-32)))∧w=w':=by
 unfold maxLen at hs
 have h32:(c-32).toNat=c.toNat-32:=by
  rw [UInt8.toNat_sub_of_le]
  ·rfl
  ·rw [UInt8.le_iff_toNat_le]
   show 32≤c.toNat
   omega
 have hcl:=c.toNat_lt
 have m1:IntKind.u8.wrap ((c.toNat:Int)-32)=(c.toNat:Int)-32:=by rw [IntKind.wrap_u8];omega
 obtain⟨A,hA⟩:∃A,A=s.data.toList.any (fun b=>b==c || b==c-32):=⟨_,rfl⟩
 rw [←hA]
 replace hA:=Lib.hid hA
 go_enter Tryz.func158,Tryz.ntmps158
 go_wp2_with fail
 go_loop [5] (fun i=>∃k:Nat,k≤s.size∧i=.int .i64 k∧Hid ((s.data.toList.take k).any (fun b=>b==c || b==c-32)=false)) (fun i=>s.size-(intOf i).toNat)
 case atStart=>exact⟨0,Nat.zero_le _,rfl,Lib.hid (by simp)⟩
 case round=>
  obtain⟨k,hk,rfl,ha⟩:=hrel
  by_cases hlt:k<s.size
  ·have j1:decide ((k:Int)<(s.size:Int))=true:=by simpa using hlt
   have hat:=any_take s k hlt (fun b=>b==c || b==c-32)
   rw [ha.out,Bool.false_or] at hat
   by_cases hc:s[k]=c
   ·have e1:((s[k].toNat:Int)==(c.toNat:Int))=true:=by rw [hc];simp
    have hAt:A=true:=by
     rw [hA.out]
     exact List.any_eq_true.2 ⟨s[k],by exact Array.getElem_mem_toList hlt,by simp [hc]⟩
    subst hAt
    go_wp2_with fail
    go_ret
    exact⟨rfl,rfl⟩
   ·have e1:((s[k].toNat:Int)==(c.toNat:Int))=false:=by
     rw [beq_eq_false_iff_ne]
     intro e
     exact hc (UInt8.toNat_inj.1 (by omega))
    by_cases hd:s[k]=c-32
    ·have e2:((s[k].toNat:Int)==(c.toNat:Int)-32)=true:=by
      rw [beq_iff_eq]
      have:=congrArg UInt8.toNat hd
      omega
     have hAt:A=true:=by
      rw [hA.out]
      exact List.any_eq_true.2 ⟨s[k],by exact Array.getElem_mem_toList hlt,by simp [hd]⟩
     subst hAt
     clear hat hd
     go_wp2_with fail
     go_ret
     exact⟨rfl,rfl⟩
    have e2:((s[k].toNat:Int)==(c.toNat:Int)-32)=false:=by
     rw [beq_eq_false_iff_ne]
     intro e
     exact hd (UInt8.toNat_inj.1 (by omega))
    have hn:=Lib.hid (show (s.data.toList.take (k+1)).any (fun b=>b==c || b==c-32)=false from by rw [hat];simp [hc,hd])
    clear hat
    go_wp2_with fail
    go_round
    case rel=>exact⟨k+1,by omega,by go_num,hn⟩
    case measure=>simp [intOf];omega
  ·have j1:decide ((k:Int)<(s.size:Int))=false:=by simp;omega
   have hAf:A=false:=by
    rw [hA.out]
    have:=ha.out
    rw [List.take_of_length_le (by show s.size≤k;omega)] at this
    exact this
   subst hAf
   go_wp2_with fail
   go_ret
   exact⟨rfl,rfl⟩
end
section
open Go.RowKit Go.Maps Go.Shelf Go.WideMaps
attribute [local go_sem] Oper.semAt_some
def fldB (op:Int):ByteArray:=if op=1 then ⟨#[100,110]⟩ else if op=2 then ⟨#[100,110]⟩ else if op=3 then ⟨#[100,46]⟩ else if op=4 then ⟨#[100,102]⟩ else if op=5 then ⟨#[100,97]⟩ else if op=6 then ⟨#[100,103,108]⟩ else if op=7 then ⟨#[100,97,110]⟩ else if op=8 then ⟨#[100,97]⟩ else if op=9 then ⟨#[97,98]⟩ else if op=10 then ⟨#[68,102,103]⟩ else if op=11 then ⟨#[68,97,103]⟩ else if op=12 then ⟨#[108,46]⟩ else if op=13 then ⟨#[108,46]⟩ else if op=14 then ⟨#[65,46]⟩ else ⟨#[]⟩
set_option maxRecDepth 20000 in
set_option maxHeartbeats 4000000 in
theorem fields5_any (op:Int)(w:World):Calls Tryz.prog 157 #[.int .u8 op] w fun e w'=>e=.returned (.string (fldB op))∧w=w':=by
 by_cases h1:op=1
 ·subst h1
  go_enter Tryz.func157,Tryz.ntmps157
  go_wp2_with fail
  go_ret
  exact⟨rfl,rfl⟩
 by_cases h2:op=2
 ·subst h2
  go_enter Tryz.func157,Tryz.ntmps157
  go_wp2_with fail
  go_ret
  exact⟨rfl,rfl⟩
 by_cases h3:op=3
 ·subst h3
  go_enter Tryz.func157,Tryz.ntmps157
  go_wp2_with fail
  go_ret
  exact⟨rfl,rfl⟩
 by_cases h4:op=4
 ·subst h4
  go_enter Tryz.func157,Tryz.ntmps157
  go_wp2_with fail
  go_ret
  exact⟨rfl,rfl⟩
 by_cases h5:op=5
 ·subst h5
  go_enter Tryz.func157,Tryz.ntmps157
  go_wp2_with fail
  go_ret
  exact⟨rfl,rfl⟩
 by_cases h6:op=6
 ·subst h6
  go_enter Tryz.func157,Tryz.ntmps157
  go_wp2_with fail
  go_ret
  exact⟨rfl,rfl⟩
 by_cases h7:op=7
 ·subst h7
  go_enter Tryz.func157,Tryz.ntmps157
  go_wp2_with fail
  go_ret
  exact⟨rfl,rfl⟩
 by_cases h8:op=8
 ·subst h8
  go_enter Tryz.func157,Tryz.ntmps157
  go_wp2_with fail
  go_ret
  exact⟨rfl,rfl⟩
 by_cases h9:op=9
 ·subst h9
  go_enter Tryz.func157,Tryz.ntmps157
  go_wp2_with fail
  go_ret
  exact⟨rfl,rfl⟩
 by_cases h10:op=10
 ·subst h10
  go_enter Tryz.func157,Tryz.ntmps157
  go_wp2_with fail
  go_ret
  exact⟨rfl,rfl⟩
 by_cases h11:op=11
 ·subst h11
  go_enter Tryz.func157,Tryz.ntmps157
  go_wp2_with fail
  go_ret
  exact⟨rfl,rfl⟩
 by_cases h12:op=12
 ·subst h12
  go_enter Tryz.func157,Tryz.ntmps157
  go_wp2_with fail
  go_ret
  exact⟨rfl,rfl⟩
 by_cases h13:op=13
 ·subst h13
  go_enter Tryz.func157,Tryz.ntmps157
  go_wp2_with fail
  go_ret
  exact⟨rfl,rfl⟩
 by_cases h14:op=14
 ·subst h14
  go_enter Tryz.func157,Tryz.ntmps157
  go_wp2_with fail
  go_ret
  exact⟨rfl,rfl⟩
 have er:fldB op=⟨#[]⟩:=by unfold fldB;simp only [h1,h2,h3,h4,h5,h6,h7,h8,h9,h10,h11,h12,h13,h14,if_false]
 rw [er]
 have e1:(op==1)=false:=beq_eq_false_iff_ne.2 h1
 have e2:(op==2)=false:=beq_eq_false_iff_ne.2 h2
 have e3:(op==3)=false:=beq_eq_false_iff_ne.2 h3
 have e4:(op==4)=false:=beq_eq_false_iff_ne.2 h4
 have e5:(op==5)=false:=beq_eq_false_iff_ne.2 h5
 have e6:(op==6)=false:=beq_eq_false_iff_ne.2 h6
 have e7:(op==7)=false:=beq_eq_false_iff_ne.2 h7
 have e8:(op==8)=false:=beq_eq_false_iff_ne.2 h8
 have e9:(op==9)=false:=beq_eq_false_iff_ne.2 h9
 have e10:(op==10)=false:=beq_eq_false_iff_ne.2 h10
 have e11:(op==11)=false:=beq_eq_false_iff_ne.2 h11
 have e12:(op==12)=false:=beq_eq_false_iff_ne.2 h12
 have e13:(op==13)=false:=beq_eq_false_iff_ne.2 h13
 have e14:(op==14)=false:=beq_eq_false_iff_ne.2 h14
 clear er
 go_enter Tryz.func157,Tryz.ntmps157
 go_wp2_with fail
 go_ret
 exact⟨rfl,rfl⟩
end
section
open Go.RowKit Go.Maps Go.Shelf
theorem nm_head_at (s:ByteArray)(h0:0<s.size):nmHeadB s.data.toList=nmLetterB s[0]:=by
 unfold nmHeadB
 cases hl:s.data.toList with
 | nil=>
  exfalso
  have h9:s.data.toList.length=0:=by rw [hl];rfl
  have h8:s.data.size=0:=by simpa using h9
  have:s.size=0:=h8
  omega
 | cons c r=>
  have:s[0]=c:=by
   show s.data[0]=c
   have:=Array.getElem_toList (xs:=s.data) (i:=0) (h:=h0)
   simp only [hl] at this
   exact this.symm
  rw [this]
set_option maxHeartbeats 4000000 in
theorem ris_any (s:ByteArray)(w:World)(hs:s.size≤maxLen):Calls Tryz.prog 101 #[.string s] w fun e w'=>e=.returned (.bool (isName s))∧w=w':=by
 unfold maxLen at hs
 by_cases h1:s.size=0
 ·have e1:((s.size:Int)==0)=true:=by rw [beq_iff_eq];omega
  have er:isName s=false:=by
   unfold isName nmHeadB
   rw [show s.data.toList=[] from by simp;exact Array.eq_empty_of_size_eq_zero h1]
   simp
  rw [er]
  clear er
  go_enter Tryz.func101,Tryz.ntmps101
  go_wp2_with fail
  go_ret
  exact⟨rfl,rfl⟩
 have e1:((s.size:Int)==0)=false:=by rw [beq_eq_false_iff_ne];omega
 by_cases h2:s.size≤64
 case neg=>
  have er:isName s=false:=by unfold isName;simp [h2]
  rw [er]
  clear er
  have e2:decide ((s.size:Int) > 64)=true:=by simp;omega
  have e2n:decide (64<s.size)=true:=by simp;omega
  go_enter Tryz.func101,Tryz.ntmps101
  go_wp2_with fail
  go_ret
  exact⟨rfl,rfl⟩
 have e2:decide ((s.size:Int) > 64)=false:=by simp;omega
 have e2n:decide (64<s.size)=false:=by simp;omega
 by_cases h3:(s.toList==[110,117,108,108])=true
 ·have er:isName s=false:=by unfold isName;simp [h3]
  rw [er]
  clear er
  go_enter Tryz.func101,Tryz.ntmps101
  go_wp2_with fail
  go_ret
  exact⟨rfl,rfl⟩
 replace h3:(s.toList==[110,117,108,108])=false:=by simpa using h3
 have h0:0<s.size:=by omega
 have er:isName s=(nmLetterB s[0]&&s.data.toList.all nmOkB):=by
  unfold isName
  rw [nm_head_at s h0,h3]
  simp [h2]
 rw [er]
 generalize hA:(nmLetterB s[0]&&s.data.toList.all nmOkB)=A
 replace hA:=Lib.hid hA
 clear er
 go_enter Tryz.func101,Tryz.ntmps101
 go_wp2_with fail
 go_loop [3,4] (fun i _=>∃k:Nat,k≤s.size∧i=.int .i64 k∧Hid ((s.data.toList.take k).all nmOkB=true∧(0<k→nmLetterB s[0]=true))) (fun i _=>s.size-(intOf i).toNat)
 case atStart=>exact⟨0,Nat.zero_le _,rfl,Lib.hid ⟨by simp,fun h=>by omega⟩⟩
 case round=>
  obtain⟨k,hk,rfl,ha⟩:=hrel
  by_cases hlt:k<s.size
  ·have j1:decide ((k:Int)<(s.size:Int))=true:=by simpa using hlt
   have hat:=nm_all_take s k hlt nmOkB
   rw [ha.out.1,Bool.true_and] at hat
   have e1:decide ((s[k].toNat:Int)≥97)=decide (97≤s[k]):=nm_geB s[k] 97
   have e2:decide ((s[k].toNat:Int)≤122)=decide (s[k]≤122):=nm_leB s[k] 122
   have e3:decide ((s[k].toNat:Int)≥65)=decide (65≤s[k]):=nm_geB s[k] 65
   have e4:decide ((s[k].toNat:Int)≤90)=decide (s[k]≤90):=nm_leB s[k] 90
   have e5:((s[k].toNat:Int)==95)=(s[k]==95):=nm_eqB s[k] 95
   have f1:((s[k].toNat:Int)==46)=(s[k]==46):=nm_eqB s[k] 46
   have f2:decide ((s[k].toNat:Int)≥48)=decide (48≤s[k]):=nm_geB s[k] 48
   have f3:decide ((s[k].toNat:Int)≤57)=decide (s[k]≤57):=nm_leB s[k] 57
   have hlet:nmLetterB s[k]=(((decide (97≤s[k])&&decide (s[k]≤122)) || (decide (65≤s[k])&&decide (s[k]≤90))) || (s[k]==95)):=rfl
   have hok:nmOkB s[k]=(nmLetterB s[k] || ((s[k]==46) || (decide (48≤s[k])&&decide (s[k]≤57)))):=rfl
   have hh:=ha.out.2
   obtain⟨Z,hZ⟩:∃Z,Z=(s.data.toList.take (k+1)).all nmOkB:=⟨_,rfl⟩
   have hgo:Z=true→(0<k∨nmLetterB s[k]=true)→Hid ((s.data.toList.take (k+1)).all nmOkB=true∧(0<k+1→nmLetterB s[0]=true))   :=fun h hor=>Lib.hid ⟨by rw [←hZ];exact h,fun _=>by
    by_cases e:0<k
    ·exact hh e
    ·have e0:k=0:=by omega
     subst e0
     exact hor.resolve_left e⟩
   have hno:(Z=false∨(k=0∧nmLetterB s[k]=false))→A=false:=fun h=>by
    rw [←hA.out]
    rcases h with h | ⟨e,h⟩
    ·rw [hZ] at h
     rw [nm_all_false h,Bool.and_false]
    ·subst e
     rw [h,Bool.false_and]
   rw [hok,←hZ] at hat
   rw [hlet] at hat hgo hno
   clear hok hlet hh
   replace hZ:=Lib.hid hZ
   generalize decide (97≤s[k])=q1 at *
   generalize decide (s[k]≤122)=q2 at *
   generalize decide (65≤s[k])=q3 at *
   generalize decide (s[k]≤90)=q4 at *
   generalize (s[k]==95)=q5 at *
   generalize (s[k]==46)=r1 at *
   generalize decide (48≤s[k])=r2 at *
   generalize decide (s[k]≤57)=r3 at *
   replace hat:=Lib.hid hat
   replace hgo:=Lib.hid hgo
   replace hno:=Lib.hid hno
   by_cases hk0:0<k
   ·have i1:decide ((k:Int) > 0)=true:=by simp;omega
    have i1n:decide (0<k)=true:=by simp;omega
    cases q1<;>cases q2<;>cases q3<;>cases q4<;>cases q5<;>(
     first
     | (
        go_upto_region 8 with fail
        cases r1<;>cases r2<;>cases r3<;>(
         go_wp2_with fail
         first
         | (
         go_round
         case rel=>exact⟨k+1,by omega,by go_num,hgo.out hat.out (.inl hk0)⟩
         case measure=>simp [intOf];omega)
         | (
         go_ret
         exact⟨by rw [hno.out (.inl hat.out)];rfl,rfl⟩)))
     | (
        go_wp2_with fail
        go_round
        case rel=>exact⟨k+1,by omega,by go_num,hgo.out hat.out (.inl hk0)⟩
        case measure=>simp [intOf];omega))
   ·have i1:decide ((k:Int) > 0)=false:=by simp;omega
    have i1n:decide (0<k)=false:=by simp;omega
    cases q1<;>cases q2<;>cases q3<;>cases q4<;>cases q5<;>(
     go_wp2_with fail
     first
     | (
        go_round
        case rel=>exact⟨k+1,by omega,by go_num,hgo.out hat.out (.inr rfl)⟩
        case measure=>simp [intOf];omega)
     | (
        go_ret
        exact⟨by rw [hno.out (.inr ⟨by omega,rfl⟩)];rfl,rfl⟩))
  ·obtain rfl:k=s.size:=by omega
   have j1:decide ((s.size:Int)<(s.size:Int))=false:=by simp
   have h9:=ha.out
   rw [List.take_of_length_le (by simp)] at h9
   have hAt:Hid (true=A):=Lib.hid (by rw [←hA.out,h9.1,h9.2 h0];rfl)
   clear ha h9
   go_wp2_with fail
   go_ret
   exact⟨by rw [←hAt.out];rfl,rfl⟩
end
section
open Go.RowKit Go.Maps Go.Shelf Go.WideMaps
attribute [local go_sem] Oper.semAt_some
set_option maxHeartbeats 1000000 in
theorem operand5_any (s:ByteArray)(w:World)(hs:s.size≤maxLen):Calls Tryz.prog 159 #[.string s] w fun e w'=>e=.returned (.bool (isOperand s))∧w=w':=by
 have k:=Lib.hid (fun w=>ris_any s w hs)
 unfold isOperand isNull
 clear hs
 generalize isName s=q at *
 cases h:(s.toList==[110,117,108,108])
 ·go_enter Tryz.func159,Tryz.ntmps159
  go_wp2_with (go_at_call 101;refine (k.out _).mono ?_;rintro e w' ⟨rfl,rfl⟩)
  go_ret
  exact⟨rfl,rfl⟩
 ·go_enter Tryz.func159,Tryz.ntmps159
  go_wp2_with fail
  go_ret
  exact⟨rfl,rfl⟩
theorem ops5 (op:Int):(op=1∨op=2∨op=3∨op=4∨op=5∨op=6∨op=7∨op=8∨op=9∨op=10∨op=11∨op=12∨op=13∨op=14)∨(op≠1∧op≠2∧op≠3∧op≠4∧op≠5∧op≠6∧op≠7∧op≠8∧op≠9∧op≠10∧op≠11∧op≠12∧op≠13∧op≠14):=by omega
theorem fld_cases (op:Int):fldB op=⟨#[100,110]⟩∨fldB op=⟨#[100,46]⟩∨fldB op=⟨#[100,102]⟩∨fldB op=⟨#[100,97]⟩∨fldB op=⟨#[100,103,108]⟩∨fldB op=⟨#[100,97,110]⟩∨fldB op=⟨#[97,98]⟩∨fldB op=⟨#[68,102,103]⟩∨fldB op=⟨#[68,97,103]⟩∨fldB op=⟨#[108,46]⟩∨fldB op=⟨#[65,46]⟩∨fldB op=⟨#[]⟩:=by
 rcases ops5 op with h | ⟨h1,h2,h3,h4,h5,h6,h7,h8,h9,h10,h11,h12,h13,h14⟩
 ·rcases h with rfl | rfl | rfl | rfl | rfl | rfl | rfl | rfl | rfl | rfl | rfl | rfl | rfl | rfl<;>(repeat (first | exact .inl rfl | apply Or.inr))
 ·have:fldB op=⟨#[]⟩:=by unfold fldB;simp only [h1,h2,h3,h4,h5,h6,h7,h8,h9,h10,h11,h12,h13,h14,if_false]
  repeat (first | exact this | apply Or.inr)
theorem fld_size (op:Int):(fldB op).size≤maxLen:=by
 rcases fld_cases op with h | h | h | h | h | h | h | h | h | h | h | h<;>(rw [h];decide)
def fhB (op:Int)(c:UInt8):Bool:=(fldB op).data.toList.any (fun b=>b==c || b==c-32)
def fmB (op:Int)(c:UInt8):Bool:=(fldB op).data.toList.any (·==c)
theorem has_d (op:Int)(w:World):Calls Tryz.prog 158 #[.string (fldB op),.int .u8 100] w fun e w'=>e=.returned (.bool (fhB op 100))∧w=w':=has5_any (fldB op) 100 w (fld_size op) (by decide)
theorem has_a (op:Int)(w:World):Calls Tryz.prog 158 #[.string (fldB op),.int .u8 97] w fun e w'=>e=.returned (.bool (fhB op 97))∧w=w':=has5_any (fldB op) 97 w (fld_size op) (by decide)
theorem has_b (op:Int)(w:World):Calls Tryz.prog 158 #[.string (fldB op),.int .u8 98] w fun e w'=>e=.returned (.bool (fhB op 98))∧w=w':=has5_any (fldB op) 98 w (fld_size op) (by decide)
theorem has_n (op:Int)(w:World):Calls Tryz.prog 158 #[.string (fldB op),.int .u8 110] w fun e w'=>e=.returned (.bool (fhB op 110))∧w=w':=has5_any (fldB op) 110 w (fld_size op) (by decide)
theorem has_f (op:Int)(w:World):Calls Tryz.prog 158 #[.string (fldB op),.int .u8 102] w fun e w'=>e=.returned (.bool (fhB op 102))∧w=w':=has5_any (fldB op) 102 w (fld_size op) (by decide)
theorem has_g (op:Int)(w:World):Calls Tryz.prog 158 #[.string (fldB op),.int .u8 103] w fun e w'=>e=.returned (.bool (fhB op 103))∧w=w':=has5_any (fldB op) 103 w (fld_size op) (by decide)
theorem has_l (op:Int)(w:World):Calls Tryz.prog 158 #[.string (fldB op),.int .u8 108] w fun e w'=>e=.returned (.bool (fhB op 108))∧w=w':=has5_any (fldB op) 108 w (fld_size op) (by decide)
theorem must_d (op:Int)(w:World):Calls Tryz.prog 160 #[.string (fldB op),.int .u8 100] w fun e w'=>e=.returned (.bool (fmB op 100))∧w=w':=must_any (fldB op) 100 w (fld_size op)
theorem must_a (op:Int)(w:World):Calls Tryz.prog 160 #[.string (fldB op),.int .u8 97] w fun e w'=>e=.returned (.bool (fmB op 97))∧w=w':=must_any (fldB op) 97 w (fld_size op)
theorem must_b (op:Int)(w:World):Calls Tryz.prog 160 #[.string (fldB op),.int .u8 98] w fun e w'=>e=.returned (.bool (fmB op 98))∧w=w':=must_any (fldB op) 98 w (fld_size op)
theorem must_f (op:Int)(w:World):Calls Tryz.prog 160 #[.string (fldB op),.int .u8 102] w fun e w'=>e=.returned (.bool (fmB op 102))∧w=w':=must_any (fldB op) 102 w (fld_size op)
theorem comb_name (op:Int):(fhB op 100=true∧fhB op 102=false∧fhB op 97=false∧fhB op 98=false)∨(fhB op 100=true∧fhB op 102=true∧fhB op 97=false∧fhB op 98=false)∨(fhB op 100=true∧fhB op 102=false∧fhB op 97=true∧fhB op 98=false)∨(fhB op 100=false∧fhB op 102=false∧fhB op 97=true∧fhB op 98=true)∨(fhB op 100=false∧fhB op 102=false∧fhB op 97=false∧fhB op 98=false)∨(fhB op 100=false∧fhB op 102=false∧fhB op 97=true∧fhB op 98=false):=by
 rcases fld_cases op with h | h | h | h | h | h | h | h | h | h | h | h<;>(unfold fhB;rw [h];repeat (first | exact⟨rfl,rfl,rfl,rfl⟩ | exact .inl ⟨rfl,rfl,rfl,rfl⟩ | apply Or.inr))
theorem comb_has (op:Int):fldB op=⟨#[]⟩∨(fhB op 100=true∧fhB op 97=false∧fhB op 98=false∧fhB op 110=true∧fhB op 102=false∧fhB op 103=false∧fhB op 108=false)∨(fhB op 100=true∧fhB op 97=false∧fhB op 98=false∧fhB op 110=false∧fhB op 102=false∧fhB op 103=false∧fhB op 108=false)∨(fhB op 100=true∧fhB op 97=false∧fhB op 98=false∧fhB op 110=false∧fhB op 102=true∧fhB op 103=false∧fhB op 108=false)∨(fhB op 100=true∧fhB op 97=true∧fhB op 98=false∧fhB op 110=false∧fhB op 102=false∧fhB op 103=false∧fhB op 108=false)∨(fhB op 100=true∧fhB op 97=false∧fhB op 98=false∧fhB op 110=false∧fhB op 102=false∧fhB op 103=true∧fhB op 108=true)∨(fhB op 100=true∧fhB op 97=true∧fhB op 98=false∧fhB op 110=true∧fhB op 102=false∧fhB op 103=false∧fhB op 108=false)∨(fhB op 100=false∧fhB op 97=true∧fhB op 98=true∧fhB op 110=false∧fhB op 102=false∧fhB op 103=false∧fhB op 108=false)∨(fhB op 100=true∧fhB op 97=false∧fhB op 98=false∧fhB op 110=false∧fhB op 102=true∧fhB op 103=true∧fhB op 108=false)∨(fhB op 100=true∧fhB op 97=true∧fhB op 98=false∧fhB op 110=false∧fhB op 102=false∧fhB op 103=true∧fhB op 108=false)∨(fhB op 100=false∧fhB op 97=false∧fhB op 98=false∧fhB op 110=false∧fhB op 102=false∧fhB op 103=false∧fhB op 108=true)∨(fhB op 100=false∧fhB op 97=true∧fhB op 98=false∧fhB op 110=false∧fhB op 102=false∧fhB op 103=false∧fhB op 108=false):=by
 rcases fld_cases op with h | h | h | h | h | h | h | h | h | h | h | h<;>(unfold fhB;rw [h];first | exact .inl rfl | apply Or.inr;repeat (first | exact⟨rfl,rfl,rfl,rfl,rfl,rfl,rfl⟩ | exact .inl ⟨rfl,rfl,rfl,rfl,rfl,rfl,rfl⟩ | apply Or.inr))
theorem comb_must (op:Int):(fmB op 100=true∧fmB op 97=false∧fmB op 98=false∧fmB op 102=false)∨(fmB op 100=true∧fmB op 97=false∧fmB op 98=false∧fmB op 102=true)∨(fmB op 100=true∧fmB op 97=true∧fmB op 98=false∧fmB op 102=false)∨(fmB op 100=false∧fmB op 97=true∧fmB op 98=true∧fmB op 102=false)∨(fmB op 100=false∧fmB op 97=false∧fmB op 98=false∧fmB op 102=true)∨(fmB op 100=false∧fmB op 97=true∧fmB op 98=false∧fmB op 102=false)∨(fmB op 100=false∧fmB op 97=false∧fmB op 98=false∧fmB op 102=false):=by
 rcases fld_cases op with h | h | h | h | h | h | h | h | h | h | h | h<;>(unfold fmB;rw [h];repeat (first | exact⟨rfl,rfl,rfl,rfl⟩ | exact .inl ⟨rfl,rfl,rfl,rfl⟩ | apply Or.inr))
theorem eq_nil5 (s:ByteArray):(s.toList==[])=s.toList.isEmpty:=by cases s.toList<;>rfl
theorem has_none5 (s:ByteArray):hasL 0 s=[]:=rfl
theorem all_given5 (s:ByteArray)(p:ByteArray→Bool):(givenL s).all p=((s.toList==[]) || p s):=by
 rw [eq_nil5]
 unfold givenL
 cases s.toList.isEmpty<;>simp
theorem has_one5 (s:ByteArray):hasL 1 s=givenL s:=rfl
theorem has_two5 (s:ByteArray):hasL 2 s=givenL s:=rfl
theorem miss_zero5 (s:ByteArray):missB 0 s=!(s.toList==[]):=by rw [eq_nil5];unfold missB;cases s.toList.isEmpty<;>rfl
theorem miss_one5 (s:ByteArray):missB 1 s=false:=by unfold missB;cases s.toList.isEmpty<;>rfl
theorem miss_two5 (s:ByteArray):missB 2 s=(s.toList==[]):=by rw [eq_nil5];unfold missB;cases s.toList.isEmpty<;>rfl
def nameR (d:Ins):Bool:=(((fhB d.op 100&&(!(d.dst.toList==[])&&!isName d.dst)) || (fhB d.op 102&&(!(d.fn.toList==[])&&!isName d.fn))) || (fhB d.op 97&&(!(d.a.toList==[])&&!isOperand d.a))) || (fhB d.op 98&&(!(d.b.toList==[])&&!isOperand d.b))
set_option maxHeartbeats 8000000 in
theorem names5 (d:Ins):badNamesB d=(nameR d || ((fhB d.op 103&&!d.args.all isOperand) || (fhB d.op 108&&!d.labels.all isName))):=by
 obtain⟨op,dst,a,b,n,fn,args,labels⟩:=d
 have key:∀s,shapeN op=some s→badNamesB ⟨op,dst,a,b,n,fn,args,labels⟩=badNamesS ⟨op,dst,a,b,n,fn,args,labels⟩ s:=fun s h=>badNamesB_some h
 unfold nameR
 dsimp only
 rcases ops5 op with h | h
 ·rcases h with rfl | rfl | rfl | rfl | rfl | rfl | rfl | rfl | rfl | rfl | rfl | rfl | rfl | rfl
  ·rw [key _ rfl]
   unfold badNamesS
   dsimp only
   rw [show fhB 1 100=true from rfl,show fhB 1 102=false from rfl,show fhB 1 97=false from rfl,show fhB 1 98=false from rfl,show fhB 1 103=false from rfl,show fhB 1 108=false from rfl]
   simp only [has_none5,has_one5,has_two5,all_given5,List.all_nil,show ((0:Int) != 0)=false from rfl,show ((-1:Int) != 0)=true from rfl,show ((1:Int) != 0)=true from rfl,show ((2:Int) != 0)=true from rfl,Bool.true_and,Bool.false_and,Bool.true_or,Bool.false_or,Bool.or_false,Bool.or_true,Bool.and_true,Bool.and_false,Bool.not_false,Bool.not_true,Bool.not_not]<;>(
   generalize (dst.toList==[])=qd
   generalize isName dst=pd
   cases qd<;>cases pd<;>rfl)
  ·rw [key _ rfl]
   unfold badNamesS
   dsimp only
   rw [show fhB 2 100=true from rfl,show fhB 2 102=false from rfl,show fhB 2 97=false from rfl,show fhB 2 98=false from rfl,show fhB 2 103=false from rfl,show fhB 2 108=false from rfl]
   simp only [has_none5,has_one5,has_two5,all_given5,List.all_nil,show ((0:Int) != 0)=false from rfl,show ((-1:Int) != 0)=true from rfl,show ((1:Int) != 0)=true from rfl,show ((2:Int) != 0)=true from rfl,Bool.true_and,Bool.false_and,Bool.true_or,Bool.false_or,Bool.or_false,Bool.or_true,Bool.and_true,Bool.and_false,Bool.not_false,Bool.not_true,Bool.not_not]<;>(
   generalize (dst.toList==[])=qd
   generalize isName dst=pd
   cases qd<;>cases pd<;>rfl)
  ·rw [key _ rfl]
   unfold badNamesS
   dsimp only
   rw [show fhB 3 100=true from rfl,show fhB 3 102=false from rfl,show fhB 3 97=false from rfl,show fhB 3 98=false from rfl,show fhB 3 103=false from rfl,show fhB 3 108=false from rfl]
   simp only [has_none5,has_one5,has_two5,all_given5,List.all_nil,show ((0:Int) != 0)=false from rfl,show ((-1:Int) != 0)=true from rfl,show ((1:Int) != 0)=true from rfl,show ((2:Int) != 0)=true from rfl,Bool.true_and,Bool.false_and,Bool.true_or,Bool.false_or,Bool.or_false,Bool.or_true,Bool.and_true,Bool.and_false,Bool.not_false,Bool.not_true,Bool.not_not]<;>(
   generalize (dst.toList==[])=qd
   generalize isName dst=pd
   cases qd<;>cases pd<;>rfl)
  ·rw [key _ rfl]
   unfold badNamesS
   dsimp only
   rw [show fhB 4 100=true from rfl,show fhB 4 102=true from rfl,show fhB 4 97=false from rfl,show fhB 4 98=false from rfl,show fhB 4 103=false from rfl,show fhB 4 108=false from rfl]
   simp only [has_none5,has_one5,has_two5,all_given5,List.all_nil,show ((0:Int) != 0)=false from rfl,show ((-1:Int) != 0)=true from rfl,show ((1:Int) != 0)=true from rfl,show ((2:Int) != 0)=true from rfl,Bool.true_and,Bool.false_and,Bool.true_or,Bool.false_or,Bool.or_false,Bool.or_true,Bool.and_true,Bool.and_false,Bool.not_false,Bool.not_true,Bool.not_not]<;>(
   generalize (dst.toList==[])=qd
   generalize isName dst=pd
   generalize (fn.toList==[])=qf
   generalize isName fn=pf
   cases qd<;>cases pd<;>cases qf<;>cases pf<;>rfl)
  ·rw [key _ rfl]
   unfold badNamesS
   dsimp only
   rw [show fhB 5 100=true from rfl,show fhB 5 102=false from rfl,show fhB 5 97=true from rfl,show fhB 5 98=false from rfl,show fhB 5 103=false from rfl,show fhB 5 108=false from rfl]
   simp only [has_none5,has_one5,has_two5,all_given5,List.all_nil,show ((0:Int) != 0)=false from rfl,show ((-1:Int) != 0)=true from rfl,show ((1:Int) != 0)=true from rfl,show ((2:Int) != 0)=true from rfl,Bool.true_and,Bool.false_and,Bool.true_or,Bool.false_or,Bool.or_false,Bool.or_true,Bool.and_true,Bool.and_false,Bool.not_false,Bool.not_true,Bool.not_not]<;>(
   generalize (dst.toList==[])=qd
   generalize isName dst=pd
   generalize (a.toList==[])=qa
   generalize isOperand a=pa
   cases qd<;>cases pd<;>cases qa<;>cases pa<;>rfl)
  ·rw [key _ rfl]
   unfold badNamesS
   dsimp only
   rw [show fhB 6 100=true from rfl,show fhB 6 102=false from rfl,show fhB 6 97=false from rfl,show fhB 6 98=false from rfl,show fhB 6 103=true from rfl,show fhB 6 108=true from rfl]
   simp only [has_none5,has_one5,has_two5,all_given5,List.all_nil,show ((0:Int) != 0)=false from rfl,show ((-1:Int) != 0)=true from rfl,show ((1:Int) != 0)=true from rfl,show ((2:Int) != 0)=true from rfl,Bool.true_and,Bool.false_and,Bool.true_or,Bool.false_or,Bool.or_false,Bool.or_true,Bool.and_true,Bool.and_false,Bool.not_false,Bool.not_true,Bool.not_not]<;>(
   generalize (dst.toList==[])=qd
   generalize isName dst=pd
   generalize labels.all isName=rl
   generalize args.all isOperand=rg
   cases qd<;>cases pd<;>cases rl<;>cases rg<;>rfl)
  ·rw [key _ rfl]
   unfold badNamesS
   dsimp only
   rw [show fhB 7 100=true from rfl,show fhB 7 102=false from rfl,show fhB 7 97=true from rfl,show fhB 7 98=false from rfl,show fhB 7 103=false from rfl,show fhB 7 108=false from rfl]
   simp only [has_none5,has_one5,has_two5,all_given5,List.all_nil,show ((0:Int) != 0)=false from rfl,show ((-1:Int) != 0)=true from rfl,show ((1:Int) != 0)=true from rfl,show ((2:Int) != 0)=true from rfl,Bool.true_and,Bool.false_and,Bool.true_or,Bool.false_or,Bool.or_false,Bool.or_true,Bool.and_true,Bool.and_false,Bool.not_false,Bool.not_true,Bool.not_not]<;>(
   generalize (dst.toList==[])=qd
   generalize isName dst=pd
   generalize (a.toList==[])=qa
   generalize isOperand a=pa
   cases qd<;>cases pd<;>cases qa<;>cases pa<;>rfl)
  ·rw [key _ rfl]
   unfold badNamesS
   dsimp only
   rw [show fhB 8 100=true from rfl,show fhB 8 102=false from rfl,show fhB 8 97=true from rfl,show fhB 8 98=false from rfl,show fhB 8 103=false from rfl,show fhB 8 108=false from rfl]
   simp only [has_none5,has_one5,has_two5,all_given5,List.all_nil,show ((0:Int) != 0)=false from rfl,show ((-1:Int) != 0)=true from rfl,show ((1:Int) != 0)=true from rfl,show ((2:Int) != 0)=true from rfl,Bool.true_and,Bool.false_and,Bool.true_or,Bool.false_or,Bool.or_false,Bool.or_true,Bool.and_true,Bool.and_false,Bool.not_false,Bool.not_true,Bool.not_not]<;>(
   generalize (dst.toList==[])=qd
   generalize isName dst=pd
   generalize (a.toList==[])=qa
   generalize isOperand a=pa
   cases qd<;>cases pd<;>cases qa<;>cases pa<;>rfl)
  ·rw [key _ rfl]
   unfold badNamesS
   dsimp only
   rw [show fhB 9 100=false from rfl,show fhB 9 102=false from rfl,show fhB 9 97=true from rfl,show fhB 9 98=true from rfl,show fhB 9 103=false from rfl,show fhB 9 108=false from rfl]
   simp only [has_none5,has_one5,has_two5,all_given5,List.all_nil,show ((0:Int) != 0)=false from rfl,show ((-1:Int) != 0)=true from rfl,show ((1:Int) != 0)=true from rfl,show ((2:Int) != 0)=true from rfl,Bool.true_and,Bool.false_and,Bool.true_or,Bool.false_or,Bool.or_false,Bool.or_true,Bool.and_true,Bool.and_false,Bool.not_false,Bool.not_true,Bool.not_not]<;>(
   generalize (a.toList==[])=qa
   generalize isOperand a=pa
   generalize (b.toList==[])=qb
   generalize isOperand b=pb
   cases qa<;>cases pa<;>cases qb<;>cases pb<;>rfl)
  ·rw [key _ rfl]
   unfold badNamesS
   dsimp only
   rw [show fhB 10 100=true from rfl,show fhB 10 102=true from rfl,show fhB 10 97=false from rfl,show fhB 10 98=false from rfl,show fhB 10 103=true from rfl,show fhB 10 108=false from rfl]
   simp only [has_none5,has_one5,has_two5,all_given5,List.all_nil,show ((0:Int) != 0)=false from rfl,show ((-1:Int) != 0)=true from rfl,show ((1:Int) != 0)=true from rfl,show ((2:Int) != 0)=true from rfl,Bool.true_and,Bool.false_and,Bool.true_or,Bool.false_or,Bool.or_false,Bool.or_true,Bool.and_true,Bool.and_false,Bool.not_false,Bool.not_true,Bool.not_not]<;>(
   generalize (dst.toList==[])=qd
   generalize isName dst=pd
   generalize (fn.toList==[])=qf
   generalize isName fn=pf
   generalize args.all isOperand=rg
   cases qd<;>cases pd<;>cases qf<;>cases pf<;>cases rg<;>rfl)
  ·rw [key _ rfl]
   unfold badNamesS
   dsimp only
   rw [show fhB 11 100=true from rfl,show fhB 11 102=false from rfl,show fhB 11 97=true from rfl,show fhB 11 98=false from rfl,show fhB 11 103=true from rfl,show fhB 11 108=false from rfl]
   simp only [has_none5,has_one5,has_two5,all_given5,List.all_nil,show ((0:Int) != 0)=false from rfl,show ((-1:Int) != 0)=true from rfl,show ((1:Int) != 0)=true from rfl,show ((2:Int) != 0)=true from rfl,Bool.true_and,Bool.false_and,Bool.true_or,Bool.false_or,Bool.or_false,Bool.or_true,Bool.and_true,Bool.and_false,Bool.not_false,Bool.not_true,Bool.not_not]<;>(
   generalize (dst.toList==[])=qd
   generalize isName dst=pd
   generalize (a.toList==[])=qa
   generalize isOperand a=pa
   generalize args.all isOperand=rg
   cases qd<;>cases pd<;>cases qa<;>cases pa<;>cases rg<;>rfl)
  ·rw [key _ rfl]
   unfold badNamesS
   dsimp only
   rw [show fhB 12 100=false from rfl,show fhB 12 102=false from rfl,show fhB 12 97=false from rfl,show fhB 12 98=false from rfl,show fhB 12 103=false from rfl,show fhB 12 108=true from rfl]
   simp only [has_none5,has_one5,has_two5,all_given5,List.all_nil,show ((0:Int) != 0)=false from rfl,show ((-1:Int) != 0)=true from rfl,show ((1:Int) != 0)=true from rfl,show ((2:Int) != 0)=true from rfl,Bool.true_and,Bool.false_and,Bool.true_or,Bool.false_or,Bool.or_false,Bool.or_true,Bool.and_true,Bool.and_false,Bool.not_false,Bool.not_true,Bool.not_not]<;>(
   generalize labels.all isName=rl
   cases rl<;>rfl)
  ·rw [key _ rfl]
   unfold badNamesS
   dsimp only
   rw [show fhB 13 100=false from rfl,show fhB 13 102=false from rfl,show fhB 13 97=false from rfl,show fhB 13 98=false from rfl,show fhB 13 103=false from rfl,show fhB 13 108=true from rfl]
   simp only [has_none5,has_one5,has_two5,all_given5,List.all_nil,show ((0:Int) != 0)=false from rfl,show ((-1:Int) != 0)=true from rfl,show ((1:Int) != 0)=true from rfl,show ((2:Int) != 0)=true from rfl,Bool.true_and,Bool.false_and,Bool.true_or,Bool.false_or,Bool.or_false,Bool.or_true,Bool.and_true,Bool.and_false,Bool.not_false,Bool.not_true,Bool.not_not]<;>(
   generalize labels.all isName=rl
   cases rl<;>rfl)
  ·rw [key _ rfl]
   unfold badNamesS
   dsimp only
   rw [show fhB 14 100=false from rfl,show fhB 14 102=false from rfl,show fhB 14 97=true from rfl,show fhB 14 98=false from rfl,show fhB 14 103=false from rfl,show fhB 14 108=false from rfl]
   simp only [has_none5,has_one5,has_two5,all_given5,List.all_nil,show ((0:Int) != 0)=false from rfl,show ((-1:Int) != 0)=true from rfl,show ((1:Int) != 0)=true from rfl,show ((2:Int) != 0)=true from rfl,Bool.true_and,Bool.false_and,Bool.true_or,Bool.false_or,Bool.or_false,Bool.or_true,Bool.and_true,Bool.and_false,Bool.not_false,Bool.not_true,Bool.not_not]<;>(
   generalize (a.toList==[])=qa
   generalize isOperand a=pa
   cases qa<;>cases pa<;>rfl)
 ·have hs:shapeN op=none:=by
   unfold shapeN
   repeat' split
   all_goals first | omega | rfl
  have hf:fldB op=⟨#[]⟩:=by
   obtain⟨h1,h2,h3,h4,h5,h6,h7,h8,h9,h10,h11,h12,h13,h14⟩:=h
   unfold fldB
   simp only [h1,h2,h3,h4,h5,h6,h7,h8,h9,h10,h11,h12,h13,h14,if_false]
  rw [badNamesB_none hs]
  unfold fhB
  rw [hf]
  rfl
def fldR (d:Ins):Bool:=((((((!fhB d.op 100&&!(d.dst.toList==[])) || (!fhB d.op 97&&!(d.a.toList==[]))) || (!fhB d.op 98&&!(d.b.toList==[]))) || (!fhB d.op 110&&!(d.n==0))) || (!fhB d.op 102&&!(d.fn.toList==[]))) || (!fhB d.op 103&&!((d.args.length:Int)==0))) || (!fhB d.op 108&&!((d.labels.length:Int)==0))
def mustR (d:Ins):Bool:=(((fmB d.op 100&&(d.dst.toList==[])) || (fmB d.op 97&&(d.a.toList==[]))) || (fmB d.op 98&&(d.b.toList==[]))) || (fmB d.op 102&&(d.fn.toList==[]))
def lastR (d:Ins):Bool:=if d.op=1∨d.op=2 then decide (d.n<1) || decide (d.n > 64) else if d.op=7 then decide (d.n<0) || decide (d.n > 63) else if d.op=6 then decide ((d.labels.length:Int)<1) || !((d.labels.length:Int)==(d.args.length:Int)) else if d.op=12 then !((d.labels.length:Int)==2) else if d.op=13 then !((d.labels.length:Int)==1) else false
end
end Go.Proofs.YtknkiaedgeejiaaGreatDoor
