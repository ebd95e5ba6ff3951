/- SwV, VMap, Grow. -/
import Derived.Test.YtknkiaedgeejiaaGreatDoorSP11
import Derived.Test.YtknkiaedgeejiaaGreatDoorSP1
import Derived.Orders
namespace Go.Proofs.YtknkiaedgeejiaaGreatDoor
set_option linter.unusedVariables false
set_option linter.unusedSimpArgs false
section
open Go.RowKit Go.Maps Go.Shelf
attribute [local go_sem] Oper.semAt_some
def FormAt (w:World)(f:Value)(G:Ins→Prop)(R:Ins→List ByteArray)(N:Nat):Prop:=
 ∃F caps,f=.func (.func F) #[] caps∧(∀(args:Array Value) (w:World),(callFunc F args).run Tryz.prog w=.ok (.enter F args) w)∧(∀d,InsOk d→G d→(R d).length≤N)∧
 ∀W,Stays w W→∀(d:Ins) (va vl:Value),RdC W va d.args→RdC W vl d.labels→InsOk d→G d→Calls Tryz.prog F (#[.agg (insV d va vl).toArray]++caps) W fun e W'=>∃v,e=.returned v∧RdC W' v (R d)∧Below W.heap.size W W'
theorem FormAt.keep {w w':World}{f:Value}{G:Ins→Prop}{R:Ins→List ByteArray}{N:Nat}(h:FormAt w f G R N)(hb:Stays w w'):FormAt w' f G R N:=by
 obtain⟨F,caps,e,h1,h2,h3⟩:=h
 exact⟨F,caps,e,h1,h2,fun W hW=>h3 W (hb.trans hW)⟩
set_option maxRecDepth 20000 in
set_option maxHeartbeats 4000000 in
theorem g1_any {w:World}{d:Ins}{va vl f:Value}{G:Ins→Prop}{R:Ins→List ByteArray}{word:ByteArray}{b1 b2 N:Nat}(hN:N≤100000)(ha:RdC w va d.args)(hl:RdC w vl d.labels)(hk:InsOk d)(hG:G d)(hf:FormAt w f G R N)(hb1:w.cell? ⟨b1,0,none⟩=some (.string word)∧b1<w.heap.size)(hb2:w.cell? ⟨b2,0,none⟩=some f∧b2<w.heap.size):Calls Tryz.prog 35 #[.agg (insV d va vl).toArray,.pointer (some ⟨b1,0,none⟩),.pointer (some ⟨b2,0,none⟩)] w fun e w'=>∃v,e=.returned v∧RdC w' v ([d.dst,⟨#[61]⟩,word]++R d)∧Below w.heap.size w w':=by
 obtain⟨aa,ca,rfl,hca,hac⟩:=ha.cells
 obtain⟨al,cl,rfl,hcl0,hlc⟩:=hl.cells
 obtain⟨W2,hW2⟩:∃W2,w.alloc (.cells (insV d (.slice aa d.args.length ca) (.slice al d.labels.length cl)).toArray 46)=W2:=⟨_,rfl⟩
 have hb:W2.heap[w.heap.size]?=some (.cells (insV d (.slice aa d.args.length ca) (.slice al d.labels.length cl)).toArray 46 (0,0)):=by rw [←hW2];exact at_newN rfl
 have hB:Below w.heap.size w W2:=by rw [←hW2];exact (Below.refl _ _).alloc (Nat.le_refl _) _
 have hlt:w.heap.size<W2.heap.size:=(Array.getElem?_eq_some_iff.1 hb).1
 obtain⟨F,caps,rfl,hent,hlen,hcall⟩:=hf
 have hRl:=hlen d hk hG
 have hcl:=Lib.hid (fun (W:World) (hw:Below W2.heap.size W2 W)=>hcall W (Stays.of_below (hB.trans (hw.mono hB.size))) d _ _ ((ha.below hB).below hw) ((hl.below hB).below hw) hk hG)
 obtain⟨Rd0,hRd⟩:∃L,L=R d:=⟨_,rfl⟩
 rw [←hRd] at hRl hcl ⊢
 replace hRd:=Lib.hid hRd
 have c0:W2.cell? ⟨w.heap.size,0,none⟩=some (.int .u8 d.op):=by rw [blk_cell hb];rfl
 have c1:W2.cell? ⟨w.heap.size,1,none⟩=some (.string d.dst):=by rw [blk_cell hb];rfl
 have c2:W2.cell? ⟨w.heap.size,2,none⟩=some (.string d.a):=by rw [blk_cell hb];rfl
 have c3:W2.cell? ⟨w.heap.size,3,none⟩=some (.string d.b):=by rw [blk_cell hb];rfl
 have c4:W2.cell? ⟨w.heap.size,4,none⟩=some (.int .i64 d.n):=by rw [blk_cell hb];rfl
 have c5:W2.cell? ⟨w.heap.size,5,none⟩=some (.string d.fn):=by rw [blk_cell hb];rfl
 have c6:W2.cell? ⟨w.heap.size,6,none⟩=some (.slice aa d.args.length ca):=by rw [blk_cell hb];rfl
 have c7:W2.cell? ⟨w.heap.size,7,none⟩=some (.slice al d.labels.length cl):=by rw [blk_cell hb];rfl
 have cw:W2.cell? ⟨b1,0,none⟩=some (.string word):=(hB.cell (p:=⟨b1,0,none⟩) hb1.2).trans hb1.1
 have cf:W2.cell? ⟨b2,0,none⟩=some (.func (.func F) #[] caps):=(hB.cell (p:=⟨b2,0,none⟩) hb2.2).trans hb2.1
 have hbw:b1<W2.heap.size:=Nat.lt_of_lt_of_le hb1.2 hB.size
 have hbf:b2<W2.heap.size:=Nat.lt_of_lt_of_le hb2.2 hB.size
 have hCS:=Lib.hid (fun (W:World) (hw:Below W2.heap.size W2 W)=>(⟨(hw.cell (p:=⟨w.heap.size,0,none⟩) hlt).trans c0,(hw.cell (p:=⟨w.heap.size,1,none⟩) hlt).trans c1,(hw.cell (p:=⟨w.heap.size,2,none⟩) hlt).trans c2,(hw.cell (p:=⟨w.heap.size,3,none⟩) hlt).trans c3,(hw.cell (p:=⟨w.heap.size,4,none⟩) hlt).trans c4,(hw.cell (p:=⟨w.heap.size,5,none⟩) hlt).trans c5,(hw.cell (p:=⟨w.heap.size,6,none⟩) hlt).trans c6,(hw.cell (p:=⟨w.heap.size,7,none⟩) hlt).trans c7,(hw.cell (p:=⟨b1,0,none⟩) hbw).trans cw,(hw.cell (p:=⟨b2,0,none⟩) hbf).trans cf⟩:W.cell? ⟨w.heap.size,0,none⟩=some (.int .u8 d.op)∧W.cell? ⟨w.heap.size,1,none⟩=some (.string d.dst)∧W.cell? ⟨w.heap.size,2,none⟩=some (.string d.a)∧W.cell? ⟨w.heap.size,3,none⟩=some (.string d.b)∧W.cell? ⟨w.heap.size,4,none⟩=some (.int .i64 d.n)∧W.cell? ⟨w.heap.size,5,none⟩=some (.string d.fn)∧W.cell? ⟨w.heap.size,6,none⟩=some (.slice aa d.args.length ca)∧W.cell? ⟨w.heap.size,7,none⟩=some (.slice al d.labels.length cl)∧W.cell? ⟨b1,0,none⟩=some (.string word)∧W.cell? ⟨b2,0,none⟩=some (.func (.func F) #[] caps)))
 have hC:=hCS.out W2 (Below.refl _ _)
 obtain⟨i0,hi0,hz0,hz1,hz2⟩:=info_parts infoStr6
 clear hb hac hlc hb1 hb2 cw cf hcall hlen c0 c1 c2 c3 c4 c5 c6 c7
 replace hW2:=Lib.hid hW2
 replace hB:=Lib.hid hB
 replace ha:=Lib.hid ha
 replace hl:=Lib.hid hl
 go_enter Tryz.func35,Tryz.ntmps35
 go_upto_region 1 with fail
 rw [hW2.out]
 clear hW2
 refine wp_region_held_drew (S:=(fun w'=>w'.cell? ⟨w.heap.size,0,none⟩=some (.int .u8 d.op)∧w'.cell? ⟨w.heap.size,1,none⟩=some (.string d.dst)∧w'.cell? ⟨w.heap.size,2,none⟩=some (.string d.a)∧w'.cell? ⟨w.heap.size,3,none⟩=some (.string d.b)∧w'.cell? ⟨w.heap.size,4,none⟩=some (.int .i64 d.n)∧w'.cell? ⟨w.heap.size,5,none⟩=some (.string d.fn)∧w'.cell? ⟨w.heap.size,6,none⟩=some (.slice aa d.args.length ca)∧w'.cell? ⟨w.heap.size,7,none⟩=some (.slice al d.labels.length cl)∧w'.cell? ⟨b1,0,none⟩=some (.string word)∧w'.cell? ⟨b2,0,none⟩=some (.func (.func F) #[] caps))) (by kernel_rfl) hC (fun hHeld=>?_)
 clear hHeld
 refine wpAnyH_take (i:=0) (oi:=(.mk (some 5) (.fieldAddr 46 (.tmp 3) 1) 0 "show.go:63" #[] none)) (v:=?_) rfl (by kernel_rfl) (by kernel_rfl) (by kernel_rfl) (fun _ _ _ h=>h) (Or.inl ⟨by rfl,?_⟩) hC ?_
 rotate_left
 ·(intro w hSw;(try dsimp only at hSw);go_simp;try with_reducible rfl)
 try simp only [Act.put,List.setIfInBounds_toArray,List.set_cons_zero,List.set_cons_succ]
 refine wpAnyH_take (i:=1) (oi:=(.mk (some 6) (.load 9 (.tmp 5)) 9 "show.go:63" #[.mk 0 .data] none)) (v:=?_) rfl (by kernel_rfl) (by kernel_rfl) (by kernel_rfl) (fun _ _ _ h=>h) (Or.inl ⟨by rfl,?_⟩) hC ?_
 rotate_left
 ·(intro w hSw;(try dsimp only at hSw);go_simp;try with_reducible rfl)
 try simp only [Act.put,List.setIfInBounds_toArray,List.set_cons_zero,List.set_cons_succ]
 refine wpAnyH_take (i:=2) (oi:=(.mk (some 7) (.load 9 (.tmp 1)) 9 "show.go:63" #[] none)) (v:=?_) rfl (by kernel_rfl) (by kernel_rfl) (by kernel_rfl) (fun _ _ _ h=>h) (Or.inl ⟨by rfl,?_⟩) hC ?_
 rotate_left
 ·(intro w hSw;(try dsimp only at hSw);go_simp;try with_reducible rfl)
 try simp only [Act.put,List.setIfInBounds_toArray,List.set_cons_zero,List.set_cons_succ]
 refine wpAnyH_take (i:=4) (oi:=(.mk (some 9) (.load 93 (.tmp 2)) 93 "show.go:63" #[] none)) (v:=?_) rfl (by kernel_rfl) (by kernel_rfl) (by kernel_rfl) (fun _ _ _ h=>h) (Or.inl ⟨by rfl,?_⟩) hC ?_
 rotate_left
 ·(intro w hSw;(try dsimp only at hSw);go_simp;try with_reducible rfl)
 try simp only [Act.put,List.setIfInBounds_toArray,List.set_cons_zero,List.set_cons_succ]
 refine wpAnyH_take (i:=5) (oi:=(.mk (some 10) (.load 46 (.tmp 3)) 46 "show.go:63" #[] none)) (v:=?_) rfl (by kernel_rfl) (by kernel_rfl) (by kernel_rfl) (fun _ _ _ h=>h) (Or.inl ⟨by rfl,?_⟩) hC ?_
 rotate_left
 ·(intro w hSw;(try dsimp only at hSw);go_simp;try with_reducible rfl)
 try simp only [Act.put,List.setIfInBounds_toArray,List.set_cons_zero,List.set_cons_succ]
 refine wpAnyH_ready (rs:=[3,6]) (by kernel_rfl) (by simp) (AllReadyH.cons (o:=(.mk (some 8) (.buildSlice 37 3 #[(0,(.tmp 6)),(1,(.const (Value.string (ByteArray.mk #[61])))),(2,(.tmp 7))]) 37 "show.go:63" #[.mk 1 .data,.mk 2 .data] none)) rfl (fun K hK=>?_) (AllReadyH.cons (o:=(.mk (some 11) (.call (.mk (.value (.tmp 9)) #[(.tmp 10)] #[46])) 37 "show.go:63" #[.mk 4 .data,.mk 5 .data] none)) rfl (fun K hK=>?_) AllReadyH.nil))
 ·skip
  go_simp
  have hBa:=Lib.hid (show Below W2.heap.size W2 (W2.drew.alloc (.cells #[.string d.dst,.string ⟨#[61]⟩,.string word] 9)) from (Below.drew (Below.refl W2.heap.size W2)).alloc (Nat.le_refl _) _)
  have hrow:=Lib.hid (row_of_block (w:=W2.drew.alloc (.cells #[.string d.dst,.string ⟨#[61]⟩,.string word] 9)) (g:=W2.drew.heap.size) (base:=W2.heap.size) (cs:=[.string d.dst,.string ⟨#[61]⟩,.string word]) (heap_alloc_new W2.drew _) (Nat.le_refl _) (by simp [maxLen]))
  replace hC:=hCS.out _ hBa.out
  refine hK.out _ _ hC (fun hHeld=>?_)
  clear hK K hHeld
  try simp only [Act.put,List.setIfInBounds_toArray,List.set_cons_zero,List.set_cons_succ]
  refine wpAnyH_ready (rs:=[6]) (by kernel_rfl) (by simp) (AllReadyH.cons (o:=(.mk (some 11) (.call (.mk (.value (.tmp 9)) #[(.tmp 10)] #[46])) 37 "show.go:63" #[.mk 4 .data,.mk 5 .data] none)) rfl (fun K hK=>?_) AllReadyH.nil)
  go_simp
  (go_at_fn F;refine Calls.mono (hcl.out _ hBa.out) ?_;rintro e w3 ⟨v4,rfl,hR4,hbb⟩)
  obtain⟨a4,c4,rfl,hc4⟩:=hR4.cells
  have hB3:=Lib.hid (show Below W2.heap.size W2 w3 from hBa.out.trans (hbb.mono hBa.out.size))
  replace hC:=hCS.out w3 hB3.out
  replace hrow:=Lib.hid (ownsRow_touch (S:=fun k=>(W2.drew.alloc (.cells #[.string d.dst,.string ⟨#[61]⟩,.string word] 9)).heap.size≤k) hrow.out (Touch.of_below hbb _) (fun k e1 e2=>by have:=(hrow.out.lt k e1).2;omega))
  replace hR4:=Lib.hid hR4
  clear hbb hc4
  refine hK.out _ _ hC (fun hHeld=>?_)
  clear hK K hHeld
  try simp only [Act.put,List.setIfInBounds_toArray,List.set_cons_zero,List.set_cons_succ]
  refine wpAnyH_ready (rs:=[7]) (by kernel_rfl) (by simp) (AllReadyH.cons (o:=(.mk (some 12) (.call (.mk (.builtin Builtin.append) #[(.tmp 8),(.tmp 11)] #[37,37])) 37 "show.go:63" #[.mk 3 .data,.mk 6 .data,.mk 6 .chain] none)) rfl (fun K hK=>?_) AllReadyH.nil)
  (refine step_append_rd _ rfl _ _ 37 rfl W2.heap.size 9 i0 (.string ⟨#[]⟩) 16 Tryz.underlying37 hi0 hz0 hz1 hz2 rfl _ 3 _ rfl hrow.out _ (Rd0.map Value.string) (by rfl) hR4.out.1 (fun u hu=>by obtain⟨s,-,rfl⟩:=List.mem_map.1 hu;rfl) (by rw [List.length_map];unfold maxLen;omega) (by rw [List.length_map];omega) hB3.out.size ?_;intro v5 w5 hown5 hgrow5)
  obtain⟨a5,n5,c5',rfl⟩:∃a n c,v5=.slice a n c:=by obtain⟨a,c,e⟩:=own_form6 hown5;exact⟨_,_,_,e⟩
  have hB5:=Lib.hid (hB3.out.grown hgrow5 hB3.out.size (fun k e=>(hrow.out.lt k e).1))
  replace hC:=hCS.out w5 hB5.out
  have hR5:=Lib.hid (own_rdc (ss:=[d.dst,⟨#[61]⟩,word]++Rd0) (by simpa using hown5) (by simp;omega))
  clear hgrow5 hown5
  refine hK.out _ _ hC (fun hHeld=>?_)
  clear hK K hHeld
  try simp only [Act.put,List.setIfInBounds_toArray,List.set_cons_zero,List.set_cons_succ]
  refine wpAnyH_take (i:=8) (oi:=(.mk (some 4) (.assign (.tmp 12)) 37 "show.go:63" #[.mk 7 .data,.mk 7 .chain,.mk 0 .phase,.mk 1 .phase,.mk 2 .phase,.mk 3 .phase,.mk 4 .phase,.mk 5 .phase,.mk 6 .phase,.mk 7 .phase] none)) (v:=?_) rfl (by kernel_rfl) (by kernel_rfl) (by kernel_rfl) (fun _ _ _ h=>h) (Or.inl ⟨by rfl,?_⟩) hC ?_
  rotate_left
  ·(intro w hSw;(try dsimp only at hSw);go_simp;try with_reducible rfl)
  try simp only [Act.put,List.setIfInBounds_toArray,List.set_cons_zero,List.set_cons_succ]
  refine wpAnyH_done (by kernel_rfl) ?_ _
  go_wp2_with fail
  go_ret
  exact⟨_,rfl,hR5.out,hB.out.trans (hB5.out.mono hB.out.size)⟩
 ·skip
  go_simp
  (go_at_fn F;refine Calls.mono (hcl.out _ (Below.drew (Below.refl W2.heap.size W2))) ?_;rintro e w3 ⟨v4,rfl,hR4,hbb⟩)
  obtain⟨a4,c4,rfl,hc4⟩:=hR4.cells
  have hB3:=Lib.hid (show Below W2.heap.size W2 w3 from (Below.drew (Below.refl W2.heap.size W2)).trans (hbb.mono (Nat.le_refl _)))
  replace hC:=hCS.out w3 hB3.out
  replace hR4:=Lib.hid hR4
  clear hbb hc4
  refine hK.out _ _ hC (fun hHeld=>?_)
  clear hK K hHeld
  try simp only [Act.put,List.setIfInBounds_toArray,List.set_cons_zero,List.set_cons_succ]
  refine wpAnyH_ready (rs:=[3]) (by kernel_rfl) (by simp) (AllReadyH.cons (o:=(.mk (some 8) (.buildSlice 37 3 #[(0,(.tmp 6)),(1,(.const (Value.string (ByteArray.mk #[61])))),(2,(.tmp 7))]) 37 "show.go:63" #[.mk 1 .data,.mk 2 .data] none)) rfl (fun K hK=>?_) AllReadyH.nil)
  go_simp
  have hBa:=Lib.hid (show Below W2.heap.size W2 (w3.alloc (.cells #[.string d.dst,.string ⟨#[61]⟩,.string word] 9)) from hB3.out.alloc hB3.out.size _)
  have hrow:=Lib.hid (row_of_block (w:=w3.alloc (.cells #[.string d.dst,.string ⟨#[61]⟩,.string word] 9)) (g:=w3.heap.size) (base:=W2.heap.size) (cs:=[.string d.dst,.string ⟨#[61]⟩,.string word]) (heap_alloc_new w3 _) hB3.out.size (by simp [maxLen]))
  replace hR4:=Lib.hid (hR4.out.below ((Below.refl w3.heap.size w3).alloc (Nat.le_refl _) (.cells #[.string d.dst,.string ⟨#[61]⟩,.string word] 9)))
  replace hC:=hCS.out _ hBa.out
  refine hK.out _ _ hC (fun hHeld=>?_)
  clear hK K hHeld
  try simp only [Act.put,List.setIfInBounds_toArray,List.set_cons_zero,List.set_cons_succ]
  refine wpAnyH_ready (rs:=[7]) (by kernel_rfl) (by simp) (AllReadyH.cons (o:=(.mk (some 12) (.call (.mk (.builtin Builtin.append) #[(.tmp 8),(.tmp 11)] #[37,37])) 37 "show.go:63" #[.mk 3 .data,.mk 6 .data,.mk 6 .chain] none)) rfl (fun K hK=>?_) AllReadyH.nil)
  (refine step_append_rd _ rfl _ _ 37 rfl W2.heap.size 9 i0 (.string ⟨#[]⟩) 16 Tryz.underlying37 hi0 hz0 hz1 hz2 rfl _ 3 _ rfl hrow.out _ (Rd0.map Value.string) (by rfl) hR4.out.1 (fun u hu=>by obtain⟨s,-,rfl⟩:=List.mem_map.1 hu;rfl) (by rw [List.length_map];unfold maxLen;omega) (by rw [List.length_map];omega) hBa.out.size ?_;intro v5 w5 hown5 hgrow5)
  obtain⟨a5,n5,c5',rfl⟩:∃a n c,v5=.slice a n c:=by obtain⟨a,c,e⟩:=own_form6 hown5;exact⟨_,_,_,e⟩
  have hB5:=Lib.hid (hBa.out.grown hgrow5 hBa.out.size (fun k e=>(hrow.out.lt k e).1))
  replace hC:=hCS.out w5 hB5.out
  have hR5:=Lib.hid (own_rdc (ss:=[d.dst,⟨#[61]⟩,word]++Rd0) (by simpa using hown5) (by simp;omega))
  clear hgrow5 hown5
  refine hK.out _ _ hC (fun hHeld=>?_)
  clear hK K hHeld
  try simp only [Act.put,List.setIfInBounds_toArray,List.set_cons_zero,List.set_cons_succ]
  refine wpAnyH_take (i:=8) (oi:=(.mk (some 4) (.assign (.tmp 12)) 37 "show.go:63" #[.mk 7 .data,.mk 7 .chain,.mk 0 .phase,.mk 1 .phase,.mk 2 .phase,.mk 3 .phase,.mk 4 .phase,.mk 5 .phase,.mk 6 .phase,.mk 7 .phase] none)) (v:=?_) rfl (by kernel_rfl) (by kernel_rfl) (by kernel_rfl) (fun _ _ _ h=>h) (Or.inl ⟨by rfl,?_⟩) hC ?_
  rotate_left
  ·(intro w hSw;(try dsimp only at hSw);go_simp;try with_reducible rfl)
  try simp only [Act.put,List.setIfInBounds_toArray,List.set_cons_zero,List.set_cons_succ]
  refine wpAnyH_done (by kernel_rfl) ?_ _
  go_wp2_with fail
  go_ret
  exact⟨_,rfl,hR5.out,hB.out.trans (hB5.out.mono hB.out.size)⟩
set_option maxRecDepth 20000 in
set_option maxHeartbeats 4000000 in
theorem g2_any {w:World}{d:Ins}{va vl f:Value}{G:Ins→Prop}{R:Ins→List ByteArray}{word:ByteArray}{b1 b2 N:Nat}(hN:N≤100000)(ha:RdC w va d.args)(hl:RdC w vl d.labels)(hk:InsOk d)(hG:G d)(hf:FormAt w f G R N)(hb1:w.cell? ⟨b1,0,none⟩=some (.string word)∧b1<w.heap.size)(hb2:w.cell? ⟨b2,0,none⟩=some f∧b2<w.heap.size):Calls Tryz.prog 37 #[.agg (insV d va vl).toArray,.pointer (some ⟨b1,0,none⟩),.pointer (some ⟨b2,0,none⟩)] w fun e w'=>∃v,e=.returned v∧RdC w' v ([word]++R d)∧Below w.heap.size w w':=by
 obtain⟨aa,ca,rfl,hca,hac⟩:=ha.cells
 obtain⟨al,cl,rfl,hcl0,hlc⟩:=hl.cells
 obtain⟨W2,hW2⟩:∃W2,w.alloc (.cells (insV d (.slice aa d.args.length ca) (.slice al d.labels.length cl)).toArray 46)=W2:=⟨_,rfl⟩
 have hb:W2.heap[w.heap.size]?=some (.cells (insV d (.slice aa d.args.length ca) (.slice al d.labels.length cl)).toArray 46 (0,0)):=by rw [←hW2];exact at_newN rfl
 have hB:Below w.heap.size w W2:=by rw [←hW2];exact (Below.refl _ _).alloc (Nat.le_refl _) _
 have hlt:w.heap.size<W2.heap.size:=(Array.getElem?_eq_some_iff.1 hb).1
 obtain⟨F,caps,rfl,hent,hlen,hcall⟩:=hf
 have hRl:=hlen d hk hG
 have hcl:=Lib.hid (fun (W:World) (hw:Below W2.heap.size W2 W)=>hcall W (Stays.of_below (hB.trans (hw.mono hB.size))) d _ _ ((ha.below hB).below hw) ((hl.below hB).below hw) hk hG)
 obtain⟨Rd0,hRd⟩:∃L,L=R d:=⟨_,rfl⟩
 rw [←hRd] at hRl hcl ⊢
 replace hRd:=Lib.hid hRd
 have c0:W2.cell? ⟨w.heap.size,0,none⟩=some (.int .u8 d.op):=by rw [blk_cell hb];rfl
 have c1:W2.cell? ⟨w.heap.size,1,none⟩=some (.string d.dst):=by rw [blk_cell hb];rfl
 have c2:W2.cell? ⟨w.heap.size,2,none⟩=some (.string d.a):=by rw [blk_cell hb];rfl
 have c3:W2.cell? ⟨w.heap.size,3,none⟩=some (.string d.b):=by rw [blk_cell hb];rfl
 have c4:W2.cell? ⟨w.heap.size,4,none⟩=some (.int .i64 d.n):=by rw [blk_cell hb];rfl
 have c5:W2.cell? ⟨w.heap.size,5,none⟩=some (.string d.fn):=by rw [blk_cell hb];rfl
 have c6:W2.cell? ⟨w.heap.size,6,none⟩=some (.slice aa d.args.length ca):=by rw [blk_cell hb];rfl
 have c7:W2.cell? ⟨w.heap.size,7,none⟩=some (.slice al d.labels.length cl):=by rw [blk_cell hb];rfl
 have cw:W2.cell? ⟨b1,0,none⟩=some (.string word):=(hB.cell (p:=⟨b1,0,none⟩) hb1.2).trans hb1.1
 have cf:W2.cell? ⟨b2,0,none⟩=some (.func (.func F) #[] caps):=(hB.cell (p:=⟨b2,0,none⟩) hb2.2).trans hb2.1
 have hbw:b1<W2.heap.size:=Nat.lt_of_lt_of_le hb1.2 hB.size
 have hbf:b2<W2.heap.size:=Nat.lt_of_lt_of_le hb2.2 hB.size
 have hCS:=Lib.hid (fun (W:World) (hw:Below W2.heap.size W2 W)=>(⟨(hw.cell (p:=⟨w.heap.size,0,none⟩) hlt).trans c0,(hw.cell (p:=⟨w.heap.size,1,none⟩) hlt).trans c1,(hw.cell (p:=⟨w.heap.size,2,none⟩) hlt).trans c2,(hw.cell (p:=⟨w.heap.size,3,none⟩) hlt).trans c3,(hw.cell (p:=⟨w.heap.size,4,none⟩) hlt).trans c4,(hw.cell (p:=⟨w.heap.size,5,none⟩) hlt).trans c5,(hw.cell (p:=⟨w.heap.size,6,none⟩) hlt).trans c6,(hw.cell (p:=⟨w.heap.size,7,none⟩) hlt).trans c7,(hw.cell (p:=⟨b1,0,none⟩) hbw).trans cw,(hw.cell (p:=⟨b2,0,none⟩) hbf).trans cf⟩:W.cell? ⟨w.heap.size,0,none⟩=some (.int .u8 d.op)∧W.cell? ⟨w.heap.size,1,none⟩=some (.string d.dst)∧W.cell? ⟨w.heap.size,2,none⟩=some (.string d.a)∧W.cell? ⟨w.heap.size,3,none⟩=some (.string d.b)∧W.cell? ⟨w.heap.size,4,none⟩=some (.int .i64 d.n)∧W.cell? ⟨w.heap.size,5,none⟩=some (.string d.fn)∧W.cell? ⟨w.heap.size,6,none⟩=some (.slice aa d.args.length ca)∧W.cell? ⟨w.heap.size,7,none⟩=some (.slice al d.labels.length cl)∧W.cell? ⟨b1,0,none⟩=some (.string word)∧W.cell? ⟨b2,0,none⟩=some (.func (.func F) #[] caps)))
 have hC:=hCS.out W2 (Below.refl _ _)
 obtain⟨i0,hi0,hz0,hz1,hz2⟩:=info_parts infoStr6
 clear hb hac hlc hb1 hb2 cw cf hcall hlen c0 c1 c2 c3 c4 c5 c6 c7
 replace hW2:=Lib.hid hW2
 replace hB:=Lib.hid hB
 replace ha:=Lib.hid ha
 replace hl:=Lib.hid hl
 go_enter Tryz.func37,Tryz.ntmps37
 go_upto_region 1 with fail
 rw [hW2.out]
 clear hW2
 refine wp_region_held_drew (S:=(fun w'=>w'.cell? ⟨w.heap.size,0,none⟩=some (.int .u8 d.op)∧w'.cell? ⟨w.heap.size,1,none⟩=some (.string d.dst)∧w'.cell? ⟨w.heap.size,2,none⟩=some (.string d.a)∧w'.cell? ⟨w.heap.size,3,none⟩=some (.string d.b)∧w'.cell? ⟨w.heap.size,4,none⟩=some (.int .i64 d.n)∧w'.cell? ⟨w.heap.size,5,none⟩=some (.string d.fn)∧w'.cell? ⟨w.heap.size,6,none⟩=some (.slice aa d.args.length ca)∧w'.cell? ⟨w.heap.size,7,none⟩=some (.slice al d.labels.length cl)∧w'.cell? ⟨b1,0,none⟩=some (.string word)∧w'.cell? ⟨b2,0,none⟩=some (.func (.func F) #[] caps))) (by kernel_rfl) hC (fun hHeld=>?_)
 clear hHeld
 refine wpAnyH_take (i:=0) (oi:=(.mk (some 5) (.load 9 (.tmp 1)) 9 "show.go:67" #[] none)) (v:=?_) rfl (by kernel_rfl) (by kernel_rfl) (by kernel_rfl) (fun _ _ _ h=>h) (Or.inl ⟨by rfl,?_⟩) hC ?_
 rotate_left
 ·(intro w hSw;(try dsimp only at hSw);go_simp;try with_reducible rfl)
 try simp only [Act.put,List.setIfInBounds_toArray,List.set_cons_zero,List.set_cons_succ]
 refine wpAnyH_take (i:=2) (oi:=(.mk (some 7) (.load 93 (.tmp 2)) 93 "show.go:67" #[] none)) (v:=?_) rfl (by kernel_rfl) (by kernel_rfl) (by kernel_rfl) (fun _ _ _ h=>h) (Or.inl ⟨by rfl,?_⟩) hC ?_
 rotate_left
 ·(intro w hSw;(try dsimp only at hSw);go_simp;try with_reducible rfl)
 try simp only [Act.put,List.setIfInBounds_toArray,List.set_cons_zero,List.set_cons_succ]
 refine wpAnyH_take (i:=3) (oi:=(.mk (some 8) (.load 46 (.tmp 3)) 46 "show.go:67" #[] none)) (v:=?_) rfl (by kernel_rfl) (by kernel_rfl) (by kernel_rfl) (fun _ _ _ h=>h) (Or.inl ⟨by rfl,?_⟩) hC ?_
 rotate_left
 ·(intro w hSw;(try dsimp only at hSw);go_simp;try with_reducible rfl)
 try simp only [Act.put,List.setIfInBounds_toArray,List.set_cons_zero,List.set_cons_succ]
 refine wpAnyH_ready (rs:=[1,4]) (by kernel_rfl) (by simp) (AllReadyH.cons (o:=(.mk (some 6) (.buildSlice 37 1 #[(0,(.tmp 5))]) 37 "show.go:67" #[.mk 0 .data] none)) rfl (fun K hK=>?_) (AllReadyH.cons (o:=(.mk (some 9) (.call (.mk (.value (.tmp 7)) #[(.tmp 8)] #[46])) 37 "show.go:67" #[.mk 2 .data,.mk 3 .data] none)) rfl (fun K hK=>?_) AllReadyH.nil))
 ·skip
  go_simp
  have hBa:=Lib.hid (show Below W2.heap.size W2 (W2.drew.alloc (.cells #[.string word] 9)) from (Below.drew (Below.refl W2.heap.size W2)).alloc (Nat.le_refl _) _)
  have hrow:=Lib.hid (row_of_block (w:=W2.drew.alloc (.cells #[.string word] 9)) (g:=W2.drew.heap.size) (base:=W2.heap.size) (cs:=[.string word]) (heap_alloc_new W2.drew _) (Nat.le_refl _) (by simp [maxLen]))
  replace hC:=hCS.out _ hBa.out
  refine hK.out _ _ hC (fun hHeld=>?_)
  clear hK K hHeld
  try simp only [Act.put,List.setIfInBounds_toArray,List.set_cons_zero,List.set_cons_succ]
  refine wpAnyH_ready (rs:=[4]) (by kernel_rfl) (by simp) (AllReadyH.cons (o:=(.mk (some 9) (.call (.mk (.value (.tmp 7)) #[(.tmp 8)] #[46])) 37 "show.go:67" #[.mk 2 .data,.mk 3 .data] none)) rfl (fun K hK=>?_) AllReadyH.nil)
  go_simp
  (go_at_fn F;refine Calls.mono (hcl.out _ hBa.out) ?_;rintro e w3 ⟨v4,rfl,hR4,hbb⟩)
  obtain⟨a4,c4,rfl,hc4⟩:=hR4.cells
  have hB3:=Lib.hid (show Below W2.heap.size W2 w3 from hBa.out.trans (hbb.mono hBa.out.size))
  replace hC:=hCS.out w3 hB3.out
  replace hrow:=Lib.hid (ownsRow_touch (S:=fun k=>(W2.drew.alloc (.cells #[.string word] 9)).heap.size≤k) hrow.out (Touch.of_below hbb _) (fun k e1 e2=>by have:=(hrow.out.lt k e1).2;omega))
  replace hR4:=Lib.hid hR4
  clear hbb hc4
  refine hK.out _ _ hC (fun hHeld=>?_)
  clear hK K hHeld
  try simp only [Act.put,List.setIfInBounds_toArray,List.set_cons_zero,List.set_cons_succ]
  refine wpAnyH_ready (rs:=[5]) (by kernel_rfl) (by simp) (AllReadyH.cons (o:=(.mk (some 10) (.call (.mk (.builtin Builtin.append) #[(.tmp 6),(.tmp 9)] #[37,37])) 37 "show.go:67" #[.mk 1 .data,.mk 4 .data,.mk 4 .chain] none)) rfl (fun K hK=>?_) AllReadyH.nil)
  (refine step_append_rd _ rfl _ _ 37 rfl W2.heap.size 9 i0 (.string ⟨#[]⟩) 16 Tryz.underlying37 hi0 hz0 hz1 hz2 rfl _ 1 _ rfl hrow.out _ (Rd0.map Value.string) (by rfl) hR4.out.1 (fun u hu=>by obtain⟨s,-,rfl⟩:=List.mem_map.1 hu;rfl) (by rw [List.length_map];unfold maxLen;omega) (by rw [List.length_map];omega) hB3.out.size ?_;intro v5 w5 hown5 hgrow5)
  obtain⟨a5,n5,c5',rfl⟩:∃a n c,v5=.slice a n c:=by obtain⟨a,c,e⟩:=own_form6 hown5;exact⟨_,_,_,e⟩
  have hB5:=Lib.hid (hB3.out.grown hgrow5 hB3.out.size (fun k e=>(hrow.out.lt k e).1))
  replace hC:=hCS.out w5 hB5.out
  have hR5:=Lib.hid (own_rdc (ss:=[word]++Rd0) (by simpa using hown5) (by simp;omega))
  clear hgrow5 hown5
  refine hK.out _ _ hC (fun hHeld=>?_)
  clear hK K hHeld
  try simp only [Act.put,List.setIfInBounds_toArray,List.set_cons_zero,List.set_cons_succ]
  refine wpAnyH_take (i:=6) (oi:=(.mk (some 4) (.assign (.tmp 10)) 37 "show.go:67" #[.mk 5 .data,.mk 5 .chain,.mk 0 .phase,.mk 1 .phase,.mk 2 .phase,.mk 3 .phase,.mk 4 .phase,.mk 5 .phase] none)) (v:=?_) rfl (by kernel_rfl) (by kernel_rfl) (by kernel_rfl) (fun _ _ _ h=>h) (Or.inl ⟨by rfl,?_⟩) hC ?_
  rotate_left
  ·(intro w hSw;(try dsimp only at hSw);go_simp;try with_reducible rfl)
  try simp only [Act.put,List.setIfInBounds_toArray,List.set_cons_zero,List.set_cons_succ]
  refine wpAnyH_done (by kernel_rfl) ?_ _
  go_wp2_with fail
  go_ret
  exact⟨_,rfl,hR5.out,hB.out.trans (hB5.out.mono hB.out.size)⟩
 ·skip
  go_simp
  (go_at_fn F;refine Calls.mono (hcl.out _ (Below.drew (Below.refl W2.heap.size W2))) ?_;rintro e w3 ⟨v4,rfl,hR4,hbb⟩)
  obtain⟨a4,c4,rfl,hc4⟩:=hR4.cells
  have hB3:=Lib.hid (show Below W2.heap.size W2 w3 from (Below.drew (Below.refl W2.heap.size W2)).trans (hbb.mono (Nat.le_refl _)))
  replace hC:=hCS.out w3 hB3.out
  replace hR4:=Lib.hid hR4
  clear hbb hc4
  refine hK.out _ _ hC (fun hHeld=>?_)
  clear hK K hHeld
  try simp only [Act.put,List.setIfInBounds_toArray,List.set_cons_zero,List.set_cons_succ]
  refine wpAnyH_ready (rs:=[1]) (by kernel_rfl) (by simp) (AllReadyH.cons (o:=(.mk (some 6) (.buildSlice 37 1 #[(0,(.tmp 5))]) 37 "show.go:67" #[.mk 0 .data] none)) rfl (fun K hK=>?_) AllReadyH.nil)
  go_simp
  have hBa:=Lib.hid (show Below W2.heap.size W2 (w3.alloc (.cells #[.string word] 9)) from hB3.out.alloc hB3.out.size _)
  have hrow:=Lib.hid (row_of_block (w:=w3.alloc (.cells #[.string word] 9)) (g:=w3.heap.size) (base:=W2.heap.size) (cs:=[.string word]) (heap_alloc_new w3 _) hB3.out.size (by simp [maxLen]))
  replace hR4:=Lib.hid (hR4.out.below ((Below.refl w3.heap.size w3).alloc (Nat.le_refl _) (.cells #[.string word] 9)))
  replace hC:=hCS.out _ hBa.out
  refine hK.out _ _ hC (fun hHeld=>?_)
  clear hK K hHeld
  try simp only [Act.put,List.setIfInBounds_toArray,List.set_cons_zero,List.set_cons_succ]
  refine wpAnyH_ready (rs:=[5]) (by kernel_rfl) (by simp) (AllReadyH.cons (o:=(.mk (some 10) (.call (.mk (.builtin Builtin.append) #[(.tmp 6),(.tmp 9)] #[37,37])) 37 "show.go:67" #[.mk 1 .data,.mk 4 .data,.mk 4 .chain] none)) rfl (fun K hK=>?_) AllReadyH.nil)
  (refine step_append_rd _ rfl _ _ 37 rfl W2.heap.size 9 i0 (.string ⟨#[]⟩) 16 Tryz.underlying37 hi0 hz0 hz1 hz2 rfl _ 1 _ rfl hrow.out _ (Rd0.map Value.string) (by rfl) hR4.out.1 (fun u hu=>by obtain⟨s,-,rfl⟩:=List.mem_map.1 hu;rfl) (by rw [List.length_map];unfold maxLen;omega) (by rw [List.length_map];omega) hBa.out.size ?_;intro v5 w5 hown5 hgrow5)
  obtain⟨a5,n5,c5',rfl⟩:∃a n c,v5=.slice a n c:=by obtain⟨a,c,e⟩:=own_form6 hown5;exact⟨_,_,_,e⟩
  have hB5:=Lib.hid (hBa.out.grown hgrow5 hBa.out.size (fun k e=>(hrow.out.lt k e).1))
  replace hC:=hCS.out w5 hB5.out
  have hR5:=Lib.hid (own_rdc (ss:=[word]++Rd0) (by simpa using hown5) (by simp;omega))
  clear hgrow5 hown5
  refine hK.out _ _ hC (fun hHeld=>?_)
  clear hK K hHeld
  try simp only [Act.put,List.setIfInBounds_toArray,List.set_cons_zero,List.set_cons_succ]
  refine wpAnyH_take (i:=6) (oi:=(.mk (some 4) (.assign (.tmp 10)) 37 "show.go:67" #[.mk 5 .data,.mk 5 .chain,.mk 0 .phase,.mk 1 .phase,.mk 2 .phase,.mk 3 .phase,.mk 4 .phase,.mk 5 .phase] none)) (v:=?_) rfl (by kernel_rfl) (by kernel_rfl) (by kernel_rfl) (fun _ _ _ h=>h) (Or.inl ⟨by rfl,?_⟩) hC ?_
  rotate_left
  ·(intro w hSw;(try dsimp only at hSw);go_simp;try with_reducible rfl)
  try simp only [Act.put,List.setIfInBounds_toArray,List.set_cons_zero,List.set_cons_succ]
  refine wpAnyH_done (by kernel_rfl) ?_ _
  go_wp2_with fail
  go_ret
  exact⟨_,rfl,hR5.out,hB.out.trans (hB5.out.mono hB.out.size)⟩
set_option maxRecDepth 20000 in
set_option maxHeartbeats 1000000 in
theorem mk1_any {w:World}{f:Value}{G:Ins→Prop}{R:Ins→List ByteArray}{N:Nat}(word:ByteArray)(hf:FormAt w f G R N)(hN:N≤100000):Calls Tryz.prog 34 #[.string word,f] w fun e w'=>∃v,e=.returned v∧FormAt w' v G (fun d=>[d.dst,⟨#[61]⟩,word]++R d) (N+3)∧Below w.heap.size w w':=by
 have hL:=hf
 obtain⟨F,caps,rfl,-,hlen,-⟩:=hL
 obtain⟨w2,hw2⟩:∃w2,(w.alloc (.cells #[.string word] 9)).alloc (.cells #[.func (.func F) #[] caps] 93)=w2:=⟨_,rfl⟩
 have hb:Below w.heap.size w w2:=by rw [←hw2];exact ((Below.refl _ _).alloc (Nat.le_refl _) _).alloc (by simp) _
 have h1:w2.heap[w.heap.size]?=some (.cells #[.string word] 9 (0,0)):=by rw [←hw2];exact at_oldN (at_newN rfl)
 have h2:w2.heap[w.heap.size+1]?=some (.cells #[.func (.func F) #[] caps] 93 (0,0)):=by rw [←hw2];exact at_newN (by simp)
 have hF:FormAt w2 (.func (.func 35) #[] #[.pointer (some ⟨w.heap.size,0,none⟩),.pointer (some ⟨w.heap.size+1,0,none⟩)]) G (fun d=>[d.dst,⟨#[61]⟩,word]++R d) (N+3):=by
  refine⟨_,_,rfl,enters_of Tryz.func35 (by kernel_rfl) rfl,fun d hk hG=>by have:=hlen d hk hG;simp;omega,fun W hW d va vl ha hl hk hG=>?_⟩
  have e1:=hW.lies h1 (by decide)
  have e2:=hW.lies h2 (by decide)
  exact g1_any hN ha hl hk hG (hf.keep ((Stays.of_below hb).trans hW)) ⟨by rw [blk_cell e1];rfl,(Array.getElem?_eq_some_iff.1 e1).1⟩ ⟨by rw [blk_cell e2];rfl,(Array.getElem?_eq_some_iff.1 e2).1⟩
 replace hF:=Lib.hid hF
 replace hb:=Lib.hid hb
 replace hw2:=Lib.hid hw2
 clear h1 h2 hf hlen
 go_enter Tryz.func34,Tryz.ntmps34
 go_upto_region 1 with fail
 rw [hw2.out]
 go_wp2_with fail
 go_ret
 exact⟨_,rfl,hF.out,hb.out⟩
set_option maxRecDepth 20000 in
set_option maxHeartbeats 1000000 in
theorem mk2_any {w:World}{f:Value}{G:Ins→Prop}{R:Ins→List ByteArray}{N:Nat}(word:ByteArray)(hf:FormAt w f G R N)(hN:N≤100000):Calls Tryz.prog 36 #[.string word,f] w fun e w'=>∃v,e=.returned v∧FormAt w' v G (fun d=>[word]++R d) (N+1)∧Below w.heap.size w w':=by
 have hL:=hf
 obtain⟨F,caps,rfl,-,hlen,-⟩:=hL
 obtain⟨w2,hw2⟩:∃w2,(w.alloc (.cells #[.string word] 9)).alloc (.cells #[.func (.func F) #[] caps] 93)=w2:=⟨_,rfl⟩
 have hb:Below w.heap.size w w2:=by rw [←hw2];exact ((Below.refl _ _).alloc (Nat.le_refl _) _).alloc (by simp) _
 have h1:w2.heap[w.heap.size]?=some (.cells #[.string word] 9 (0,0)):=by rw [←hw2];exact at_oldN (at_newN rfl)
 have h2:w2.heap[w.heap.size+1]?=some (.cells #[.func (.func F) #[] caps] 93 (0,0)):=by rw [←hw2];exact at_newN (by simp)
 have hF:FormAt w2 (.func (.func 37) #[] #[.pointer (some ⟨w.heap.size,0,none⟩),.pointer (some ⟨w.heap.size+1,0,none⟩)]) G (fun d=>[word]++R d) (N+1):=by
  refine⟨_,_,rfl,enters_of Tryz.func37 (by kernel_rfl) rfl,fun d hk hG=>by have:=hlen d hk hG;simp;omega,fun W hW d va vl ha hl hk hG=>?_⟩
  have e1:=hW.lies h1 (by decide)
  have e2:=hW.lies h2 (by decide)
  exact g2_any hN ha hl hk hG (hf.keep ((Stays.of_below hb).trans hW)) ⟨by rw [blk_cell e1];rfl,(Array.getElem?_eq_some_iff.1 e1).1⟩ ⟨by rw [blk_cell e2];rfl,(Array.getElem?_eq_some_iff.1 e2).1⟩
 replace hF:=Lib.hid hF
 replace hb:=Lib.hid hb
 replace hw2:=Lib.hid hw2
 clear h1 h2 hf hlen
 go_enter Tryz.func36,Tryz.ntmps36
 go_upto_region 1 with fail
 rw [hw2.out]
 go_wp2_with fail
 go_ret
 exact⟨_,rfl,hF.out,hb.out⟩
set_option maxRecDepth 20000 in
set_option maxHeartbeats 4000000 in
theorem g3_any {w:World}{d:Ins}{va vl f:Value}{G:Ins→Prop}{R:Ins→List ByteArray}{word:ByteArray}{b1 b2 b3 b4 N:Nat}(hN:N≤100000)(ha:RdC w va d.args)(hl:RdC w vl d.labels)(hk:InsOk d)(hG:G d)(hf:FormAt w f G R N)(h1:w.cell? ⟨b1,0,none⟩=some (.func (.func 36) #[] #[])∧b1<w.heap.size)(h2:w.cell? ⟨b2,0,none⟩=some (.string word)∧b2<w.heap.size)(h3:w.cell? ⟨b3,0,none⟩=some f∧b3<w.heap.size)(h4:w.cell? ⟨b4,0,none⟩=some (.func (.func 34) #[] #[])∧b4<w.heap.size):Calls Tryz.prog 39 #[.agg (insV d va vl).toArray,.pointer (some ⟨b1,0,none⟩),.pointer (some ⟨b2,0,none⟩),.pointer (some ⟨b3,0,none⟩),.pointer (some ⟨b4,0,none⟩)] w fun e w'=>∃v,e=.returned v∧RdC w' v (if bL d.dst=[] then [word]++R d else [d.dst,⟨#[61]⟩,word]++R d)∧Below w.heap.size w w':=by
 obtain⟨aa,ca,rfl,hca,hac⟩:=ha.cells
 obtain⟨al,cl,rfl,hcl0,hlc⟩:=hl.cells
 obtain⟨W2,hW2⟩:∃W2,w.alloc (.cells (insV d (.slice aa d.args.length ca) (.slice al d.labels.length cl)).toArray 46)=W2:=⟨_,rfl⟩
 have hb:W2.heap[w.heap.size]?=some (.cells (insV d (.slice aa d.args.length ca) (.slice al d.labels.length cl)).toArray 46 (0,0)):=by rw [←hW2];exact at_newN rfl
 have hB:Below w.heap.size w W2:=by rw [←hW2];exact (Below.refl _ _).alloc (Nat.le_refl _) _
 have hlt:w.heap.size<W2.heap.size:=(Array.getElem?_eq_some_iff.1 hb).1
 have hfm:=hf
 obtain⟨F,caps,rfl,hent,hlen,-⟩:=hf
 obtain⟨Rd0,hRd⟩:∃L,L=(if bL d.dst=[] then [word]++R d else [d.dst,⟨#[61]⟩,word]++R d):=⟨_,rfl⟩
 rw [←hRd]
 replace hRd:=Lib.hid hRd
 have c0:W2.cell? ⟨w.heap.size,0,none⟩=some (.int .u8 d.op):=by rw [blk_cell hb];rfl
 have c1:W2.cell? ⟨w.heap.size,1,none⟩=some (.string d.dst):=by rw [blk_cell hb];rfl
 have c2:W2.cell? ⟨w.heap.size,2,none⟩=some (.string d.a):=by rw [blk_cell hb];rfl
 have c3:W2.cell? ⟨w.heap.size,3,none⟩=some (.string d.b):=by rw [blk_cell hb];rfl
 have c4:W2.cell? ⟨w.heap.size,4,none⟩=some (.int .i64 d.n):=by rw [blk_cell hb];rfl
 have c5:W2.cell? ⟨w.heap.size,5,none⟩=some (.string d.fn):=by rw [blk_cell hb];rfl
 have c6:W2.cell? ⟨w.heap.size,6,none⟩=some (.slice aa d.args.length ca):=by rw [blk_cell hb];rfl
 have c7:W2.cell? ⟨w.heap.size,7,none⟩=some (.slice al d.labels.length cl):=by rw [blk_cell hb];rfl
 have i1:W2.cell? ⟨b1,0,none⟩=some (.func (.func 36) #[] #[]):=(hB.cell (p:=⟨b1,0,none⟩) h1.2).trans h1.1
 have i2:W2.cell? ⟨b2,0,none⟩=some (.string word):=(hB.cell (p:=⟨b2,0,none⟩) h2.2).trans h2.1
 have i3:W2.cell? ⟨b3,0,none⟩=some (.func (.func F) #[] caps):=(hB.cell (p:=⟨b3,0,none⟩) h3.2).trans h3.1
 have i4:W2.cell? ⟨b4,0,none⟩=some (.func (.func 34) #[] #[]):=(hB.cell (p:=⟨b4,0,none⟩) h4.2).trans h4.1
 have l1:b1<W2.heap.size:=Nat.lt_of_lt_of_le h1.2 hB.size
 have l2:b2<W2.heap.size:=Nat.lt_of_lt_of_le h2.2 hB.size
 have l3:b3<W2.heap.size:=Nat.lt_of_lt_of_le h3.2 hB.size
 have l4:b4<W2.heap.size:=Nat.lt_of_lt_of_le h4.2 hB.size
 have hCS:=Lib.hid (fun (W:World) (hw:Below W2.heap.size W2 W)=>(⟨(hw.cell (p:=⟨w.heap.size,0,none⟩) hlt).trans c0,(hw.cell (p:=⟨w.heap.size,1,none⟩) hlt).trans c1,(hw.cell (p:=⟨w.heap.size,2,none⟩) hlt).trans c2,(hw.cell (p:=⟨w.heap.size,3,none⟩) hlt).trans c3,(hw.cell (p:=⟨w.heap.size,4,none⟩) hlt).trans c4,(hw.cell (p:=⟨w.heap.size,5,none⟩) hlt).trans c5,(hw.cell (p:=⟨w.heap.size,6,none⟩) hlt).trans c6,(hw.cell (p:=⟨w.heap.size,7,none⟩) hlt).trans c7,(hw.cell (p:=⟨b1,0,none⟩) l1).trans i1,(hw.cell (p:=⟨b2,0,none⟩) l2).trans i2,(hw.cell (p:=⟨b3,0,none⟩) l3).trans i3,(hw.cell (p:=⟨b4,0,none⟩) l4).trans i4⟩:W.cell? ⟨w.heap.size,0,none⟩=some (.int .u8 d.op)∧W.cell? ⟨w.heap.size,1,none⟩=some (.string d.dst)∧W.cell? ⟨w.heap.size,2,none⟩=some (.string d.a)∧W.cell? ⟨w.heap.size,3,none⟩=some (.string d.b)∧W.cell? ⟨w.heap.size,4,none⟩=some (.int .i64 d.n)∧W.cell? ⟨w.heap.size,5,none⟩=some (.string d.fn)∧W.cell? ⟨w.heap.size,6,none⟩=some (.slice aa d.args.length ca)∧W.cell? ⟨w.heap.size,7,none⟩=some (.slice al d.labels.length cl)∧W.cell? ⟨b1,0,none⟩=some (.func (.func 36) #[] #[])∧W.cell? ⟨b2,0,none⟩=some (.string word)∧W.cell? ⟨b3,0,none⟩=some (.func (.func F) #[] caps)∧W.cell? ⟨b4,0,none⟩=some (.func (.func 34) #[] #[])))
 have hC:=hCS.out W2 (Below.refl _ _)
 clear hb hac hlc h1 h2 h3 h4 i1 i2 i3 i4 hlen hent c0 c2 c3 c4 c5 c6 c7
 replace hW2:=Lib.hid hW2
 replace hB:=Lib.hid hB
 replace ha:=Lib.hid ha
 replace hl:=Lib.hid hl
 by_cases hx:bL d.dst=[]
 ·have e1:=(empty_iff d.dst).2 hx
  rw [e1] at c1
  go_enter Tryz.func39,Tryz.ntmps39
  go_upto_region 1 with fail
  rw [hW2.out]
  clear hW2
  go_upto_region 2 with fail
  clear c1 e1
  refine wp_region_held_drew (S:=(fun w'=>w'.cell? ⟨w.heap.size,0,none⟩=some (.int .u8 d.op)∧w'.cell? ⟨w.heap.size,1,none⟩=some (.string d.dst)∧w'.cell? ⟨w.heap.size,2,none⟩=some (.string d.a)∧w'.cell? ⟨w.heap.size,3,none⟩=some (.string d.b)∧w'.cell? ⟨w.heap.size,4,none⟩=some (.int .i64 d.n)∧w'.cell? ⟨w.heap.size,5,none⟩=some (.string d.fn)∧w'.cell? ⟨w.heap.size,6,none⟩=some (.slice aa d.args.length ca)∧w'.cell? ⟨w.heap.size,7,none⟩=some (.slice al d.labels.length cl)∧w'.cell? ⟨b1,0,none⟩=some (.func (.func 36) #[] #[])∧w'.cell? ⟨b2,0,none⟩=some (.string word)∧w'.cell? ⟨b3,0,none⟩=some (.func (.func F) #[] caps)∧w'.cell? ⟨b4,0,none⟩=some (.func (.func 34) #[] #[]))) (by kernel_rfl) hC (fun hHeld=>?_)
  clear hHeld
  refine wpAnyH_take (i:=0) (oi:=(.mk (some 10) (.load 94 (.tmp 1)) 94 "show.go:72" #[] none)) (v:=?_) rfl (by kernel_rfl) (by kernel_rfl) (by kernel_rfl) (fun _ _ _ h=>h) (Or.inl ⟨by rfl,?_⟩) hC ?_
  rotate_left
  ·(intro w hSw;(try dsimp only at hSw);go_simp;try with_reducible rfl)
  try simp only [Act.put,List.setIfInBounds_toArray,List.set_cons_zero,List.set_cons_succ]
  refine wpAnyH_take (i:=1) (oi:=(.mk (some 11) (.load 9 (.tmp 2)) 9 "show.go:72" #[] none)) (v:=?_) rfl (by kernel_rfl) (by kernel_rfl) (by kernel_rfl) (fun _ _ _ h=>h) (Or.inl ⟨by rfl,?_⟩) hC ?_
  rotate_left
  ·(intro w hSw;(try dsimp only at hSw);go_simp;try with_reducible rfl)
  try simp only [Act.put,List.setIfInBounds_toArray,List.set_cons_zero,List.set_cons_succ]
  refine wpAnyH_take (i:=2) (oi:=(.mk (some 12) (.load 93 (.tmp 3)) 93 "show.go:72" #[] none)) (v:=?_) rfl (by kernel_rfl) (by kernel_rfl) (by kernel_rfl) (fun _ _ _ h=>h) (Or.inl ⟨by rfl,?_⟩) hC ?_
  rotate_left
  ·(intro w hSw;(try dsimp only at hSw);go_simp;try with_reducible rfl)
  try simp only [Act.put,List.setIfInBounds_toArray,List.set_cons_zero,List.set_cons_succ]
  refine wpAnyH_take (i:=4) (oi:=(.mk (some 14) (.load 46 (.tmp 5)) 46 "show.go:72" #[] none)) (v:=?_) rfl (by kernel_rfl) (by kernel_rfl) (by kernel_rfl) (fun _ _ _ h=>h) (Or.inl ⟨by rfl,?_⟩) hC ?_
  rotate_left
  ·(intro w hSw;(try dsimp only at hSw);go_simp;try with_reducible rfl)
  try simp only [Act.put,List.setIfInBounds_toArray,List.set_cons_zero,List.set_cons_succ]
  refine wpAnyH_ready (rs:=[3]) (by kernel_rfl) (by simp) (AllReadyH.cons (o:=(.mk (some 13) (.call (.mk (.value (.tmp 10)) #[(.tmp 11),(.tmp 12)] #[9,93])) 93 "show.go:72" #[.mk 0 .data,.mk 1 .data,.mk 2 .data] none)) rfl (fun K hK=>?_) AllReadyH.nil)
  go_simp
  (go_at_call 36;refine Calls.mono (mk2_any word (hfm.keep (Stays.of_below (hB.out.trans ((Below.drew (Below.refl W2.heap.size W2)).mono hB.out.size)))) hN) ?_;rintro e w3 ⟨v3,rfl,hF3,hb⟩)
  obtain⟨F3,caps3,rfl,hent3,hlen3,hcall3⟩:=hF3
  have hB3:=Lib.hid (show Below W2.heap.size W2 w3 from (Below.drew (Below.refl W2.heap.size W2)).trans hb)
  replace hC:=hCS.out w3 hB3.out
  have hcl3:=Lib.hid (hcall3 w3 (Stays.refl _) d _ _ ((ha.out.below hB.out).below hB3.out) ((hl.out.below hB.out).below hB3.out) hk hG)
  clear hb hlen3 hcall3
  refine hK.out _ _ hC (fun hHeld=>?_)
  clear hK K hHeld
  try simp only [Act.put,List.setIfInBounds_toArray,List.set_cons_zero,List.set_cons_succ]
  refine wpAnyH_ready (rs:=[5]) (by kernel_rfl) (by simp) (AllReadyH.cons (o:=(.mk (some 15) (.call (.mk (.value (.tmp 13)) #[(.tmp 14)] #[46])) 37 "show.go:72" #[.mk 3 .data,.mk 4 .data,.mk 3 .chain] none)) rfl (fun K hK=>?_) AllReadyH.nil)
  go_simp
  (go_at_fn F3;refine Calls.mono hcl3.out ?_;rintro e w4 ⟨v4,rfl,hR4,hb⟩)
  have hB4:=Lib.hid (show Below W2.heap.size W2 w4 from hB3.out.trans (hb.mono hB3.out.size))
  replace hC:=hCS.out w4 hB4.out
  replace hR4:=Lib.hid hR4
  clear hb
  refine hK.out _ _ hC (fun hHeld=>?_)
  clear hK K hHeld
  try simp only [Act.put,List.setIfInBounds_toArray,List.set_cons_zero,List.set_cons_succ]
  refine wpAnyH_take (i:=6) (oi:=(.mk (some 6) (.assign (.tmp 15)) 37 "show.go:72" #[.mk 5 .data,.mk 5 .chain,.mk 0 .phase,.mk 1 .phase,.mk 2 .phase,.mk 3 .phase,.mk 4 .phase,.mk 5 .phase] none)) (v:=?_) rfl (by kernel_rfl) (by kernel_rfl) (by kernel_rfl) (fun _ _ _ h=>h) (Or.inl ⟨by rfl,?_⟩) hC ?_
  rotate_left
  ·(intro w hSw;(try dsimp only at hSw);go_simp;try with_reducible rfl)
  try simp only [Act.put,List.setIfInBounds_toArray,List.set_cons_zero,List.set_cons_succ]
  refine wpAnyH_done (by kernel_rfl) ?_ _
  go_wp2_with fail
  go_ret
  exact⟨_,rfl,(by rw [hRd.out,if_pos hx];exact hR4.out),hB.out.trans (hB4.out.mono hB.out.size)⟩
 ·have e1:(d.dst.toList==[])=false:=by
   have h:=bL_nil (s:=d.dst)
   cases h1:d.dst.toList with
   | nil=>rw [h1] at h;cases h2:bL d.dst with | nil=>exact absurd h2 hx | cons _ _=>rw [h2] at h;cases h
   | cons _ _=>rfl
  go_enter Tryz.func39,Tryz.ntmps39
  go_upto_region 1 with fail
  rw [hW2.out]
  clear hW2
  go_upto_region 3 with fail
  clear c1
  refine wp_region_held_drew (S:=(fun w'=>w'.cell? ⟨w.heap.size,0,none⟩=some (.int .u8 d.op)∧w'.cell? ⟨w.heap.size,1,none⟩=some (.string d.dst)∧w'.cell? ⟨w.heap.size,2,none⟩=some (.string d.a)∧w'.cell? ⟨w.heap.size,3,none⟩=some (.string d.b)∧w'.cell? ⟨w.heap.size,4,none⟩=some (.int .i64 d.n)∧w'.cell? ⟨w.heap.size,5,none⟩=some (.string d.fn)∧w'.cell? ⟨w.heap.size,6,none⟩=some (.slice aa d.args.length ca)∧w'.cell? ⟨w.heap.size,7,none⟩=some (.slice al d.labels.length cl)∧w'.cell? ⟨b1,0,none⟩=some (.func (.func 36) #[] #[])∧w'.cell? ⟨b2,0,none⟩=some (.string word)∧w'.cell? ⟨b3,0,none⟩=some (.func (.func F) #[] caps)∧w'.cell? ⟨b4,0,none⟩=some (.func (.func 34) #[] #[]))) (by kernel_rfl) hC (fun hHeld=>?_)
  clear hHeld
  refine wpAnyH_take (i:=0) (oi:=(.mk (some 16) (.load 94 (.tmp 4)) 94 "show.go:74" #[] none)) (v:=?_) rfl (by kernel_rfl) (by kernel_rfl) (by kernel_rfl) (fun _ _ _ h=>h) (Or.inl ⟨by rfl,?_⟩) hC ?_
  rotate_left
  ·(intro w hSw;(try dsimp only at hSw);go_simp;try with_reducible rfl)
  try simp only [Act.put,List.setIfInBounds_toArray,List.set_cons_zero,List.set_cons_succ]
  refine wpAnyH_take (i:=1) (oi:=(.mk (some 17) (.load 9 (.tmp 2)) 9 "show.go:74" #[] none)) (v:=?_) rfl (by kernel_rfl) (by kernel_rfl) (by kernel_rfl) (fun _ _ _ h=>h) (Or.inl ⟨by rfl,?_⟩) hC ?_
  rotate_left
  ·(intro w hSw;(try dsimp only at hSw);go_simp;try with_reducible rfl)
  try simp only [Act.put,List.setIfInBounds_toArray,List.set_cons_zero,List.set_cons_succ]
  refine wpAnyH_take (i:=2) (oi:=(.mk (some 18) (.load 93 (.tmp 3)) 93 "show.go:74" #[] none)) (v:=?_) rfl (by kernel_rfl) (by kernel_rfl) (by kernel_rfl) (fun _ _ _ h=>h) (Or.inl ⟨by rfl,?_⟩) hC ?_
  rotate_left
  ·(intro w hSw;(try dsimp only at hSw);go_simp;try with_reducible rfl)
  try simp only [Act.put,List.setIfInBounds_toArray,List.set_cons_zero,List.set_cons_succ]
  refine wpAnyH_take (i:=4) (oi:=(.mk (some 20) (.load 46 (.tmp 5)) 46 "show.go:74" #[] none)) (v:=?_) rfl (by kernel_rfl) (by kernel_rfl) (by kernel_rfl) (fun _ _ _ h=>h) (Or.inl ⟨by rfl,?_⟩) hC ?_
  rotate_left
  ·(intro w hSw;(try dsimp only at hSw);go_simp;try with_reducible rfl)
  try simp only [Act.put,List.setIfInBounds_toArray,List.set_cons_zero,List.set_cons_succ]
  refine wpAnyH_ready (rs:=[3]) (by kernel_rfl) (by simp) (AllReadyH.cons (o:=(.mk (some 19) (.call (.mk (.value (.tmp 16)) #[(.tmp 17),(.tmp 18)] #[9,93])) 93 "show.go:74" #[.mk 0 .data,.mk 1 .data,.mk 2 .data] none)) rfl (fun K hK=>?_) AllReadyH.nil)
  go_simp
  (go_at_call 34;refine Calls.mono (mk1_any word (hfm.keep (Stays.of_below (hB.out.trans ((Below.drew (Below.refl W2.heap.size W2)).mono hB.out.size)))) hN) ?_;rintro e w3 ⟨v3,rfl,hF3,hb⟩)
  obtain⟨F3,caps3,rfl,hent3,hlen3,hcall3⟩:=hF3
  have hB3:=Lib.hid (show Below W2.heap.size W2 w3 from (Below.drew (Below.refl W2.heap.size W2)).trans hb)
  replace hC:=hCS.out w3 hB3.out
  have hcl3:=Lib.hid (hcall3 w3 (Stays.refl _) d _ _ ((ha.out.below hB.out).below hB3.out) ((hl.out.below hB.out).below hB3.out) hk hG)
  clear hb hlen3 hcall3
  refine hK.out _ _ hC (fun hHeld=>?_)
  clear hK K hHeld
  try simp only [Act.put,List.setIfInBounds_toArray,List.set_cons_zero,List.set_cons_succ]
  refine wpAnyH_ready (rs:=[5]) (by kernel_rfl) (by simp) (AllReadyH.cons (o:=(.mk (some 21) (.call (.mk (.value (.tmp 19)) #[(.tmp 20)] #[46])) 37 "show.go:74" #[.mk 3 .data,.mk 4 .data,.mk 3 .chain] none)) rfl (fun K hK=>?_) AllReadyH.nil)
  go_simp
  (go_at_fn F3;refine Calls.mono hcl3.out ?_;rintro e w4 ⟨v4,rfl,hR4,hb⟩)
  have hB4:=Lib.hid (show Below W2.heap.size W2 w4 from hB3.out.trans (hb.mono hB3.out.size))
  replace hC:=hCS.out w4 hB4.out
  replace hR4:=Lib.hid hR4
  clear hb
  refine hK.out _ _ hC (fun hHeld=>?_)
  clear hK K hHeld
  try simp only [Act.put,List.setIfInBounds_toArray,List.set_cons_zero,List.set_cons_succ]
  refine wpAnyH_take (i:=6) (oi:=(.mk (some 6) (.assign (.tmp 21)) 37 "show.go:74" #[.mk 5 .data,.mk 5 .chain,.mk 0 .phase,.mk 1 .phase,.mk 2 .phase,.mk 3 .phase,.mk 4 .phase,.mk 5 .phase] none)) (v:=?_) rfl (by kernel_rfl) (by kernel_rfl) (by kernel_rfl) (fun _ _ _ h=>h) (Or.inl ⟨by rfl,?_⟩) hC ?_
  rotate_left
  ·(intro w hSw;(try dsimp only at hSw);go_simp;try with_reducible rfl)
  try simp only [Act.put,List.setIfInBounds_toArray,List.set_cons_zero,List.set_cons_succ]
  refine wpAnyH_done (by kernel_rfl) ?_ _
  go_wp2_with fail
  go_ret
  exact⟨_,rfl,(by rw [hRd.out,if_neg hx];exact hR4.out),hB.out.trans (hB4.out.mono hB.out.size)⟩
end
section
open Go.RowKit Go.Maps Go.WideMaps
attribute [local instance] Classical.propDecidable
def heldE (v:Value):Option (DataW Value × List MemPlace):=some (.held v,[])
structure HMap (D:DataW Value) (f:Lit→Option Value):Prop where
 isMap:IsMap D
 has:∀l,WideAt.IsKeyLit l→Maps.has D l=(f l).isSome
 at_:∀l v,WideAt.IsKeyLit l→f l=some v→∀z,D.atKey l z=.held v
theorem HMap.nil:HMap (.map []) (fun _=>none):=⟨isMap_empty,fun s _=>by simp [Maps.has],fun s n _ h=>by cases h⟩
theorem HMap.put {D:DataW Value}{f:Lit→Option Value}(h:HMap D f){y:Lit}(hy:WideAt.IsKeyLit y)(v:Value):HMap (D.put y (.held v)) (fun s=>if s=y then some v else f s):=by
 refine⟨h.isMap.put _ _,fun s hs=>?_,fun s m hk hs z=>?_⟩
 ·by_cases e:s=y
  ·subst e
   rw [has_put_same h.isMap hs,if_pos rfl]
   rfl
  ·rw [has_put_other (fun h=>e h),h.has s hs,if_neg e]
 ·by_cases e:s=y
  ·subst e
   rw [if_pos rfl] at hs
   cases hs
   rw [atKey_put_same h.isMap hk]
  ·rw [if_neg e] at hs
   rw [atKey_put_other (fun h=>e h),h.at_ s m hk hs z]
def VMap (w:World)(k:TypeId)(b n:Nat)(f:Lit→Option Value):Prop:=∃D:DataW Value,w.ownsMap Tryz.prog k heldE b n D∧HMap D f
section
variable {w:World} {k:TypeId} {b n:Nat} {f:Lit→Option Value}
theorem VMap.block {w':World}(h:VMap w k b n f)(hb:w'.heap[b]?=w.heap[b]?):VMap w' k b n f:=by
 obtain⟨D,⟨es,clock,h1,h2⟩,h3⟩:=h
 exact⟨D,⟨es,clock,hb.trans h1,h2⟩,h3⟩
theorem VMap.lt (h:VMap w k b n f):b<w.heap.size:=by
 obtain⟨D,h1,h2⟩:=h
 exact h1.lt
theorem VMap.more (h:VMap w k b n f){n':Nat}(hn:n≤n'):VMap w k b n' f:=by
 obtain⟨D,h1,h2⟩:=h
 exact⟨D,h1.mono hn,h2⟩
theorem VMap.new (w:World)(k:TypeId):VMap (w.alloc (.map #[] 0)) k w.heap.size 0 (fun _=>none):=⟨.map [],World.ownsMap_made w _ _ _,HMap.nil⟩
variable {ops:Array Oper} {rest:List Oper} {o:Oper} {a:Act} {Q:Exit→Act→World→Prop}
theorem wpList_vmap_ins (hg:o.guard=none)(m x v:Operand)(t:TypeId)(hop:o.op=Op.insert t m x v)(k e:TypeId)(K:Keyed Tryz.prog k)(ht:Tryz.prog.underlying t=some (.map k e))(b n:Nat)(f:Lit→Option Value)(h:VMap w k b n f)(hn:n<maxLen)(hm:a.eval m=.map (some b))(key val:Value)(kl:Lit)(hx:a.eval x=key)(hv:a.eval v=val)(hkey:keyOf Tryz.prog k key=some kl)
  (hK:∀w',VMap w' k b (n+1) (fun s=>if s=kl then some val else f s)→Touch w w' (fun j=>j=b)→wpList Tryz.prog ops Q rest (a.put o.dst undef) w'):wpList Tryz.prog ops Q (o::rest) a w:=by
 obtain⟨D,hown,hD⟩:=h
 refine wpList_plain hg fun K' hK'=>?_
 obtain⟨w1,hrun,r1,r2⟩:=hown.store K ht hn hkey (d:=.held val) (ps:=[]) rfl
 unfold Oper.wp
 simp [execOp,hop,hm,hx,hv,hrun,Result.andThen]
 exact hK' _ _ (hK w1 ⟨_,r1,hD.put (K.key hkey) val⟩ (Touch.of_grown r2.grown (fun b e=>(Option.some.inj e).symm)))
theorem wpList_vmap_ok (hg:o.guard=none)(m x:Operand)(t:TypeId)(hop:o.op=Op.lookup t m x true)(k e:TypeId)(K:Keyed Tryz.prog k)(ht:Tryz.prog.underlying t=some (.map k e)){z:Value}(hz:(zeroValue e).run Tryz.prog w=.ok z w)(b n:Nat)(f:Lit→Option Value)(h:VMap w k b n f)(hm:a.eval m=.map (some b))(key:Value)(kl:Lit)(hx:a.eval x=key)(hkey:keyOf Tryz.prog k key=some kl)
  (hK:wpList Tryz.prog ops Q rest (a.put o.dst (.tuple #[(f kl).getD z,.bool (f kl).isSome])) w):wpList Tryz.prog ops Q (o::rest) a w:=by
 obtain⟨D,hown,hD⟩:=h
 refine wpList_lookup_own_ok w hg m x t hop k e K ht heldE hz (.held z) [] rfl b n D hm hown key kl hx hkey ?_
 intro v ps hv
 have hh:=hD.has kl (K.key hkey)
 rw [hh]
 simp only [heldE,Option.some.injEq,Prod.mk.injEq] at hv
 cases hf:f kl with
 | none=>
  rw [hf] at hh hK
  rw [atKey_of_not_has hh] at hv
  obtain⟨e1,-⟩:=hv
  cases e1
  exact hK
 | some u=>
  rw [hf] at hK
  rw [hD.at_ kl u (K.key hkey) hf] at hv
  obtain⟨e1,-⟩:=hv
  cases e1
  exact hK
end
end
section
open Go.RowKit
section
variable {P:Program} {ops:Array Oper} {Q:Exit→Act→World→Prop}
structure Grown (ops:Array Oper) (V:Nat→World→Value→Prop) (a0:Act) (w0:World) (listed:Array Bool) (a:Act) (w:World):Prop where
 size:listed.size=ops.size
 defers:a.defers=a0.defers
 slots:a.tmps.size=a0.tmps.size
 low:Below w0.heap.size w0 w
 rest:∀d,(∀(k:Nat) (o:Oper),ops[k]?=some o→listed[k]?=some true→o.dst≠some d)→a.tmps[d]?=a0.tmps[d]?
 done:∀(k:Nat) (o:Oper) (d:Nat),ops[k]?=some o→listed[k]?=some true→o.dst=some d→∃v,a.tmps[d]?=some v∧V k w v
def undone (listed:Array Bool):Nat:=listed.toList.count false
theorem undone_set {listed:Array Bool}{i:Nat}(h:listed[i]?=some false):undone (listed.setIfInBounds i true)+1=undone listed:=by
 obtain⟨hlt,e⟩:=Array.getElem?_eq_some_iff.1 h
 unfold undone
 have hl:i<listed.toList.length:=by simpa using hlt
 have e2:listed.toList[i]=false:=by simpa using e
 have hm:false∈listed.toList:=by rw [←e2];exact List.getElem_mem hl
 have hp:0<listed.toList.count false:=List.count_pos_iff.2 hm
 rw [Array.toList_setIfInBounds,List.count_set hl,e2,if_pos (by rfl),if_neg (by decide)]
 omega
theorem Grown.go {V:Nat→World→Value→Prop}{a0:Act}{w0:World}{listed:Array Bool}{a:Act}{w w':World}{i:Nat}{o:Oper}{v:Value}(H:Grown ops V a0 w0 listed a w)
  (hV:∀(i:Nat) (w w':World) (v:Value),V i w v→Below w.heap.size w w'→V i w' v)
  (hg:∀(i:Nat) (o:Oper),ops[i]?=some o→o.guard=none∧∃d,o.dst=some d∧d<a0.tmps.size)
  (hd:∀(i j:Nat) (o o':Oper),ops[i]?=some o→ops[j]?=some o'→o.dst=o'.dst→i=j)
  (ho:ops[i]?=some o) (hi:listed[i]?=some false) (hb:Below w.heap.size w w') (hv:V i w' v):Grown ops V a0 w0 (listed.setIfInBounds i true) (a.put o.dst v) w':=by
 obtain⟨-,d,hod,hds⟩:=hg i o ho
 have hput:(a.put o.dst v).tmps=a.tmps.setIfInBounds d v:=by rw [hod];rfl
 have hlt:=(Array.getElem?_eq_some_iff.1 hi).1
 refine⟨by simpa using H.size,by rw [hod];exact H.defers,by rw [hput];simpa using H.slots,H.low.trans (hb.mono H.low.size),fun e he=>?_,fun k o' e hk hl he=>?_⟩
 ·have hne:e≠d:=fun h=>he i o ho (by rw [Array.getElem?_setIfInBounds_self_of_lt hlt]) (by rw [hod,h])
  rw [hput,Array.getElem?_setIfInBounds_ne (fun h=>hne h.symm)]
  refine H.rest e (fun k o' hk hl=>he k o' hk ?_)
  by_cases hki:k=i
  ·subst hki
   rw [Array.getElem?_setIfInBounds_self_of_lt hlt]
  ·rw [Array.getElem?_setIfInBounds_ne (fun h=>hki h.symm)]
   exact hl
 ·by_cases hki:k=i
  ·subst hki
   rw [ho] at hk
   obtain rfl:=Option.some.inj hk
   rw [hod] at he
   obtain rfl:=Option.some.inj he
   exact⟨v,by rw [hput,Array.getElem?_setIfInBounds_self_of_lt (by rw [H.slots];exact hds)],hv⟩
  ·rw [Array.getElem?_setIfInBounds_ne (fun h=>hki h.symm)] at hl
   obtain⟨u,hu,hu2⟩:=H.done k o' e hk hl he
   have hne:e≠d:=fun h=>hki (hd k i o' o hk ho (by rw [he,hod,h]))
   exact⟨u,by rw [hput,Array.getElem?_setIfInBounds_ne (fun h=>hne h.symm)];exact hu,hV _ _ _ _ hu2 hb⟩
theorem wpAny_inv {Inv:Array Bool→Act→World→Prop}
  (hstep:∀(listed:Array Bool) (a:Act) (w:World) (i:Nat) (o:Oper),Inv listed a w→ops[i]?=some o→listed[i]?=some false→(∀e∈o.after,Region.binds .any e=true→listed[e.on]?=some true)→
   wpOp P ops Q i (fun a' w'=>Inv (listed.setIfInBounds i true) a' w') a w)
  (hsize:∀listed a w,Inv listed a w→listed.size=ops.size)
  (hend:∀listed a w,Inv listed a w→Region.ready .any ops listed=[]→Q .normal a w):
  ∀(fuel:Nat) (listed:Array Bool) (a:Act) (w:World),Inv listed a w→undone listed≤fuel→wpAny P .any ops Q fuel listed a w:=by
 intro fuel
 induction fuel with
 | zero=>
  intro listed a w H hu
  have hr:Region.ready .any ops listed=[]:=by
   apply List.eq_nil_iff_forall_not_mem.2
   intro i hi
   obtain⟨h1,o,h2,-⟩:=mem_ready.1 hi
   have hil:i<listed.size:=by rw [hsize _ _ _ H];exact (Array.getElem?_eq_some_iff.1 h2).1
   have h3:listed[i]?=some false:=by
    rw [Array.getElem?_eq_getElem hil]
    simpa [Array.getD,hil] using h1
   have:=undone_set h3
   omega
  exact⟨hr,hend listed a w H hr⟩
 | succ fuel ih=>
  intro listed a w H hu
  refine⟨fun hr=>hend listed a w H hr,fun i hi=>?_⟩
  obtain⟨h1,o,h2,h4⟩:=mem_ready.1 hi
  have hil:i<listed.size:=by rw [hsize _ _ _ H];exact (Array.getElem?_eq_some_iff.1 h2).1
  have h3:listed[i]?=some false:=by
   rw [Array.getElem?_eq_getElem hil]
   simpa [Array.getD,hil] using h1
  refine wpOp_mono (fun a' w' h=>ih _ _ _ h (by have:=undone_set h3;omega)) (hstep listed a w i o H h2 h3 (fun e hem hbe=>?_))
  have h5:=h4 e hem hbe
  have hlt:e.on<listed.size:=by
   apply Classical.byContradiction
   intro hn
   simp [Array.getD,hn] at h5
  rw [Array.getElem?_eq_getElem hlt]
  simpa [Array.getD,hlt] using h5
end
end
end Go.Proofs.YtknkiaedgeejiaaGreatDoor
