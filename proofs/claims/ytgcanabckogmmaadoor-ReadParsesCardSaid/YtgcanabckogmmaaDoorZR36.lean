/- RfQ2. -/
import Derived.Test.YtgcanabckogmmaaDoorZR35
namespace Go.Proofs.YtgcanabckogmmaaDoor
set_option linter.unusedVariables false
set_option linter.unusedSimpArgs false
section
open Go.RowKit Go.Maps Go.Shelf
attribute [local go_sem] Oper.semAt_some fld0 fld1 fld2
set_option maxRecDepth 20000 in
set_option maxHeartbeats 16000000 in
theorem rfpB1:LeafB (fun p K=>(farS [[125]] p).2=false∧True∧(farS [[78],[58]] p).2=true∧(farS [[78],[58]] p).1=K+1):=by
 intro c hc Q w gw cw k K e0 e1 B bp T p t acc vp vb vc d vF hE hP hcw ht hKp hKl hat hPp hpt hwd hb0 hb1 h01 he0 he1 hgB hO hna hbl hcl hPn
 intros
 rename_i hRet hQ
 obtain⟨hc1,hd1,hc2,hd2⟩:=hE
 conv at hc=>lhs;whnf
 simp only [Option.some.injEq] at hc
 subst hc
 obtain⟨gf,capF,ab,cb,rfl,rfl,-⟩:=hO.form
 obtain⟨nb,hnb⟩:∃nb,nb=d.blocks.length:=⟨_,rfl⟩
 rw [←hnb] at hO hQ
 replace hnb:=Lib.hid hnb
 have hnbl:nb≤2000000:=by rw [hnb.out];exact hbl
 have hlen:=hP.len
 have hBw:B≤w.heap.size:=hO.top
 have hPw:=Lib.hid (fun (wr:World) (hb:Below w.heap.size w wr)=>hP.below hb)
 have hPpw:=Lib.hid (fun (wr:World) (hb:Below w.heap.size w wr)=>hPp.below hb)
 have hfar:=Lib.hid (fun (wr:World) (hb:Below w.heap.size w wr) (items:List (List UInt8)) (ib n:Nat) (hs:StAt wr ib items) (hn:n=items.length)=>(by
  have h:=reffar_any (c:=cw-k) (cb:=n) (hPp.below hb) hs
  rw [hKp,←hn] at h
  exact h:Calls Tryd.prog 22 #[.slice (some ⟨ib,0,none⟩) n n,.slice (some ⟨gw,k*5,none⟩) (K+1) (cw-k)] wr fun e w'=>e=.returned (.tuple #[.int .i64 ((farS items p).1:Nat),.bool (farS items p).2])∧Below wr.heap.size wr w'))
 have hkeep:=Lib.hid (fun (wr:World) (hb:Below w.heap.size w wr)=>(⟨(Touch.of_below hb (fun _=>False)).block e0 (by omega) (fun h=>h) |>.trans hb0,(Touch.of_below hb (fun _=>False)).block e1 (by omega) (fun h=>h) |>.trans hb1⟩:wr.heap[e0]?=some (.cells #[.slice none 0 0] 24 (0,0))∧wr.heap[e1]?=some (.cells #[.int .i64 0,.int .i64 0] 26 (0,0))))
 have q1:¬cw=k:=by omega
 have q2:¬cw=0:=by omega
 replace hpt:=Lib.hid hpt
 replace hwd:=Lib.hid hwd
 replace hKp:=Lib.hid hKp
 replace hO:=Lib.hid hO
 clear hb0 hb1
 go_upto_block 2 with fail
 refine rfp2 (by kernel_rfl) (w:=w) (gw:=gw) (cw:=cw) (k:=k) (K:=K) (T:=T) (t:=t) hP ht hKl hat (Lib.hid ?_)
 intros
 rename_i hx
 obtain⟨rfl,hb1⟩:=hx
 rename World=>w1
 have hB1:=Lib.hid hb1
 obtain⟨hvF,cbp⟩:=(hO.out.keep (Touch.of_below hB1.out (fun _=>False)) (fun _ _ e=>e.elim)).form4
 replace hat:=Lib.hid hat
 replace ht:=Lib.hid ht
 clear hP hPp hb1
 have i1:k≤k+1+K:=by omega
 have i2:k+1+K≤T.length:=by omega
 have i3:k+1+K≤cw:=by omega
 have i4:k+1+K-k=K+1:=by omega
 go_upto_region 13 with fail
 rw [i4]
 obtain⟨w3,hw3⟩:∃w3,w3=((w1.alloc (.cells #[.string ⟨#[102,117,110,99]⟩,.string ⟨#[78]⟩,.string ⟨#[40]⟩,.string ⟨#[123]⟩] 9)).alloc (.cells #[.string ⟨#[78]⟩,.string ⟨#[58]⟩] 9)).alloc (.cells #[.string ⟨#[125]⟩] 9):=⟨_,rfl⟩
 have s1:StAt w3 w1.heap.size headI:=stAt_of (t:=9) (by rw [hw3];exact at_oldP (at_oldP (at_newP rfl))) (by decide)
 have s2:StAt w3 (w1.heap.size+1) [[78],[58]]:=stAt_of (t:=9) (by rw [hw3];exact at_oldP (at_newP (by simp))) (by decide)
 have s3:StAt w3 (w1.heap.size+1+1) [[125]]:=stAt_of (t:=9) (by rw [hw3];exact at_newP (by simp)) (by decide)
 have hB3:Hid (Below w.heap.size w w3):=Lib.hid (hB1.out.trans (by
  have h1:=hB1.out.size
  rw [hw3]
  exact (((Below.refl w1.heap.size w1).alloc (Nat.le_refl _) _).alloc (by simp) _).alloc (by simp;omega) _ |>.mono h1))
 replace s1:=Lib.hid s1
 replace s2:=Lib.hid s2
 replace s3:=Lib.hid s3
 replace hw3:=Lib.hid hw3
 go_upto_region 14 with fail
 rw [←hw3.out]
 clear hw3
 obtain⟨k1,hk1⟩:∃k1,k1=(farS [[125]] p).1:=⟨_,rfl⟩
 obtain⟨q1',hq1⟩:∃qq,qq=(farS [[125]] p).2:=⟨_,rfl⟩
 obtain⟨k2,hk2⟩:∃k1,k1=(farS [[78],[58]] p).1:=⟨_,rfl⟩
 obtain⟨q2',hq2⟩:∃qq,qq=(farS [[78],[58]] p).2:=⟨_,rfl⟩
 have hfull1:fullI [[125]] p=(q1'&&k1==K+1):=by rw [hq1,hk1,←hKp.out];rfl
 have hfull2:fullI [[78],[58]] p=(q2'&&k2==K+1):=by rw [hq2,hk2,←hKp.out];rfl
 have hk1l:k1≤K+1:=by rw [hk1,←hKp.out];exact farS_le _ _
 have hk2l:k2≤K+1:=by rw [hk2,←hKp.out];exact farS_le _ _
 have m1:(acc.length:Int)<(acc.length:Int)+1:=by omega
 have m0:(acc.length:Int)+1-1=(acc.length:Int):=by omega
 have mw:IntKind.i64.wrap (acc.length:Int)=(acc.length:Int):=by rw [IntKind.wrap_i64];omega
 replace hk1:=Lib.hid hk1
 replace hk2:=Lib.hid hk2
 replace hq1:=Lib.hid hq1
 replace hq2:=Lib.hid hq2
 replace hfull1:=Lib.hid hfull1
 replace hfull2:=Lib.hid hfull2
 clear hvF cbp
 obtain rfl:q1'=false:=by rw [hq1.out];exact hc1
 obtain rfl:q2'=true:=by rw [hq2.out];exact hc2
 have hk2e:k2=K+1:=by rw [hk2.out];exact hd2
 clear hc1 hd1 hc2 hd2
 have hf1:=hfar.out w3 hB3.out [[125]] (w1.heap.size+1+1) 1 s3.out rfl
 rw [←hk1.out,←hq1.out] at hf1
 replace hf1:=Lib.hid hf1
 go_wp2_with fail
 refine hf1.out.mono ?_
 rintro e w4 ⟨rfl,hb4⟩
 dsimp only
 have hB4:=Lib.hid (hB3.out.trans (hb4.mono hB3.out.size))
 have s24:=Lib.hid (s2.out.below hb4)
 clear hb4 hf1
 have hlab:fullI [[78],[58]] p=true:=by rw [hfull2.out];simp;omega
 have g2:((k2:Int)==(K:Int)+1)=true:=by simp;omega
 have g2b:((k2:Int)==((K+1:Nat):Int))=true:=by simp;omega
 have hf2:=hfar.out w4 hB4.out [[78],[58]] (w1.heap.size+1) 2 s24.out rfl
 rw [←hk2.out,←hq2.out] at hf2
 replace hf2:=Lib.hid hf2
 go_wp2_with fail
 refine hf2.out.mono ?_
 rintro e w5 ⟨rfl,hb4⟩
 dsimp only
 have hBC:=Lib.hid (hB4.out.trans (hb4.mono hB4.out.size))
 clear hb4 hf2
 obtain⟨i0,hi0,hz0,hz1,hz2⟩:=info_parts info_blkP
 obtain⟨u1,hu1⟩:∃u,p[0]?=some u:=⟨_,List.getElem?_eq_getElem (by have:=hKp.out;omega)⟩
 have hP5:=hPpw.out w5 hBC.out
 obtain⟨-,n1,-,-,-⟩:=hP5.toks 0 u1 hu1
 rw [Nat.zero_mul,Nat.add_zero] at n1
 have hgl:=hP5.lt
 have hhd:p.headD ⟨0,[],0,0,0⟩=u1:=by cases p with | nil=>simp at hu1 | cons a r=>simpa using hu1
 have hO5:=hO.out.keep (Touch.of_below (hBC.out.trans ((Below.refl w.heap.size w5).drew)) (fun _=>False)) (fun _ _ e=>e.elim)
 obtain⟨gf2,cap2,ab2,cb2,e1,e2,cb5,fb5,cg5,fg5,hgfB,hgfl⟩:=hO5.form
 simp only [Value.slice.injEq,Option.some.injEq,Addr.mk.injEq] at e1
 obtain⟨⟨rfl,-⟩,-,rfl⟩:=e1
 have cb5':w5.cell? ⟨bp,0,none⟩=some (.slice (some ⟨gf,0,none⟩) (acc.length+1) capF):=cb5
 have cg5':w5.cell? ⟨gf,acc.length*3+2,none⟩=some (.slice ab nb cb):=cg5
 have hbpl:bp<w5.heap.size:=by have:=hO5.lt;have:=hO5.top;have h9:w5.drew.heap.size=w5.heap.size:=rfl;omega
 have hgl5:gf<w5.heap.size:=hgfl
 have hcz:∀o,(w5.alloc o).drew.cell? ⟨bp,0,none⟩=some (.slice (some ⟨gf,0,none⟩) (acc.length+1) capF):=fun o=>(World.cell?_alloc_past _ _ _ hbpl).trans cb5'
 have hcg:∀o,(w5.alloc o).drew.cell? ⟨gf,acc.length*3+2,none⟩=some (.slice ab nb cb):=fun o=>(World.cell?_alloc_past _ _ _ hgl5).trans cg5'
 obtain⟨xs,r1,hblk⟩:=hO5.block (nmT u1)
 rw [←hnb.out] at r1 hblk
 have hop:=Lib.hid (hblk (.cells #[.string (nmT u1),.slice none 0 0] 46))
 have hown:=Lib.hid (ownsRow_touch (S:=fun _=>False) r1 ((Touch.refl w5.drew _).alloc (.cells #[.string (nmT u1),.slice none 0 0] 46)) (fun _ _ h=>h))
 have hBs:B≤w5.heap.size:=hO5.top
 have hTB:=Lib.hid (Touch.of_below (hBC.out.trans ((Below.refl w.heap.size w5).drew)) (fun k=>k=bp∨B≤k))
 have hno1:=Lib.hid (show fullI [[125]] p=false by rw [hfull1.out];rfl)
 have j6:0<K+1:=by omega
 have j7:(0:Int)<(K:Int)+1:=by omega
 replace hhd:=Lib.hid hhd
 replace hlab:=Lib.hid hlab
 have r1B:=Lib.hid r1
 have hBbp:bp<B:=hO5.lt
 clear hO5 hblk r1 hP5 hu1 cb5 cg5 e2
 go_upto_region 33 with fail
 have hvbB:=Lib.hid (fun k e=>(r1B.out.lt k e).1)
 have hCG:=Lib.hid (fun (w':World) (T:Touch w5.drew w' (fun k=>B≤k))=>(⟨by
  have h1:=T.block bp hbpl (by have:=hgB;omega)
  unfold World.cell? at cb5' ⊢
  rw [h1]
  exact cb5',by
  have h1:=T.block gw hgl (by omega)
  unfold World.cell? at n1 ⊢
  rw [h1]
  exact n1⟩:w'.cell? ⟨bp,0,none⟩=some (.slice (some ⟨gf,0,none⟩) (acc.length+1) capF)∧w'.cell? ⟨gw,k*5+1,none⟩=some (.string (nmT u1))))
 have hC:=hCG.out w5.drew (Touch.refl _ _)
 have cg6:w5.drew.cell? ⟨gf,acc.length*3+2,none⟩=some (.slice ab nb cb):=cg5'
 refine wp_region_held_drew (S:=(fun w'=>w'.cell? ⟨bp,0,none⟩=some (.slice (some ⟨gf,0,none⟩) (acc.length+1) capF)∧w'.cell? ⟨gw,k*5+1,none⟩=some (.string (nmT u1)))) (by kernel_rfl) hC (fun hHeld=>?_)
 clear hHeld
 refine wpAnyH_take (i:=0) (oi:=(.mk (some 168) (.fieldAddr 24 (.tmp 8) 0) 0 "ref.go:191" #[] none)) (v:=?_) rfl (by kernel_rfl) (by kernel_rfl) (by kernel_rfl) (fun _ _ _ h=>hPn h rfl) (Or.inl ⟨by rfl,?_⟩) hC ?_
 rotate_left
 ·(intro w hSw;(try dsimp only at hSw);go_simp;try with_reducible rfl)
 try simp only [Act.put,List.setIfInBounds_toArray,List.set_cons_zero,List.set_cons_succ]
 refine wpAnyH_take (i:=1) (oi:=(.mk (some 169) (.load 22 (.tmp 168)) 22 "ref.go:191" #[.mk 0 .data] none)) (v:=?_) rfl (by kernel_rfl) (by kernel_rfl) (by kernel_rfl) (fun _ _ _ h=>hPn h rfl) (Or.inl ⟨by rfl,?_⟩) hC ?_
 rotate_left
 ·(intro w hSw;(try dsimp only at hSw);go_simp;try with_reducible rfl)
 try simp only [Act.put,List.setIfInBounds_toArray,List.set_cons_zero,List.set_cons_succ]
 refine wpAnyH_take (i:=2) (oi:=(.mk (some 170) (.move (.tmp 13)) 3 "ref.go:191" #[] none)) (v:=?_) rfl (by kernel_rfl) (by kernel_rfl) (by kernel_rfl) (fun _ _ _ h=>hPn h rfl) (Or.inl ⟨by rfl,?_⟩) hC ?_
 rotate_left
 ·(intro w hSw;(try dsimp only at hSw);go_simp;try with_reducible rfl)
 try simp only [Act.put,List.setIfInBounds_toArray,List.set_cons_zero,List.set_cons_succ]
 refine wpAnyH_take (i:=3) (oi:=(.mk (some 171) (.fieldAddr 24 (.tmp 8) 0) 0 "ref.go:191" #[] none)) (v:=?_) rfl (by kernel_rfl) (by kernel_rfl) (by kernel_rfl) (fun _ _ _ h=>hPn h rfl) (Or.inl ⟨by rfl,?_⟩) hC ?_
 rotate_left
 ·(intro w hSw;(try dsimp only at hSw);go_simp;try with_reducible rfl)
 try simp only [Act.put,List.setIfInBounds_toArray,List.set_cons_zero,List.set_cons_succ]
 refine wpAnyH_take (i:=4) (oi:=(.mk (some 172) (.load 22 (.tmp 171)) 22 "ref.go:191" #[.mk 3 .data] none)) (v:=?_) rfl (by kernel_rfl) (by kernel_rfl) (by kernel_rfl) (fun _ _ _ h=>hPn h rfl) (Or.inl ⟨by rfl,?_⟩) hC ?_
 rotate_left
 ·(intro w hSw;(try dsimp only at hSw);go_simp;try with_reducible rfl)
 try simp only [Act.put,List.setIfInBounds_toArray,List.set_cons_zero,List.set_cons_succ]
 refine wpAnyH_take (i:=5) (oi:=(.mk (some 173) (.move (.tmp 13)) 3 "ref.go:191" #[] none)) (v:=?_) rfl (by kernel_rfl) (by kernel_rfl) (by kernel_rfl) (fun _ _ _ h=>hPn h rfl) (Or.inl ⟨by rfl,?_⟩) hC ?_
 rotate_left
 ·(intro w hSw;(try dsimp only at hSw);go_simp;try with_reducible rfl)
 try simp only [Act.put,List.setIfInBounds_toArray,List.set_cons_zero,List.set_cons_succ]
 refine wpAnyH_take (i:=6) (oi:=(.mk (some 174) (.indexAddr 22 (.tmp 172) (.tmp 173)) 0 "ref.go:191" #[.mk 4 .data,.mk 5 .data] none)) (v:=?_) rfl (by kernel_rfl) (by kernel_rfl) (by kernel_rfl) (fun _ _ _ h=>hPn h rfl) (Or.inl ⟨by rfl,?_⟩) hC ?_
 rotate_left
 ·(intro w hSw;(try dsimp only at hSw);go_simp;try with_reducible rfl)
 try simp only [Act.put,List.setIfInBounds_toArray,List.set_cons_zero,List.set_cons_succ]
 refine wpAnyH_take (i:=7) (oi:=(.mk (some 175) (.fieldAddr 43 (.tmp 174) 2) 0 "ref.go:191" #[.mk 6 .data] none)) (v:=?_) rfl (by kernel_rfl) (by kernel_rfl) (by kernel_rfl) (fun _ _ _ h=>hPn h rfl) (Or.inl ⟨by rfl,?_⟩) hC ?_
 rotate_left
 ·(intro w hSw;(try dsimp only at hSw);go_simp;try with_reducible rfl)
 try simp only [Act.put,List.setIfInBounds_toArray,List.set_cons_zero,List.set_cons_succ]
 refine wpAnyH_take (i:=9) (oi:=(.mk (some 177) (.move (.tmp 12)) 34 "ref.go:191" #[] none)) (v:=?_) rfl (by kernel_rfl) (by kernel_rfl) (by kernel_rfl) (fun _ _ _ h=>hPn h rfl) (Or.inl ⟨by rfl,?_⟩) hC ?_
 rotate_left
 ·(intro w hSw;(try dsimp only at hSw);go_simp;try with_reducible rfl)
 try simp only [Act.put,List.setIfInBounds_toArray,List.set_cons_zero,List.set_cons_succ]
 refine wpAnyH_take (i:=10) (oi:=(.mk (some 178) (.indexAddr 34 (.tmp 177) (.const (Value.int IntKind.i64 0))) 0 "ref.go:191" #[.mk 9 .data] none)) (v:=?_) rfl (by kernel_rfl) (by kernel_rfl) (by kernel_rfl) (fun _ _ _ h=>hPn h rfl) (Or.inl ⟨by rfl,?_⟩) hC ?_
 rotate_left
 ·(intro w hSw;(try dsimp only at hSw);go_simp;try with_reducible rfl)
 try simp only [Act.put,List.setIfInBounds_toArray,List.set_cons_zero,List.set_cons_succ]
 refine wpAnyH_take (i:=11) (oi:=(.mk (some 179) (.fieldAddr 38 (.tmp 178) 1) 0 "ref.go:191" #[.mk 10 .data] none)) (v:=?_) rfl (by kernel_rfl) (by kernel_rfl) (by kernel_rfl) (fun _ _ _ h=>hPn h rfl) (Or.inl ⟨by rfl,?_⟩) hC ?_
 rotate_left
 ·(intro w hSw;(try dsimp only at hSw);go_simp;try with_reducible rfl)
 try simp only [Act.put,List.setIfInBounds_toArray,List.set_cons_zero,List.set_cons_succ]
 refine wpAnyH_take (i:=12) (oi:=(.mk (some 180) (.load 9 (.tmp 179)) 9 "ref.go:191" #[.mk 11 .data] none)) (v:=?_) rfl (by kernel_rfl) (by kernel_rfl) (by kernel_rfl) (fun _ _ _ h=>hPn h rfl) (Or.inl ⟨by rfl,?_⟩) hC ?_
 rotate_left
 ·(intro w hSw;(try dsimp only at hSw);go_simp;try with_reducible rfl)
 try simp only [Act.put,List.setIfInBounds_toArray,List.set_cons_zero,List.set_cons_succ]
 refine wpAnyH_take (i:=13) (oi:=(.mk (some 181) (.build 46 #[(0,(.tmp 180))]) 46 "ref.go:191" #[.mk 12 .data] none)) (v:=?_) rfl (by kernel_rfl) (by kernel_rfl) (by kernel_rfl) (fun _ _ _ h=>hPn h rfl) (Or.inl ⟨by rfl,?_⟩) hC ?_
 rotate_left
 ·(intro w hSw;(try dsimp only at hSw);go_simp;try with_reducible rfl)
 try simp only [Act.put,List.setIfInBounds_toArray,List.set_cons_zero,List.set_cons_succ]
 refine wpAnyH_ready (rs:=[8,14]) (by kernel_rfl) (by simp) (AllReadyH.cons (o:=(.mk (some 176) (.load 41 (.tmp 175)) 41 "ref.go:191" #[.mk 7 .data] none)) rfl (fun K hK=>?_) (AllReadyH.cons (o:=(.mk (some 182) (.buildSlice 41 1 #[(0,(.tmp 181))]) 41 "ref.go:191" #[.mk 13 .data] none)) rfl (fun K hK=>?_) AllReadyH.nil))
 ·skip
  go_simp
  skip
  refine hK.out _ _ hC (fun hHeld=>?_)
  clear hK K hHeld
  try simp only [Act.put,List.setIfInBounds_toArray,List.set_cons_zero,List.set_cons_succ]
  refine wpAnyH_ready (rs:=[14]) (by kernel_rfl) (by simp) (AllReadyH.cons (o:=(.mk (some 182) (.buildSlice 41 1 #[(0,(.tmp 181))]) 41 "ref.go:191" #[.mk 13 .data] none)) rfl (fun K hK=>?_) AllReadyH.nil)
  go_simp
  replace hC:=hCG.out (w5.drew.alloc (.cells #[.string (nmT u1),.slice none 0 0] 46)) ((Touch.refl _ _).alloc _)
  have cg6:=hcg (.cells #[.string (nmT u1),.slice none 0 0] 46)
  have cg6:(w5.drew.alloc (.cells #[.string (nmT u1),.slice none 0 0] 46)).cell? ⟨gf,acc.length*3+2,none⟩=some (.slice ab nb cb):=cg6
  refine hK.out _ _ hC (fun hHeld=>?_)
  clear hK K hHeld
  try simp only [Act.put,List.setIfInBounds_toArray,List.set_cons_zero,List.set_cons_succ]
  refine wpAnyH_ready (rs:=[15]) (by kernel_rfl) (by simp) (AllReadyH.cons (o:=(.mk (some 183) (.call (.mk (.builtin Builtin.append) #[(.tmp 176),(.tmp 182)] #[41,41])) 41 "ref.go:191" #[.mk 8 .data,.mk 14 .data] none)) rfl (fun K hK=>?_) AllReadyH.nil)
  refine step_append_lies _ (by rfl) _ _ _ (by rfl) B 46 i0 _ 2 40 Tryd.underlying41 hi0 hz0 hz1 hz2 rfl (by omega) (.slice ab nb cb) nb xs (by rfl) hown.out ⟨w5.heap.size,0,none⟩ 1 1 [.string (nmT u1),.slice none 0 0] (by rfl) (by rfl) (World.news_of_block (cs:=#[.string (nmT u1),.slice none 0 0]) (t:=46) (fr:=(0,0)) (heap_alloc_new w5.drew _)) (by simp [Value.oneCell']) (by omega) (by unfold maxLen;omega) (by omega) (by simp;omega) (w5.heap.size+1) (by simp) ?_
  intro gg cap' w7 hown1 hgrow hat7 hlt1
  obtain⟨y1,y2,y3,y4,y5⟩:=hop.out w7 gg cap' hgrow hown1 hat7
  have he:=Lib.hid (And.intro y1 (hTB.out.then y2 (fun k _ h=>h)))
  have hT7:=Lib.hid (((Touch.refl w5.drew (fun k=>B≤k)).alloc (.cells #[.string (nmT u1),.slice none 0 0] 46)).trans (Touch.of_grown hgrow (fun k e=>hvbB.out k e)))
  replace hC:=hCG.out w7 hT7.out
  clear y1 y2 hown1 hgrow hat7 hlt1 hcz hcg
  refine hK.out _ _ hC (fun hHeld=>?_)
  clear hK K hHeld
  try simp only [Act.put,List.setIfInBounds_toArray,List.set_cons_zero,List.set_cons_succ]
  refine wpAnyH_take (i:=16) (oi:=(.mk (some 184) (.indexAddr 22 (.tmp 169) (.tmp 170)) 0 "ref.go:191" #[.mk 1 .data,.mk 2 .data,.mk 0 .phase,.mk 1 .phase,.mk 2 .phase,.mk 3 .phase,.mk 4 .phase,.mk 5 .phase,.mk 6 .phase,.mk 7 .phase,.mk 8 .phase,.mk 9 .phase,.mk 10 .phase,.mk 11 .phase,.mk 12 .phase,.mk 13 .phase,.mk 14 .phase,.mk 15 .phase] none)) (v:=?_) rfl (by kernel_rfl) (by kernel_rfl) (by kernel_rfl) (fun _ _ _ h=>hPn h rfl) (Or.inl ⟨by rfl,?_⟩) hC ?_
  rotate_left
  ·(intro w hSw;(try dsimp only at hSw);go_simp;try with_reducible rfl)
  try simp only [Act.put,List.setIfInBounds_toArray,List.set_cons_zero,List.set_cons_succ]
  refine wpAnyH_take (i:=17) (oi:=(.mk (some 185) (.fieldAddr 43 (.tmp 184) 2) 0 "ref.go:191" #[.mk 16 .data,.mk 0 .phase,.mk 1 .phase,.mk 2 .phase,.mk 3 .phase,.mk 4 .phase,.mk 5 .phase,.mk 6 .phase,.mk 7 .phase,.mk 8 .phase,.mk 9 .phase,.mk 10 .phase,.mk 11 .phase,.mk 12 .phase,.mk 13 .phase,.mk 14 .phase,.mk 15 .phase] none)) (v:=?_) rfl (by kernel_rfl) (by kernel_rfl) (by kernel_rfl) (fun _ _ _ h=>hPn h rfl) (Or.inl ⟨by rfl,?_⟩) hC ?_
  rotate_left
  ·(intro w hSw;(try dsimp only at hSw);go_simp;try with_reducible rfl)
  try simp only [Act.put,List.setIfInBounds_toArray,List.set_cons_zero,List.set_cons_succ]
  refine wpAnyH_ready (rs:=[18]) (by kernel_rfl) (by simp) (AllReadyH.cons (o:=(.mk none (.store 41 (.tmp 185) (.tmp 183)) 0 "ref.go:191" #[.mk 17 .data,.mk 15 .data,.mk 15 .chain,.mk 0 .phase,.mk 1 .phase,.mk 2 .phase,.mk 3 .phase,.mk 4 .phase,.mk 5 .phase,.mk 6 .phase,.mk 7 .phase,.mk 8 .phase,.mk 9 .phase,.mk 10 .phase,.mk 11 .phase,.mk 12 .phase,.mk 13 .phase,.mk 14 .phase,.mk 15 .phase] none)) rfl (fun K hK=>?_) AllReadyH.nil)
  go_simp
  replace hC:=hCG.out (w7.setCell ⟨gf,acc.length*3+2,none⟩ (.slice (some ⟨gg,0,none⟩) (nb+1) cap')) (hT7.out.setCell (a:=⟨gf,acc.length*3+2,none⟩) (fun _=>hgfB) _)
  refine hK.out _ _ hC (fun hHeld=>?_)
  clear hK K hHeld
  try simp only [Act.put,List.setIfInBounds_toArray,List.set_cons_zero,List.set_cons_succ]
  refine wpAnyH_done (by kernel_rfl) ?_ _
  go_wp2_with fail
  refine hQ.out (.inr (.inl ⟨piece_lab hno1.out hlab.out,rfl,by first | rfl | (congr 1;omega),.slice (some ⟨gg,0,none⟩) (nb+1) cap',?_,he.out.2⟩))
  rw [hhd.out]
  exact he.out.1
 ·skip
  go_simp
  replace hC:=hCG.out (w5.drew.alloc (.cells #[.string (nmT u1),.slice none 0 0] 46)) ((Touch.refl _ _).alloc _)
  have cg6:=hcg (.cells #[.string (nmT u1),.slice none 0 0] 46)
  have cg6:(w5.drew.alloc (.cells #[.string (nmT u1),.slice none 0 0] 46)).cell? ⟨gf,acc.length*3+2,none⟩=some (.slice ab nb cb):=cg6
  refine hK.out _ _ hC (fun hHeld=>?_)
  clear hK K hHeld
  try simp only [Act.put,List.setIfInBounds_toArray,List.set_cons_zero,List.set_cons_succ]
  refine wpAnyH_ready (rs:=[8]) (by kernel_rfl) (by simp) (AllReadyH.cons (o:=(.mk (some 176) (.load 41 (.tmp 175)) 41 "ref.go:191" #[.mk 7 .data] none)) rfl (fun K hK=>?_) AllReadyH.nil)
  go_simp
  skip
  refine hK.out _ _ hC (fun hHeld=>?_)
  clear hK K hHeld
  try simp only [Act.put,List.setIfInBounds_toArray,List.set_cons_zero,List.set_cons_succ]
  refine wpAnyH_ready (rs:=[15]) (by kernel_rfl) (by simp) (AllReadyH.cons (o:=(.mk (some 183) (.call (.mk (.builtin Builtin.append) #[(.tmp 176),(.tmp 182)] #[41,41])) 41 "ref.go:191" #[.mk 8 .data,.mk 14 .data] none)) rfl (fun K hK=>?_) AllReadyH.nil)
  refine step_append_lies _ (by rfl) _ _ _ (by rfl) B 46 i0 _ 2 40 Tryd.underlying41 hi0 hz0 hz1 hz2 rfl (by omega) (.slice ab nb cb) nb xs (by rfl) hown.out ⟨w5.heap.size,0,none⟩ 1 1 [.string (nmT u1),.slice none 0 0] (by rfl) (by rfl) (World.news_of_block (cs:=#[.string (nmT u1),.slice none 0 0]) (t:=46) (fr:=(0,0)) (heap_alloc_new w5.drew _)) (by simp [Value.oneCell']) (by omega) (by unfold maxLen;omega) (by omega) (by simp;omega) (w5.heap.size+1) (by simp) ?_
  intro gg cap' w7 hown1 hgrow hat7 hlt1
  obtain⟨y1,y2,y3,y4,y5⟩:=hop.out w7 gg cap' hgrow hown1 hat7
  have he:=Lib.hid (And.intro y1 (hTB.out.then y2 (fun k _ h=>h)))
  have hT7:=Lib.hid (((Touch.refl w5.drew (fun k=>B≤k)).alloc (.cells #[.string (nmT u1),.slice none 0 0] 46)).trans (Touch.of_grown hgrow (fun k e=>hvbB.out k e)))
  replace hC:=hCG.out w7 hT7.out
  clear y1 y2 hown1 hgrow hat7 hlt1 hcz hcg
  refine hK.out _ _ hC (fun hHeld=>?_)
  clear hK K hHeld
  try simp only [Act.put,List.setIfInBounds_toArray,List.set_cons_zero,List.set_cons_succ]
  refine wpAnyH_take (i:=16) (oi:=(.mk (some 184) (.indexAddr 22 (.tmp 169) (.tmp 170)) 0 "ref.go:191" #[.mk 1 .data,.mk 2 .data,.mk 0 .phase,.mk 1 .phase,.mk 2 .phase,.mk 3 .phase,.mk 4 .phase,.mk 5 .phase,.mk 6 .phase,.mk 7 .phase,.mk 8 .phase,.mk 9 .phase,.mk 10 .phase,.mk 11 .phase,.mk 12 .phase,.mk 13 .phase,.mk 14 .phase,.mk 15 .phase] none)) (v:=?_) rfl (by kernel_rfl) (by kernel_rfl) (by kernel_rfl) (fun _ _ _ h=>hPn h rfl) (Or.inl ⟨by rfl,?_⟩) hC ?_
  rotate_left
  ·(intro w hSw;(try dsimp only at hSw);go_simp;try with_reducible rfl)
  try simp only [Act.put,List.setIfInBounds_toArray,List.set_cons_zero,List.set_cons_succ]
  refine wpAnyH_take (i:=17) (oi:=(.mk (some 185) (.fieldAddr 43 (.tmp 184) 2) 0 "ref.go:191" #[.mk 16 .data,.mk 0 .phase,.mk 1 .phase,.mk 2 .phase,.mk 3 .phase,.mk 4 .phase,.mk 5 .phase,.mk 6 .phase,.mk 7 .phase,.mk 8 .phase,.mk 9 .phase,.mk 10 .phase,.mk 11 .phase,.mk 12 .phase,.mk 13 .phase,.mk 14 .phase,.mk 15 .phase] none)) (v:=?_) rfl (by kernel_rfl) (by kernel_rfl) (by kernel_rfl) (fun _ _ _ h=>hPn h rfl) (Or.inl ⟨by rfl,?_⟩) hC ?_
  rotate_left
  ·(intro w hSw;(try dsimp only at hSw);go_simp;try with_reducible rfl)
  try simp only [Act.put,List.setIfInBounds_toArray,List.set_cons_zero,List.set_cons_succ]
  refine wpAnyH_ready (rs:=[18]) (by kernel_rfl) (by simp) (AllReadyH.cons (o:=(.mk none (.store 41 (.tmp 185) (.tmp 183)) 0 "ref.go:191" #[.mk 17 .data,.mk 15 .data,.mk 15 .chain,.mk 0 .phase,.mk 1 .phase,.mk 2 .phase,.mk 3 .phase,.mk 4 .phase,.mk 5 .phase,.mk 6 .phase,.mk 7 .phase,.mk 8 .phase,.mk 9 .phase,.mk 10 .phase,.mk 11 .phase,.mk 12 .phase,.mk 13 .phase,.mk 14 .phase,.mk 15 .phase] none)) rfl (fun K hK=>?_) AllReadyH.nil)
  go_simp
  replace hC:=hCG.out (w7.setCell ⟨gf,acc.length*3+2,none⟩ (.slice (some ⟨gg,0,none⟩) (nb+1) cap')) (hT7.out.setCell (a:=⟨gf,acc.length*3+2,none⟩) (fun _=>hgfB) _)
  refine hK.out _ _ hC (fun hHeld=>?_)
  clear hK K hHeld
  try simp only [Act.put,List.setIfInBounds_toArray,List.set_cons_zero,List.set_cons_succ]
  refine wpAnyH_done (by kernel_rfl) ?_ _
  go_wp2_with fail
  refine hQ.out (.inr (.inl ⟨piece_lab hno1.out hlab.out,rfl,by first | rfl | (congr 1;omega),.slice (some ⟨gg,0,none⟩) (nb+1) cap',?_,he.out.2⟩))
  rw [hhd.out]
  exact he.out.1
end
end Go.Proofs.YtgcanabckogmmaaDoor
