/- RfQ6, RfQ7, RfP5, RfP6, RfP7. -/
import Derived.Test.YtgcanabckogmmaaDoorZR35
import Derived.Test.YtgcanabckogmmaaDoorZR36
import Derived.Test.YtgcanabckogmmaaDoorZR37
import Derived.Test.YtgcanabckogmmaaDoorZR23
import Derived.Test.YtgcanabckogmmaaDoorZR25
import Derived.Test.YtgcanabckogmmaaDoorZR20
namespace Go.Proofs.YtgcanabckogmmaaDoor
set_option linter.unusedVariables false
set_option linter.unusedSimpArgs false
section
open Go.RowKit Go.Maps Go.Shelf
attribute [local go_sem] Oper.semAt_some fld0 fld1 fld2
set_option maxRecDepth 20000 in
set_option maxHeartbeats 16000000 in
theorem rfpB5:LeafB (fun p K=>(farS [[125]] p).2=true∧¬(farS [[125]] p).1=K+1∧(farS [[78],[58]] p).2=false∧True):=by
 intro c hc Q w gw cw k K e0 e1 B bp T p t acc vp vb vc d vF hE hP hcw ht hKp hKl hat hPp hpt hwd hb0 hb1 h01 he0 he1 hgB hO hna hbl hcl hPn
 intros
 rename_i hRet hQ
 obtain⟨hc1,hd1,hc2,hd2⟩:=hE
 conv at hc=>lhs;whnf
 simp only [Option.some.injEq] at hc
 subst hc
 obtain⟨gf,capF,ab,cb,rfl,rfl,-⟩:=hO.form
 obtain⟨nb,hnb⟩:∃nb,nb=d.blocks.length:=⟨_,rfl⟩
 rw [←hnb] at hO hQ
 replace hnb:=Lib.hid hnb
 have hnbl:nb≤2000000:=by rw [hnb.out];exact hbl
 have hlen:=hP.len
 have hBw:B≤w.heap.size:=hO.top
 have hPw:=Lib.hid (fun (wr:World) (hb:Below w.heap.size w wr)=>hP.below hb)
 have hPpw:=Lib.hid (fun (wr:World) (hb:Below w.heap.size w wr)=>hPp.below hb)
 have hfar:=Lib.hid (fun (wr:World) (hb:Below w.heap.size w wr) (items:List (List UInt8)) (ib n:Nat) (hs:StAt wr ib items) (hn:n=items.length)=>(by
  have h:=reffar_any (c:=cw-k) (cb:=n) (hPp.below hb) hs
  rw [hKp,←hn] at h
  exact h:Calls Tryd.prog 22 #[.slice (some ⟨ib,0,none⟩) n n,.slice (some ⟨gw,k*5,none⟩) (K+1) (cw-k)] wr fun e w'=>e=.returned (.tuple #[.int .i64 ((farS items p).1:Nat),.bool (farS items p).2])∧Below wr.heap.size wr w'))
 have hkeep:=Lib.hid (fun (wr:World) (hb:Below w.heap.size w wr)=>(⟨(Touch.of_below hb (fun _=>False)).block e0 (by omega) (fun h=>h) |>.trans hb0,(Touch.of_below hb (fun _=>False)).block e1 (by omega) (fun h=>h) |>.trans hb1⟩:wr.heap[e0]?=some (.cells #[.slice none 0 0] 24 (0,0))∧wr.heap[e1]?=some (.cells #[.int .i64 0,.int .i64 0] 26 (0,0))))
 have q1:¬cw=k:=by omega
 have q2:¬cw=0:=by omega
 replace hpt:=Lib.hid hpt
 replace hwd:=Lib.hid hwd
 replace hKp:=Lib.hid hKp
 replace hO:=Lib.hid hO
 clear hb0 hb1
 go_upto_block 2 with fail
 refine rfp2 (by kernel_rfl) (w:=w) (gw:=gw) (cw:=cw) (k:=k) (K:=K) (T:=T) (t:=t) hP ht hKl hat (Lib.hid ?_)
 intros
 rename_i hx
 obtain⟨rfl,hb1⟩:=hx
 rename World=>w1
 have hB1:=Lib.hid hb1
 obtain⟨hvF,cbp⟩:=(hO.out.keep (Touch.of_below hB1.out (fun _=>False)) (fun _ _ e=>e.elim)).form4
 replace hat:=Lib.hid hat
 replace ht:=Lib.hid ht
 clear hP hPp hb1
 have i1:k≤k+1+K:=by omega
 have i2:k+1+K≤T.length:=by omega
 have i3:k+1+K≤cw:=by omega
 have i4:k+1+K-k=K+1:=by omega
 go_upto_region 13 with fail
 rw [i4]
 obtain⟨w3,hw3⟩:∃w3,w3=((w1.alloc (.cells #[.string ⟨#[102,117,110,99]⟩,.string ⟨#[78]⟩,.string ⟨#[40]⟩,.string ⟨#[123]⟩] 9)).alloc (.cells #[.string ⟨#[78]⟩,.string ⟨#[58]⟩] 9)).alloc (.cells #[.string ⟨#[125]⟩] 9):=⟨_,rfl⟩
 have s1:StAt w3 w1.heap.size headI:=stAt_of (t:=9) (by rw [hw3];exact at_oldP (at_oldP (at_newP rfl))) (by decide)
 have s2:StAt w3 (w1.heap.size+1) [[78],[58]]:=stAt_of (t:=9) (by rw [hw3];exact at_oldP (at_newP (by simp))) (by decide)
 have s3:StAt w3 (w1.heap.size+1+1) [[125]]:=stAt_of (t:=9) (by rw [hw3];exact at_newP (by simp)) (by decide)
 have hB3:Hid (Below w.heap.size w w3):=Lib.hid (hB1.out.trans (by
  have h1:=hB1.out.size
  rw [hw3]
  exact (((Below.refl w1.heap.size w1).alloc (Nat.le_refl _) _).alloc (by simp) _).alloc (by simp;omega) _ |>.mono h1))
 replace s1:=Lib.hid s1
 replace s2:=Lib.hid s2
 replace s3:=Lib.hid s3
 replace hw3:=Lib.hid hw3
 go_upto_region 14 with fail
 rw [←hw3.out]
 clear hw3
 obtain⟨k1,hk1⟩:∃k1,k1=(farS [[125]] p).1:=⟨_,rfl⟩
 obtain⟨q1',hq1⟩:∃qq,qq=(farS [[125]] p).2:=⟨_,rfl⟩
 obtain⟨k2,hk2⟩:∃k1,k1=(farS [[78],[58]] p).1:=⟨_,rfl⟩
 obtain⟨q2',hq2⟩:∃qq,qq=(farS [[78],[58]] p).2:=⟨_,rfl⟩
 have hfull1:fullI [[125]] p=(q1'&&k1==K+1):=by rw [hq1,hk1,←hKp.out];rfl
 have hfull2:fullI [[78],[58]] p=(q2'&&k2==K+1):=by rw [hq2,hk2,←hKp.out];rfl
 have hk1l:k1≤K+1:=by rw [hk1,←hKp.out];exact farS_le _ _
 have hk2l:k2≤K+1:=by rw [hk2,←hKp.out];exact farS_le _ _
 have m1:(acc.length:Int)<(acc.length:Int)+1:=by omega
 have m0:(acc.length:Int)+1-1=(acc.length:Int):=by omega
 have mw:IntKind.i64.wrap (acc.length:Int)=(acc.length:Int):=by rw [IntKind.wrap_i64];omega
 replace hk1:=Lib.hid hk1
 replace hk2:=Lib.hid hk2
 replace hq1:=Lib.hid hq1
 replace hq2:=Lib.hid hq2
 replace hfull1:=Lib.hid hfull1
 replace hfull2:=Lib.hid hfull2
 clear hvF cbp
 obtain rfl:q1'=true:=by rw [hq1.out];exact hc1
 have hk1e:¬k1=K+1:=by rw [hk1.out];exact hd1
 obtain rfl:q2'=false:=by rw [hq2.out];exact hc2
 clear hc1 hd1 hc2 hd2
 have g1:((k1:Int)==(K:Int)+1)=false:=by simp;omega
 have g1b:((k1:Int)==((K+1:Nat):Int))=false:=by simp;omega
 have hf1:=hfar.out w3 hB3.out [[125]] (w1.heap.size+1+1) 1 s3.out rfl
 rw [←hk1.out,←hq1.out] at hf1
 replace hf1:=Lib.hid hf1
 go_wp2_with fail
 refine hf1.out.mono ?_
 rintro e w4 ⟨rfl,hb4⟩
 dsimp only
 have hB4:=Lib.hid (hB3.out.trans (hb4.mono hB3.out.size))
 have s24:=Lib.hid (s2.out.below hb4)
 clear hb4 hf1
 have hf2:=hfar.out w4 hB4.out [[78],[58]] (w1.heap.size+1) 2 s24.out rfl
 rw [←hk2.out,←hq2.out] at hf2
 replace hf2:=Lib.hid hf2
 go_wp2_with fail
 refine hf2.out.mono ?_
 rintro e w5 ⟨rfl,hb4⟩
 dsimp only
 have hBC:=Lib.hid (hB4.out.trans (hb4.mono hB4.out.size))
 clear hb4 hf2
 have hno1:=Lib.hid (show fullI [[125]] p=false by rw [hfull1.out];simp;omega)
 have hno2:=Lib.hid (show fullI [[78],[58]] p=false by rw [hfull2.out];rfl)
 obtain⟨b0,hb0⟩:∃b,b=max k1 k2:=⟨_,rfl⟩
 have mx:max (k1:Int) (k2:Int)=(b0:Int):=by omega
 have hb0l:b0≤p.length:=by have:=hKp.out;omega
 have hb00:b0=max (farS [[125]] p).1 (farS [[78],[58]] p).1:=by rw [hb0,hk1.out,hk2.out]
 replace hb0:=Lib.hid hb0
 replace hb00:=Lib.hid hb00
 have hO5:=hO.out.keep (Touch.of_below hBC.out (fun _=>False)) (fun _ _ e=>e.elim)
 obtain⟨gf2,cap2,ab2,cb2,e1,e2,cb5,fb5,cg5,fg5,hgfB,hgfl⟩:=hO5.form
 simp only [Value.slice.injEq,Option.some.injEq,Addr.mk.injEq] at e1
 obtain⟨⟨rfl,-⟩,-,rfl⟩:=e1
 clear hO5 e2
 go_wp2_with fail
 refine (refforms_any (w:=w5)).mono ?_
 rintro e w6 ⟨⟨fm,hfm,rfl,hF⟩,hb6⟩
 dsimp only
 have hB6:=Lib.hid (hBC.out.trans (hb6.mono hBC.out.size))
 have hP6:=Lib.hid (hPpw.out w6 hB6.out)
 have hO6:=Lib.hid (hO.out.keep (Touch.of_below hB6.out (fun _=>False)) (fun _ _ e=>e.elim))
 replace hF:=Lib.hid hF
 clear cb5 cg5 fb5 fg5 hb6 hBC
 go_upto_block 6 with fail
 rw [←hKp.out]
 refine rfp6 (by kernel_rfl) (w:=w6) (gw:=gw) (ow:=k*5) (cp:=cw-k) (fm:=fm) (nb:=nb) (b0:=b0) (B:=B) (bp:=bp) (ab:=ab) (cb:=cb) (p:=p) (acc:=acc) (d:=d) (vF:=.slice (some ⟨gf,0,none⟩) (acc.length+1) capF) (vp:=vp) (vb:=.slice ab nb cb) (vc:=vc) (fun {_ a a1 _} h e=>by cases a;cases a1;cases e;exact hPn h rfl) hP6.out hF.out hO6.out rfl hnb.out hb0l hbl hcl (fun f w' ib hf hfu hP' hI=>refins_any hP' hf hI hwd.out hfu) (Lib.hid ?_)
 intros
 rename_i hx
 rcases hx with ⟨b,hfd,hbl',rfl,rfl,hb7⟩ | ⟨y,vc',hfd,rfl,hO7,hT7⟩
 ·rename World=>w7
  have hBC:=Lib.hid (hB6.out.trans (hb7.mono hB6.out.size))
  have hbK:b≤K+1:=by have:=hKp.out;omega
  have hbad:=Lib.hid (piece_bad hno1.out hno2.out hb00.out hfd)
  rw [hKp.out]
  clear hb7 hfd hbl'
  obtain⟨u,hu⟩:∃u,T[k+b]?=some u:=⟨_,List.getElem?_eq_getElem (by omega)⟩
  have hPn:=hPw.out _ hBC.out
  obtain⟨t0,t1,t2,t3,t4⟩:=hPn.toks (k+b) u hu
  rw [Nat.zero_add] at t0 t1 t2 t3 t4
  have hgl:=hPn.lt
  obtain⟨x,hx⟩:∃x,x=k+b:=⟨_,rfl⟩
  rw [←hx] at t0 t1 t2 t3 t4
  have j1:x<T.length:=by omega
  have j5:k+b=x:=hx.symm
  have j2:(0:Int)≤(k:Int)+(b:Int):=by omega
  have j3:(k:Int)+(b:Int)<(T.length:Int):=by omega
  have j4:((k:Int)+(b:Int)).toNat=x:=by omega
  replace hx:=Lib.hid hx
  have jw:IntKind.i64.wrap ((k:Int)+(b:Int))=(k:Int)+(b:Int):=by rw [IntKind.wrap_i64];omega
  obtain⟨er,her⟩:∃er:Int,er=if u.kind=4 then 41 else 40:=⟨_,rfl⟩
  have hwr:=Lib.hid (fun (wx:World)=>refwrong_any (w:=wx) u)
  unfold tokV at hwr
  rw [←her] at hwr
  replace her:=Lib.hid her
  replace hu:=Lib.hid hu
  clear hPn
  go_wp2_with fail
  refine (hwr.out _).mono ?_
  rintro e w9 ⟨rfl,hb9⟩
  dsimp only
  have hB9:=Lib.hid (hBC.out.trans (hb9.mono hBC.out.size))
  obtain⟨bb0,bb1⟩:=hkeep.out w9 hB9.out
  have x0:w9.cell? ⟨e0,0,none⟩=some (.slice none 0 0):=by rw [blk_cell bb0];rfl
  have x1:w9.cell? ⟨e1,0,none⟩=some (.int .i64 0):=by rw [blk_cell bb1];rfl
  have x2:w9.cell? ⟨e1,1,none⟩=some (.int .i64 0):=by rw [blk_cell bb1];rfl
  have y0:w9.frozen? ⟨e0,0,none⟩=false:=frozB bb0 0
  have y1:w9.frozen? ⟨e1,0,none⟩=false:=frozB bb1 0
  have y2:w9.frozen? ⟨e1,1,none⟩=false:=frozB bb1 1
  have hE:=Lib.hid (err_at h01 bb0 bb1 u (T.drop (k+b+1)))
  rw [←her.out] at hE
  replace bb0:=Lib.hid bb0
  replace bb1:=Lib.hid bb1
  clear hb9 t0 t1 t2 t3 t4
  go_wp2_with fail
  refine hRet.out ⟨b,hbad.out,by rw [drop_at hu.out];exact hE.out,(Touch.of_below hB9.out (fun k=>k=bp∨k=e0∨k=e1∨B≤k)).then err_touch (fun k _ e=>.inr (by rcases e with e | e;exact .inl e;exact .inr (.inl e)))⟩
 ·have hins:=Lib.hid (piece_ins hno1.out hno2.out hb00.out hfd)
  have he:=Lib.hid (And.intro hO7 ((Touch.of_below hB6.out (fun k=>k=bp∨B≤k)).then hT7 (fun k _ h=>h)))
  clear hO7 hT7 hfd
  go_wp2_with fail
  exact hQ.out (.inr (.inr ⟨y,vc',hins.out,rfl,by first | rfl | (congr 1;omega),he.out.1,he.out.2⟩))
end
section
open Go.RowKit Go.Maps Go.Shelf
attribute [local go_sem] Oper.semAt_some fld0 fld1 fld2
set_option maxRecDepth 20000 in
set_option maxHeartbeats 16000000 in
theorem rfpB6:LeafB (fun p K=>(farS [[125]] p).2=true∧¬(farS [[125]] p).1=K+1∧(farS [[78],[58]] p).2=true∧¬(farS [[78],[58]] p).1=K+1):=by
 intro c hc Q w gw cw k K e0 e1 B bp T p t acc vp vb vc d vF hE hP hcw ht hKp hKl hat hPp hpt hwd hb0 hb1 h01 he0 he1 hgB hO hna hbl hcl hPn
 intros
 rename_i hRet hQ
 obtain⟨hc1,hd1,hc2,hd2⟩:=hE
 conv at hc=>lhs;whnf
 simp only [Option.some.injEq] at hc
 subst hc
 obtain⟨gf,capF,ab,cb,rfl,rfl,-⟩:=hO.form
 obtain⟨nb,hnb⟩:∃nb,nb=d.blocks.length:=⟨_,rfl⟩
 rw [←hnb] at hO hQ
 replace hnb:=Lib.hid hnb
 have hnbl:nb≤2000000:=by rw [hnb.out];exact hbl
 have hlen:=hP.len
 have hBw:B≤w.heap.size:=hO.top
 have hPw:=Lib.hid (fun (wr:World) (hb:Below w.heap.size w wr)=>hP.below hb)
 have hPpw:=Lib.hid (fun (wr:World) (hb:Below w.heap.size w wr)=>hPp.below hb)
 have hfar:=Lib.hid (fun (wr:World) (hb:Below w.heap.size w wr) (items:List (List UInt8)) (ib n:Nat) (hs:StAt wr ib items) (hn:n=items.length)=>(by
  have h:=reffar_any (c:=cw-k) (cb:=n) (hPp.below hb) hs
  rw [hKp,←hn] at h
  exact h:Calls Tryd.prog 22 #[.slice (some ⟨ib,0,none⟩) n n,.slice (some ⟨gw,k*5,none⟩) (K+1) (cw-k)] wr fun e w'=>e=.returned (.tuple #[.int .i64 ((farS items p).1:Nat),.bool (farS items p).2])∧Below wr.heap.size wr w'))
 have hkeep:=Lib.hid (fun (wr:World) (hb:Below w.heap.size w wr)=>(⟨(Touch.of_below hb (fun _=>False)).block e0 (by omega) (fun h=>h) |>.trans hb0,(Touch.of_below hb (fun _=>False)).block e1 (by omega) (fun h=>h) |>.trans hb1⟩:wr.heap[e0]?=some (.cells #[.slice none 0 0] 24 (0,0))∧wr.heap[e1]?=some (.cells #[.int .i64 0,.int .i64 0] 26 (0,0))))
 have q1:¬cw=k:=by omega
 have q2:¬cw=0:=by omega
 replace hpt:=Lib.hid hpt
 replace hwd:=Lib.hid hwd
 replace hKp:=Lib.hid hKp
 replace hO:=Lib.hid hO
 clear hb0 hb1
 go_upto_block 2 with fail
 refine rfp2 (by kernel_rfl) (w:=w) (gw:=gw) (cw:=cw) (k:=k) (K:=K) (T:=T) (t:=t) hP ht hKl hat (Lib.hid ?_)
 intros
 rename_i hx
 obtain⟨rfl,hb1⟩:=hx
 rename World=>w1
 have hB1:=Lib.hid hb1
 obtain⟨hvF,cbp⟩:=(hO.out.keep (Touch.of_below hB1.out (fun _=>False)) (fun _ _ e=>e.elim)).form4
 replace hat:=Lib.hid hat
 replace ht:=Lib.hid ht
 clear hP hPp hb1
 have i1:k≤k+1+K:=by omega
 have i2:k+1+K≤T.length:=by omega
 have i3:k+1+K≤cw:=by omega
 have i4:k+1+K-k=K+1:=by omega
 go_upto_region 13 with fail
 rw [i4]
 obtain⟨w3,hw3⟩:∃w3,w3=((w1.alloc (.cells #[.string ⟨#[102,117,110,99]⟩,.string ⟨#[78]⟩,.string ⟨#[40]⟩,.string ⟨#[123]⟩] 9)).alloc (.cells #[.string ⟨#[78]⟩,.string ⟨#[58]⟩] 9)).alloc (.cells #[.string ⟨#[125]⟩] 9):=⟨_,rfl⟩
 have s1:StAt w3 w1.heap.size headI:=stAt_of (t:=9) (by rw [hw3];exact at_oldP (at_oldP (at_newP rfl))) (by decide)
 have s2:StAt w3 (w1.heap.size+1) [[78],[58]]:=stAt_of (t:=9) (by rw [hw3];exact at_oldP (at_newP (by simp))) (by decide)
 have s3:StAt w3 (w1.heap.size+1+1) [[125]]:=stAt_of (t:=9) (by rw [hw3];exact at_newP (by simp)) (by decide)
 have hB3:Hid (Below w.heap.size w w3):=Lib.hid (hB1.out.trans (by
  have h1:=hB1.out.size
  rw [hw3]
  exact (((Below.refl w1.heap.size w1).alloc (Nat.le_refl _) _).alloc (by simp) _).alloc (by simp;omega) _ |>.mono h1))
 replace s1:=Lib.hid s1
 replace s2:=Lib.hid s2
 replace s3:=Lib.hid s3
 replace hw3:=Lib.hid hw3
 go_upto_region 14 with fail
 rw [←hw3.out]
 clear hw3
 obtain⟨k1,hk1⟩:∃k1,k1=(farS [[125]] p).1:=⟨_,rfl⟩
 obtain⟨q1',hq1⟩:∃qq,qq=(farS [[125]] p).2:=⟨_,rfl⟩
 obtain⟨k2,hk2⟩:∃k1,k1=(farS [[78],[58]] p).1:=⟨_,rfl⟩
 obtain⟨q2',hq2⟩:∃qq,qq=(farS [[78],[58]] p).2:=⟨_,rfl⟩
 have hfull1:fullI [[125]] p=(q1'&&k1==K+1):=by rw [hq1,hk1,←hKp.out];rfl
 have hfull2:fullI [[78],[58]] p=(q2'&&k2==K+1):=by rw [hq2,hk2,←hKp.out];rfl
 have hk1l:k1≤K+1:=by rw [hk1,←hKp.out];exact farS_le _ _
 have hk2l:k2≤K+1:=by rw [hk2,←hKp.out];exact farS_le _ _
 have m1:(acc.length:Int)<(acc.length:Int)+1:=by omega
 have m0:(acc.length:Int)+1-1=(acc.length:Int):=by omega
 have mw:IntKind.i64.wrap (acc.length:Int)=(acc.length:Int):=by rw [IntKind.wrap_i64];omega
 replace hk1:=Lib.hid hk1
 replace hk2:=Lib.hid hk2
 replace hq1:=Lib.hid hq1
 replace hq2:=Lib.hid hq2
 replace hfull1:=Lib.hid hfull1
 replace hfull2:=Lib.hid hfull2
 clear hvF cbp
 obtain rfl:q1'=true:=by rw [hq1.out];exact hc1
 have hk1e:¬k1=K+1:=by rw [hk1.out];exact hd1
 obtain rfl:q2'=true:=by rw [hq2.out];exact hc2
 have hk2e:¬k2=K+1:=by rw [hk2.out];exact hd2
 clear hc1 hd1 hc2 hd2
 have g1:((k1:Int)==(K:Int)+1)=false:=by simp;omega
 have g1b:((k1:Int)==((K+1:Nat):Int))=false:=by simp;omega
 have hf1:=hfar.out w3 hB3.out [[125]] (w1.heap.size+1+1) 1 s3.out rfl
 rw [←hk1.out,←hq1.out] at hf1
 replace hf1:=Lib.hid hf1
 go_wp2_with fail
 refine hf1.out.mono ?_
 rintro e w4 ⟨rfl,hb4⟩
 dsimp only
 have hB4:=Lib.hid (hB3.out.trans (hb4.mono hB3.out.size))
 have s24:=Lib.hid (s2.out.below hb4)
 clear hb4 hf1
 have g2:((k2:Int)==(K:Int)+1)=false:=by simp;omega
 have g2b:((k2:Int)==((K+1:Nat):Int))=false:=by simp;omega
 have hf2:=hfar.out w4 hB4.out [[78],[58]] (w1.heap.size+1) 2 s24.out rfl
 rw [←hk2.out,←hq2.out] at hf2
 replace hf2:=Lib.hid hf2
 go_wp2_with fail
 refine hf2.out.mono ?_
 rintro e w5 ⟨rfl,hb4⟩
 dsimp only
 have hBC:=Lib.hid (hB4.out.trans (hb4.mono hB4.out.size))
 clear hb4 hf2
 have hno1:=Lib.hid (show fullI [[125]] p=false by rw [hfull1.out];simp;omega)
 have hno2:=Lib.hid (show fullI [[78],[58]] p=false by rw [hfull2.out];simp;omega)
 obtain⟨b0,hb0⟩:∃b,b=max k1 k2:=⟨_,rfl⟩
 have mx:max (k1:Int) (k2:Int)=(b0:Int):=by omega
 have hb0l:b0≤p.length:=by have:=hKp.out;omega
 have hb00:b0=max (farS [[125]] p).1 (farS [[78],[58]] p).1:=by rw [hb0,hk1.out,hk2.out]
 replace hb0:=Lib.hid hb0
 replace hb00:=Lib.hid hb00
 have hO5:=hO.out.keep (Touch.of_below hBC.out (fun _=>False)) (fun _ _ e=>e.elim)
 obtain⟨gf2,cap2,ab2,cb2,e1,e2,cb5,fb5,cg5,fg5,hgfB,hgfl⟩:=hO5.form
 simp only [Value.slice.injEq,Option.some.injEq,Addr.mk.injEq] at e1
 obtain⟨⟨rfl,-⟩,-,rfl⟩:=e1
 clear hO5 e2
 go_wp2_with fail
 refine (refforms_any (w:=w5)).mono ?_
 rintro e w6 ⟨⟨fm,hfm,rfl,hF⟩,hb6⟩
 dsimp only
 have hB6:=Lib.hid (hBC.out.trans (hb6.mono hBC.out.size))
 have hP6:=Lib.hid (hPpw.out w6 hB6.out)
 have hO6:=Lib.hid (hO.out.keep (Touch.of_below hB6.out (fun _=>False)) (fun _ _ e=>e.elim))
 replace hF:=Lib.hid hF
 clear cb5 cg5 fb5 fg5 hb6 hBC
 go_upto_block 6 with fail
 rw [←hKp.out]
 refine rfp6 (by kernel_rfl) (w:=w6) (gw:=gw) (ow:=k*5) (cp:=cw-k) (fm:=fm) (nb:=nb) (b0:=b0) (B:=B) (bp:=bp) (ab:=ab) (cb:=cb) (p:=p) (acc:=acc) (d:=d) (vF:=.slice (some ⟨gf,0,none⟩) (acc.length+1) capF) (vp:=vp) (vb:=.slice ab nb cb) (vc:=vc) (fun {_ a a1 _} h e=>by cases a;cases a1;cases e;exact hPn h rfl) hP6.out hF.out hO6.out rfl hnb.out hb0l hbl hcl (fun f w' ib hf hfu hP' hI=>refins_any hP' hf hI hwd.out hfu) (Lib.hid ?_)
 intros
 rename_i hx
 rcases hx with ⟨b,hfd,hbl',rfl,rfl,hb7⟩ | ⟨y,vc',hfd,rfl,hO7,hT7⟩
 ·rename World=>w7
  have hBC:=Lib.hid (hB6.out.trans (hb7.mono hB6.out.size))
  have hbK:b≤K+1:=by have:=hKp.out;omega
  have hbad:=Lib.hid (piece_bad hno1.out hno2.out hb00.out hfd)
  rw [hKp.out]
  clear hb7 hfd hbl'
  obtain⟨u,hu⟩:∃u,T[k+b]?=some u:=⟨_,List.getElem?_eq_getElem (by omega)⟩
  have hPn:=hPw.out _ hBC.out
  obtain⟨t0,t1,t2,t3,t4⟩:=hPn.toks (k+b) u hu
  rw [Nat.zero_add] at t0 t1 t2 t3 t4
  have hgl:=hPn.lt
  obtain⟨x,hx⟩:∃x,x=k+b:=⟨_,rfl⟩
  rw [←hx] at t0 t1 t2 t3 t4
  have j1:x<T.length:=by omega
  have j5:k+b=x:=hx.symm
  have j2:(0:Int)≤(k:Int)+(b:Int):=by omega
  have j3:(k:Int)+(b:Int)<(T.length:Int):=by omega
  have j4:((k:Int)+(b:Int)).toNat=x:=by omega
  replace hx:=Lib.hid hx
  have jw:IntKind.i64.wrap ((k:Int)+(b:Int))=(k:Int)+(b:Int):=by rw [IntKind.wrap_i64];omega
  obtain⟨er,her⟩:∃er:Int,er=if u.kind=4 then 41 else 40:=⟨_,rfl⟩
  have hwr:=Lib.hid (fun (wx:World)=>refwrong_any (w:=wx) u)
  unfold tokV at hwr
  rw [←her] at hwr
  replace her:=Lib.hid her
  replace hu:=Lib.hid hu
  clear hPn
  go_wp2_with fail
  refine (hwr.out _).mono ?_
  rintro e w9 ⟨rfl,hb9⟩
  dsimp only
  have hB9:=Lib.hid (hBC.out.trans (hb9.mono hBC.out.size))
  obtain⟨bb0,bb1⟩:=hkeep.out w9 hB9.out
  have x0:w9.cell? ⟨e0,0,none⟩=some (.slice none 0 0):=by rw [blk_cell bb0];rfl
  have x1:w9.cell? ⟨e1,0,none⟩=some (.int .i64 0):=by rw [blk_cell bb1];rfl
  have x2:w9.cell? ⟨e1,1,none⟩=some (.int .i64 0):=by rw [blk_cell bb1];rfl
  have y0:w9.frozen? ⟨e0,0,none⟩=false:=frozB bb0 0
  have y1:w9.frozen? ⟨e1,0,none⟩=false:=frozB bb1 0
  have y2:w9.frozen? ⟨e1,1,none⟩=false:=frozB bb1 1
  have hE:=Lib.hid (err_at h01 bb0 bb1 u (T.drop (k+b+1)))
  rw [←her.out] at hE
  replace bb0:=Lib.hid bb0
  replace bb1:=Lib.hid bb1
  clear hb9 t0 t1 t2 t3 t4
  go_wp2_with fail
  refine hRet.out ⟨b,hbad.out,by rw [drop_at hu.out];exact hE.out,(Touch.of_below hB9.out (fun k=>k=bp∨k=e0∨k=e1∨B≤k)).then err_touch (fun k _ e=>.inr (by rcases e with e | e;exact .inl e;exact .inr (.inl e)))⟩
 ·have hins:=Lib.hid (piece_ins hno1.out hno2.out hb00.out hfd)
  have he:=Lib.hid (And.intro hO7 ((Touch.of_below hB6.out (fun k=>k=bp∨B≤k)).then hT7 (fun k _ h=>h)))
  clear hO7 hT7 hfd
  go_wp2_with fail
  exact hQ.out (.inr (.inr ⟨y,vc',hins.out,rfl,by first | rfl | (congr 1;omega),he.out.1,he.out.2⟩))
end
section
open Go.RowKit Go.Maps Go.Shelf
set_option maxRecDepth 20000 in
set_option maxHeartbeats 4000000 in
theorem rfpB:LeafB (fun _ _=>True):=by
 intro c hc Q w gw cw k K e0 e1 B bp T p t acc vp vb vc d vF hE hP hcw ht hKp hKl hat hPp hpt hwd hb0 hb1 h01 he0 he1 hgB hO hna hbl hcl hPn
 intros
 rename_i hRet hQ
 cases h1:(farS [[125]] p).2 with
 | true=>
  by_cases h2:(farS [[125]] p).1=K+1
  ·exact rfpB0 hc ⟨h1,h2⟩ hP hcw ht hKp hKl hat hPp hpt hwd hb0 hb1 h01 he0 he1 hgB hO hna hbl hcl hPn hRet hQ
  ·cases h3:(farS [[78],[58]] p).2 with
   | true=>
    by_cases h4:(farS [[78],[58]] p).1=K+1
    ·exact rfpB2 hc ⟨h1,h2,h3,h4⟩ hP hcw ht hKp hKl hat hPp hpt hwd hb0 hb1 h01 he0 he1 hgB hO hna hbl hcl hPn hRet hQ
    ·exact rfpB6 hc ⟨h1,h2,h3,h4⟩ hP hcw ht hKp hKl hat hPp hpt hwd hb0 hb1 h01 he0 he1 hgB hO hna hbl hcl hPn hRet hQ
   | false=>exact rfpB5 hc ⟨h1,h2,h3,trivial⟩ hP hcw ht hKp hKl hat hPp hpt hwd hb0 hb1 h01 he0 he1 hgB hO hna hbl hcl hPn hRet hQ
 | false=>
  cases h3:(farS [[78],[58]] p).2 with
  | true=>
   by_cases h4:(farS [[78],[58]] p).1=K+1
   ·exact rfpB1 hc ⟨h1,trivial,h3,h4⟩ hP hcw ht hKp hKl hat hPp hpt hwd hb0 hb1 h01 he0 he1 hgB hO hna hbl hcl hPn hRet hQ
   ·exact rfpB4 hc ⟨h1,trivial,h3,h4⟩ hP hcw ht hKp hKl hat hPp hpt hwd hb0 hb1 h01 he0 he1 hgB hO hna hbl hcl hPn hRet hQ
  | false=>exact rfpB3 hc ⟨h1,trivial,h3,trivial⟩ hP hcw ht hKp hKl hat hPp hpt hwd hb0 hb1 h01 he0 he1 hgB hO hna hbl hcl hPn hRet hQ
end
section
open Go.RowKit Go.Maps Go.Shelf
attribute [local go_sem] Oper.semAt_some fld0 fld1 fld2
structure PSt (W:World) (B bp:Nat) (T:List Tok) (RES:Except Flt (List Fun)) (wr:World) (k N:Nat) (acc:List Fun) (bw:Bool):Prop where
 touch:Touch W wr (fun j=>j=bp)
 tail:Tail4 (T.drop k)
 few:acc.length≤k
 fuel:T.length-k<N
 cl:bw=false→∃vF,Cl B bp wr acc vF∧refN N acc none (T.drop k)=RES
 op:bw=true→∃d vF vp vb vc,Op B bp wr acc d vF vp vb vc∧d.blocks.length≤k∧(∀x∈d.blocks,x.code.length≤k)∧refN N acc (some d) (T.drop k)=RES
section
variable {W wr wx:World} {B bp k N K:Nat} {T p:List Tok} {t:Tok} {RES:Except Flt (List Fun)} {acc:List Fun}
theorem kind_no {l:List Tok}(h:l=t::l.tail)(ht:t.kind≠4):kindAt l 4=false:=by
 rw [h]
 simp [kindAt,ht]
theorem kind_yes {l:List Tok}(h:l=t::l.tail)(ht:t.kind=4):kindAt l 4=true:=by
 rw [h]
 simp [kindAt,ht]
theorem flt_drop {l:List Tok}{b:Nat}(hb:b≤(pieceL l).length):fltL ((pieceL l).drop b++behindL l)=fltL (l.drop b):=by
 have h:l.drop b=(pieceL l).drop b++behindL l:=by
  conv=>lhs;rw [←piece_app l]
  rw [List.drop_append_of_le_length hb]
 rw [h]
end
theorem addCode_len:∀(bs:List Blk) (y:Ins) (n:Nat),(∀x∈bs,x.code.length≤n)→(addCode bs y).length=bs.length∧∀x∈addCode bs y,x.code.length≤n+1
 | [],y,n,h=>⟨rfl,fun x hx=>by cases hx⟩
 | [b],y,n,h=>by
  refine⟨rfl,fun x hx=>?_⟩
  obtain rfl:=List.mem_singleton.1 hx
  have:=h b (List.mem_cons_self ..)
  simp only [List.length_append,List.length_singleton]
  omega
 | b::c::bs,y,n,h=>by
  obtain⟨h1,h2⟩:=addCode_len (c::bs) y n (fun x hx=>h x (List.mem_cons_of_mem _ hx))
  refine⟨congrArg Nat.succ h1,fun x hx=>?_⟩
  have hx:x∈b::addCode (c::bs) y:=hx
  rcases List.mem_cons.1 hx with rfl | hx
  ·have:=h x (List.mem_cons_self ..);omega
  ·exact h2 x hx
theorem search_le:∀(fs:List FormR) (p:List Tok) (b n:Nat),b≤p.length→searchR fs p b=.inr n→n≤p.length
 | [],p,b,n,hb,h=>by
  injection h with h
  omega
 | f::fs,p,b,n,hb,h=>by
  unfold searchR at h
  split at h
  ·cases h
  ·exact search_le fs p _ n (by have:=farS_le (itemsR f) p;omega) h
theorem bad_le {has:Bool}{p:List Tok}{b:Nat}(h:pieceR has p=.bad b):b≤p.length:=by
 have h1:=farS_le [[125]] p
 have h2:=farS_le [[78],[58]] p
 unfold pieceR at h
 split at h
 ·cases h
 ·split at h
  ·cases h
  ·split at h
   ·split at h
    ·cases h
    ·rename_i n hs
     injection h with h
     subst h
     exact search_le _ _ _ _ (by omega) hs
   ·injection h with h
    omega
section
variable {W wr wx:World} {B bp k N K:Nat} {T p:List Tok} {t:Tok} {RES:Except Flt (List Fun)} {acc:List Fun}
theorem PSt.open (h:PSt W B bp T RES wr k (N+1) acc false)(hd:T.drop k=t::T.drop (k+1))(ht:t.kind≠4)(hp:p=pieceL (T.drop k))(hKp:p.length=K+1)(hbe:behindL (T.drop k)=T.drop (k+1+K))(htl:Tail4 (T.drop (k+1+K)))(hkl:k+1+K<T.length)(hB:B=W.heap.size)(hyes:fullI headI p=true){vF vp:Value}(hO:Op B bp wx acc ⟨nmT ((p.drop 1).headD ⟨0,[],0,0,0⟩),nmsT (p.drop 2),[]⟩ vF vp (.slice none 0 0) (.slice none 0 0))(hT:Touch wr wx (fun j=>j=bp∨B≤j)):PSt W B bp T RES wx (k+1+K) N acc true:=by
 obtain⟨vF0,-,hr⟩:=h.cl rfl
 have hf:=h.fuel
 refine⟨h.touch.then hT (fun j hj e=>by rcases e with e | e;exact e;omega),htl,by have:=h.few;omega,by omega,fun e=>(by cases e),fun _=>⟨_,vF,vp,_,_,hO,Nat.zero_le _,fun x hx=>(by cases hx),?_⟩⟩
 unfold refN at hr
 rw [if_neg (by rw [kind_no (t:=t) (by rw [hd];rfl) ht];simp)] at hr
 dsimp only at hr
 rw [←hp,if_pos hyes,hbe] at hr
 exact hr
theorem PSt.fail (h:PSt W B bp T RES wr k (N+1) acc false)(hd:T.drop k=t::T.drop (k+1))(ht:t.kind≠4)(hp:p=pieceL (T.drop k))(hno:fullI headI p=false):RES=.error (fltL (T.drop (k+(farS headI p).1))):=by
 obtain⟨vF0,-,hr⟩:=h.cl rfl
 unfold refN at hr
 rw [if_neg (by rw [kind_no (t:=t) (by rw [hd];rfl) ht];simp)] at hr
 dsimp only at hr
 rw [←hp,if_neg (by rw [hno];simp)] at hr
 rw [←hr,hp,flt_drop (by rw [←hp];exact farS_le _ _),List.drop_drop]
theorem PSt.goes (h:PSt W B bp T RES wr k (N+1) acc true)(hd:T.drop k=t::T.drop (k+1))(ht:t.kind≠4)(hp:p=pieceL (T.drop k)):∃d vF vp vb vc,Op B bp wr acc d vF vp vb vc∧d.blocks.length≤k∧(∀x∈d.blocks,x.code.length≤k)∧
  (match pieceR (!d.blocks.isEmpty) p with | .fin=>refN N (acc++[d]) none (behindL (T.drop k)) | .lab=>refN N acc (some (addB d (nmT (p.headD ⟨0,[],0,0,0⟩)))) (behindL (T.drop k)) | .ins x=>refN N acc (some (addI d x)) (behindL (T.drop k)) | .bad b=>.error (fltL (T.drop (k+b))))=RES:=by
 obtain⟨d,vF,vp,vb,vc,hO,h1,h2,hr⟩:=h.op rfl
 refine⟨d,vF,vp,vb,vc,hO,h1,h2,?_⟩
 unfold refN at hr
 rw [if_neg (by rw [kind_no (t:=t) (by rw [hd];rfl) ht];simp)] at hr
 dsimp only at hr
 rw [←hp] at hr
 cases hq:pieceR (!d.blocks.isEmpty) p with
 | fin=>rw [hq] at hr;exact hr
 | lab=>rw [hq] at hr;exact hr
 | ins x=>rw [hq] at hr;exact hr
 | bad b=>
  rw [hq] at hr
  have hr:Except.error (fltL (p.drop b++behindL (T.drop k)))=RES:=hr
  rw [hp,flt_drop (by rw [←hp];exact bad_le hq),List.drop_drop] at hr
  exact hr
end
end
section
open Go.RowKit Go.Maps Go.Shelf
attribute [local go_sem] Oper.semAt_some fld0 fld1 fld2
theorem ret_bad {F:World}{A:Array Value}{v4:Value}{e0 e1:Nat}{f:Flt}(h0:A[2]?=some (.pointer (some ⟨e0,0,none⟩)))(h1:A[3]?=some (.pointer (some ⟨e1,0,none⟩)))(h4:A[4]?=some v4)(hE:ErrAt F e0 e1 v4 f):(results Tryd.f10 A).run Tryd.prog F=.ok (.tuple #[.agg #[.slice none 0 0],.agg #[.int .i64 f.1,.int .i64 f.2.1],.int .i64 f.2.2]) F:=by
 obtain⟨c0,c1,c2,rfl⟩:=hE
 have g0:A.getD 2 undef=.pointer (some ⟨e0,0,none⟩):=by rw [Array.getD_eq_getD_getElem?,h0];rfl
 have g1:A.getD 3 undef=.pointer (some ⟨e1,0,none⟩):=by rw [Array.getD_eq_getD_getElem?,h1];rfl
 have g4:A.getD 4 undef=.int .i64 f.2.2:=by rw [Array.getD_eq_getD_getElem?,h4];rfl
 simp [results,Tryd.results10,go_sem,-Array.getD_eq_getD_getElem?,g0,g1,g4,c0,c1,c2]
theorem boxes_at {w5:World}{e0 e1:Nat}{x0 x1 x2 v a b:Value}{t0 t1:TypeId}(h01:e0≠e1)(b0:w5.heap[e0]?=some (.cells #[x0] t0 (0,0)))(b1:w5.heap[e1]?=some (.cells #[x1,x2] t1 (0,0))):(((w5.setCell ⟨e0,0,none⟩ v).setCell ⟨e1,0,none⟩ a).setCell ⟨e1,1,none⟩ b).cell? ⟨e0,0,none⟩=some v∧(((w5.setCell ⟨e0,0,none⟩ v).setCell ⟨e1,0,none⟩ a).setCell ⟨e1,1,none⟩ b).cell? ⟨e1,0,none⟩=some a∧(((w5.setCell ⟨e0,0,none⟩ v).setCell ⟨e1,0,none⟩ a).setCell ⟨e1,1,none⟩ b).cell? ⟨e1,1,none⟩=some b:=by
 have c0:=blk_set (i:=0) v b0
 have c1:=(Below.heap_setCell w5 ⟨e0,0,none⟩ v e1 (fun e=>h01 e.symm)).trans b1
 have d1:=blk_set (i:=0) a c1
 have d0:=(Below.heap_setCell (w5.setCell ⟨e0,0,none⟩ v) ⟨e1,0,none⟩ a e0 h01).trans c0
 have f1:=blk_set (i:=1) b d1
 have f0:=(Below.heap_setCell ((w5.setCell ⟨e0,0,none⟩ v).setCell ⟨e1,0,none⟩ a) ⟨e1,1,none⟩ b e0 h01).trans d0
 exact⟨by rw [blk_cell f0];rfl,by rw [blk_cell f1];rfl,by rw [blk_cell f1];rfl⟩
theorem ret_any {F:World}{A:Array Value}{v4 v a b:Value}{e0 e1:Nat}(h0:A[2]?=some (.pointer (some ⟨e0,0,none⟩)))(h1:A[3]?=some (.pointer (some ⟨e1,0,none⟩)))(h4:A[4]?=some v4)(c0:F.cell? ⟨e0,0,none⟩=some v)(c1:F.cell? ⟨e1,0,none⟩=some a)(c2:F.cell? ⟨e1,1,none⟩=some b):(results Tryd.f10 A).run Tryd.prog F=.ok (.tuple #[.agg #[v],.agg #[a,b],v4]) F:=by
 have g0:A.getD 2 undef=.pointer (some ⟨e0,0,none⟩):=by rw [Array.getD_eq_getD_getElem?,h0];rfl
 have g1:A.getD 3 undef=.pointer (some ⟨e1,0,none⟩):=by rw [Array.getD_eq_getD_getElem?,h1];rfl
 have g4:A.getD 4 undef=v4:=by rw [Array.getD_eq_getD_getElem?,h4];rfl
 simp [results,Tryd.results10,go_sem,-Array.getD_eq_getD_getElem?,g0,g1,g4,c0,c1,c2]
theorem Cl.read {B bp:Nat}{w w':World}{acc:List Fun}{vF:Value}(h:Cl B bp w acc vF)(t:Touch w w' (fun k=>k<B)):REU 3 RdFunU w' vF acc:=by
 obtain⟨flat,r1,r2⟩:=h.row
 exact (r2.own r1 t (fun g hg e=>by have:=(r1.lt g hg).1;omega) (fun k _ e=>.inl e)).rdu
set_option maxRecDepth 20000 in
set_option maxHeartbeats 16000000 in
theorem refparse_good {w:World}{s:ByteArray}{T:List Tok}(hs:s.size≤1048576)(hl:lex s.data.toList 1 1=.ok T):Calls Tryd.prog 10 #[.string s] w (ParsePost w (refN (T.length+1) [] none T)):=by
 have hk:=Lib.hid (fun (w':World)=>(by
  have h:=ref_any (w:=w') hs
  rw [hl] at h
  exact h:Calls Tryd.prog 21 #[.string s] w' fun e w''=>LexPost w' (.ok T) e w''))
 have hok:=lex_tok hl (by simpa using hs)
 have h4:=(parse_ref hl).2
 obtain⟨RES,hRES⟩:∃R,R=refN (T.length+1) [] none T:=⟨_,rfl⟩
 rw [←hRES]
 replace hRES:=Lib.hid hRES
 have hTl:T.length≤2000000:=by have:=hok.len;omega
 have hkind:∀t∈T,t.kind≤4:=fun t ht=>hok.kind t ht
 replace hok:=Lib.hid hok
 replace hl:=Lib.hid hl
 replace h4:=Lib.hid h4
 go_enter Tryd.func10,Tryd.ntmps10
 go_wp2_with fail
 refine (hk.out _).mono ?_
 rintro e w2 ⟨⟨v,rfl,hrow⟩,hb2⟩
 dsimp only
 obtain⟨wA,hwA⟩:∃wA,wA=(w.alloc (.cells #[.slice none 0 0] 24)).alloc (.cells #[.int .i64 0,.int .i64 0] 26):=⟨_,rfl⟩
 rw [←hwA] at hrow hb2
 have hzA:wA.heap.size=w.heap.size+2:=by rw [hwA];simp
 have hTne:0<T.length:=List.length_pos_iff.2 h4.out.ne
 obtain⟨gw,cw,rfl,hgw1,hgw2⟩:=hrow.form hTne
 have hcw:=own_cap hrow rfl
 go_upto_block 0 with fail
 obtain⟨w3,hw3⟩:∃w3,w3=(w2.alloc (.cells #[.int .i64 0,.int .i64 0] 26)).alloc (.cells #[.slice none 0 0] 24):=⟨_,rfl⟩
 rw [←hw3]
 obtain⟨bp,hbp⟩:∃b,b=w2.heap.size+1:=⟨_,rfl⟩
 rw [←hbp]
 obtain⟨e0,he0⟩:∃e,e=w.heap.size:=⟨_,rfl⟩
 rw [←he0]
 have hs2:=hb2.size
 have hz3:w3.heap.size=bp+1:=by rw [hw3,hbp];simp
 have hb23:Below w2.heap.size w2 w3:=by rw [hw3];exact ((Below.refl _ _).alloc (Nat.le_refl _) _).alloc (by simp) _
 have hbx:w3.heap[bp]?=some (.cells #[.slice none 0 0] 24 (0,0)):=by rw [hw3];exact at_newP (by simp [hbp])
 have h0A:wA.heap[e0]?=some (.cells #[.slice none 0 0] 24 (0,0)):=by rw [hwA];exact at_oldP (at_newP he0)
 have h1A:wA.heap[e0+1]?=some (.cells #[.int .i64 0,.int .i64 0] 26 (0,0)):=by rw [hwA];exact at_newP (by simp [he0])
 have hb0:w3.heap[e0]?=some (.cells #[.slice none 0 0] 24 (0,0)):=((Touch.of_below hb23 (fun _=>False)).block e0 (by omega) (fun h=>h)).trans (((Touch.of_below hb2 (fun _=>False)).block e0 (by omega) (fun h=>h)).trans h0A)
 have hb1:w3.heap[e0+1]?=some (.cells #[.int .i64 0,.int .i64 0] 26 (0,0)):=((Touch.of_below hb23 (fun _=>False)).block (e0+1) (by omega) (fun h=>h)).trans (((Touch.of_below hb2 (fun _=>False)).block (e0+1) (by omega) (fun h=>h)).trans h1A)
 have hPT:PcAt w3 gw 0 T:=(show PcAt w2 gw 0 T from ⟨fun j u hu=>by
  obtain⟨g,cap,e,-,a0,a1,a2,a3,a4⟩:=hrow.rd.at hu
  simp only [Value.slice.injEq,Option.some.injEq,Addr.mk.injEq] at e
  obtain⟨⟨rfl,-⟩,-⟩:=e
  rw [Nat.zero_add]
  exact⟨a0,a1,a2,a3,a4⟩,hTl,by omega,hkind,hgw2⟩).below hb23
 have hbw:Below w.heap.size w w3:=(by
  have h1:Below w.heap.size w wA:=by rw [hwA];exact ((Below.refl _ _).alloc (Nat.le_refl _) _).alloc (by simp) _
  exact (h1.trans (hb2.mono (by omega))).trans (hb23.mono (by omega)))
 have hS0:Hid (PSt w3 (bp+1) bp T RES w3 0 (T.length+1) [] false):=Lib.hid ⟨Touch.refl _ _,h4.out,Nat.le_refl _,by omega,fun _=>⟨_,⟨hbx,⟨[],World.ownsRow_nil _ _ _ _,Els.nil _ _⟩,by omega,by omega⟩,hRES.out.symm⟩,fun e=>(by cases e)⟩
 have hPr:=Lib.hid (fun (wr:World) (hT:Touch w3 wr (fun j=>j=bp))=>(⟨hPT.touch hT (by omega),(hT.block e0 (by omega) (by omega)).trans hb0,(hT.block (e0+1) (by omega) (by omega)).trans hb1⟩:PcAt wr gw 0 T∧wr.heap[e0]?=some (.cells #[.slice none 0 0] 24 (0,0))∧wr.heap[e0+1]?=some (.cells #[.int .i64 0,.int .i64 0] 26 (0,0))))
 have hbpe:e0+1<bp:=by omega
 have hgwb:gw<bp+1∧gw≠bp:=by omega
 replace he0:=Lib.hid he0
 replace hbw:=Lib.hid hbw
 replace hw3:=Lib.hid hw3
 replace hbp:=Lib.hid hbp
 replace hz3:=Lib.hid hz3
 clear hbx h0A h1A hb0 hb1 hPT hb23 hrow hb2 hwA hzA hgw1 hgw2 hs2
 go_wp2_with fail
 go_loopw [4,9,10] (fun _ b i wr=>∃(k N:Nat) (acc:List Fun) (bw:Bool),b=.bool bw∧i=.int .i64 k∧k<T.length∧Hid (PSt w3 (bp+1) bp T RES wr k (N+1) acc bw)) (fun _ _ i _=>T.length-(intOf i).toNat)
 case atStart=>exact⟨0,T.length,[],false,rfl,rfl,hTne,hS0⟩
 case round=>
  clear hS0
  obtain⟨k,N,acc,bw,rfl,rfl,hkT,hS⟩:=hrel
  obtain⟨t,ht⟩:∃t,T[k]?=some t:=⟨_,List.getElem?_eq_getElem hkT⟩
  have hdk:=drop_at ht
  obtain⟨hP,hb0,hb1⟩:=hPr.out wr hS.out.touch
  obtain⟨a0,a1,a2,a3,a4⟩:=hP.toks k t ht
  rw [Nat.zero_add] at a0 a1 a2 a3 a4
  have hgl:=hP.lt
  have i1:(k:Int)<(T.length:Int):=by omega
  by_cases hk4:t.kind=4
  ·have g1:((t.kind:Int) != 4)=false:=by rw [hk4];rfl
   have x0:wr.cell? ⟨e0,0,none⟩=some (.slice none 0 0):=by rw [blk_cell hb0];rfl
   have x1:wr.cell? ⟨e0+1,0,none⟩=some (.int .i64 0):=by rw [blk_cell hb1];rfl
   have x2:wr.cell? ⟨e0+1,1,none⟩=some (.int .i64 0):=by rw [blk_cell hb1];rfl
   have y0:wr.frozen? ⟨e0,0,none⟩=false:=frozB hb0 0
   have y1:wr.frozen? ⟨e0+1,0,none⟩=false:=frozB hb1 0
   have y2:wr.frozen? ⟨e0+1,1,none⟩=false:=frozB hb1 1
   have h01:e0≠e0+1:=by omega
   have hyes:=kind_yes (l:=T.drop k) (t:=t) (by rw [hdk];rfl) hk4
   cases bw with
   | false=>
    obtain⟨vF,hC,hr⟩:=hS.out.cl rfl
    unfold refN at hr
    rw [if_pos hyes] at hr
    have hr:Except.ok acc=RES:=hr
    obtain⟨aF,cF,hvF,cbp,fbp⟩:=hC.form
    subst hvF
    have hB:=boxes_at (v:=.slice aF acc.length cF) (a:=.int .i64 0) (b:=.int .i64 0) h01 hb0 hb1
    have hTF:Touch wr (((wr.setCell ⟨e0,0,none⟩ (.slice aF acc.length cF)).setCell ⟨e0+1,0,none⟩ (.int .i64 0)).setCell ⟨e0+1,1,none⟩ (.int .i64 0)) (fun j=>j=e0∨j=e0+1):=err_touch
    have hSt:=Lib.hid hS.out.touch
    replace hr:=Lib.hid hr
    replace hC:=Lib.hid hC
    replace hB:=Lib.hid hB
    replace hTF:=Lib.hid hTF
    replace hb0:=Lib.hid hb0
    replace hb1:=Lib.hid hb1
    replace hdk:=Lib.hid hdk
    replace hP:=Lib.hid hP
    clear hyes hS
    go_wp2_with fail
    refine bodyPost_ret (ret_any (e0:=e0) (e1:=e0+1) rfl rfl rfl hB.out.1 hB.out.2.1 hB.out.2.2) rfl ?_
    rw [←hr.out]
    have h1:=he0.out
    have h2:=hz3.out
    refine⟨hbw.out.trans (((hSt.out.mono (S':=fun j=>j=bp∨e0≤j) (fun j _ e=>.inl e)).then hTF.out (fun j _ e=>by rcases e with e | e<;>omega)).below (by have:=hbw.out.size;omega) (fun j hj e=>by omega)),_,rfl,fun w'' t''=>hC.out.read ((hTF.out.mono (S':=fun j=>j<bp+1) (fun j _ e=>by rcases e with e | e<;>omega)).then t'' (fun j _ e=>by omega))⟩
   | true=>
    obtain⟨d,vF,vp,vb,vc,hO,-,-,hr⟩:=hS.out.op rfl
    unfold refN at hr
    rw [if_pos hyes] at hr
    have hr:Except.error (fltL (T.drop k))=RES:=hr
    have hSt:=Lib.hid hS.out.touch
    obtain⟨er,her⟩:∃er:Int,er=if t.kind=4 then 41 else 40:=⟨_,rfl⟩
    have hwr:=Lib.hid (fun (wx:World)=>refwrong_any (w:=wx) t)
    unfold tokV at hwr
    rw [←her] at hwr
    replace her:=Lib.hid her
    replace hr:=Lib.hid hr
    replace hdk:=Lib.hid hdk
    have hbB:=Lib.hid (show wr.heap[e0]?=some (.cells #[.slice none 0 0] 24 (0,0))∧wr.heap[e0+1]?=some (.cells #[.int .i64 0,.int .i64 0] 26 (0,0)) from ⟨hb0,hb1⟩)
    have hle0:e0+1<wr.heap.size:=(Array.getElem?_eq_some_iff.1 hb1).1
    replace hP:=Lib.hid hP
    replace hk4:=Lib.hid hk4
    clear hyes hS x0 x1 x2 y0 y1 y2 hb0 hb1 hO
    go_wp2_with fail
    refine (hwr.out _).mono ?_
    rintro e w9 ⟨rfl,hb9⟩
    dsimp only
    have bb0:=((Touch.of_below hb9 (fun _=>False)).block e0 (by omega) (fun h=>h)).trans hbB.out.1
    have bb1:=((Touch.of_below hb9 (fun _=>False)).block (e0+1) (by omega) (fun h=>h)).trans hbB.out.2
    have x0:w9.cell? ⟨e0,0,none⟩=some (.slice none 0 0):=by rw [blk_cell bb0];rfl
    have x1:w9.cell? ⟨e0+1,0,none⟩=some (.int .i64 0):=by rw [blk_cell bb1];rfl
    have x2:w9.cell? ⟨e0+1,1,none⟩=some (.int .i64 0):=by rw [blk_cell bb1];rfl
    have y0:w9.frozen? ⟨e0,0,none⟩=false:=frozB bb0 0
    have y1:w9.frozen? ⟨e0+1,0,none⟩=false:=frozB bb1 0
    have y2:w9.frozen? ⟨e0+1,1,none⟩=false:=frozB bb1 1
    have hE:=err_at h01 bb0 bb1 t (T.drop (k+1))
    rw [←her.out,←hdk.out] at hE
    replace hE:=Lib.hid hE
    have hT9:=Lib.hid (Touch.of_below hb9 (fun j=>j=bp∨e0≤j))
    replace bb0:=Lib.hid bb0
    replace bb1:=Lib.hid bb1
    clear hb9 a0 a1 a2 a3 a4
    go_wp2_with fail
    refine bodyPost_ret (ret_bad (e0:=e0) (e1:=e0+1) rfl rfl rfl hE.out) rfl ?_
    rw [←hr.out]
    refine⟨?_,rfl⟩
    have h1:=he0.out
    have h2:=hz3.out
    exact hbw.out.trans ((((hSt.out.mono (S':=fun j=>j=bp∨e0≤j) (fun j _ e=>.inl e)).trans hT9.out).then err_touch (fun j _ e=>by rcases e with e | e<;>omega)).below (by have:=hbw.out.size;omega) (fun j hj e=>by omega))
  ·have g1:((t.kind:Int) != 4)=true:=by simp;omega
   have h4k:Tail4 (t::T.drop (k+1)):=by rw [←hdk];exact hS.out.tail
   obtain⟨K,hKp,hKl,hat,hsplit,hbeh⟩:=piece_at hdk h4k hk4
   have hwd:=(h4k.behind hk4).2.2
   have htl:=(h4k.behind hk4).1
   rw [hbeh] at htl
   rw [←hdk] at hKp hsplit hbeh hwd
   obtain⟨p,hp⟩:∃p,p=pieceL (T.drop k):=⟨_,rfl⟩
   rw [←hp] at hKp hsplit hwd
   have hPp:PcAt wr gw (k*5) p:=by
    have h9:PcAt wr gw 0 (T.take k++p++behindL (T.drop k)):=by rw [←hsplit];exact hP
    have h8:=h9.sub
    rw [List.length_take,Nat.min_eq_left (by omega)] at h8
    exact h8
   have hpt:∀j u,p[j]?=some u→T[k+j]?=some u:=fun j u hj=>sub_at hsplit (by omega) hj
   cases bw with
   | false=>
    obtain⟨vF,hC,-⟩:=hS.out.cl rfl
    have hfail:=Lib.hid (fun hno=>hS.out.fail hdk hk4 hp hno)
    have hopen:=Lib.hid (fun (wx:World) hyes (vF vp:Value) hO hT=>hS.out.open (wx:=wx) hdk hk4 hp hKp hbeh htl hKl hz3.out.symm hyes (vF:=vF) (vp:=vp) hO hT)
    have hfew:=hS.out.few
    have hfuel:=hS.out.fuel
    have hSt:=Lib.hid hS.out.touch
    clear hsplit
    replace hdk:=Lib.hid hdk
    replace hbeh:=Lib.hid hbeh
    replace hp:=Lib.hid hp
    replace hwd:=Lib.hid hwd
    replace hat:=Lib.hid hat
    replace hpt:=Lib.hid hpt
    replace hPp:=Lib.hid hPp
    replace hP:=Lib.hid hP
    replace hC:=Lib.hid hC
    replace hb0:=Lib.hid hb0
    replace hb1:=Lib.hid hb1
    replace htl:=Lib.hid htl
    go_upto_block 1 with fail
    refine rfpA (by kernel_rfl) (w:=wr) (gw:=gw) (cw:=cw) (k:=k) (K:=K) (e0:=e0) (e1:=e0+1) (B:=bp+1) (bp:=bp) (na:=0) (T:=T) (p:=p) (t:=t) (acc:=acc) (vp:=undef) (vb:=undef) (vc:=undef) (vF:=vF) hP.out hcw ht hKp hKl hat.out hPp.out hpt.out hwd.out hb0.out hb1.out (by omega) (by omega) (by omega) hgwb hC.out (by omega) (Lib.hid ?_) (Lib.hid ?_)
    ·intros
     rename_i hx
     obtain⟨b,hno,hbf,hE,hT⟩:=hx
     have hR:=hfail.out hno
     rw [←hbf] at hR
     refine bodyPost_ret (ret_bad (e0:=e0) (e1:=e0+1) rfl rfl rfl hE) rfl ?_
     rw [hR]
     refine⟨?_,rfl⟩
     have h1:=he0.out
     have h2:=hz3.out
     exact hbw.out.trans (((hSt.out.mono (S':=fun j=>j=bp∨e0≤j) (fun j _ e=>.inl e)).then hT (fun j _ e=>by rcases e with e | e | e | e<;>omega)).below (by have:=hbw.out.size;omega) (fun j hj e=>by omega))
    ·intros
     rename_i hx
     obtain⟨hyes,rfl,rfl,vF2,vp,hO,hT⟩:=hx
     have hnext:=Lib.hid (hopen.out _ hyes vF2 vp hO hT)
     show _∧_
     refine⟨?_,?_⟩
     ·repeat apply Exists.intro
      refine⟨?_,rfl⟩
      exact⟨k+1+K,N-1,acc,true,rfl,rfl,hKl,by rw [show N-1+1=N by omega];exact hnext⟩
     ·show T.length-((k+1+K:Nat):Int).toNat<T.length-((k:Nat):Int).toNat
      simp only [Int.toNat_natCast]
      omega
   | true=>
    obtain⟨d,vF,vp,vb,vc,hO,hbl,hcl,hr⟩:=hS.out.goes hdk hk4 hp
    have hfew:=hS.out.few
    have hfuel:=hS.out.fuel
    have hSt:=Lib.hid hS.out.touch
    replace hr:=Lib.hid hr
    replace hO:=Lib.hid hO
    replace hcl:=Lib.hid hcl
    clear hsplit
    replace hdk:=Lib.hid hdk
    replace hbeh:=Lib.hid hbeh
    replace hp:=Lib.hid hp
    replace hwd:=Lib.hid hwd
    replace hat:=Lib.hid hat
    replace hpt:=Lib.hid hpt
    replace hPp:=Lib.hid hPp
    replace hP:=Lib.hid hP
    replace hb0:=Lib.hid hb0
    replace hb1:=Lib.hid hb1
    replace htl:=Lib.hid htl
    have hgo:=Lib.hid (fun (wx:World) (hT:Touch wr wx (fun j=>j=bp∨bp+1≤j))=>hSt.out.then hT (fun j hj e=>by have:=hz3.out;rcases e with e | e;exact e;omega))
    go_upto_block 1 with fail
    refine rfpB (by kernel_rfl) (w:=wr) (gw:=gw) (cw:=cw) (k:=k) (K:=K) (e0:=e0) (e1:=e0+1) (B:=bp+1) (bp:=bp) (T:=T) (p:=p) (t:=t) (acc:=acc) (d:=d) (vF:=vF) (vp:=vp) (vb:=vb) (vc:=vc) trivial hP.out hcw ht hKp hKl hat.out hPp.out hpt.out hwd.out hb0.out hb1.out (by omega) (by omega) (by omega) hgwb hO.out (by omega) (by omega) (fun x hx=>by have:=hcl.out x hx;omega) (fun {_ a a1 _} h e=>by cases a;cases a1;cases e;exact h) (Lib.hid ?_) (Lib.hid ?_)
    ·intros
     rename_i hx
     obtain⟨b,hbad,hE,hT⟩:=hx
     have hR:=hr.out
     rw [hbad] at hR
     have hR:Except.error (fltL (T.drop (k+b)))=RES:=hR
     refine bodyPost_ret (ret_bad (e0:=e0) (e1:=e0+1) rfl rfl rfl hE) rfl ?_
     rw [←hR]
     refine⟨?_,rfl⟩
     have h1:=he0.out
     have h2:=hz3.out
     exact hbw.out.trans (((hSt.out.mono (S':=fun j=>j=bp∨e0≤j) (fun j _ e=>.inl e)).then hT (fun j _ e=>by rcases e with e | e | e | e<;>omega)).below (by have:=hbw.out.size;omega) (fun j hj e=>by omega))
    ·intros
     rename_i hx
     rcases hx with ⟨hq,rfl,rfl,hO2,hT⟩ | ⟨hq,rfl,rfl,vb2,hO2,hT⟩ | ⟨y,vc2,hq,rfl,rfl,hO2,hT⟩
     ·have hR:=hr.out
      rw [hq] at hR
      have hR:refN N (acc++[d]) none (behindL (T.drop k))=RES:=hR
      rw [hbeh.out] at hR
      have hnext:Hid (PSt w3 (bp+1) bp T RES _ (k+1+K) N (acc++[d]) false):=Lib.hid ⟨hgo.out _ hT,htl.out,by rw [List.length_append,List.length_singleton];omega,by omega,fun _=>⟨_,hO2.close,hR⟩,fun e=>(by cases e)⟩
      show _∧_
      refine⟨?_,?_⟩
      ·repeat apply Exists.intro
       refine⟨?_,rfl⟩
       exact⟨k+1+K,N-1,acc++[d],false,rfl,rfl,hKl,by rw [show N-1+1=N by omega];exact hnext⟩
      ·show T.length-((k+1+K:Nat):Int).toNat<T.length-((k:Nat):Int).toNat
       simp only [Int.toNat_natCast]
       omega
     ·have hR:=hr.out
      rw [hq] at hR
      have hR:refN N acc (some (addB d (nmT (p.headD ⟨0,[],0,0,0⟩)))) (behindL (T.drop k))=RES:=hR
      rw [hbeh.out] at hR
      have hnext:Hid (PSt w3 (bp+1) bp T RES _ (k+1+K) N acc true):=Lib.hid ⟨hgo.out _ hT,htl.out,by omega,by omega,fun e=>(by cases e),fun _=>⟨_,_,_,_,_,hO2,by unfold addB;rw [List.length_append,List.length_singleton];omega,fun x hx=>(by
       unfold addB at hx
       rcases List.mem_append.1 hx with hx | hx
       ·have:=hcl.out x hx;omega
       ·rw [List.mem_singleton.1 hx];exact Nat.zero_le _),hR⟩⟩
      show _∧_
      refine⟨?_,?_⟩
      ·repeat apply Exists.intro
       refine⟨?_,rfl⟩
       exact⟨k+1+K,N-1,acc,true,rfl,rfl,hKl,by rw [show N-1+1=N by omega];exact hnext⟩
      ·show T.length-((k+1+K:Nat):Int).toNat<T.length-((k:Nat):Int).toNat
       simp only [Int.toNat_natCast]
       omega
     ·have hR:=hr.out
      rw [hq] at hR
      have hR:refN N acc (some (addI d y)) (behindL (T.drop k))=RES:=hR
      rw [hbeh.out] at hR
      obtain⟨l1,l2⟩:=addCode_len d.blocks y k hcl.out
      have hnext:Hid (PSt w3 (bp+1) bp T RES _ (k+1+K) N acc true):=Lib.hid ⟨hgo.out _ hT,htl.out,by omega,by omega,fun e=>(by cases e),fun _=>⟨_,_,_,_,_,hO2,by show (addCode d.blocks y).length≤_;omega,fun x hx=>(by have:=l2 x hx;omega),hR⟩⟩
      show _∧_
      refine⟨?_,?_⟩
      ·repeat apply Exists.intro
       refine⟨?_,rfl⟩
       exact⟨k+1+K,N-1,acc,true,rfl,rfl,hKl,by rw [show N-1+1=N by omega];exact hnext⟩
      ·show T.length-((k+1+K:Nat):Int).toNat<T.length-((k:Nat):Int).toNat
       simp only [Int.toNat_natCast]
       omega
end
end Go.Proofs.YtgcanabckogmmaaDoor
