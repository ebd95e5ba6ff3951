/- RdW, RdY, RdZ. -/
import Derived.Test.YtgcanabckogmmaaDoorZR17
import Derived.Test.YtgcanabckogmmaaDoorZR5
import Derived.Defers
import Derived.Recover
import Derived.Deep.RegionHeld3
namespace Go.Proofs.YtgcanabckogmmaaDoor
set_option linter.unusedVariables false
set_option linter.unusedSimpArgs false
section
open Go.RowKit Go.Maps Go.Shelf
attribute [local go_sem] Oper.semAt_some fld0 fld1 fld2
section
variable {B pb gw cw:Nat} {T:List Tok} {ln vb bb:Nat} {w:World} {i:Nat}
theorem func_text (t:Tok){q:Bool}(h:decide (t.text=funcT)=q):(((nmT t).toList==[102,117,110,99])=q)∧(((nmT t).toList != [102,117,110,99])=!q):=by
 have:((nmT t).toList==[102,117,110,99])=q:=by
  rw [nm_list,←h]
  rw [Bool.eq_iff_iff]
  simp only [funcT,beq_iff_eq]
  exact⟨fun e=>decide_eq_true e,fun e=>of_decide_eq_true e⟩
 exact⟨this,by rw [bne,this]⟩
set_option maxRecDepth 20000 in
set_option maxHeartbeats 2000000 in
theorem func_word (h:PAt B w pb gw cw T i ln vb bb)(htx:¬headT (T.drop i)=funcT):Calls Tryd.prog 20 #[.pointer (some ⟨pb,0,none⟩)] w (FnPost B pb gw cw T vb bb w (.error (fltL (T.drop i)))):=by
 obtain⟨t,ht,hd⟩:=h.at
 have hZ:Below w.heap.size w (w.alloc (.cells #[.string ⟨#[]⟩,.slice none 0 0,.slice none 0 0] 43)):=(Below.refl _ _).alloc (Nat.le_refl _) _
 have hwd:=Lib.hid (word_any (h.below hZ) ht)
 have hP0:=Lib.hid (h.below hZ)
 have hz0:(w.alloc (.cells #[.string ⟨#[]⟩,.slice none 0 0,.slice none 0 0] 43)).heap.size=w.heap.size+1:=by simp
 have hB0:(w.alloc (.cells #[.string ⟨#[]⟩,.slice none 0 0,.slice none 0 0] 43)).heap[w.heap.size]?=some (.cells #[.string ⟨#[]⟩,.slice none 0 0,.slice none 0 0] 43):=at_newP rfl
 have h1:=h.ltP
 have h2:=h.top
 unfold tokV at hwd
 have hq:decide (t.text=funcT)=false:=by
  rw [hd] at htx
  simpa [headT] using htx
 obtain⟨g1,g2⟩:=func_text t hq
 simp only [Bool.not_true,Bool.not_false] at g2
 have hrf:=Lib.hid (fun (w':World) (hP:PAt B w' pb gw cw T i ln vb bb)=>refuse_any hP)
 replace hZ:=Lib.hid hZ
 replace hB0:=Lib.hid hB0
 replace hz0:=Lib.hid hz0
 clear h ht hd htx hq
 go_enter Tryd.func20,Tryd.ntmps20
 go_wp2_with fail
 refine hwd.out.mono ?_
 rintro e w1 ⟨rfl,hb1⟩
 have hP1:=Lib.hid (hP0.out.below hb1)
 have t1:=Lib.hid ((Touch.of_below hZ.out (fun k=>k=pb)).trans ((Touch.of_below hb1 (fun k=>k=pb)).then (Touch.refl _ _) (fun _ _ e=>e)))
 replace hb1:=Lib.hid hb1
 go_wp2_with (go_at_call 40;refine (hrf.out _ hP1.out).mono ?_;rintro e w2 ⟨rfl,hb2⟩)
 exact⟨rfl,t1.out.trans (Touch.of_below hb2 _),rfl⟩
set_option maxRecDepth 20000 in
set_option maxHeartbeats 2000000 in
theorem func_n1 (h:PAt B w pb gw cw T i ln vb bb)(htx:headT (T.drop i)=funcT){f:Flt}(hn1:nameP (T.drop i) ln=.error f):Calls Tryd.prog 20 #[.pointer (some ⟨pb,0,none⟩)] w (FnPost B pb gw cw T vb bb w (.error f)):=by
 obtain⟨t,ht,hd⟩:=h.at
 have hZ:Below w.heap.size w (w.alloc (.cells #[.string ⟨#[]⟩,.slice none 0 0,.slice none 0 0] 43)):=(Below.refl _ _).alloc (Nat.le_refl _) _
 have hwd:=Lib.hid (word_any (h.below hZ) ht)
 have hP0:=Lib.hid (h.below hZ)
 have hz0:(w.alloc (.cells #[.string ⟨#[]⟩,.slice none 0 0,.slice none 0 0] 43)).heap.size=w.heap.size+1:=by simp
 have hB0:(w.alloc (.cells #[.string ⟨#[]⟩,.slice none 0 0,.slice none 0 0] 43)).heap[w.heap.size]?=some (.cells #[.string ⟨#[]⟩,.slice none 0 0,.slice none 0 0] 43):=at_newP rfl
 have h1:=h.ltP
 have h2:=h.top
 unfold tokV at hwd
 have hq:decide (t.text=funcT)=true:=by
  rw [hd] at htx
  simpa [headT] using htx
 obtain⟨g1,g2⟩:=func_text t hq
 simp only [Bool.not_true,Bool.not_false] at g2
 have hk1:=Lib.hid (fun (w':World) (hP:PAt B w' pb gw cw T i ln vb bb)=>name_bad hP hn1)
 replace hZ:=Lib.hid hZ
 replace hB0:=Lib.hid hB0
 replace hz0:=Lib.hid hz0
 clear h ht hd htx hq hn1
 go_enter Tryd.func20,Tryd.ntmps20
 go_wp2_with fail
 refine hwd.out.mono ?_
 rintro e w1 ⟨rfl,hb1⟩
 have hP1:=Lib.hid (hP0.out.below hb1)
 have t1:=Lib.hid ((Touch.of_below hZ.out (fun k=>k=pb)).trans ((Touch.of_below hb1 (fun k=>k=pb)).then (Touch.refl _ _) (fun _ _ e=>e)))
 replace hb1:=Lib.hid hb1
 go_wp2_with (go_at_call 41;refine (hk1.out _ hP1.out).mono ?_;rintro e w2 ⟨rfl,hb2⟩)
 exact⟨rfl,t1.out.trans (Touch.of_below hb2 _),rfl⟩
set_option maxRecDepth 20000 in
set_option maxHeartbeats 2000000 in
theorem func_n2 (h:PAt B w pb gw cw T i ln vb bb)(htx:headT (T.drop i)=funcT){s1:ByteArray}{l1:List Tok}(hn1:nameP (T.drop i) ln=.ok (s1,l1)){f:Flt}(hn2:nameP l1 ln=.error f):Calls Tryd.prog 20 #[.pointer (some ⟨pb,0,none⟩)] w (FnPost B pb gw cw T vb bb w (.error f)):=by
 obtain⟨t,ht,hd⟩:=h.at
 have hZ:Below w.heap.size w (w.alloc (.cells #[.string ⟨#[]⟩,.slice none 0 0,.slice none 0 0] 43)):=(Below.refl _ _).alloc (Nat.le_refl _) _
 have hwd:=Lib.hid (word_any (h.below hZ) ht)
 have hP0:=Lib.hid (h.below hZ)
 have hz0:(w.alloc (.cells #[.string ⟨#[]⟩,.slice none 0 0,.slice none 0 0] 43)).heap.size=w.heap.size+1:=by simp
 have hB0:(w.alloc (.cells #[.string ⟨#[]⟩,.slice none 0 0,.slice none 0 0] 43)).heap[w.heap.size]?=some (.cells #[.string ⟨#[]⟩,.slice none 0 0,.slice none 0 0] 43):=at_newP rfl
 have h1:=h.ltP
 have h2:=h.top
 unfold tokV at hwd
 have hq:decide (t.text=funcT)=true:=by
  rw [hd] at htx
  simpa [headT] using htx
 obtain⟨g1,g2⟩:=func_text t hq
 simp only [Bool.not_true,Bool.not_false] at g2
 have hk1:=Lib.hid (fun (w':World) (hP:PAt B w' pb gw cw T i ln vb bb)=>name_ok hP hn1)
 have hl1:l1=T.drop (i+1):=by obtain⟨t,e,-⟩:=name_len hn1;exact drop_next e
 rw [hl1] at hn2
 have hk2:=Lib.hid (fun (w':World) (hP:PAt B w' pb gw cw T (i+1) ln vb bb)=>name_bad hP hn2)
 replace hZ:=Lib.hid hZ
 replace hB0:=Lib.hid hB0
 replace hz0:=Lib.hid hz0
 clear h ht hd htx hq hn1 hn2 hl1
 go_enter Tryd.func20,Tryd.ntmps20
 go_wp2_with fail
 refine hwd.out.mono ?_
 rintro e w1 ⟨rfl,hb1⟩
 have hP1:=Lib.hid (hP0.out.below hb1)
 have t1:=Lib.hid ((Touch.of_below hZ.out (fun k=>k=pb)).trans ((Touch.of_below hb1 (fun k=>k=pb)).then (Touch.refl _ _) (fun _ _ e=>e)))
 replace hb1:=Lib.hid hb1
 go_wp2_with fail
 refine (hk1.out _ hP1.out).mono ?_
 rintro e w2 ⟨rfl,hP2,hT2⟩
 have hP2:=Lib.hid hP2
 have t2:=Lib.hid (t1.out.trans hT2)
 go_wp2_with (go_at_call 41;refine (hk2.out _ hP2.out).mono ?_;rintro e w3 ⟨rfl,hb3⟩)
 exact⟨rfl,t2.out.trans (Touch.of_below hb3 _),rfl⟩
set_option maxRecDepth 20000 in
set_option maxHeartbeats 2000000 in
theorem func_ns (h:PAt B w pb gw cw T i ln vb bb)(htx:headT (T.drop i)=funcT){s1:ByteArray}{l1:List Tok}(hn1:nameP (T.drop i) ln=.ok (s1,l1)){s:ByteArray}{l2:List Tok}(hn2:nameP l1 ln=.ok (s,l2)){f:Flt}(hns:namesP l2 ln=.error f):Calls Tryd.prog 20 #[.pointer (some ⟨pb,0,none⟩)] w (FnPost B pb gw cw T vb bb w (.error f)):=by
 obtain⟨t,ht,hd⟩:=h.at
 have hZ:Below w.heap.size w (w.alloc (.cells #[.string ⟨#[]⟩,.slice none 0 0,.slice none 0 0] 43)):=(Below.refl _ _).alloc (Nat.le_refl _) _
 have hwd:=Lib.hid (word_any (h.below hZ) ht)
 have hP0:=Lib.hid (h.below hZ)
 have hz0:(w.alloc (.cells #[.string ⟨#[]⟩,.slice none 0 0,.slice none 0 0] 43)).heap.size=w.heap.size+1:=by simp
 have hB0:(w.alloc (.cells #[.string ⟨#[]⟩,.slice none 0 0,.slice none 0 0] 43)).heap[w.heap.size]?=some (.cells #[.string ⟨#[]⟩,.slice none 0 0,.slice none 0 0] 43):=at_newP rfl
 have h1:=h.ltP
 have h2:=h.top
 unfold tokV at hwd
 have hq:decide (t.text=funcT)=true:=by
  rw [hd] at htx
  simpa [headT] using htx
 obtain⟨g1,g2⟩:=func_text t hq
 simp only [Bool.not_true,Bool.not_false] at g2
 have hk1:=Lib.hid (fun (w':World) (hP:PAt B w' pb gw cw T i ln vb bb)=>name_ok hP hn1)
 have hl1:l1=T.drop (i+1):=by obtain⟨t,e,-⟩:=name_len hn1;exact drop_next e
 rw [hl1] at hn2
 have hk2:=Lib.hid (fun (w':World) (hP:PAt B w' pb gw cw T (i+1) ln vb bb)=>name_ok hP hn2)
 have hl2:l2=T.drop (i+1+1):=by obtain⟨t,e,-⟩:=name_len hn2;exact drop_next e
 rw [hl2] at hns
 have hk3:=Lib.hid (fun (w':World) (hP:PAt B w' pb gw cw T (i+1+1) ln vb bb)=>names_any hP)
 rw [hns] at hk3
 replace hZ:=Lib.hid hZ
 replace hB0:=Lib.hid hB0
 replace hz0:=Lib.hid hz0
 clear h ht hd htx hq hn1 hn2 hl1 hl2 hns
 go_enter Tryd.func20,Tryd.ntmps20
 go_wp2_with fail
 refine hwd.out.mono ?_
 rintro e w1 ⟨rfl,hb1⟩
 have hP1:=Lib.hid (hP0.out.below hb1)
 have t1:=Lib.hid ((Touch.of_below hZ.out (fun k=>k=pb)).trans ((Touch.of_below hb1 (fun k=>k=pb)).then (Touch.refl _ _) (fun _ _ e=>e)))
 replace hb1:=Lib.hid hb1
 go_wp2_with fail
 refine (hk1.out _ hP1.out).mono ?_
 rintro e w2 ⟨rfl,hP2,hT2⟩
 have hP2:=Lib.hid hP2
 have t2:=Lib.hid (t1.out.trans hT2)
 go_wp2_with fail
 refine (hk2.out _ hP2.out).mono ?_
 rintro e w3 ⟨rfl,hP3,hT3⟩
 have hP3:=Lib.hid hP3
 have t3:=Lib.hid (t2.out.trans hT3)
 go_wp2_with (go_at_call 42;refine (hk3.out _ hP3.out).mono ?_;rintro e w4 ⟨hT4,he⟩;obtain rfl:=he)
 exact⟨rfl,t3.out.trans hT4,rfl⟩
set_option maxRecDepth 20000 in
set_option maxHeartbeats 2000000 in
theorem func_sg (h:PAt B w pb gw cw T i ln vb bb)(htx:headT (T.drop i)=funcT){s1:ByteArray}{l1:List Tok}(hn1:nameP (T.drop i) ln=.ok (s1,l1)){s:ByteArray}{l2:List Tok}(hn2:nameP l1 ln=.ok (s,l2)){ps:List ByteArray}{l3:List Tok}(hns:namesP l2 ln=.ok (ps,l3)){f:Flt}(hsg:signP 123 l3 ln=.error f):Calls Tryd.prog 20 #[.pointer (some ⟨pb,0,none⟩)] w (FnPost B pb gw cw T vb bb w (.error f)):=by
 obtain⟨t,ht,hd⟩:=h.at
 have hZ:Below w.heap.size w (w.alloc (.cells #[.string ⟨#[]⟩,.slice none 0 0,.slice none 0 0] 43)):=(Below.refl _ _).alloc (Nat.le_refl _) _
 have hwd:=Lib.hid (word_any (h.below hZ) ht)
 have hP0:=Lib.hid (h.below hZ)
 have hz0:(w.alloc (.cells #[.string ⟨#[]⟩,.slice none 0 0,.slice none 0 0] 43)).heap.size=w.heap.size+1:=by simp
 have hB0:(w.alloc (.cells #[.string ⟨#[]⟩,.slice none 0 0,.slice none 0 0] 43)).heap[w.heap.size]?=some (.cells #[.string ⟨#[]⟩,.slice none 0 0,.slice none 0 0] 43):=at_newP rfl
 have h1:=h.ltP
 have h2:=h.top
 unfold tokV at hwd
 have hq:decide (t.text=funcT)=true:=by
  rw [hd] at htx
  simpa [headT] using htx
 obtain⟨g1,g2⟩:=func_text t hq
 simp only [Bool.not_true,Bool.not_false] at g2
 have hk1:=Lib.hid (fun (w':World) (hP:PAt B w' pb gw cw T i ln vb bb)=>name_ok hP hn1)
 have hl1:l1=T.drop (i+1):=by obtain⟨t,e,-⟩:=name_len hn1;exact drop_next e
 rw [hl1] at hn2
 have hk2:=Lib.hid (fun (w':World) (hP:PAt B w' pb gw cw T (i+1) ln vb bb)=>name_ok hP hn2)
 have hl2:l2=T.drop (i+1+1):=by obtain⟨t,e,-⟩:=name_len hn2;exact drop_next e
 rw [hl2] at hns
 have hk3:=Lib.hid (fun (w':World) (hP:PAt B w' pb gw cw T (i+1+1) ln vb bb)=>names_any hP)
 rw [hns] at hk3
 have hk4:=Lib.hid (fun (w':World) (i4:Nat) (e:l3=T.drop i4) (hP:PAt B w' pb gw cw T i4 ln vb bb)=>sign_bad hP (e ▸ hsg))
 replace hZ:=Lib.hid hZ
 replace hB0:=Lib.hid hB0
 replace hz0:=Lib.hid hz0
 clear h ht hd htx hq hn1 hn2 hl1 hl2 hns hsg
 go_enter Tryd.func20,Tryd.ntmps20
 go_wp2_with fail
 refine hwd.out.mono ?_
 rintro e w1 ⟨rfl,hb1⟩
 have hP1:=Lib.hid (hP0.out.below hb1)
 have t1:=Lib.hid ((Touch.of_below hZ.out (fun k=>k=pb)).trans ((Touch.of_below hb1 (fun k=>k=pb)).then (Touch.refl _ _) (fun _ _ e=>e)))
 replace hb1:=Lib.hid hb1
 go_wp2_with fail
 refine (hk1.out _ hP1.out).mono ?_
 rintro e w2 ⟨rfl,hP2,hT2⟩
 have hP2:=Lib.hid hP2
 have t2:=Lib.hid (t1.out.trans hT2)
 have hsz12:=Lib.hid hT2.size
 have hB2:=Lib.hid ((hT2.block w.heap.size (by have:=hb1.out.size;have:=hz0.out;omega) (by omega)).trans (keepB hb1.out hB0.out))
 go_wp2_with fail
 refine (hk2.out _ hP2.out).mono ?_
 rintro e w3 ⟨rfl,hP3,hT3⟩
 have hP3:=Lib.hid hP3
 have t3:=Lib.hid (t2.out.trans hT3)
 have hsz13:=Lib.hid (Nat.le_trans hsz12.out hT3.size)
 have hB3:=Lib.hid ((hT3.block w.heap.size (by have:=hsz12.out;have:=hb1.out.size;have:=hz0.out;omega) (by omega)).trans hB2.out)
 go_wp2_with fail
 refine (hk3.out _ hP3.out).mono ?_
 rintro e w4 ⟨hT4,hx⟩
 dsimp only at hx
 obtain⟨vps,i4,rfl,hl4,hP4,hO4,hbp4⟩:=hx
 obtain⟨ap,cp,rfl⟩:=own_formP hO4
 have t4:=Lib.hid (t3.out.trans hT4)
 have hlow4:w.heap.size+1≤w3.heap.size:=by
  have h7:=hb1.out.size
  have h8:=hz0.out
  have h9:=hsz13.out
  omega
 have hb4b:Below w4.heap.size w4 (w4.alloc (.cells #[.string s,.slice ap ps.length cp,.slice none 0 0] 43)):=(Below.refl _ _).alloc (Nat.le_refl _) _
 have hPb:=Lib.hid (hP4.below hb4b)
 have hFb:=Lib.hid (FNil.mk (Bp:=w.heap.size+1) (Bf:=w4.heap.size+1) (w:=w4.alloc (.cells #[.string s,.slice ap ps.length cp,.slice none 0 0] 43)) (Sf:=w4.heap.size) (nm:=s) (ps:=ps) (vp:=.slice ap ps.length cp) (at_newP rfl) (own_lowerP (ownsRow_touch (S:=fun _=>False) hO4 (Touch.of_below hb4b _) (fun _ _ e=>e)) hlow4) (Nat.lt_succ_self _) (by simp) (fun g hg e=>by have:=(hO4.lt g hg).2;omega) (by have:=hT4.size;omega))
 have t4b:=Lib.hid (t4.out.trans (Touch.of_below hb4b (fun k=>k=pb)))
 have hsz4:=Lib.hid (show w.heap.size+1≤w4.heap.size from Nat.le_trans hlow4 hT4.size)
 have hB4b:=Lib.hid ((show (w4.alloc (.cells #[.string s,.slice ap ps.length cp,.slice none 0 0] 43)).heap[w.heap.size]?=some (.cells #[.string ⟨#[]⟩,.slice none 0 0,.slice none 0 0] 43) from (hb4b.block _ (by have:=hsz4.out;omega)).trans ((hT4.block w.heap.size (by omega) (by omega)).trans hB3.out)))
 replace hl4:=Lib.hid hl4
 replace hlow4:=Lib.hid hlow4
 clear hb4b hO4 hT4 hP4
 have hk4b:=Lib.hid (hk4.out _ i4 hl4.out hPb.out)
 go_wp2_with (go_at_call 43;refine hk4b.out.mono ?_;rintro e w5 ⟨rfl,hb5⟩)
 exact⟨rfl,t4b.out.trans (Touch.of_below hb5 _),rfl⟩
set_option maxRecDepth 20000 in
set_option maxHeartbeats 2000000 in
theorem func_bg (h:PAt B w pb gw cw T i ln vb bb)(htx:headT (T.drop i)=funcT){s1:ByteArray}{l1:List Tok}(hn1:nameP (T.drop i) ln=.ok (s1,l1)){s:ByteArray}{l2:List Tok}(hn2:nameP l1 ln=.ok (s,l2)){ps:List ByteArray}{l3:List Tok}(hns:namesP l2 ln=.ok (ps,l3)){l4:List Tok}(hsg:signP 123 l3 ln=.ok l4){f:Flt}(hbg:beginP l4 ln=.error f):Calls Tryd.prog 20 #[.pointer (some ⟨pb,0,none⟩)] w (FnPost B pb gw cw T vb bb w (.error f)):=by
 obtain⟨t,ht,hd⟩:=h.at
 have hZ:Below w.heap.size w (w.alloc (.cells #[.string ⟨#[]⟩,.slice none 0 0,.slice none 0 0] 43)):=(Below.refl _ _).alloc (Nat.le_refl _) _
 have hwd:=Lib.hid (word_any (h.below hZ) ht)
 have hP0:=Lib.hid (h.below hZ)
 have hz0:(w.alloc (.cells #[.string ⟨#[]⟩,.slice none 0 0,.slice none 0 0] 43)).heap.size=w.heap.size+1:=by simp
 have hB0:(w.alloc (.cells #[.string ⟨#[]⟩,.slice none 0 0,.slice none 0 0] 43)).heap[w.heap.size]?=some (.cells #[.string ⟨#[]⟩,.slice none 0 0,.slice none 0 0] 43):=at_newP rfl
 have h1:=h.ltP
 have h2:=h.top
 unfold tokV at hwd
 have hq:decide (t.text=funcT)=true:=by
  rw [hd] at htx
  simpa [headT] using htx
 obtain⟨g1,g2⟩:=func_text t hq
 simp only [Bool.not_true,Bool.not_false] at g2
 have hk1:=Lib.hid (fun (w':World) (hP:PAt B w' pb gw cw T i ln vb bb)=>name_ok hP hn1)
 have hl1:l1=T.drop (i+1):=by obtain⟨t,e,-⟩:=name_len hn1;exact drop_next e
 rw [hl1] at hn2
 have hk2:=Lib.hid (fun (w':World) (hP:PAt B w' pb gw cw T (i+1) ln vb bb)=>name_ok hP hn2)
 have hl2:l2=T.drop (i+1+1):=by obtain⟨t,e,-⟩:=name_len hn2;exact drop_next e
 rw [hl2] at hns
 have hk3:=Lib.hid (fun (w':World) (hP:PAt B w' pb gw cw T (i+1+1) ln vb bb)=>names_any hP)
 rw [hns] at hk3
 have hk4:=Lib.hid (fun (w':World) (i4:Nat) (e:l3=T.drop i4) (hP:PAt B w' pb gw cw T i4 ln vb bb)=>sign_ok hP (e ▸ hsg))
 have hl4s:=Lib.hid (fun (i4:Nat) (e:l3=T.drop i4)=>(by obtain⟨t,e2,-⟩:=sign_len hsg;rw [e] at e2;exact drop_next e2:l4=T.drop (i4+1)))
 have hk5:=Lib.hid (fun (w':World) (i5:Nat) (e:l4=T.drop i5) (hP:PAt B w' pb gw cw T i5 ln vb bb)=>begin_bad hP (e ▸ hbg))
 replace hZ:=Lib.hid hZ
 replace hB0:=Lib.hid hB0
 replace hz0:=Lib.hid hz0
 clear h ht hd htx hq hn1 hn2 hl1 hl2 hns hsg hbg
 go_enter Tryd.func20,Tryd.ntmps20
 go_wp2_with fail
 refine hwd.out.mono ?_
 rintro e w1 ⟨rfl,hb1⟩
 have hP1:=Lib.hid (hP0.out.below hb1)
 have t1:=Lib.hid ((Touch.of_below hZ.out (fun k=>k=pb)).trans ((Touch.of_below hb1 (fun k=>k=pb)).then (Touch.refl _ _) (fun _ _ e=>e)))
 replace hb1:=Lib.hid hb1
 go_wp2_with fail
 refine (hk1.out _ hP1.out).mono ?_
 rintro e w2 ⟨rfl,hP2,hT2⟩
 have hP2:=Lib.hid hP2
 have t2:=Lib.hid (t1.out.trans hT2)
 have hsz12:=Lib.hid hT2.size
 have hB2:=Lib.hid ((hT2.block w.heap.size (by have:=hb1.out.size;have:=hz0.out;omega) (by omega)).trans (keepB hb1.out hB0.out))
 go_wp2_with fail
 refine (hk2.out _ hP2.out).mono ?_
 rintro e w3 ⟨rfl,hP3,hT3⟩
 have hP3:=Lib.hid hP3
 have t3:=Lib.hid (t2.out.trans hT3)
 have hsz13:=Lib.hid (Nat.le_trans hsz12.out hT3.size)
 have hB3:=Lib.hid ((hT3.block w.heap.size (by have:=hsz12.out;have:=hb1.out.size;have:=hz0.out;omega) (by omega)).trans hB2.out)
 go_wp2_with fail
 refine (hk3.out _ hP3.out).mono ?_
 rintro e w4 ⟨hT4,hx⟩
 dsimp only at hx
 obtain⟨vps,i4,rfl,hl4,hP4,hO4,hbp4⟩:=hx
 obtain⟨ap,cp,rfl⟩:=own_formP hO4
 have t4:=Lib.hid (t3.out.trans hT4)
 have hlow4:w.heap.size+1≤w3.heap.size:=by
  have h7:=hb1.out.size
  have h8:=hz0.out
  have h9:=hsz13.out
  omega
 have hb4b:Below w4.heap.size w4 (w4.alloc (.cells #[.string s,.slice ap ps.length cp,.slice none 0 0] 43)):=(Below.refl _ _).alloc (Nat.le_refl _) _
 have hPb:=Lib.hid (hP4.below hb4b)
 have hFb:=Lib.hid (FNil.mk (Bp:=w.heap.size+1) (Bf:=w4.heap.size+1) (w:=w4.alloc (.cells #[.string s,.slice ap ps.length cp,.slice none 0 0] 43)) (Sf:=w4.heap.size) (nm:=s) (ps:=ps) (vp:=.slice ap ps.length cp) (at_newP rfl) (own_lowerP (ownsRow_touch (S:=fun _=>False) hO4 (Touch.of_below hb4b _) (fun _ _ e=>e)) hlow4) (Nat.lt_succ_self _) (by simp) (fun g hg e=>by have:=(hO4.lt g hg).2;omega) (by have:=hT4.size;omega))
 have t4b:=Lib.hid (t4.out.trans (Touch.of_below hb4b (fun k=>k=pb)))
 have hsz4:=Lib.hid (show w.heap.size+1≤w4.heap.size from Nat.le_trans hlow4 hT4.size)
 have hB4b:=Lib.hid ((show (w4.alloc (.cells #[.string s,.slice ap ps.length cp,.slice none 0 0] 43)).heap[w.heap.size]?=some (.cells #[.string ⟨#[]⟩,.slice none 0 0,.slice none 0 0] 43) from (hb4b.block _ (by have:=hsz4.out;omega)).trans ((hT4.block w.heap.size (by omega) (by omega)).trans hB3.out)))
 replace hl4:=Lib.hid hl4
 replace hlow4:=Lib.hid hlow4
 clear hb4b hO4 hT4 hP4
 have hk4b:=Lib.hid (hk4.out _ i4 hl4.out hPb.out)
 go_wp2_with fail
 refine hk4b.out.mono ?_
 rintro e w5 ⟨rfl,hP5,hT5⟩
 have hP5:=Lib.hid hP5
 have t5:=Lib.hid (t4b.out.trans hT5)
 have hF5:=Lib.hid (hFb.out.keep hT5 (fun k e=>by subst e;have:=hsz4.out;omega))
 have hB5:=Lib.hid ((hT5.block w.heap.size (by have:=hsz4.out;simp;omega) (by omega)).trans hB4b.out)
 have hl5:=Lib.hid (hl4s.out i4 hl4.out)
 have hk5b:=Lib.hid (hk5.out w5 (i4+1) hl5.out hP5.out)
 go_wp2_with (go_at_call 18;refine hk5b.out.mono ?_;rintro e w6 ⟨rfl,hb6⟩)
 exact⟨rfl,t5.out.trans (Touch.of_below hb6 _),rfl⟩
set_option maxRecDepth 20000 in
set_option maxHeartbeats 2000000 in
theorem func_body (h:PAt B w pb gw cw T i ln vb bb)(htx:headT (T.drop i)=funcT){s1:ByteArray}{l1:List Tok}(hn1:nameP (T.drop i) ln=.ok (s1,l1)){s:ByteArray}{l2:List Tok}(hn2:nameP l1 ln=.ok (s,l2)){ps:List ByteArray}{l3:List Tok}(hns:namesP l2 ln=.ok (ps,l3)){l4:List Tok}(hsg:signP 123 l3 ln=.ok l4){ln5:Nat}(hbg:beginP l4 ln=.ok ln5){R:Except Flt (Fun × List Tok × Nat)}(hbody:bodyP (l4.length+1) ⟨s,ps,[]⟩ l4 ln5=R){R2:Except Flt (Fun × List Tok × Nat)}(hRe:Hid (R2=R)):Calls Tryd.prog 20 #[.pointer (some ⟨pb,0,none⟩)] w (FnPost B pb gw cw T vb bb w (R2)):=by
 obtain⟨t,ht,hd⟩:=h.at
 have hZ:Below w.heap.size w (w.alloc (.cells #[.string ⟨#[]⟩,.slice none 0 0,.slice none 0 0] 43)):=(Below.refl _ _).alloc (Nat.le_refl _) _
 have hwd:=Lib.hid (word_any (h.below hZ) ht)
 have hP0:=Lib.hid (h.below hZ)
 have hz0:(w.alloc (.cells #[.string ⟨#[]⟩,.slice none 0 0,.slice none 0 0] 43)).heap.size=w.heap.size+1:=by simp
 have hB0:(w.alloc (.cells #[.string ⟨#[]⟩,.slice none 0 0,.slice none 0 0] 43)).heap[w.heap.size]?=some (.cells #[.string ⟨#[]⟩,.slice none 0 0,.slice none 0 0] 43):=at_newP rfl
 have h1:=h.ltP
 have h2:=h.top
 unfold tokV at hwd
 have hq:decide (t.text=funcT)=true:=by
  rw [hd] at htx
  simpa [headT] using htx
 obtain⟨g1,g2⟩:=func_text t hq
 simp only [Bool.not_true,Bool.not_false] at g2
 have hk1:=Lib.hid (fun (w':World) (hP:PAt B w' pb gw cw T i ln vb bb)=>name_ok hP hn1)
 have hl1:l1=T.drop (i+1):=by obtain⟨t,e,-⟩:=name_len hn1;exact drop_next e
 rw [hl1] at hn2
 have hk2:=Lib.hid (fun (w':World) (hP:PAt B w' pb gw cw T (i+1) ln vb bb)=>name_ok hP hn2)
 have hl2:l2=T.drop (i+1+1):=by obtain⟨t,e,-⟩:=name_len hn2;exact drop_next e
 rw [hl2] at hns
 have hk3:=Lib.hid (fun (w':World) (hP:PAt B w' pb gw cw T (i+1+1) ln vb bb)=>names_any hP)
 rw [hns] at hk3
 have hk4:=Lib.hid (fun (w':World) (i4:Nat) (e:l3=T.drop i4) (hP:PAt B w' pb gw cw T i4 ln vb bb)=>sign_ok hP (e ▸ hsg))
 have hl4s:=Lib.hid (fun (i4:Nat) (e:l3=T.drop i4)=>(by obtain⟨t,e2,-⟩:=sign_len hsg;rw [e] at e2;exact drop_next e2:l4=T.drop (i4+1)))
 have hk5:=Lib.hid (fun (w':World) (i5:Nat) (e:l4=T.drop i5) (hP:PAt B w' pb gw cw T i5 ln vb bb)=>begin_ok hP (e ▸ hbg))
 replace hZ:=Lib.hid hZ
 replace hB0:=Lib.hid hB0
 replace hz0:=Lib.hid hz0
 clear h ht hd htx hq hn1 hn2 hl1 hl2 hns hsg hbg
 go_enter Tryd.func20,Tryd.ntmps20
 go_wp2_with fail
 refine hwd.out.mono ?_
 rintro e w1 ⟨rfl,hb1⟩
 have hP1:=Lib.hid (hP0.out.below hb1)
 have t1:=Lib.hid ((Touch.of_below hZ.out (fun k=>k=pb)).trans ((Touch.of_below hb1 (fun k=>k=pb)).then (Touch.refl _ _) (fun _ _ e=>e)))
 replace hb1:=Lib.hid hb1
 go_wp2_with fail
 refine (hk1.out _ hP1.out).mono ?_
 rintro e w2 ⟨rfl,hP2,hT2⟩
 have hP2:=Lib.hid hP2
 have t2:=Lib.hid (t1.out.trans hT2)
 have hsz12:=Lib.hid hT2.size
 have hB2:=Lib.hid ((hT2.block w.heap.size (by have:=hb1.out.size;have:=hz0.out;omega) (by omega)).trans (keepB hb1.out hB0.out))
 go_wp2_with fail
 refine (hk2.out _ hP2.out).mono ?_
 rintro e w3 ⟨rfl,hP3,hT3⟩
 have hP3:=Lib.hid hP3
 have t3:=Lib.hid (t2.out.trans hT3)
 have hsz13:=Lib.hid (Nat.le_trans hsz12.out hT3.size)
 have hB3:=Lib.hid ((hT3.block w.heap.size (by have:=hsz12.out;have:=hb1.out.size;have:=hz0.out;omega) (by omega)).trans hB2.out)
 go_wp2_with fail
 refine (hk3.out _ hP3.out).mono ?_
 rintro e w4 ⟨hT4,hx⟩
 dsimp only at hx
 obtain⟨vps,i4,rfl,hl4,hP4,hO4,hbp4⟩:=hx
 obtain⟨ap,cp,rfl⟩:=own_formP hO4
 have t4:=Lib.hid (t3.out.trans hT4)
 have hlow4:w.heap.size+1≤w3.heap.size:=by
  have h7:=hb1.out.size
  have h8:=hz0.out
  have h9:=hsz13.out
  omega
 have hb4b:Below w4.heap.size w4 (w4.alloc (.cells #[.string s,.slice ap ps.length cp,.slice none 0 0] 43)):=(Below.refl _ _).alloc (Nat.le_refl _) _
 have hPb:=Lib.hid (hP4.below hb4b)
 have hFb:=Lib.hid (FNil.mk (Bp:=w.heap.size+1) (Bf:=w4.heap.size+1) (w:=w4.alloc (.cells #[.string s,.slice ap ps.length cp,.slice none 0 0] 43)) (Sf:=w4.heap.size) (nm:=s) (ps:=ps) (vp:=.slice ap ps.length cp) (at_newP rfl) (own_lowerP (ownsRow_touch (S:=fun _=>False) hO4 (Touch.of_below hb4b _) (fun _ _ e=>e)) hlow4) (Nat.lt_succ_self _) (by simp) (fun g hg e=>by have:=(hO4.lt g hg).2;omega) (by have:=hT4.size;omega))
 have t4b:=Lib.hid (t4.out.trans (Touch.of_below hb4b (fun k=>k=pb)))
 have hsz4:=Lib.hid (show w.heap.size+1≤w4.heap.size from Nat.le_trans hlow4 hT4.size)
 have hB4b:=Lib.hid ((show (w4.alloc (.cells #[.string s,.slice ap ps.length cp,.slice none 0 0] 43)).heap[w.heap.size]?=some (.cells #[.string ⟨#[]⟩,.slice none 0 0,.slice none 0 0] 43) from (hb4b.block _ (by have:=hsz4.out;omega)).trans ((hT4.block w.heap.size (by omega) (by omega)).trans hB3.out)))
 replace hl4:=Lib.hid hl4
 replace hlow4:=Lib.hid hlow4
 clear hb4b hO4 hT4 hP4
 have hk4b:=Lib.hid (hk4.out _ i4 hl4.out hPb.out)
 go_wp2_with fail
 refine hk4b.out.mono ?_
 rintro e w5 ⟨rfl,hP5,hT5⟩
 have hP5:=Lib.hid hP5
 have t5:=Lib.hid (t4b.out.trans hT5)
 have hF5:=Lib.hid (hFb.out.keep hT5 (fun k e=>by subst e;have:=hsz4.out;omega))
 have hB5:=Lib.hid ((hT5.block w.heap.size (by have:=hsz4.out;simp;omega) (by omega)).trans hB4b.out)
 have hl5:=Lib.hid (hl4s.out i4 hl4.out)
 have hk5b:=Lib.hid (hk5.out w5 (i4+1) hl5.out hP5.out)
 go_upto_block 0 with (go_at_call 18;refine hk5b.out.mono ?_;rintro e w6 ⟨rfl,hP6,hT6⟩)
 have hF6:=hF5.out.keep hT6 (fun k e=>by subst e;have:=hsz4.out;omega)
 have hG6:GAt B (w.heap.size+1) (w4.heap.size+1) pb gw cw T ln5 vb bb w4.heap.size w6 (i4+1) ⟨s,ps,[]⟩:=⟨hP6,.inl ⟨rfl,_,hF6⟩,Nat.zero_le _,fun x hx=>(by cases hx),by have:=hsz4.out;omega,by omega⟩
 have t6:=Lib.hid (t5.out.trans hT6)
 have hB6:=Lib.hid ((hT6.block w.heap.size (Array.getElem?_eq_some_iff.1 hB5.out).1 (by omega)).trans hB5.out)
 have hlow:=Lib.hid (fun (wx:World) (t:Touch w6 wx (fun k=>k=pb∨k=w4.heap.size∨w4.heap.size+1≤k))=>(t6.out.then t (fun k hk e=>by have:=hsz4.out;rcases e with e | e | e<;>omega):Touch w wx (fun k=>k=pb)))
 have hB6x:=Lib.hid (fun (wx:World) (t:Touch w6 wx (fun k=>k=pb∨k=w4.heap.size∨w4.heap.size+1≤k))=>((t.block w.heap.size (Array.getElem?_eq_some_iff.1 hB6.out).1 (by have:=hsz4.out;omega)).trans hB6.out:wx.heap[w.heap.size]?=some (.cells #[.string ⟨#[]⟩,.slice none 0 0,.slice none 0 0] 43)))
 have hl5b:=hl5.out
 refine body_blk (by kernel_rfl) hG6 (n:=l4.length+1) (by rw [hl5b];exact Nat.le_refl _) (R:=R) (by rw [←hl5b];exact hbody) (Lib.hid ?_) (Lib.hid ?_)
 ·intros
  rename_i hx8
  rename World=>w7
  obtain⟨hT7,i7,d7,ln7,hG7,hq7,hR7⟩:=hx8
  cases hs7:signP 125 (T.drop i7) ln7 with
  | error f=>exfalso;unfold signP at hs7;rw [hq7,if_pos rfl] at hs7;cases hs7
  | ok l8=>
   rw [hs7] at hR7
   dsimp only at hR7
   have hk8:=Lib.hid (sign_ok hG7.p hs7)
   have hl8:=Lib.hid (show l8=T.drop (i7+1) by obtain⟨t,e,-⟩:=sign_len hs7;exact drop_next e)
   have hB7:=Lib.hid (hB6x.out w7 hT7)
   have t7:=Lib.hid (hlow.out w7 hT7)
   have hsz7:=Lib.hid hT7.size
   have hsz6:=Lib.hid (show w4.heap.size<w6.heap.size from (Array.getElem?_eq_some_iff.1 hF6.blk).1)
   replace hG7:=Lib.hid hG7
   replace hR7:=Lib.hid hR7
   clear hT7 hq7 hs7 hF6 hG6
   go_wp2_with fail
   refine hk8.out.mono ?_
   rintro e w8 ⟨rfl,hP8,hT8⟩
   have hG8:=hG7.out.on (Nat.le_succ i7) hP8 hT8
   obtain⟨a1,c1,a2,c2,hb8,hrd8⟩:=hG8.read
   obtain⟨x0,x1,x2⟩:=cells3P hb8
   have hBr:=(hT8.block w.heap.size (Array.getElem?_eq_some_iff.1 hB7.out).1 (by omega)).trans hB7.out
   obtain⟨z0,z1,z2⟩:=cells3P hBr
   have y0:=frozB hBr 0
   have y1:=frozB hBr 1
   have y2:=frozB hBr 2
   have t8:=Lib.hid (t7.out.trans hT8)
   have hP8:=Lib.hid hP8
   have hnb8:=Lib.hid hG8.nb
   replace hrd8:=Lib.hid hrd8
   clear hT8 hG8 hb8 hBr
   go_wp2_with fail
   have tF:Touch w8 (((w8.setCell ⟨w.heap.size,0,none⟩ (.string d7.name)).setCell ⟨w.heap.size,1,none⟩ (.slice a1 d7.params.length c1)).setCell ⟨w.heap.size,2,none⟩ (.slice a2 d7.blocks.length c2)) (fun k=>k=w.heap.size):=touch3 _ _ _
   refine bodyPost_ret (v:=.agg #[.string d7.name,.slice a1 d7.params.length c1,.slice a2 d7.blocks.length c2]) (by simp [results,Tryd.results20,go_sem, *]) rfl ?_
   rw [hRe.out,hR7.out]
   refine⟨t8.out.then tF (fun k hk e=>by omega),a1,c1,a2,c2,i7+1,rfl,hl8.out,hP8.out.keep tF (fun k e=>by omega),hnb8.out,fun w'' t''=>hrd8.out w'' ((tF.mono (fun k _ e=>by omega)).trans (t''.mono (fun k _ e=>by omega)))⟩
 ·intros
  rename_i ha hT hRf
  rename World=>wx
  refine⟨ha,?_⟩
  rw [hRe.out,hRf]
  exact⟨hlow.out wx hT,rfl⟩
theorem function_any (h:PAt B w pb gw cw T i ln vb bb):Calls Tryd.prog 20 #[.pointer (some ⟨pb,0,none⟩)] w (FnPost B pb gw cw T vb bb w (funcP (T.drop i) ln)):=by
 unfold funcP
 by_cases htx:headT (T.drop i)=funcT
 ·rw [if_pos htx]
  cases hn1:nameP (T.drop i) ln with
  | error f=>exact func_n1 h htx hn1
  | ok r=>
   obtain⟨s1,l1⟩:=r
   dsimp only
   cases hn2:nameP l1 ln with
   | error f=>exact func_n2 h htx hn1 hn2
   | ok r=>
    obtain⟨s,l2⟩:=r
    dsimp only
    cases hns:namesP l2 ln with
    | error f=>exact func_ns h htx hn1 hn2 hns
    | ok r=>
     obtain⟨ps,l3⟩:=r
     dsimp only
     cases hsg:signP 123 l3 ln with
     | error f=>exact func_sg h htx hn1 hn2 hns hsg
     | ok l4=>
      dsimp only
      cases hbg:beginP l4 ln with
      | error f=>exact func_bg h htx hn1 hn2 hns hsg hbg
      | ok ln5=>exact func_body h htx hn1 hn2 hns hsg hbg rfl (Lib.hid rfl)
 ·rw [if_neg htx]
  exact func_word h htx
end
end
section
open Go.RowKit Go.Maps Go.Shelf
attribute [local go_sem] Oper.semAt_some fld0 fld1 fld2
theorem World.heap_drew_at (w:World)(k:Nat):w.drew.heap[k]?=w.heap[k]?:=rfl
theorem ta_yes (l c er:Int)(w:World):(Instr.typeAssert (.iface 57 (.agg #[.int .i64 l,.int .i64 c,.int .i64 er])) 20 57 true).run Tryd.prog w=.ok (.tuple #[.agg #[.int .i64 l,.int .i64 c,.int .i64 er],.bool true]) w:=by kernel_rfl
set_option maxRecDepth 20000 in
theorem catch_yes {w:World}{b2 b3 b4:Nat}{v2 v30 v31 v4:Value}{l c er:Int}{older:List PanicEntry}(h2:w.heap[b2]?=some (.cells #[v2] 24 (0,0)))(h3:w.heap[b3]?=some (.cells #[v30,v31] 26 (0,0)))(h4:w.heap[b4]?=some (.cells #[v4] 27 (0,0)))(n23:b2≠b3)(n24:b2≠b4)(n34:b3≠b4):
  CallsD Tryd.prog 15 #[.pointer (some ⟨b2,0,none⟩),.pointer (some ⟨b3,0,none⟩),.pointer (some ⟨b4,0,none⟩)] (.panicking ({v:=.iface 57 (.agg #[.int .i64 l,.int .i64 c,.int .i64 er]),recovered:=false,goexit:=false}::older)) w fun e u' w'=>
   e=.returned (.tuple #[])∧u'=.panicking ({v:=.iface 57 (.agg #[.int .i64 l,.int .i64 c,.int .i64 er]),recovered:=true,goexit:=false}::older)∧w'.heap[b2]?=some (.cells #[.slice none 0 0] 24 (0,0))∧w'.heap[b3]?=some (.cells #[.int .i64 l,.int .i64 c] 26 (0,0))∧w'.heap[b4]?=some (.cells #[.int .i64 er] 27 (0,0))∧Touch w w' (fun k=>k=b2∨k=b3∨k=b4):=by
 have hta:=ta_yes l c er
 refine callsD_of_wpS Tryd.func15 rfl fun c₀ cs hu=>?_
 apply wpS_seq
 apply wpS_region
 simp [wpOpsS,go_sem,recoverD,hu,Tryd.ntmps15,Exit.thenS,hta]
 apply wpS_seq
 apply wpS_region
 simp [wpOpsS,go_sem,Exit.thenS]
 refine wpS_cond (t:=true) (by simp [Act.eval,Array.replicate]) ?_
 simp only [if_true]
 refine wpS_of_wp ?_
 have f0:(w.alloc (.cells #[.int .i64 l,.int .i64 c,.int .i64 er] 57)).heap[w.heap.size]?=some (.cells #[.int .i64 l,.int .i64 c,.int .i64 er] 57):=at_newP rfl
 have s2:b2<w.heap.size:=(Array.getElem?_eq_some_iff.1 h2).1
 have s3:b3<w.heap.size:=(Array.getElem?_eq_some_iff.1 h3).1
 have s4:b4<w.heap.size:=(Array.getElem?_eq_some_iff.1 h4).1
 have hT:Touch w (w.alloc (.cells #[.int .i64 l,.int .i64 c,.int .i64 er] 57)) (fun k=>k=b2∨k=b3∨k=b4):=Touch.of_below ((Below.refl _ _).alloc (Nat.le_refl _) _) _
 have g2:=at_oldP (o:=.cells #[.int .i64 l,.int .i64 c,.int .i64 er] 57) h2
 have g3:=at_oldP (o:=.cells #[.int .i64 l,.int .i64 c,.int .i64 er] 57) h3
 have g4:=at_oldP (o:=.cells #[.int .i64 l,.int .i64 c,.int .i64 er] 57) h4
 obtain⟨fb,hfb⟩:∃fb,fb=w.heap.size:=⟨_,rfl⟩
 rw [←hfb] at f0 ⊢
 generalize (w.alloc (.cells #[.int .i64 l,.int .i64 c,.int .i64 er] 57))=wx at f0 hT g2 g3 g4 ⊢
 generalize hA:(Act.mk (_++_) _)=A
 have hA2:A={tmps:=#[.pointer (some ⟨b2,0,none⟩),.pointer (some ⟨b3,0,none⟩),.pointer (some ⟨b4,0,none⟩),.pointer (some ⟨fb,0,none⟩),.bool true,.tuple #[.agg #[.int .i64 l,.int .i64 c,.int .i64 er],.bool true],.iface 57 (.agg #[.int .i64 l,.int .i64 c,.int .i64 er]),.tuple #[.agg #[.int .i64 l,.int .i64 c,.int .i64 er],.bool true],.agg #[.int .i64 l,.int .i64 c,.int .i64 er],.bool true,.bool true,undef,undef,undef,undef,undef],defers:=[]}:=by rw [←hA];kernel_rfl
 clear hA
 subst hA2
 have hz:fb≠b2∧fb≠b3∧fb≠b4:=⟨by omega,by omega,by omega⟩
 obtain⟨z2,z3,z4⟩:=hz
 obtain⟨a0,a1,a2⟩:=cells3P f0
 obtain⟨d0,d1⟩:=cells2P g3
 have e0:wx.cell? ⟨b2,0,none⟩=some v2:=by rw [blk_cell g2];rfl
 have k0:wx.cell? ⟨b4,0,none⟩=some v4:=by rw [blk_cell g4];rfl
 have x2:=frozB g2 0
 have x3:=frozB g3 0
 have x4:=frozB g3 1
 have x5:=frozB g4 0
 clear hta
 replace hT:=Lib.hid hT
 replace g2:=Lib.hid g2
 replace g3:=Lib.hid g3
 replace g4:=Lib.hid g4
 clear f0 s2 s3 s4 h2 h3 h4 hfb
 have hS:wx.cell? ⟨fb,0,none⟩=some (.int .i64 l)∧wx.cell? ⟨fb,1,none⟩=some (.int .i64 c)∧wx.cell? ⟨fb,2,none⟩=some (.int .i64 er):=⟨a0,a1,a2⟩
 refine wp_region_noPanic ?_
 go_region_held3 (fun w'=>w'.cell? ⟨fb,0,none⟩=some (.int .i64 l)∧w'.cell? ⟨fb,1,none⟩=some (.int .i64 c)∧w'.cell? ⟨fb,2,none⟩=some (.int .i64 er)) (simp [go_sem, *]) (go_simp)
 refine NoPanic.normal ?_
 refine⟨rfl,_,rfl,.tuple #[],by simp [results,Tryd.results15,go_sem],rfl,rfl,?_,?_,?_,?_⟩
 ·refine Eq.trans (World.heap_drew_at _ _) ?_
  rw [heap_setCell_other _ _ _ _ n24,heap_setCell_other _ _ _ _ n23,heap_setCell_other _ _ _ _ n23,heap_setCell_same _ _ _ _ _ _ g2.out]
  rfl
 ·refine Eq.trans (World.heap_drew_at _ _) ?_
  rw [heap_setCell_other _ _ _ _ n34,heap_setCell_same _ _ _ _ _ _ ((heap_setCell_same _ _ _ _ _ _ ((heap_setCell_other _ _ _ _ n23.symm).trans g3.out)))]
  rfl
 ·refine Eq.trans (World.heap_drew_at _ _) ?_
  rw [heap_setCell_same _ _ _ _ _ _ ((heap_setCell_other _ _ _ _ n34.symm).trans ((heap_setCell_other _ _ _ _ n34.symm).trans ((heap_setCell_other _ _ _ _ n24.symm).trans g4.out)))]
  rfl
 ·exact ((((hT.out.setCell (a:=⟨b2,0,none⟩) (fun _=>.inl rfl) _).setCell (a:=⟨b3,0,none⟩) (fun _=>.inr (.inl rfl)) _).setCell (a:=⟨b3,1,none⟩) (fun _=>.inr (.inl rfl)) _).setCell (a:=⟨b4,0,none⟩) (fun _=>.inr (.inr rfl)) _).trans (Touch.of_below ((Below.refl _ _).drew) _)
theorem ta_no (w:World):(Instr.typeAssert .nilIface 20 57 true).run Tryd.prog w=.ok (.tuple #[.agg #[.int .i64 0,.int .i64 0,.int .i64 0],.bool false]) w:=by kernel_rfl
set_option maxRecDepth 20000 in
theorem catch_idle {w:World}{b2 b3 b4:Nat}:
  CallsD Tryd.prog 15 #[.pointer (some ⟨b2,0,none⟩),.pointer (some ⟨b3,0,none⟩),.pointer (some ⟨b4,0,none⟩)] .returning w fun e u' w'=>e=.returned (.tuple #[])∧u'=.returning∧Below w.heap.size w w':=by
 have hta:=ta_no
 refine callsD_of_wpS Tryd.func15 rfl fun c₀ cs hu=>?_
 apply wpS_seq
 apply wpS_region
 simp [wpOpsS,go_sem,recoverD,hu,Tryd.ntmps15,Exit.thenS,hta]
 apply wpS_seq
 apply wpS_region
 simp [wpOpsS,go_sem,Exit.thenS]
 refine wpS_cond (t:=false) (by simp [Act.eval,Array.replicate]) ?_
 simp only [Bool.false_eq_true,if_false]
 refine wpS_of_wp (wp_skip ?_)
 refine⟨rfl,.returning,?_,.tuple #[],by simp [results,Tryd.results15,go_sem],rfl,rfl,(Below.refl _ _).alloc (Nat.le_refl _) _⟩
 cases c₀
 simp_all
end
section
open Go.RowKit Go.Maps Go.Shelf
theorem body_le:∀(n:Nat) {d d':Fun} {l l':List Tok} {ln ln':Nat},bodyP n d l ln=.ok (d',l',ln')→l'.length≤l.length
 | 0,_,_,_,_,_,_,h=>by unfold bodyP at h;cases h
 | n+1,d,d',l,l',ln,ln',h=>by
  unfold bodyP at h
  split at h
  ·cases hs:signP 125 l ln with
   | error e=>rw [hs] at h;cases h
   | ok l1=>
    rw [hs] at h
    injection h with h;injection h with h1 h;injection h with h2 h
    subst h2
    have:=sign_le hs
    omega
  ·cases hi:insideP d l ln with
   | error e=>rw [hi] at h;cases h
   | ok r=>
    obtain⟨d1,l1⟩:=r
    rw [hi] at h
    dsimp only at h
    cases hb:beginP l1 ln with
    | error e=>rw [hb] at h;cases h
    | ok ln1=>
     rw [hb] at h
     dsimp only at h
     have h1:=body_le n h
     have h2:=inside_le hi
     omega
theorem func_lt {l l':List Tok}{d:Fun}{ln ln':Nat}(h:funcP l ln=.ok (d,l',ln')):l'.length+1≤l.length:=by
 unfold funcP at h
 split at h
 ·cases h1:nameP l ln with
  | error e=>rw [h1] at h;cases h
  | ok r=>
   obtain⟨s1,l1⟩:=r
   rw [h1] at h
   dsimp only at h
   cases h2:nameP l1 ln with
   | error e=>rw [h2] at h;cases h
   | ok r=>
    obtain⟨s2,l2⟩:=r
    rw [h2] at h
    dsimp only at h
    cases h3:namesP l2 ln with
    | error e=>rw [h3] at h;cases h
    | ok r=>
     obtain⟨ps,l3⟩:=r
     rw [h3] at h
     dsimp only at h
     cases h4:signP 123 l3 ln with
     | error e=>rw [h4] at h;cases h
     | ok l4=>
      rw [h4] at h
      dsimp only at h
      cases h5:beginP l4 ln with
      | error e=>rw [h5] at h;cases h
      | ok ln5=>
       rw [h5] at h
       dsimp only at h
       have e1:=name_le h1
       have e2:=name_le h2
       have e3:=names_le h3
       have e4:=sign_le h4
       have e5:=body_le _ h
       omega
 ·cases h
section
variable {B:Nat} {w w':World} {pb gw cw:Nat} {T:List Tok} {i ln vb bb b2:Nat} {acc:List Fun} {vf:Value}
theorem PAt.off {No:Nat→Prop}(h:PAt B w pb gw cw T i ln vb bb)(t:Touch w w' No)(n1:¬No pb)(n2:¬No gw)(n3:¬No vb)(n4:¬No bb):PAt B w' pb gw cw T i ln vb bb:=by
 have hbl:∀k,k<B→¬No k→w'.heap[k]?=w.heap[k]?:=fun k hk hx=>t.block k (Nat.lt_of_lt_of_le hk h.top) hx
 have hc:∀o u,w.cell? ⟨gw,o,none⟩=some u→w'.cell? ⟨gw,o,none⟩=some u:=fun o u hu=>by
  rw [←hu]
  unfold World.cell?
  rw [hbl gw h.ltG n2]
 exact⟨(hbl pb h.ltP n1).trans h.blk,fun k t ht=>by obtain⟨h0,h1,h2,h3,h4⟩:=h.toks k t ht;exact⟨hc _ _ h0,hc _ _ h1,hc _ _ h2,hc _ _ h3,hc _ _ h4⟩,h.vmap.block (hbl vb h.ltV n3),h.bmap.block (hbl bb h.ltB n4),h.ok,h.here,h.line,h.ltP,h.ltG,h.ltV,h.ltB,h.neG,h.neV,h.neB,Nat.le_trans h.top t.size⟩
structure LAt (B:Nat) (w:World) (b2 pb gw cw:Nat) (T:List Tok) (i ln vb bb:Nat) (acc:List Fun) (vf:Value):Prop where
 p:PAt B w pb gw cw T i ln vb bb
 blk:w.heap[b2]?=some (.cells #[vf] 24 (0,0))
 row:OwnE 3 (Away (fun k=>vf.ownBlock=some k∨k<B) RdFunU) w B 43 vf acc
 n:acc.length≤i
 lt:b2<B
 neP:b2≠pb
 neG:b2≠gw
 neV:b2≠vb
 neB:b2≠bb
theorem LAt.on {i' ln':Nat}(h:LAt B w b2 pb gw cw T i ln vb bb acc vf)(t:Touch w w' (fun k=>k=pb))(hP:PAt B w' pb gw cw T i' ln' vb bb)(hi:i≤i'):LAt B w' b2 pb gw cw T i' ln' vb bb acc vf:=by
 have h1:=h.p.ltP
 refine⟨hP,(t.block b2 (Nat.lt_of_lt_of_le h.lt h.p.top) h.neP).trans h.blk,?_,Nat.le_trans h.n hi,h.lt,h.neP,h.neG,h.neV,h.neB⟩
 exact h.row.go (t.mono fun k _ e=>by subst e;exact h1) (fun g hg e=>by have:=(h.row.lt g hg).1;omega)
theorem LAt.add {i6 ln6:Nat}{w6 w7:World}{d:Fun}{xs:List Value}{a1 a2:Option Addr}{c1 c2 gg cap:Nat}(h:LAt B w b2 pb gw cw T i ln vb bb acc vf)(t:Touch w w6 (fun k=>k=pb))(hP:PAt B w6 pb gw cw T i6 ln6 vb bb)(hi:i+1≤i6)
  (hrd:∀w'',Touch w6 w'' (fun k=>k<w.heap.size)→RdFunU w'' [.string d.name,.slice a1 d.params.length c1,.slice a2 d.blocks.length c2] d)
  (hx1:w.ownsRow B 43 3 vf acc.length xs) (hx2:∀i d,acc[i]?=some d→∃cs,Away (fun k=>vf.ownBlock=some k∨k<B) RdFunU w cs d∧cs.length=3∧∀j u,cs[j]?=some u→xs[i*3+j]?=some u)
  {o:Obj} (hO:w7.ownsRow B 43 3 (.slice (some ⟨gg,0,none⟩) (acc.length+1) cap) (acc.length+1) (xs++[.string d.name,.slice a1 d.params.length c1,.slice a2 d.blocks.length c2])) (hg:(w6.alloc o).grownBy w7 vf.ownBlock) (hat:vf.ownBlock=some gg∨gg=w6.heap.size+1):
  LAt B (w7.setCell ⟨b2,0,none⟩ (.slice (some ⟨gg,0,none⟩) (acc.length+1) cap)) b2 pb gw cw T i6 ln6 vb bb (acc++[d]) (.slice (some ⟨gg,0,none⟩) (acc.length+1) cap)∧Touch w (w7.setCell ⟨b2,0,none⟩ (.slice (some ⟨gg,0,none⟩) (acc.length+1) cap)) (fun k=>k=pb∨k=b2∨B≤k):=by
 have h1:=h.p.ltP
 have h2:=h.p.ltG
 have h3:=h.p.ltV
 have h4:=h.p.ltB
 have h5:=h.lt
 have htop:=h.p.top
 have hvl:∀g,vf.ownBlock=some g→B≤g∧g<w.heap.size:=h.row.lt
 have hs6:=t.size
 have hggB:B≤gg:=(hO.lt gg rfl).1
 have tG:Touch w6 w7 (fun k=>vf.ownBlock=some k):=((Touch.refl w6 _).alloc o).trans (Touch.of_grown hg (fun k e=>e))
 have tS:Touch w6 (w7.setCell ⟨b2,0,none⟩ (.slice (some ⟨gg,0,none⟩) (acc.length+1) cap)) (fun k=>vf.ownBlock=some k∨k=b2):=(tG.mono fun k _ e=>.inl e).setCell (a:=⟨b2,0,none⟩) (fun _=>.inr rfl) _
 have tW:Touch w (w7.setCell ⟨b2,0,none⟩ (.slice (some ⟨gg,0,none⟩) (acc.length+1) cap)) (fun k=>vf.ownBlock=some k∨k=b2∨k=pb):=(t.mono fun k _ e=>.inr (.inr e)).trans (tS.mono fun k _ e=>by rcases e with e | e;exact .inl e;exact .inr (.inl e))
 generalize hV:(Value.slice (some ⟨gg,0,none⟩) (acc.length+1) cap)=V at *
 have hVo:V.ownBlock=some gg:=by rw [←hV];rfl
 refine⟨⟨hP.off tS ?_ ?_ ?_ ?_,?_,?_,?_,h5,h.neP,h.neG,h.neV,h.neB⟩,tW.mono fun k _ e=>?_⟩
 ·rintro (e | e);have:=(hvl _ e).1;omega;exact h.neP e.symm
 ·rintro (e | e);have:=(hvl _ e).1;omega;exact h.neG e.symm
 ·rintro (e | e);have:=(hvl _ e).1;omega;exact h.neV e.symm
 ·rintro (e | e);have:=(hvl _ e).1;omega;exact h.neB e.symm
 ·have e6:w6.heap[b2]?=some (.cells #[vf] 24 (0,0)):=(t.block b2 (by omega) h.neP).trans h.blk
  have e7:w7.heap[b2]?=some (.cells #[vf] 24 (0,0)):=(tG.block b2 (by omega) (fun e=>by have:=(hvl _ e).1;omega)).trans e6
  rw [heap_setCell_same _ _ _ _ _ _ e7]
  rfl
 ·refine⟨xs++[.string d.name,.slice a1 d.params.length c1,.slice a2 d.blocks.length c2],?_,fun j y hj=>?_⟩
  ·rw [List.length_append]
   exact ownsRow_touch (S:=fun k=>k=b2) hO ((Touch.refl w7 (fun k=>k=b2)).setCell (a:=⟨b2,0,none⟩) (fun _=>rfl) _) (fun g hg2 e=>by rw [hVo] at hg2;cases hg2;omega)
  ·have hxl:=hx1.1
   rcases Nat.lt_or_ge j acc.length with hlt | hge
   ·rw [List.getElem?_append_left hlt] at hj
    obtain⟨cs,m1,m2,m3⟩:=hx2 j y hj
    refine⟨cs,m1.move (tW.mono fun k _ e=>?_) fun k hk e=>?_,m2,fun q u hq=>?_⟩
    ·rcases e with e | e | e
     ·exact .inl e
     ·exact .inr (by omega)
     ·exact .inr (by omega)
    ·rcases e with e | e
     ·rw [hVo] at e;cases e
      rcases hat with e | e
      ·exact .inl e
      ·omega
     ·exact .inr e
    ·have:=m3 q u hq
     rw [List.getElem?_append_left (List.getElem?_eq_some_iff.1 this).1]
     exact this
   ·have hj2:j=acc.length:=by have:=(List.getElem?_eq_some_iff.1 hj).1;simp at this;omega
    subst hj2
    rw [List.getElem?_append_right (Nat.le_refl _),Nat.sub_self] at hj
    simp only [List.getElem?_cons_zero,Option.some.injEq] at hj
    subst hj
    refine⟨_,fun w'' t''=>hrd w'' ((tS.mono fun k _ e=>?_).then t'' fun k hk e=>?_),rfl,fun q u hq=>?_⟩
    ·rcases e with e | e
     ·exact (hvl _ e).2
     ·omega
    ·rcases e with e | e
     ·rw [hVo] at e;cases e
      rcases hat with e | e
      ·exact (hvl _ e).2
      ·omega
     ·omega
    ·rw [List.getElem?_append_right (by omega),show acc.length*3+q-xs.length=q by omega]
     exact hq
 ·simp only [List.length_append,List.length_singleton]
  have:=h.n
  omega
 ·rcases e with e | e | e
  ·exact .inr (.inr (hvl _ e).1)
  ·exact .inr (.inl e)
  ·exact .inl e
end
end
end Go.Proofs.YtgcanabckogmmaaDoor
