/- LexO. -/
import Derived.Test.YtgcanabckogmmaaDoorZR3
import Derived.Deep.RegionHeld3
namespace Go.Proofs.YtgcanabckogmmaaDoor
set_option linter.unusedVariables false
set_option linter.unusedSimpArgs false
section
open Go.RowKit Go.Shelf
def NextPost (B:Nat)(w:World)(lb:Nat)(s:ByteArray)(ln cl i:Nat)(v:Value)(out:List Tok)(e:Ending)(w':World):Prop:=
 (∃l c er:Nat,stepL (rest s i) ln cl=.error (l,c,er)∧e=.returned (.tuple #[.agg #[.int .i64 l,.int .i64 c],.int .i64 er])∧Touch w w' (fun k=>k=lb∨v.ownBlock=some k))∨
 (∃k ln' cl' t v',stepL (rest s i) ln cl=.ok (k,ln',cl',t)∧e=.returned (.tuple #[.agg #[.int .i64 0,.int .i64 0],.int .i64 0])∧LexW B w' lb s ln' cl' (i+k) v' (out++t.toList)∧Touch w w' (fun k=>k=lb∨v.ownBlock=some k))
section
variable {w w':World} {lb ln cl i B:Nat} {s:ByteArray} {v:Value} {out:List Tok}
structure Made3 (w w':World) (lb ln cl:Nat):Prop where
 p:w'.heap[w.heap.size]?=some (.cells #[.pointer (some ⟨lb,0,none⟩)] 75 (0,0))
 r:w'.heap[w.heap.size+1]?=some (.cells #[.int .i64 0,.int .i64 0] 26 (0,0))
 f:w'.heap[w.heap.size+2]?=some (.cells #[.int .i64 ln,.int .i64 cl] 26 (0,0))
theorem Made3.mk' (w:World)(lb ln cl:Nat):Made3 w (((w.alloc (.cells #[.pointer (some ⟨lb,0,none⟩)] 75)).alloc (.cells #[.int .i64 0,.int .i64 0] 26)).alloc (.cells #[.int .i64 ln,.int .i64 cl] 26)) lb ln cl:=by
 refine⟨?_,?_,?_⟩
 ·rw [Below.heap_alloc _ _ _ (by simp;omega),Below.heap_alloc _ _ _ (by simp)]
  exact heap_alloc_new w _
 ·rw [Below.heap_alloc _ _ _ (by simp)]
  have:=heap_alloc_new (w.alloc (.cells #[.pointer (some ⟨lb,0,none⟩)] 75)) (.cells #[.int .i64 0,.int .i64 0] 26)
  rwa [World.size_alloc] at this
 ·have:=heap_alloc_new ((w.alloc (.cells #[.pointer (some ⟨lb,0,none⟩)] 75)).alloc (.cells #[.int .i64 0,.int .i64 0] 26)) (.cells #[.int .i64 ln,.int .i64 cl] 26)
  rw [World.size_alloc,World.size_alloc] at this
  exact this
theorem Made3.touch {Q:Nat→Prop}{w1:World}(h:Made3 w w' lb ln cl)(ht:Touch w' w1 Q)(hq:∀k,Q k→k<w.heap.size):Made3 w w1 lb ln cl:=by
 have hs:w.heap.size+2<w'.heap.size:=(Array.getElem?_eq_some_iff.1 h.f).1
 exact⟨(ht.block _ (by omega) (fun q=>by have:=hq _ q;omega)).trans h.p,(ht.block _ (by omega) (fun q=>by have:=hq _ q;omega)).trans h.r,(ht.block _ (by omega) (fun q=>by have:=hq _ q;omega)).trans h.f⟩
theorem LexW.set {ln2 cl2 i2:Nat}{w1:World}(h:LexW B w lb s ln cl i v out)(hL:LexAt w1 lb s ln2 cl2 i2 v)(ht:Touch w w1 (fun k=>k=lb)):LexW B w1 lb s ln2 cl2 i2 v out:=
 ⟨hL,ownsRow_touch h.row ht (fun b hb e=>by have:=(h.row.lt b hb).1;have:=h.low;omega),h.low,Nat.le_trans h.top ht.size⟩
theorem step_line {i:Nat}(hi:i<s.size)(hd:s[i]=10)(ln cl:Nat):stepL (rest s i) ln cl=.ok (1,ln+1,1,none):=by
 rw [rest_at hi]
 unfold stepL
 simp only
 rw [if_pos hd]
theorem own_lt (h:LexW B w lb s ln cl i v out):∀k,v.ownBlock=some k→k<w.heap.size:=fun k e=>(h.row.lt k e).2
theorem touch2 {w1:World}{a:Nat}(ht:Touch w w1 (fun k=>k=lb∨v.ownBlock=some k))(ha:w.heap.size≤a)(x y:Value):Touch w ((w1.setCell ⟨a,0,none⟩ x).setCell ⟨a,1,none⟩ y) (fun k=>k=lb∨v.ownBlock=some k):=
 (ht.setCell (a:=⟨a,0,none⟩) (fun h=>absurd h (Nat.not_lt.2 ha)) _).setCell (a:=⟨a,1,none⟩) (fun h=>absurd h (Nat.not_lt.2 ha)) _
theorem LexW.box {a:Nat}(h:LexW B w lb s ln cl i v out)(h1:a≠lb)(h2:v.ownBlock≠some a)(x y:Value):LexW B ((w.setCell ⟨a,0,none⟩ x).setCell ⟨a,1,none⟩ y) lb s ln cl i v out:=
 h.away (Q:=fun k=>k=a) (((Touch.refl w (fun k=>k=a)).setCell (a:=⟨a,0,none⟩) (fun _=>rfl) _).setCell (a:=⟨a,1,none⟩) (fun _=>rfl) _) (fun k e=>by subst e;exact⟨h1,h2⟩)
set_option maxHeartbeats 1000000 in
theorem next_line (h:LexW B w lb s ln cl i v out)(hi:i<s.size)(hs:s.size≤2000000)(_hc:cl≤4000000)(hln:ln≤4000000)(_hout:out.length≤1900000)(hd:s[i]=10):
  Calls Tryd.prog 27 #[.pointer (some ⟨lb,0,none⟩)] w fun e w'=>NextPost B w lb s ln cl i v out e w':=by
 have hb3:Below w.heap.size w (((w.alloc (.cells #[.pointer (some ⟨lb,0,none⟩)] 75)).alloc (.cells #[.int .i64 0,.int .i64 0] 26)).alloc (.cells #[.int .i64 ln,.int .i64 cl] 26)):=(((Below.refl _ _).alloc (Nat.le_refl _) _).alloc (by simp) _).alloc (by simp;omega) _
 have hM:=Made3.mk' w lb ln cl
 have hW:=h.below hb3
 have c0:=h.at'.c0
 have c1:=h.at'.c1
 have hlb:=h.at'.lt
 have i1:(i:Int)<(s.size:Int):=by omega
 have e1:((s[i].toNat:Int)==10)=true:=by rw [hd];rfl
 go_enter Tryd.func27,Tryd.ntmps27
 go_wp2_with fail
 generalize (((w.alloc (.cells #[.pointer (some ⟨lb,0,none⟩)] 75)).alloc (.cells #[.int .i64 0,.int .i64 0] 26)).alloc (.cells #[.int .i64 ln,.int .i64 cl] 26))=wa at hb3 hM hW ⊢
 have p0:=blk_cell hM.p 0
 have f0:=blk_cell hM.f 0
 have f1:=blk_cell hM.f 1
 simp at p0 f0 f1
 have a2:=hW.at'.c2
 have a3:=hW.at'.c3
 clear c0 c1
 go_quiet (fail)
 have hWx:=hW.below (below_drawn (Below.refl wa.heap.size wa) nq)
 have hMx:=hM.touch (Touch.drewN wa nq (fun _=>False)) (fun _ h=>h.elim)
 have htx:Touch w (wa.drewN nq) (fun k=>k=lb∨v.ownBlock=some k):=(Touch.of_below hb3 _).trans (Touch.drewN wa nq _)
 clear hW hM hb3 p0 f0 f1 a2 a3
 generalize wa.drewN nq=wx at hWx hMx htx ⊢
 have p0:=blk_cell hMx.p 0
 simp at p0
 have r0:=blk_cell hMx.r 0
 have r1:=blk_cell hMx.r 1
 simp at r0 r1
 have rf0:wx.frozen? ⟨w.heap.size+1,0,none⟩=false:=by simp [World.frozen?,hMx.r]
 have rf1:wx.frozen? ⟨w.heap.size+1,1,none⟩=false:=by simp [World.frozen?,hMx.r]
 have a0:=hWx.at'.c0
 have a1:=hWx.at'.c1
 have a2:=hWx.at'.c2
 have g0:=hWx.at'.fr 0
 have g1:=hWx.at'.fr 1
 have g2:=hWx.at'.fr 2
 have hne:w.heap.size≠lb:=by omega
 have hne1:w.heap.size+1≠lb:=by omega
 go_wp2_with fail
 have hL3:LexAt (((wx.setCell ⟨lb,2,none⟩ (.int .i64 ((i:Int)+1))).setCell ⟨lb,0,none⟩ (.int .i64 ((ln:Int)+1))).setCell ⟨lb,1,none⟩ (.int .i64 1)) lb s (ln+1) 1 (i+1) v:=by
  have:=blk_set (i:=1) (.int .i64 1) (blk_set (i:=0) (.int .i64 ((ln:Int)+1)) (blk_set (i:=2) (.int .i64 ((i:Int)+1)) hWx.at'))
  unfold LexAt
  rw [this]
  rfl
 have hT3:Touch wx (((wx.setCell ⟨lb,2,none⟩ (.int .i64 ((i:Int)+1))).setCell ⟨lb,0,none⟩ (.int .i64 ((ln:Int)+1))).setCell ⟨lb,1,none⟩ (.int .i64 1)) (fun k=>k=lb):=
  (((Touch.refl wx (fun k=>k=lb)).setCell (a:=⟨lb,2,none⟩) (fun _=>rfl) _).setCell (a:=⟨lb,0,none⟩) (fun _=>rfl) _).setCell (a:=⟨lb,1,none⟩) (fun _=>rfl) _
 refine bodyPost_ret (v:=.tuple #[.agg #[.int .i64 0,.int .i64 0],.int .i64 0]) (by simp [results,Tryd.results27,go_sem, *]) rfl (Or.inr ⟨1,ln+1,1,none,v,step_line hi hd ln cl,rfl,?_,?_⟩)
 ·rw [Option.toList_none,List.append_nil]
  exact (hWx.set hL3 hT3).box hne1 (fun e=>by have:=own_lt h _ e;omega) _ _
 ·exact touch2 (htx.trans (hT3.mono (fun k _ e=>Or.inl e))) (by omega) _ _
theorem step_blank {i:Nat}(hi:i<s.size)(h10:s[i]≠10)(hd:blankB s[i]=true)(ln cl:Nat):stepL (rest s i) ln cl=.ok (run blankB s i,ln,cl+run blankB s i,none):=by
 unfold run
 rw [rest_at hi]
 unfold stepL
 simp only
 rw [if_neg h10,if_pos hd]
set_option maxHeartbeats 1000000 in
theorem next_blank (h:LexW B w lb s ln cl i v out)(hi:i<s.size)(hs:s.size≤2000000)(hc:cl≤4000000)(hln:ln≤4000000)(hout:out.length≤1900000)(h10:s[i]≠10)(hd:blankB s[i]=true):
  Calls Tryd.prog 27 #[.pointer (some ⟨lb,0,none⟩)] w fun e w'=>NextPost B w lb s ln cl i v out e w':=by
 have hb3:Below w.heap.size w (((w.alloc (.cells #[.pointer (some ⟨lb,0,none⟩)] 75)).alloc (.cells #[.int .i64 0,.int .i64 0] 26)).alloc (.cells #[.int .i64 ln,.int .i64 cl] 26)):=(((Below.refl _ _).alloc (Nat.le_refl _) _).alloc (by simp) _).alloc (by simp;omega) _
 have hM:=Made3.mk' w lb ln cl
 have hW:=h.below hb3
 have c0:=h.at'.c0
 have c1:=h.at'.c1
 have hlb:=h.at'.lt
 have i1:(i:Int)<(s.size:Int):=by omega
 have e1:((s[i].toNat:Int)==10)=false:=by rw [show ((s[i].toNat:Int)==10)=(s[i]==10) from eqB s[i] 10];simpa using h10
 have h_blank:=blank_any s[i]
 rw [hd] at h_blank
 replace h_blank:=Lib.hid h_blank
 go_enter Tryd.func27,Tryd.ntmps27
 go_wp2_with fail
 generalize (((w.alloc (.cells #[.pointer (some ⟨lb,0,none⟩)] 75)).alloc (.cells #[.int .i64 0,.int .i64 0] 26)).alloc (.cells #[.int .i64 ln,.int .i64 cl] 26))=wa at hb3 hM hW ⊢
 have p0:=blk_cell hM.p 0
 have f0:=blk_cell hM.f 0
 have f1:=blk_cell hM.f 1
 simp at p0 f0 f1
 have a2:=hW.at'.c2
 have a3:=hW.at'.c3
 clear c0 c1
 go_quiet (fail)
 have hWx:=hW.below (below_drawn (Below.refl wa.heap.size wa) nq)
 have hMx:=hM.touch (Touch.drewN wa nq (fun _=>False)) (fun _ h=>h.elim)
 have htx:Touch w (wa.drewN nq) (fun k=>k=lb∨v.ownBlock=some k):=(Touch.of_below hb3 _).trans (Touch.drewN wa nq _)
 clear hW hM hb3 p0 f0 f1 a2 a3
 generalize wa.drewN nq=wx at hWx hMx htx ⊢
 have p0:=blk_cell hMx.p 0
 simp at p0
 go_wp2_with fail
 refine (h_blank.out _).mono ?_
 rintro e w' ⟨rfl,hw⟩;obtain rfl:=hw.symm
 clear h_blank
 go_wp2_with fail
 refine (take_blank hWx.at' (Nat.le_of_lt hi) hs hc).mono ?_
 rintro e w2 ⟨rfl,hL2,ht2⟩
 have hW2:=hWx.set hL2 ht2
 have hM2:=hMx.touch ht2 (fun k e=>by subst e;exact hlb)
 have htw:=htx.trans (ht2.mono (fun k _ e=>Or.inl e):Touch wx w2 (fun k=>k=lb∨v.ownBlock=some k))
 clear hWx hMx htx p0 hL2 ht2
 have r0:=blk_cell hM2.r 0
 have r1:=blk_cell hM2.r 1
 simp at r0 r1
 have rf0:w2.frozen? ⟨w.heap.size+1,0,none⟩=false:=by simp [World.frozen?,hM2.r]
 have rf1:w2.frozen? ⟨w.heap.size+1,1,none⟩=false:=by simp [World.frozen?,hM2.r]
 have hne1:w.heap.size+1≠lb:=by omega
 go_wp2_with fail
 refine bodyPost_ret (v:=.tuple #[.agg #[.int .i64 0,.int .i64 0],.int .i64 0]) (by simp [results,Tryd.results27,go_sem, *]) rfl (Or.inr ⟨run blankB s i,ln,cl+run blankB s i,none,v,step_blank hi h10 hd ln cl,rfl,?_,?_⟩)
 ·rw [Option.toList_none,List.append_nil]
  exact hW2.box hne1 (fun e=>by have:=own_lt h _ e;omega) _ _
 ·exact touch2 htw (by omega) _ _
theorem step_comment {i:Nat}(hi:i<s.size)(h10:s[i]≠10)(hb:blankB s[i]=false)(hd:s[i]=59)(ln cl:Nat):stepL (rest s i) ln cl=.ok (run lineB s i,ln,cl+run lineB s i,none):=by
 unfold run
 rw [rest_at hi]
 unfold stepL
 simp only
 rw [if_neg h10,if_neg (by rw [hb];simp),if_pos hd]
 rfl
set_option maxHeartbeats 1000000 in
theorem next_comment (h:LexW B w lb s ln cl i v out)(hi:i<s.size)(hs:s.size≤2000000)(hc:cl≤4000000)(hln:ln≤4000000)(hout:out.length≤1900000)(h10:s[i]≠10)(hb:blankB s[i]=false)(hd:s[i]=59):
  Calls Tryd.prog 27 #[.pointer (some ⟨lb,0,none⟩)] w fun e w'=>NextPost B w lb s ln cl i v out e w':=by
 have hb3:Below w.heap.size w (((w.alloc (.cells #[.pointer (some ⟨lb,0,none⟩)] 75)).alloc (.cells #[.int .i64 0,.int .i64 0] 26)).alloc (.cells #[.int .i64 ln,.int .i64 cl] 26)):=(((Below.refl _ _).alloc (Nat.le_refl _) _).alloc (by simp) _).alloc (by simp;omega) _
 have hM:=Made3.mk' w lb ln cl
 have hW:=h.below hb3
 have c0:=h.at'.c0
 have c1:=h.at'.c1
 have hlb:=h.at'.lt
 have i1:(i:Int)<(s.size:Int):=by omega
 have e1:((s[i].toNat:Int)==10)=false:=by rw [show ((s[i].toNat:Int)==10)=(s[i]==10) from eqB s[i] 10];simpa using h10
 have h_blank:=blank_any s[i]
 rw [hb] at h_blank
 replace h_blank:=Lib.hid h_blank
 have e2:((s[i].toNat:Int)==59)=true:=by rw [show ((s[i].toNat:Int)==59)=(s[i]==59) from eqB s[i] 59];simpa using hd
 replace hd:=Lib.hid hd
 replace hb:=Lib.hid hb
 go_enter Tryd.func27,Tryd.ntmps27
 go_wp2_with fail
 generalize (((w.alloc (.cells #[.pointer (some ⟨lb,0,none⟩)] 75)).alloc (.cells #[.int .i64 0,.int .i64 0] 26)).alloc (.cells #[.int .i64 ln,.int .i64 cl] 26))=wa at hb3 hM hW ⊢
 have p0:=blk_cell hM.p 0
 have f0:=blk_cell hM.f 0
 have f1:=blk_cell hM.f 1
 simp at p0 f0 f1
 have a2:=hW.at'.c2
 have a3:=hW.at'.c3
 clear c0 c1
 go_quiet (fail)
 have hWx:=hW.below (below_drawn (Below.refl wa.heap.size wa) nq)
 have hMx:=hM.touch (Touch.drewN wa nq (fun _=>False)) (fun _ h=>h.elim)
 have htx:Touch w (wa.drewN nq) (fun k=>k=lb∨v.ownBlock=some k):=(Touch.of_below hb3 _).trans (Touch.drewN wa nq _)
 clear hW hM hb3 p0 f0 f1 a2 a3
 generalize wa.drewN nq=wx at hWx hMx htx ⊢
 have p0:=blk_cell hMx.p 0
 simp at p0
 go_wp2_with fail
 refine (h_blank.out _).mono ?_
 rintro e w' ⟨rfl,hw⟩;obtain rfl:=hw.symm
 clear h_blank
 go_wp2_with fail
 refine (take_line hWx.at' (Nat.le_of_lt hi) hs hc).mono ?_
 rintro e w2 ⟨rfl,hL2,ht2⟩
 have hW2:=hWx.set hL2 ht2
 have hM2:=hMx.touch ht2 (fun k e=>by subst e;exact hlb)
 have htw:=htx.trans (ht2.mono (fun k _ e=>Or.inl e):Touch wx w2 (fun k=>k=lb∨v.ownBlock=some k))
 clear hWx hMx htx p0 hL2 ht2
 have r0:=blk_cell hM2.r 0
 have r1:=blk_cell hM2.r 1
 simp at r0 r1
 have rf0:w2.frozen? ⟨w.heap.size+1,0,none⟩=false:=by simp [World.frozen?,hM2.r]
 have rf1:w2.frozen? ⟨w.heap.size+1,1,none⟩=false:=by simp [World.frozen?,hM2.r]
 have hne1:w.heap.size+1≠lb:=by omega
 go_wp2_with fail
 refine bodyPost_ret (v:=.tuple #[.agg #[.int .i64 0,.int .i64 0],.int .i64 0]) (by simp [results,Tryd.results27,go_sem, *]) rfl (Or.inr ⟨run lineB s i,ln,cl+run lineB s i,none,v,step_comment hi h10 hb.out hd.out ln cl,rfl,?_,?_⟩)
 ·rw [Option.toList_none,List.append_nil]
  exact hW2.box hne1 (fun e=>by have:=own_lt h _ e;omega) _ _
 ·exact touch2 htw (by omega) _ _
theorem step_other {i:Nat}(hi:i<s.size)(h10:s[i]≠10)(hb:blankB s[i]=false)(h59:s[i]≠59)(hl:letterB s[i]=false)(hg:digitB s[i]=false)(hsg:signB s[i]=false)(ln cl:Nat):stepL (rest s i) ln cl=.error (ln,cl,30):=by
 rw [rest_at hi]
 unfold stepL
 simp only
 rw [if_neg h10,if_neg (by rw [hb];simp),if_neg h59,if_neg (by rw [hl];simp),if_neg (by rw [hg];simp),if_neg (by rw [hsg];simp)]
set_option maxHeartbeats 1000000 in
theorem next_other (h:LexW B w lb s ln cl i v out)(hi:i<s.size)(hs:s.size≤2000000)(hc:cl≤4000000)(hln:ln≤4000000)(hout:out.length≤1900000)(h10:s[i]≠10)(hb:blankB s[i]=false)(h59:s[i]≠59)(hl:letterB s[i]=false)(hg:digitB s[i]=false)(hsg:signB s[i]=false):
  Calls Tryd.prog 27 #[.pointer (some ⟨lb,0,none⟩)] w fun e w'=>NextPost B w lb s ln cl i v out e w':=by
 have hb3:Below w.heap.size w (((w.alloc (.cells #[.pointer (some ⟨lb,0,none⟩)] 75)).alloc (.cells #[.int .i64 0,.int .i64 0] 26)).alloc (.cells #[.int .i64 ln,.int .i64 cl] 26)):=(((Below.refl _ _).alloc (Nat.le_refl _) _).alloc (by simp) _).alloc (by simp;omega) _
 have hM:=Made3.mk' w lb ln cl
 have hW:=h.below hb3
 have c0:=h.at'.c0
 have c1:=h.at'.c1
 have hlb:=h.at'.lt
 have i1:(i:Int)<(s.size:Int):=by omega
 have e1:((s[i].toNat:Int)==10)=false:=by rw [show ((s[i].toNat:Int)==10)=(s[i]==10) from eqB s[i] 10];simpa using h10
 have h_blank:=blank_any s[i]
 rw [hb] at h_blank
 replace h_blank:=Lib.hid h_blank
 have e2:((s[i].toNat:Int)==59)=false:=by rw [show ((s[i].toNat:Int)==59)=(s[i]==59) from eqB s[i] 59];simpa using h59
 have h_letter:=letter_any s[i]
 rw [hl] at h_letter
 replace h_letter:=Lib.hid h_letter
 have h_digit:=digit_any s[i]
 rw [hg] at h_digit
 replace h_digit:=Lib.hid h_digit
 have h_sign:=sign_any s[i]
 rw [hsg] at h_sign
 replace h_sign:=Lib.hid h_sign
 replace hb:=Lib.hid hb
 replace hl:=Lib.hid hl
 replace hg:=Lib.hid hg
 replace hsg:=Lib.hid hsg
 go_enter Tryd.func27,Tryd.ntmps27
 go_wp2_with fail
 generalize (((w.alloc (.cells #[.pointer (some ⟨lb,0,none⟩)] 75)).alloc (.cells #[.int .i64 0,.int .i64 0] 26)).alloc (.cells #[.int .i64 ln,.int .i64 cl] 26))=wa at hb3 hM hW ⊢
 have p0:=blk_cell hM.p 0
 have f0:=blk_cell hM.f 0
 have f1:=blk_cell hM.f 1
 simp at p0 f0 f1
 have a2:=hW.at'.c2
 have a3:=hW.at'.c3
 clear c0 c1
 go_quiet (fail)
 have hWx:=hW.below (below_drawn (Below.refl wa.heap.size wa) nq)
 have hMx:=hM.touch (Touch.drewN wa nq (fun _=>False)) (fun _ h=>h.elim)
 have htx:Touch w (wa.drewN nq) (fun k=>k=lb∨v.ownBlock=some k):=(Touch.of_below hb3 _).trans (Touch.drewN wa nq _)
 clear hW hM hb3 p0 f0 f1 a2 a3
 generalize wa.drewN nq=wx at hWx hMx htx ⊢
 have p0:=blk_cell hMx.p 0
 simp at p0
 go_wp2_with fail
 refine (h_blank.out _).mono ?_
 rintro e w' ⟨rfl,hw⟩;obtain rfl:=hw.symm
 clear h_blank
 go_wp2_with fail
 refine (h_letter.out _).mono ?_
 rintro e w' ⟨rfl,hw⟩;obtain rfl:=hw.symm
 clear h_letter
 go_wp2_with fail
 refine (h_digit.out _).mono ?_
 rintro e w' ⟨rfl,hw⟩;obtain rfl:=hw.symm
 clear h_digit
 go_wp2_with fail
 refine (h_sign.out _).mono ?_
 rintro e w' ⟨n,rfl,hn,hw⟩;obtain rfl:=hw.symm
 clear h_sign
 have q0:=blk_cell hMx.f 0
 have q1:=blk_cell hMx.f 1
 have r0:=blk_cell hMx.r 0
 have r1:=blk_cell hMx.r 1
 simp at q0 q1 r0 r1
 have rf0:wx.frozen? ⟨w.heap.size+1,0,none⟩=false:=by simp [World.frozen?,hMx.r]
 have rf1:wx.frozen? ⟨w.heap.size+1,1,none⟩=false:=by simp [World.frozen?,hMx.r]
 go_wp2_with fail
 refine bodyPost_ret (v:=.tuple #[.agg #[.int .i64 ln,.int .i64 cl],.int .i64 30]) (by simp [results,Tryd.results27,go_sem, *]) rfl (Or.inl ⟨ln,cl,30,step_other hi h10 hb.out h59 hl.out hg.out hsg.out ln cl,rfl,?_⟩)
 exact touch2 htx (by omega) _ _
theorem step_bad {i:Nat}(hi:i<s.size)(h10:s[i]≠10)(hb:blankB s[i]=false)(h59:s[i]≠59)(hl:letterB s[i]=false)(hg:digitB s[i]=true)(hbad:badN s i=true)(ln cl:Nat):stepL (rest s i) ln cl=.error (ln,cl,31):=by
 rw [rest_at hi]
 unfold stepL
 simp only
 rw [if_neg h10,if_neg (by rw [hb];simp),if_neg h59,if_neg (by rw [hl];simp),if_pos hg]
 unfold badN run at hbad
 rw [rest_at hi] at hbad
 rw [if_pos]
 simpa using hbad
theorem step_number {i:Nat}(hi:i<s.size)(h10:s[i]≠10)(hb:blankB s[i]=false)(h59:s[i]≠59)(hl:letterB s[i]=false)(hg:digitB s[i]=true)(hbad:badN s i=false)(ln cl:Nat):stepL (rest s i) ln cl=.ok (run digitB s i,ln,cl+run digitB s i,some ⟨2,word digitB s i,numOf (word digitB s i),ln,cl⟩):=by
 unfold badN run at hbad
 unfold run word
 rw [rest_at hi] at hbad
 rw [rest_at hi]
 unfold stepL
 simp only
 rw [if_neg h10,if_neg (by rw [hb];simp),if_neg h59,if_neg (by rw [hl];simp),if_pos hg]
 rw [if_neg]
 simpa using hbad
set_option maxHeartbeats 1000000 in
theorem next_digit (h:LexW B w lb s ln cl i v out)(hi:i<s.size)(hs:s.size≤2000000)(hc:cl≤4000000)(hln:ln≤4000000)(hout:out.length≤1900000)(h10:s[i]≠10)(hb:blankB s[i]=false)(h59:s[i]≠59)(hl:letterB s[i]=false)(hg:digitB s[i]=true):
  Calls Tryd.prog 27 #[.pointer (some ⟨lb,0,none⟩)] w fun e w'=>NextPost B w lb s ln cl i v out e w':=by
 have hb3:Below w.heap.size w (((w.alloc (.cells #[.pointer (some ⟨lb,0,none⟩)] 75)).alloc (.cells #[.int .i64 0,.int .i64 0] 26)).alloc (.cells #[.int .i64 ln,.int .i64 cl] 26)):=(((Below.refl _ _).alloc (Nat.le_refl _) _).alloc (by simp) _).alloc (by simp;omega) _
 have hM:=Made3.mk' w lb ln cl
 have hW:=h.below hb3
 have c0:=h.at'.c0
 have c1:=h.at'.c1
 have hlb:=h.at'.lt
 have i1:(i:Int)<(s.size:Int):=by omega
 have e1:((s[i].toNat:Int)==10)=false:=by rw [show ((s[i].toNat:Int)==10)=(s[i]==10) from eqB s[i] 10];simpa using h10
 have h_blank:=blank_any s[i]
 rw [hb] at h_blank
 replace h_blank:=Lib.hid h_blank
 have e2:((s[i].toNat:Int)==59)=false:=by rw [show ((s[i].toNat:Int)==59)=(s[i]==59) from eqB s[i] 59];simpa using h59
 have h_letter:=letter_any s[i]
 rw [hl] at h_letter
 replace h_letter:=Lib.hid h_letter
 have h_digit:=digit_any s[i]
 rw [hg] at h_digit
 replace h_digit:=Lib.hid h_digit
 have hgg:=Lib.hid hg
 replace hb:=Lib.hid hb
 replace hl:=Lib.hid hl
 replace hg:=Lib.hid hg
 go_enter Tryd.func27,Tryd.ntmps27
 go_wp2_with fail
 generalize (((w.alloc (.cells #[.pointer (some ⟨lb,0,none⟩)] 75)).alloc (.cells #[.int .i64 0,.int .i64 0] 26)).alloc (.cells #[.int .i64 ln,.int .i64 cl] 26))=wa at hb3 hM hW ⊢
 have p0:=blk_cell hM.p 0
 have f0:=blk_cell hM.f 0
 have f1:=blk_cell hM.f 1
 simp at p0 f0 f1
 have a2:=hW.at'.c2
 have a3:=hW.at'.c3
 clear c0 c1
 go_quiet (fail)
 have hWx:=hW.below (below_drawn (Below.refl wa.heap.size wa) nq)
 have hMx:=hM.touch (Touch.drewN wa nq (fun _=>False)) (fun _ h=>h.elim)
 have htx:Touch w (wa.drewN nq) (fun k=>k=lb∨v.ownBlock=some k):=(Touch.of_below hb3 _).trans (Touch.drewN wa nq _)
 clear hW hM hb3 p0 f0 f1 a2 a3
 generalize wa.drewN nq=wx at hWx hMx htx ⊢
 have p0:=blk_cell hMx.p 0
 simp at p0
 go_wp2_with fail
 refine (h_blank.out _).mono ?_
 rintro e w' ⟨rfl,hw⟩;obtain rfl:=hw.symm
 clear h_blank
 go_wp2_with fail
 refine (h_letter.out _).mono ?_
 rintro e w' ⟨rfl,hw⟩;obtain rfl:=hw.symm
 clear h_letter
 go_wp2_with fail
 refine (h_digit.out _).mono ?_
 rintro e w' ⟨rfl,hw⟩;obtain rfl:=hw.symm
 clear h_digit
 go_wp2_with fail
 refine (number_any hWx hi hs hc hout hgg.out).mono ?_
 rintro e w2 (⟨hbad,rfl,ht2⟩ | ⟨hbad,rfl,v2,hW2,ht2⟩)
 ·have hM2:=hMx.touch ht2 (fun k e=>by rcases e with rfl | e;exact hlb;exact own_lt h _ e)
  have htw:=htx.trans ht2
  clear hWx hMx htx p0 ht2
  replace hbad:=Lib.hid hbad
  have r0:=blk_cell hM2.r 0
  have r1:=blk_cell hM2.r 1
  simp at r0 r1
  have rf0:w2.frozen? ⟨w.heap.size+1,0,none⟩=false:=by simp [World.frozen?,hM2.r]
  have rf1:w2.frozen? ⟨w.heap.size+1,1,none⟩=false:=by simp [World.frozen?,hM2.r]
  have hne1:w.heap.size+1≠lb:=by omega
  go_wp2_with fail
  refine bodyPost_ret (v:=.tuple #[.agg #[.int .i64 ln,.int .i64 cl],.int .i64 31]) (by simp [results,Tryd.results27,go_sem, *]) rfl (Or.inl ⟨ln,cl,31,step_bad hi h10 hb.out h59 hl.out hg.out hbad.out ln cl,rfl,?_⟩)
  exact touch2 htw (by omega) _ _
 ·have hM2:=hMx.touch ht2 (fun k e=>by rcases e with rfl | e;exact hlb;exact own_lt h _ e)
  have htw:=htx.trans ht2
  clear hWx hMx htx p0 ht2
  replace hbad:=Lib.hid hbad
  have r0:=blk_cell hM2.r 0
  have r1:=blk_cell hM2.r 1
  simp at r0 r1
  have rf0:w2.frozen? ⟨w.heap.size+1,0,none⟩=false:=by simp [World.frozen?,hM2.r]
  have rf1:w2.frozen? ⟨w.heap.size+1,1,none⟩=false:=by simp [World.frozen?,hM2.r]
  have hne1:w.heap.size+1≠lb:=by omega
  go_wp2_with fail
  refine bodyPost_ret (v:=.tuple #[.agg #[.int .i64 0,.int .i64 0],.int .i64 0]) (by simp [results,Tryd.results27,go_sem, *]) rfl (Or.inr ⟨run digitB s i,ln,cl+run digitB s i,some ⟨2,word digitB s i,numOf (word digitB s i),ln,cl⟩,v2,step_number hi h10 hb.out h59 hl.out hg.out hbad.out ln cl,rfl,?_,?_⟩)
  ·exact hW2.box hne1 (fun e=>own_not hW2.row hM2.r (by decide) e) _ _
  ·exact touch2 htw (by omega) _ _
theorem step_name {i:Nat}(hi:i<s.size)(h10:s[i]≠10)(hb:blankB s[i]=false)(h59:s[i]≠59)(hl:letterB s[i]=true)(ln cl:Nat):stepL (rest s i) ln cl=.ok (run partB s i,ln,cl+run partB s i,some ⟨1,word partB s i,0,ln,cl⟩):=by
 unfold run word
 rw [rest_at hi]
 unfold stepL
 simp only
 rw [if_neg h10,if_neg (by rw [hb];simp),if_neg h59,if_pos hl]
set_option maxHeartbeats 1000000 in
theorem next_name (h:LexW B w lb s ln cl i v out)(hi:i<s.size)(hs:s.size≤2000000)(hc:cl≤4000000)(hln:ln≤4000000)(hout:out.length≤1900000)(h10:s[i]≠10)(hb:blankB s[i]=false)(h59:s[i]≠59)(hl:letterB s[i]=true):
  Calls Tryd.prog 27 #[.pointer (some ⟨lb,0,none⟩)] w fun e w'=>NextPost B w lb s ln cl i v out e w':=by
 have hb3:Below w.heap.size w (((w.alloc (.cells #[.pointer (some ⟨lb,0,none⟩)] 75)).alloc (.cells #[.int .i64 0,.int .i64 0] 26)).alloc (.cells #[.int .i64 ln,.int .i64 cl] 26)):=(((Below.refl _ _).alloc (Nat.le_refl _) _).alloc (by simp) _).alloc (by simp;omega) _
 have hM:=Made3.mk' w lb ln cl
 have hW:=h.below hb3
 have c0:=h.at'.c0
 have c1:=h.at'.c1
 have hlb:=h.at'.lt
 have i1:(i:Int)<(s.size:Int):=by omega
 have e1:((s[i].toNat:Int)==10)=false:=by rw [show ((s[i].toNat:Int)==10)=(s[i]==10) from eqB s[i] 10];simpa using h10
 have h_blank:=blank_any s[i]
 rw [hb] at h_blank
 replace h_blank:=Lib.hid h_blank
 have e2:((s[i].toNat:Int)==59)=false:=by rw [show ((s[i].toNat:Int)==59)=(s[i]==59) from eqB s[i] 59];simpa using h59
 have h_letter:=letter_any s[i]
 rw [hl] at h_letter
 replace h_letter:=Lib.hid h_letter
 replace hb:=Lib.hid hb
 replace hl:=Lib.hid hl
 go_enter Tryd.func27,Tryd.ntmps27
 go_wp2_with fail
 generalize (((w.alloc (.cells #[.pointer (some ⟨lb,0,none⟩)] 75)).alloc (.cells #[.int .i64 0,.int .i64 0] 26)).alloc (.cells #[.int .i64 ln,.int .i64 cl] 26))=wa at hb3 hM hW ⊢
 have p0:=blk_cell hM.p 0
 have f0:=blk_cell hM.f 0
 have f1:=blk_cell hM.f 1
 simp at p0 f0 f1
 have a2:=hW.at'.c2
 have a3:=hW.at'.c3
 clear c0 c1
 go_quiet (fail)
 have hWx:=hW.below (below_drawn (Below.refl wa.heap.size wa) nq)
 have hMx:=hM.touch (Touch.drewN wa nq (fun _=>False)) (fun _ h=>h.elim)
 have htx:Touch w (wa.drewN nq) (fun k=>k=lb∨v.ownBlock=some k):=(Touch.of_below hb3 _).trans (Touch.drewN wa nq _)
 clear hW hM hb3 p0 f0 f1 a2 a3
 generalize wa.drewN nq=wx at hWx hMx htx ⊢
 have p0:=blk_cell hMx.p 0
 simp at p0
 go_wp2_with fail
 refine (h_blank.out _).mono ?_
 rintro e w' ⟨rfl,hw⟩;obtain rfl:=hw.symm
 clear h_blank
 go_wp2_with fail
 refine (h_letter.out _).mono ?_
 rintro e w' ⟨rfl,hw⟩;obtain rfl:=hw.symm
 clear h_letter
 have q0:wx.cell? ⟨w.heap.size+1+1,0,none⟩=some (.int .i64 ln):=blk_cell hMx.f 0
 have q1:wx.cell? ⟨w.heap.size+1+1,1,none⟩=some (.int .i64 cl):=blk_cell hMx.f 1
 have hdr:Below wx.heap.size wx wx.drew:=below_drawn (Below.refl _ _) 1
 have htk:=take_part (w:=wx.drew) hWx.at' (Nat.le_of_lt hi) hs hc
 rw [word_extract] at htk
 replace htk:=Lib.hid htk
 have hsz:w.heap.size+2<wx.heap.size:=(Array.getElem?_eq_some_iff.1 hMx.f).1
 have hwl:(word partB s i).length≤2000000:=by rw [word_len];have:=run_le partB s i;omega
 have hWd:LexW B wx.drew lb s ln cl i v out:=hWx.below hdr
 have hMd:Made3 w wx.drew lb ln cl:=hMx.touch (Touch.drewN wx 1 (fun _=>False)) (fun _ h=>h.elim)
 have htd:Touch w wx.drew (fun k=>k=lb∨v.ownBlock=some k):=htx.trans (Touch.drewN wx 1 _)
 go_wp2_with fail
 go_region_held3 (fun w'=>w'.cell? ⟨w.heap.size,0,none⟩=some (.pointer (some ⟨lb,0,none⟩))∧w'.cell? ⟨w.heap.size+1+1,0,none⟩=some (.int .i64 ln)∧w'.cell? ⟨w.heap.size+1+1,1,none⟩=some (.int .i64 cl)) (go_keep)
  (first
   | (go_at_call 53;refine Calls.mono htk.out ?_;rintro e w2 ⟨rfl,hL2,ht2⟩;have hW2:=hWd.set hL2 ht2;have hM2:=hMd.touch ht2 (fun k e=>by subst e;exact hlb);have u0:w2.cell? ⟨w.heap.size,0,none⟩=some (.pointer (some ⟨lb,0,none⟩)):=blk_cell hM2.p 0;have u1:w2.cell? ⟨w.heap.size+1+1,0,none⟩=some (.int .i64 ln):=blk_cell hM2.f 0;have u2:w2.cell? ⟨w.heap.size+1+1,1,none⟩=some (.int .i64 cl):=blk_cell hM2.f 1)
   | (go_at_call 56;refine (put_any (k:=1) (t:=word partB s i) (n:=0) (l:=ln) (c:=cl) hW2 (by omega) hwl).mono ?_;rintro e w3 ⟨rfl,v3,hW3,ht3⟩;have hM3:=hM2.touch ht3 (fun k e=>by rcases e with rfl | e;exact hlb;exact own_lt h _ e);have z0:w3.cell? ⟨w.heap.size,0,none⟩=some (.pointer (some ⟨lb,0,none⟩)):=blk_cell hM3.p 0;have z1:w3.cell? ⟨w.heap.size+1+1,0,none⟩=some (.int .i64 ln):=blk_cell hM3.f 0;have z2:w3.cell? ⟨w.heap.size+1+1,1,none⟩=some (.int .i64 cl):=blk_cell hM3.f 1))
 have htw:=(htd.trans (ht2.mono (fun k _ e=>Or.inl e):Touch wx.drew w2 (fun k=>k=lb∨v.ownBlock=some k))).trans ht3
 clear hWx hMx htx p0 q0 q1 hWd hMd htd hW2 hM2 u0 u1 u2 z0 z1 z2 hL2 ht2 ht3 htk
 have r0:=blk_cell hM3.r 0
 have r1:=blk_cell hM3.r 1
 simp at r0 r1
 have rf0:w3.frozen? ⟨w.heap.size+1,0,none⟩=false:=by simp [World.frozen?,hM3.r]
 have rf1:w3.frozen? ⟨w.heap.size+1,1,none⟩=false:=by simp [World.frozen?,hM3.r]
 have hne1:w.heap.size+1≠lb:=by omega
 go_wp2_with fail
 refine bodyPost_ret (v:=.tuple #[.agg #[.int .i64 0,.int .i64 0],.int .i64 0]) (by simp [results,Tryd.results27,go_sem, *]) rfl (Or.inr ⟨run partB s i,ln,cl+run partB s i,some ⟨1,word partB s i,0,ln,cl⟩,v3,step_name hi h10 hb.out h59 hl.out ln cl,rfl,?_,?_⟩)
 ·exact hW3.box hne1 (fun e=>own_not hW3.row hM3.r (by decide) e) _ _
 ·exact touch2 htw (by omega) _ _
theorem extract_one {i:Nat}(hi:i<s.size):s.extract i (i+1)=⟨[s[i]].toArray⟩:=by
 apply ByteArray.ext
 apply Array.ext'
 rw [ByteArray.data_extract]
 simp only [Array.toList_extract,List.extract_eq_take_drop]
 rw [show i+1-i=1 from by omega]
 show List.take 1 (rest s i)=[s[i]]
 rw [rest_at hi]
 rfl
theorem step_sign {i:Nat}(hi:i<s.size)(h10:s[i]≠10)(hb:blankB s[i]=false)(h59:s[i]≠59)(hl:letterB s[i]=false)(hg:digitB s[i]=false)(hsg:signB s[i]=true)(ln cl:Nat):stepL (rest s i) ln cl=.ok (1,ln,cl+1,some ⟨3,[s[i]],0,ln,cl⟩):=by
 rw [rest_at hi]
 unfold stepL
 simp only
 rw [if_neg h10,if_neg (by rw [hb];simp),if_neg h59,if_neg (by rw [hl];simp),if_neg (by rw [hg];simp),if_pos hsg]
set_option maxHeartbeats 1000000 in
theorem next_sign (h:LexW B w lb s ln cl i v out)(hi:i<s.size)(hs:s.size≤2000000)(hc:cl≤4000000)(hln:ln≤4000000)(hout:out.length≤1900000)(h10:s[i]≠10)(hb:blankB s[i]=false)(h59:s[i]≠59)(hl:letterB s[i]=false)(hg:digitB s[i]=false)(hsg:signB s[i]=true):
  Calls Tryd.prog 27 #[.pointer (some ⟨lb,0,none⟩)] w fun e w'=>NextPost B w lb s ln cl i v out e w':=by
 have hb3:Below w.heap.size w (((w.alloc (.cells #[.pointer (some ⟨lb,0,none⟩)] 75)).alloc (.cells #[.int .i64 0,.int .i64 0] 26)).alloc (.cells #[.int .i64 ln,.int .i64 cl] 26)):=(((Below.refl _ _).alloc (Nat.le_refl _) _).alloc (by simp) _).alloc (by simp;omega) _
 have hM:=Made3.mk' w lb ln cl
 have hW:=h.below hb3
 have c0:=h.at'.c0
 have c1:=h.at'.c1
 have hlb:=h.at'.lt
 have i1:(i:Int)<(s.size:Int):=by omega
 have e1:((s[i].toNat:Int)==10)=false:=by rw [show ((s[i].toNat:Int)==10)=(s[i]==10) from eqB s[i] 10];simpa using h10
 have h_blank:=blank_any s[i]
 rw [hb] at h_blank
 replace h_blank:=Lib.hid h_blank
 have e2:((s[i].toNat:Int)==59)=false:=by rw [show ((s[i].toNat:Int)==59)=(s[i]==59) from eqB s[i] 59];simpa using h59
 have h_letter:=letter_any s[i]
 rw [hl] at h_letter
 replace h_letter:=Lib.hid h_letter
 have h_digit:=digit_any s[i]
 rw [hg] at h_digit
 replace h_digit:=Lib.hid h_digit
 have h_sign:=sign_any s[i]
 rw [hsg] at h_sign
 replace h_sign:=Lib.hid h_sign
 replace hb:=Lib.hid hb
 replace hl:=Lib.hid hl
 replace hg:=Lib.hid hg
 replace hsg:=Lib.hid hsg
 go_enter Tryd.func27,Tryd.ntmps27
 go_wp2_with fail
 generalize (((w.alloc (.cells #[.pointer (some ⟨lb,0,none⟩)] 75)).alloc (.cells #[.int .i64 0,.int .i64 0] 26)).alloc (.cells #[.int .i64 ln,.int .i64 cl] 26))=wa at hb3 hM hW ⊢
 have p0:=blk_cell hM.p 0
 have f0:=blk_cell hM.f 0
 have f1:=blk_cell hM.f 1
 simp at p0 f0 f1
 have a2:=hW.at'.c2
 have a3:=hW.at'.c3
 clear c0 c1
 go_quiet (fail)
 have hWx:=hW.below (below_drawn (Below.refl wa.heap.size wa) nq)
 have hMx:=hM.touch (Touch.drewN wa nq (fun _=>False)) (fun _ h=>h.elim)
 have htx:Touch w (wa.drewN nq) (fun k=>k=lb∨v.ownBlock=some k):=(Touch.of_below hb3 _).trans (Touch.drewN wa nq _)
 clear hW hM hb3 p0 f0 f1 a2 a3
 generalize wa.drewN nq=wx at hWx hMx htx ⊢
 have p0:=blk_cell hMx.p 0
 simp at p0
 go_wp2_with fail
 refine (h_blank.out _).mono ?_
 rintro e w' ⟨rfl,hw⟩;obtain rfl:=hw.symm
 clear h_blank
 go_wp2_with fail
 refine (h_letter.out _).mono ?_
 rintro e w' ⟨rfl,hw⟩;obtain rfl:=hw.symm
 clear h_letter
 go_wp2_with fail
 refine (h_digit.out _).mono ?_
 rintro e w' ⟨rfl,hw⟩;obtain rfl:=hw.symm
 clear h_digit
 go_wp2_with fail
 refine (h_sign.out _).mono ?_
 rintro e w' ⟨n,rfl,hn,hw⟩;obtain rfl:=hw.symm
 clear h_sign
 have q0:wx.cell? ⟨w.heap.size+1+1,0,none⟩=some (.int .i64 ln):=blk_cell hMx.f 0
 have q1:wx.cell? ⟨w.heap.size+1+1,1,none⟩=some (.int .i64 cl):=blk_cell hMx.f 1
 have a2:=hWx.at'.c2
 have hsz:w.heap.size+2<wx.heap.size:=(Array.getElem?_eq_some_iff.1 hMx.f).1
 have hba:Below wx.heap.size wx (wx.alloc (.cells #[.int .i64 i] 3)):=(Below.refl _ _).alloc (Nat.le_refl _) _
 have hWa:=hWx.below hba
 have hMa:=hMx.touch (Touch.of_below hba (fun _=>False)) (fun _ h=>h.elim)
 have hta:Touch w (wx.alloc (.cells #[.int .i64 i] 3)) (fun k=>k=lb∨v.ownBlock=some k):=htx.trans (Touch.of_below hba _)
 have hfi:=heap_alloc_new wx (.cells #[.int .i64 i] 3)
 have hya:wx.heap.size<(wx.alloc (.cells #[.int .i64 i] 3)).heap.size:=by simp
 go_wp2_with fail
 obtain⟨y,hy⟩:∃y,y=wx.heap.size:=⟨_,rfl⟩
 rw [←hy] at hfi hya hsz ⊢
 replace hy:=Lib.hid hy
 generalize wx.alloc (.cells #[.int .i64 i] 3)=wy at hWa hMa hta hfi hya ⊢
 clear hWx hMx htx hba q0 q1 a2 p0
 have p0:wy.cell? ⟨w.heap.size,0,none⟩=some (.pointer (some ⟨lb,0,none⟩)):=blk_cell hMa.p 0
 have q0:wy.cell? ⟨w.heap.size+1+1,0,none⟩=some (.int .i64 ln):=blk_cell hMa.f 0
 have q1:wy.cell? ⟨w.heap.size+1+1,1,none⟩=some (.int .i64 cl):=blk_cell hMa.f 1
 have hdr:Below wy.heap.size wy wy.drew:=below_drawn (Below.refl _ _) 1
 have htk:=take_one (w:=wy.drew) (pl:=w.heap.size) (pf:=y) hWa.at' hi hs hc p0 (blk_cell hfi 0) (by omega) (by omega) (Nat.lt_trans (by omega) hya) hya
 rw [extract_one hi] at htk
 replace htk:=Lib.hid htk
 have hWd:LexW B wy.drew lb s ln cl i v out:=hWa.below hdr
 have hMd:Made3 w wy.drew lb ln cl:=hMa.touch (Touch.drewN wy 1 (fun _=>False)) (fun _ h=>h.elim)
 have htd:Touch w wy.drew (fun k=>k=lb∨v.ownBlock=some k):=hta.trans (Touch.drewN wy 1 _)
 have hwl:([s[i]]:List UInt8).length≤2000000:=by simp
 go_region_held3 (fun w'=>w'.cell? ⟨w.heap.size,0,none⟩=some (.pointer (some ⟨lb,0,none⟩))∧w'.cell? ⟨w.heap.size+1+1,0,none⟩=some (.int .i64 ln)∧w'.cell? ⟨w.heap.size+1+1,1,none⟩=some (.int .i64 cl)) (go_keep)
  (first
   | (go_at_call 53;refine Calls.mono htk.out ?_;rintro e w2 ⟨rfl,hL2,ht2⟩;have hW2:=hWd.set hL2 ht2;have hM2:=hMd.touch ht2 (fun k e=>by subst e;exact hlb);have u0:w2.cell? ⟨w.heap.size,0,none⟩=some (.pointer (some ⟨lb,0,none⟩)):=blk_cell hM2.p 0;have u1:w2.cell? ⟨w.heap.size+1+1,0,none⟩=some (.int .i64 ln):=blk_cell hM2.f 0;have u2:w2.cell? ⟨w.heap.size+1+1,1,none⟩=some (.int .i64 cl):=blk_cell hM2.f 1)
   | (go_at_call 56;refine (put_any (k:=3) (t:=[s[i]]) (n:=0) (l:=ln) (c:=cl) hW2 (by omega) hwl).mono ?_;rintro e w3 ⟨rfl,v3,hW3,ht3⟩;have hM3:=hM2.touch ht3 (fun k e=>by rcases e with rfl | e;exact hlb;exact own_lt h _ e);have z0:w3.cell? ⟨w.heap.size,0,none⟩=some (.pointer (some ⟨lb,0,none⟩)):=blk_cell hM3.p 0;have z1:w3.cell? ⟨w.heap.size+1+1,0,none⟩=some (.int .i64 ln):=blk_cell hM3.f 0;have z2:w3.cell? ⟨w.heap.size+1+1,1,none⟩=some (.int .i64 cl):=blk_cell hM3.f 1))
 have htw:=(htd.trans (ht2.mono (fun k _ e=>Or.inl e):Touch wy.drew w2 (fun k=>k=lb∨v.ownBlock=some k))).trans ht3
 clear hWa hMa hta hfi p0 q0 q1 hWd hMd htd hW2 hM2 u0 u1 u2 z0 z1 z2 hL2 ht2 ht3 htk
 have r0:=blk_cell hM3.r 0
 have r1:=blk_cell hM3.r 1
 simp at r0 r1
 have rf0:w3.frozen? ⟨w.heap.size+1,0,none⟩=false:=by simp [World.frozen?,hM3.r]
 have rf1:w3.frozen? ⟨w.heap.size+1,1,none⟩=false:=by simp [World.frozen?,hM3.r]
 have hne1:w.heap.size+1≠lb:=by omega
 go_wp2_with fail
 refine bodyPost_ret (v:=.tuple #[.agg #[.int .i64 0,.int .i64 0],.int .i64 0]) (by simp [results,Tryd.results27,go_sem, *]) rfl (Or.inr ⟨1,ln,cl+1,some ⟨3,[s[i]],0,ln,cl⟩,v3,step_sign hi h10 hb.out h59 hl.out hg.out hsg.out ln cl,rfl,?_,?_⟩)
 ·exact hW3.box hne1 (fun e=>own_not hW3.row hM3.r (by decide) e) _ _
 ·exact touch2 htw (by omega) _ _
theorem next_any (h:LexW B w lb s ln cl i v out)(hi:i<s.size)(hs:s.size≤2000000)(hc:cl≤4000000)(hln:ln≤4000000)(hout:out.length≤1900000):
  Calls Tryd.prog 27 #[.pointer (some ⟨lb,0,none⟩)] w fun e w'=>NextPost B w lb s ln cl i v out e w':=by
 by_cases h10:s[i]=10
 ·exact next_line h hi hs hc hln hout h10
 ·cases hb:blankB s[i] with
  | true=>exact next_blank h hi hs hc hln hout h10 hb
  | false=>
   by_cases h59:s[i]=59
   ·exact next_comment h hi hs hc hln hout h10 hb h59
   ·cases hl:letterB s[i] with
    | true=>exact next_name h hi hs hc hln hout h10 hb h59 hl
    | false=>
     cases hg:digitB s[i] with
     | true=>exact next_digit h hi hs hc hln hout h10 hb h59 hl hg
     | false=>
      cases hsg:signB s[i] with
      | true=>exact next_sign h hi hs hc hln hout h10 hb h59 hl hg hsg
      | false=>exact next_other h hi hs hc hln hout h10 hb h59 hl hg hsg
end
end
end Go.Proofs.YtgcanabckogmmaaDoor
