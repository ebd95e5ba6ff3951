/- LexN. -/
import Derived.Test.YtgcanabckogmmaaDoorZR2
namespace Go.Proofs.YtgcanabckogmmaaDoor
set_option linter.unusedVariables false
set_option linter.unusedSimpArgs false
section
open Go.RowKit Go.Shelf
theorem atoi_digits (l:List UInt8)(h0:l≠[])(hd:∀b∈l,digitB b=true):Lib.atoi l=some (numOf l:Int):=by
 have hv:∀b:UInt8,digitB b=true→48≤b.toNat∧b.toNat≤57:=by
  intro b hb
  unfold digitB at hb
  simp [UInt8.le_iff_toNat_le] at hb
  exact hb
 have hf:∀(l:List UInt8) (acc:Nat),(∀b∈l,digitB b=true)→Lib.decFrom acc l=some (l.foldl (fun n b=>10*n+(b.toNat-48)) acc):=by
  intro l
  induction l with
  | nil=>intro acc _;rfl
  | cons b r ih=>
   intro acc hb
   have h1:=hv b (hb b (by simp))
   unfold Lib.decFrom Lib.digitVal
   rw [if_pos h1]
   show Lib.decFrom (acc*10+(b.toNat-48)) r=_
   rw [ih _ (fun c hc=>hb c (by simp [hc])),List.foldl_cons,Nat.mul_comm acc 10]
 cases l with
 | nil=>exact absurd rfl h0
 | cons b r=>
  have h1:=hv b (hd b (by simp))
  have e1:(b==45)=false:=by
   rw [←eqB]
   simp
   show ¬(b.toNat:Int)=45
   omega
  have e2:(b==43)=false:=by
   rw [←eqB]
   simp
   show ¬(b.toNat:Int)=43
   omega
  unfold Lib.atoi
  simp only [e1,e2,Bool.false_eq_true,if_false]
  unfold Lib.decNat
  rw [hf (b::r) 0 hd]
  rfl
section
variable {w w':World} {lb ln cl i B:Nat} {s:ByteArray} {v:Value} {out:List Tok}
theorem LexW.touch_at {Q:Nat→Prop}{c j:Nat}(h:LexW B w lb s ln cl i v out)(hL:LexAt w' lb s ln c j v)(ht:Touch w w' Q)(hq:∀k,Q k→k=lb):LexW B w' lb s ln c j v out:=
 ⟨hL,ownsRow_touch h.row ht (fun b hb e=>by have:=(h.row.lt b hb).1;have:=hq b e;have:=h.low;omega),h.low,Nat.le_trans h.top ht.size⟩
theorem LexW.below (h:LexW B w lb s ln cl i v out)(hb:Below w.heap.size w w'):LexW B w' lb s ln cl i v out:=
 ⟨h.at'.below hb,ownsRow_touch h.row (Touch.of_below hb (fun _=>False)) (fun _ _ h=>h),h.low,Nat.le_trans h.top hb.size⟩
theorem own_not {base g:Nat}{e t:TypeId}{size n:Nat}{us:List Value}{cs:Array Value}(h:w.ownsRow base e size v n us)(hb:w.heap[g]?=some (.cells cs t (0,0)))(hne:t≠e):v.ownBlock≠some g:=by
 intro e2
 rcases h.2 with ⟨rfl,_⟩ | ⟨g2,cap,cur,rfl,h1,h2,_⟩
 ·simp [Value.ownBlock] at e2
 ·simp [Value.ownBlock] at e2
  subst e2
  rw [hb] at h2
  simp at h2
  exact hne h2.2
theorem LexW.away {Q:Nat→Prop}(h:LexW B w lb s ln cl i v out)(ht:Touch w w' Q)(hq:∀k,Q k→k≠lb∧v.ownBlock≠some k):LexW B w' lb s ln cl i v out:=
 ⟨h.at'.touch ht (fun q=>(hq lb q).1 rfl),ownsRow_touch h.row ht (fun b hb e=>(hq b e).2 hb),h.low,Nat.le_trans h.top ht.size⟩
def word (p:UInt8→Bool)(s:ByteArray)(i:Nat):List UInt8:=(rest s i).takeWhile p
theorem word_len (p:UInt8→Bool)(s:ByteArray)(i:Nat):(word p s i).length=run p s i:=rfl
theorem word_extract (p:UInt8→Bool)(s:ByteArray)(i:Nat):s.extract i (i+run p s i)=⟨(word p s i).toArray⟩:=by
 apply ByteArray.ext
 apply Array.ext'
 rw [ByteArray.data_extract]
 simp only [Array.toList_extract,List.extract_eq_take_drop]
 rw [show i+run p s i-i=run p s i from by omega]
 have h:=List.takeWhile_append_dropWhile (p:=p) (l:=rest s i)
 show List.take (run p s i) (rest s i)=word p s i
 unfold run word
 conv=>lhs;arg 2;rw [←h]
 rw [List.take_left]
theorem mem_tw {p:UInt8→Bool}{b:UInt8}:∀{l:List UInt8},b∈l.takeWhile p→p b=true
 | [],h=>by cases h
 | c::r,h=>by
  rw [List.takeWhile_cons] at h
  split at h
  ·rename_i hc
   rcases List.mem_cons.1 h with rfl | h
   ·exact hc
   ·exact mem_tw h
  ·cases h
theorem drop_run (p:UInt8→Bool)(s:ByteArray)(i:Nat):(rest s i).dropWhile p=rest s (i+run p s i):=by
 have h:=List.takeWhile_append_dropWhile (p:=p) (l:=rest s i)
 have h2:rest s (i+run p s i)=(rest s i).drop (run p s i):=by unfold rest;rw [List.drop_drop]
 rw [h2]
 unfold run
 conv=>rhs;arg 2;rw [←h]
 rw [List.drop_left]
def badN (s:ByteArray)(i:Nat):Bool:=((rest s i).dropWhile digitB).head?.any partB || decide (9<run digitB s i) || (decide (1<run digitB s i)&&decide ((rest s i).head?=some 48))
set_option maxHeartbeats 4000000 in
theorem number_any (h:LexW B w lb s ln cl i v out)(hi:i<s.size)(hs:s.size≤2000000)(hc:cl≤4000000)(hout:out.length≤1900000)(hd:digitB s[i]=true):
  Calls Tryd.prog 59 #[.pointer (some ⟨lb,0,none⟩)] w fun e w'=>
   (badN s i=true∧e=.returned (.tuple #[.agg #[.int .i64 ln,.int .i64 cl],.int .i64 31])∧Touch w w' (fun k=>k=lb∨v.ownBlock=some k))∨
   (badN s i=false∧e=.returned (.tuple #[.agg #[.int .i64 0,.int .i64 0],.int .i64 0])∧∃v',LexW B w' lb s ln (cl+run digitB s i) (i+run digitB s i) v' (out++[⟨2,word digitB s i,numOf (word digitB s i),ln,cl⟩])∧Touch w w' (fun k=>k=lb∨v.ownBlock=some k)):=by
 have c0:=h.at'.c0
 have c1:=h.at'.c1
 have hlb:=h.at'.lt
 have htk:=take_digit (w:=(w.alloc (.cells #[.int .i64 0,.int .i64 0] 26)).alloc (.cells #[.int .i64 ln,.int .i64 cl] 26)) (h.at'.below (((Below.refl _ _).alloc (Nat.le_refl _) _).alloc (by simp) _)) (by omega) hs hc
 have hext:=word_extract digitB s i
 have hK0:0<run digitB s i:=by rw [run_yes hi hd];omega
 have hKl:=run_le digitB s i
 have hts:(s.extract i (i+run digitB s i)).size=run digitB s i:=by rw [ByteArray.size_extract];omega
 have ht0:∀h0,((s.extract i (i+run digitB s i))[0]'h0)=s[i]:=by intro h0;rw [ByteArray.getElem_extract];simp
 have hwl:=word_len digitB s i
 have hat:=atoi_digits (word digitB s i) (by intro e;have:=congrArg List.length e;rw [word_len] at this;simp at this;omega) (fun b hb=>mem_tw hb)
 have hbd:badN s i=((rest s (i+run digitB s i)).head?.any partB || decide (9<run digitB s i) || (decide (1<run digitB s i)&&(s[i]==48))):=by
  unfold badN
  rw [drop_run,show decide ((rest s i).head?=some 48)=(s[i]==48) from by rw [rest_at hi,Bool.eq_iff_iff];simp]
 obtain⟨K,hK⟩:∃K,K=run digitB s i:=⟨_,rfl⟩
 obtain⟨W,hW⟩:∃W,W=word digitB s i:=⟨_,rfl⟩
 obtain⟨T,hT⟩:∃T,T=s.extract i (i+run digitB s i):=⟨_,rfl⟩
 rw [←hT] at htk hext hts
 rw [←hK] at htk hK0 hKl hts hwl hbd ⊢
 rw [←hW] at hext hwl hat ⊢
 have ht0':∀h0:0<T.size,T[0]=s[i]:=by rw [hT];exact ht0
 clear hT hW ht0 hK
 obtain⟨q1,hq1⟩:∃q,q=(rest s (i+K)).head?.any partB:=⟨_,rfl⟩
 obtain⟨q2,hq2⟩:∃q,q=decide (9<K):=⟨_,rfl⟩
 obtain⟨q3,hq3⟩:∃q,q=decide (1<K):=⟨_,rfl⟩
 obtain⟨q4,hq4⟩:∃q,q=(s[i]==48):=⟨_,rfl⟩
 rw [←hq1,←hq2,←hq3,←hq4] at hbd
 rw [hbd]
 clear hbd
 have e2:decide ((T.size:Int) > 9)=q2:=by rw [hq2,hts,decide_eq_decide];omega
 have e3:decide ((T.size:Int) > 1)=q3:=by rw [hq3,hts,decide_eq_decide];omega
 have hT0:0<T.size:=by omega
 have e4:((T[0].toNat:Int)==48)=q4:=by rw [hq4,ht0' hT0];exact eqB s[i] 48
 replace htk:=Lib.hid htk
 replace hext:=Lib.hid hext
 replace hat:=Lib.hid hat
 replace hwl:=Lib.hid hwl
 have hTK:=Lib.hid hts
 have hTle:T.size≤s.size:=by omega
 clear hts ht0' hq2 hq3 hq4
 have hmid:(i+K<s.size∧∃b:UInt8,partB b=q1∧∀h0:i+K<s.size,s[i+K]=b)∨(i+K=s.size∧q1=false):=by
  by_cases hm:i+K<s.size
  ·exact Or.inl ⟨hm,s[i+K],by rw [hq1,rest_at hm];rfl,fun _=>rfl⟩
  ·refine Or.inr ⟨by omega,?_⟩
   rw [hq1,rest_end (by omega)]
   rfl
 clear hq1
 obtain⟨m,hm⟩:∃m,m=i+K:=⟨_,rfl⟩
 rw [←hm] at hmid htk ⊢
 replace hm:=Lib.hid hm
 go_enter Tryd.func59,Tryd.ntmps59
 go_wp2_with fail
 refine Calls.mono htk.out ?_
 rintro e w1 ⟨rfl,hL1,ht1⟩
 have hx1:w1.heap[w.heap.size]?=some (.cells #[.int .i64 0,.int .i64 0] 26 (0,0)):=(ht1.block _ (by simp;omega) (by omega)).trans (by rw [Below.heap_alloc _ _ _ (by simp)];exact heap_alloc_new w _)
 have hy1:w1.heap[w.heap.size+1]?=some (.cells #[.int .i64 ln,.int .i64 cl] 26 (0,0)):=(ht1.block _ (by simp) (by omega)).trans (by have:=heap_alloc_new (w.alloc (.cells #[.int .i64 0,.int .i64 0] 26)) (.cells #[.int .i64 ln,.int .i64 cl] 26);rwa [World.size_alloc] at this)
 have htw:Touch w w1 (fun k=>k=lb):=(Touch.of_below (((Below.refl w.heap.size w).alloc (Nat.le_refl _) _).alloc (by simp) _) _).trans ht1
 have hW1:LexW B w1 lb s ln (cl+K) m v out:=h.touch_at hL1 htw (fun k e=>e)
 have hz1:w.heap.size+2≤w1.heap.size:=by have:=ht1.size;simp at this;omega
 have c2:=hL1.c2
 have c3:=hL1.c3
 clear ht1 hL1 c0 c1 htk
 rcases hmid with ⟨hm1,b,hb,hbb⟩ | ⟨hm1,rfl⟩
 ·have hcc:=part_any b
  rw [hb] at hcc
  have i1:(m:Int)<(s.size:Int):=by omega
  replace hcc:∀w',Calls Tryd.prog 57 #[.int .u8 s[m].toNat] w' fun e w''=>e=.returned (.bool q1)∧w''=w':=by rw [hbb hm1];exact hcc
  replace hcc:=Lib.hid hcc
  clear hb hbb
  go_wp2_with fail
  go_quiet ((go_at_call 57;exact Calls.quiet_of_same (hcc.out _)))
  have hW2:LexW B (w1.drewN nq) lb s ln (cl+K) m v out:=hW1.below (below_drawn (Below.refl _ _) nq)
  have ht2:Touch w (w1.drewN nq) (fun k=>k=lb):=htw.trans (Touch.drewN w1 nq _)
  have hx2:(w1.drewN nq).heap[w.heap.size]?=some (.cells #[.int .i64 0,.int .i64 0] 26 (0,0)):=hx1
  have hy2:(w1.drewN nq).heap[w.heap.size+1]?=some (.cells #[.int .i64 ln,.int .i64 cl] 26 (0,0)):=hy1
  have hz2:w.heap.size+2≤(w1.drewN nq).heap.size:=hz1
  clear hW1 htw hx1 hy1 hz1 hcc c2 c3
  generalize w1.drewN nq=w2 at hW2 ht2 hx2 hy2 hz2 ⊢
  have x0:=blk_cell hx2 0
  have x1:=blk_cell hx2 1
  have y0:=blk_cell hy2 0
  have y1:=blk_cell hy2 1
  have xf0:w2.frozen? ⟨w.heap.size,0,none⟩=false:=by simp [World.frozen?,hx2]
  have xf1:w2.frozen? ⟨w.heap.size,1,none⟩=false:=by simp [World.frozen?,hx2]
  simp at x0 x1 y0 y1
  cases q1
  ·cases q2
   ·cases q3
    ·skip
     have h9:T.size≤9:=by simp at e2;omega
     go_wp2_with fail
     refine (atoi_any T (numOf W) w2 h9 (by rw [hext.out];exact hat.out)).mono ?_
     rintro e w3 ⟨rfl,hb3⟩
     have hW3:=hW2.below hb3
     have ht3:Touch w w3 (fun k=>k=lb∨v.ownBlock=some k):=(ht2.trans (Touch.of_below hb3 _)).mono (fun k _ e=>Or.inl e)
     have hx3:=(hb3.block _ (by omega:w.heap.size<w2.heap.size)).trans hx2
     have hy3:=(hb3.block _ (by omega:w.heap.size+1<w2.heap.size)).trans hy2
     have hz3:w.heap.size+2≤w3.heap.size:=Nat.le_trans hz2 hb3.size
     clear x0 x1 y0 y1 xf0 xf1 hx2 hy2 hW2 ht2 hb3 e2 e3 e4
     have y0:=blk_cell hy3 0
     have y1:=blk_cell hy3 1
     simp at y0 y1
     go_wp2_with fail
     have e5:=hext.out
     subst e5
     refine (put_any (k:=2) (t:=W) (n:=numOf W) (l:=ln) (c:=cl) hW3 (by omega) (by have:=hwl.out;have:=hKl;omega)).mono ?_
     rintro e w4 ⟨rfl,v4,hW4,ht4⟩
     have hown:∀k,v.ownBlock=some k→k<w.heap.size:=fun k e=>(h.row.lt k e).2
     have hlow:∀k,v.ownBlock=some k→lb<k:=fun k e=>by have:=(h.row.lt k e).1;have:=h.low;omega
     have hx4:=(ht4.block _ (by omega:w.heap.size<w3.heap.size) (by rintro (e | e);omega;have:=hown _ e;omega)).trans hx3
     have hz4:=ht4.size
     have ht5:Touch w w4 (fun k=>k=lb∨v.ownBlock=some k):=ht3.trans ht4
     clear y0 y1 hy3 hx3 hW3 ht3 ht4
     have x0:=blk_cell hx4 0
     have x1:=blk_cell hx4 1
     have xf0:w4.frozen? ⟨w.heap.size,0,none⟩=false:=by simp [World.frozen?,hx4]
     have xf1:w4.frozen? ⟨w.heap.size,1,none⟩=false:=by simp [World.frozen?,hx4]
     simp at x0 x1
     go_wp2_with fail
     refine bodyPost_ret (v:=.tuple #[.agg #[.int .i64 0,.int .i64 0],.int .i64 0]) (by simp [results,Tryd.results59,go_sem, *]) rfl (Or.inr ⟨by simp,rfl,v4,?_,?_⟩)
     ·refine hW4.away (Q:=fun k=>k=w.heap.size) (((Touch.refl w4 (fun k=>k=w.heap.size)).setCell (a:=⟨w.heap.size,0,none⟩) (fun _=>rfl) _).setCell (a:=⟨w.heap.size,1,none⟩) (fun _=>rfl) _) (fun k e=>⟨by omega,fun e2=>own_not hW4.row hx4 (by decide) (e ▸ e2)⟩)
     ·exact (ht5.setCell (a:=⟨w.heap.size,0,none⟩) (fun h=>by simp at h) _).setCell (a:=⟨w.heap.size,1,none⟩) (fun h=>by simp at h) _
    ·cases q4
     ·skip
      have h9:T.size≤9:=by simp at e2;omega
      go_wp2_with fail
      refine (atoi_any T (numOf W) w2 h9 (by rw [hext.out];exact hat.out)).mono ?_
      rintro e w3 ⟨rfl,hb3⟩
      have hW3:=hW2.below hb3
      have ht3:Touch w w3 (fun k=>k=lb∨v.ownBlock=some k):=(ht2.trans (Touch.of_below hb3 _)).mono (fun k _ e=>Or.inl e)
      have hx3:=(hb3.block _ (by omega:w.heap.size<w2.heap.size)).trans hx2
      have hy3:=(hb3.block _ (by omega:w.heap.size+1<w2.heap.size)).trans hy2
      have hz3:w.heap.size+2≤w3.heap.size:=Nat.le_trans hz2 hb3.size
      clear x0 x1 y0 y1 xf0 xf1 hx2 hy2 hW2 ht2 hb3 e2 e3 e4
      have y0:=blk_cell hy3 0
      have y1:=blk_cell hy3 1
      simp at y0 y1
      go_wp2_with fail
      have e5:=hext.out
      subst e5
      refine (put_any (k:=2) (t:=W) (n:=numOf W) (l:=ln) (c:=cl) hW3 (by omega) (by have:=hwl.out;have:=hKl;omega)).mono ?_
      rintro e w4 ⟨rfl,v4,hW4,ht4⟩
      have hown:∀k,v.ownBlock=some k→k<w.heap.size:=fun k e=>(h.row.lt k e).2
      have hlow:∀k,v.ownBlock=some k→lb<k:=fun k e=>by have:=(h.row.lt k e).1;have:=h.low;omega
      have hx4:=(ht4.block _ (by omega:w.heap.size<w3.heap.size) (by rintro (e | e);omega;have:=hown _ e;omega)).trans hx3
      have hz4:=ht4.size
      have ht5:Touch w w4 (fun k=>k=lb∨v.ownBlock=some k):=ht3.trans ht4
      clear y0 y1 hy3 hx3 hW3 ht3 ht4
      have x0:=blk_cell hx4 0
      have x1:=blk_cell hx4 1
      have xf0:w4.frozen? ⟨w.heap.size,0,none⟩=false:=by simp [World.frozen?,hx4]
      have xf1:w4.frozen? ⟨w.heap.size,1,none⟩=false:=by simp [World.frozen?,hx4]
      simp at x0 x1
      go_wp2_with fail
      refine bodyPost_ret (v:=.tuple #[.agg #[.int .i64 0,.int .i64 0],.int .i64 0]) (by simp [results,Tryd.results59,go_sem, *]) rfl (Or.inr ⟨by simp,rfl,v4,?_,?_⟩)
      ·refine hW4.away (Q:=fun k=>k=w.heap.size) (((Touch.refl w4 (fun k=>k=w.heap.size)).setCell (a:=⟨w.heap.size,0,none⟩) (fun _=>rfl) _).setCell (a:=⟨w.heap.size,1,none⟩) (fun _=>rfl) _) (fun k e=>⟨by omega,fun e2=>own_not hW4.row hx4 (by decide) (e ▸ e2)⟩)
      ·exact (ht5.setCell (a:=⟨w.heap.size,0,none⟩) (fun h=>by simp at h) _).setCell (a:=⟨w.heap.size,1,none⟩) (fun h=>by simp at h) _
     ·skip
      go_wp2_with fail
      refine bodyPost_ret (v:=.tuple #[.agg #[.int .i64 ln,.int .i64 cl],.int .i64 31]) (by simp [results,Tryd.results59,go_sem, *]) rfl (Or.inl ⟨by simp,rfl,?_⟩)
      have ht3:Touch w w2 (fun k=>k=lb∨v.ownBlock=some k):=ht2.mono (fun k _ e=>Or.inl e)
      exact (ht3.setCell (a:=⟨w.heap.size,0,none⟩) (fun h=>by simp at h) _).setCell (a:=⟨w.heap.size,1,none⟩) (fun h=>by simp at h) _
   ·skip
    go_wp2_with fail
    refine bodyPost_ret (v:=.tuple #[.agg #[.int .i64 ln,.int .i64 cl],.int .i64 31]) (by simp [results,Tryd.results59,go_sem, *]) rfl (Or.inl ⟨by simp,rfl,?_⟩)
    have ht3:Touch w w2 (fun k=>k=lb∨v.ownBlock=some k):=ht2.mono (fun k _ e=>Or.inl e)
    exact (ht3.setCell (a:=⟨w.heap.size,0,none⟩) (fun h=>by simp at h) _).setCell (a:=⟨w.heap.size,1,none⟩) (fun h=>by simp at h) _
  ·skip
   go_wp2_with fail
   refine bodyPost_ret (v:=.tuple #[.agg #[.int .i64 ln,.int .i64 cl],.int .i64 31]) (by simp [results,Tryd.results59,go_sem, *]) rfl (Or.inl ⟨by simp,rfl,?_⟩)
   have ht3:Touch w w2 (fun k=>k=lb∨v.ownBlock=some k):=ht2.mono (fun k _ e=>Or.inl e)
   exact (ht3.setCell (a:=⟨w.heap.size,0,none⟩) (fun h=>by simp at h) _).setCell (a:=⟨w.heap.size,1,none⟩) (fun h=>by simp at h) _
 ·have g1:decide ((m:Int)<(s.size:Int))=false:=by simp;omega
  go_wp2_with fail
  go_quiet (fail)
  have hW2:LexW B (w1.drewN nq) lb s ln (cl+K) m v out:=hW1.below (below_drawn (Below.refl _ _) nq)
  have ht2:Touch w (w1.drewN nq) (fun k=>k=lb):=htw.trans (Touch.drewN w1 nq _)
  have hx2:(w1.drewN nq).heap[w.heap.size]?=some (.cells #[.int .i64 0,.int .i64 0] 26 (0,0)):=hx1
  have hy2:(w1.drewN nq).heap[w.heap.size+1]?=some (.cells #[.int .i64 ln,.int .i64 cl] 26 (0,0)):=hy1
  have hz2:w.heap.size+2≤(w1.drewN nq).heap.size:=hz1
  clear hW1 htw hx1 hy1 hz1 c2 c3
  generalize w1.drewN nq=w2 at hW2 ht2 hx2 hy2 hz2 ⊢
  have x0:=blk_cell hx2 0
  have x1:=blk_cell hx2 1
  have y0:=blk_cell hy2 0
  have y1:=blk_cell hy2 1
  have xf0:w2.frozen? ⟨w.heap.size,0,none⟩=false:=by simp [World.frozen?,hx2]
  have xf1:w2.frozen? ⟨w.heap.size,1,none⟩=false:=by simp [World.frozen?,hx2]
  simp at x0 x1 y0 y1
  cases q2
  ·cases q3
   ·skip
    have h9:T.size≤9:=by simp at e2;omega
    go_wp2_with fail
    refine (atoi_any T (numOf W) w2 h9 (by rw [hext.out];exact hat.out)).mono ?_
    rintro e w3 ⟨rfl,hb3⟩
    have hW3:=hW2.below hb3
    have ht3:Touch w w3 (fun k=>k=lb∨v.ownBlock=some k):=(ht2.trans (Touch.of_below hb3 _)).mono (fun k _ e=>Or.inl e)
    have hx3:=(hb3.block _ (by omega:w.heap.size<w2.heap.size)).trans hx2
    have hy3:=(hb3.block _ (by omega:w.heap.size+1<w2.heap.size)).trans hy2
    have hz3:w.heap.size+2≤w3.heap.size:=Nat.le_trans hz2 hb3.size
    clear x0 x1 y0 y1 xf0 xf1 hx2 hy2 hW2 ht2 hb3 e2 e3 e4
    have y0:=blk_cell hy3 0
    have y1:=blk_cell hy3 1
    simp at y0 y1
    go_wp2_with fail
    have e5:=hext.out
    subst e5
    refine (put_any (k:=2) (t:=W) (n:=numOf W) (l:=ln) (c:=cl) hW3 (by omega) (by have:=hwl.out;have:=hKl;omega)).mono ?_
    rintro e w4 ⟨rfl,v4,hW4,ht4⟩
    have hown:∀k,v.ownBlock=some k→k<w.heap.size:=fun k e=>(h.row.lt k e).2
    have hlow:∀k,v.ownBlock=some k→lb<k:=fun k e=>by have:=(h.row.lt k e).1;have:=h.low;omega
    have hx4:=(ht4.block _ (by omega:w.heap.size<w3.heap.size) (by rintro (e | e);omega;have:=hown _ e;omega)).trans hx3
    have hz4:=ht4.size
    have ht5:Touch w w4 (fun k=>k=lb∨v.ownBlock=some k):=ht3.trans ht4
    clear y0 y1 hy3 hx3 hW3 ht3 ht4
    have x0:=blk_cell hx4 0
    have x1:=blk_cell hx4 1
    have xf0:w4.frozen? ⟨w.heap.size,0,none⟩=false:=by simp [World.frozen?,hx4]
    have xf1:w4.frozen? ⟨w.heap.size,1,none⟩=false:=by simp [World.frozen?,hx4]
    simp at x0 x1
    go_wp2_with fail
    refine bodyPost_ret (v:=.tuple #[.agg #[.int .i64 0,.int .i64 0],.int .i64 0]) (by simp [results,Tryd.results59,go_sem, *]) rfl (Or.inr ⟨by simp,rfl,v4,?_,?_⟩)
    ·refine hW4.away (Q:=fun k=>k=w.heap.size) (((Touch.refl w4 (fun k=>k=w.heap.size)).setCell (a:=⟨w.heap.size,0,none⟩) (fun _=>rfl) _).setCell (a:=⟨w.heap.size,1,none⟩) (fun _=>rfl) _) (fun k e=>⟨by omega,fun e2=>own_not hW4.row hx4 (by decide) (e ▸ e2)⟩)
    ·exact (ht5.setCell (a:=⟨w.heap.size,0,none⟩) (fun h=>by simp at h) _).setCell (a:=⟨w.heap.size,1,none⟩) (fun h=>by simp at h) _
   ·cases q4
    ·skip
     have h9:T.size≤9:=by simp at e2;omega
     go_wp2_with fail
     refine (atoi_any T (numOf W) w2 h9 (by rw [hext.out];exact hat.out)).mono ?_
     rintro e w3 ⟨rfl,hb3⟩
     have hW3:=hW2.below hb3
     have ht3:Touch w w3 (fun k=>k=lb∨v.ownBlock=some k):=(ht2.trans (Touch.of_below hb3 _)).mono (fun k _ e=>Or.inl e)
     have hx3:=(hb3.block _ (by omega:w.heap.size<w2.heap.size)).trans hx2
     have hy3:=(hb3.block _ (by omega:w.heap.size+1<w2.heap.size)).trans hy2
     have hz3:w.heap.size+2≤w3.heap.size:=Nat.le_trans hz2 hb3.size
     clear x0 x1 y0 y1 xf0 xf1 hx2 hy2 hW2 ht2 hb3 e2 e3 e4
     have y0:=blk_cell hy3 0
     have y1:=blk_cell hy3 1
     simp at y0 y1
     go_wp2_with fail
     have e5:=hext.out
     subst e5
     refine (put_any (k:=2) (t:=W) (n:=numOf W) (l:=ln) (c:=cl) hW3 (by omega) (by have:=hwl.out;have:=hKl;omega)).mono ?_
     rintro e w4 ⟨rfl,v4,hW4,ht4⟩
     have hown:∀k,v.ownBlock=some k→k<w.heap.size:=fun k e=>(h.row.lt k e).2
     have hlow:∀k,v.ownBlock=some k→lb<k:=fun k e=>by have:=(h.row.lt k e).1;have:=h.low;omega
     have hx4:=(ht4.block _ (by omega:w.heap.size<w3.heap.size) (by rintro (e | e);omega;have:=hown _ e;omega)).trans hx3
     have hz4:=ht4.size
     have ht5:Touch w w4 (fun k=>k=lb∨v.ownBlock=some k):=ht3.trans ht4
     clear y0 y1 hy3 hx3 hW3 ht3 ht4
     have x0:=blk_cell hx4 0
     have x1:=blk_cell hx4 1
     have xf0:w4.frozen? ⟨w.heap.size,0,none⟩=false:=by simp [World.frozen?,hx4]
     have xf1:w4.frozen? ⟨w.heap.size,1,none⟩=false:=by simp [World.frozen?,hx4]
     simp at x0 x1
     go_wp2_with fail
     refine bodyPost_ret (v:=.tuple #[.agg #[.int .i64 0,.int .i64 0],.int .i64 0]) (by simp [results,Tryd.results59,go_sem, *]) rfl (Or.inr ⟨by simp,rfl,v4,?_,?_⟩)
     ·refine hW4.away (Q:=fun k=>k=w.heap.size) (((Touch.refl w4 (fun k=>k=w.heap.size)).setCell (a:=⟨w.heap.size,0,none⟩) (fun _=>rfl) _).setCell (a:=⟨w.heap.size,1,none⟩) (fun _=>rfl) _) (fun k e=>⟨by omega,fun e2=>own_not hW4.row hx4 (by decide) (e ▸ e2)⟩)
     ·exact (ht5.setCell (a:=⟨w.heap.size,0,none⟩) (fun h=>by simp at h) _).setCell (a:=⟨w.heap.size,1,none⟩) (fun h=>by simp at h) _
    ·skip
     go_wp2_with fail
     refine bodyPost_ret (v:=.tuple #[.agg #[.int .i64 ln,.int .i64 cl],.int .i64 31]) (by simp [results,Tryd.results59,go_sem, *]) rfl (Or.inl ⟨by simp,rfl,?_⟩)
     have ht3:Touch w w2 (fun k=>k=lb∨v.ownBlock=some k):=ht2.mono (fun k _ e=>Or.inl e)
     exact (ht3.setCell (a:=⟨w.heap.size,0,none⟩) (fun h=>by simp at h) _).setCell (a:=⟨w.heap.size,1,none⟩) (fun h=>by simp at h) _
  ·skip
   go_wp2_with fail
   refine bodyPost_ret (v:=.tuple #[.agg #[.int .i64 ln,.int .i64 cl],.int .i64 31]) (by simp [results,Tryd.results59,go_sem, *]) rfl (Or.inl ⟨by simp,rfl,?_⟩)
   have ht3:Touch w w2 (fun k=>k=lb∨v.ownBlock=some k):=ht2.mono (fun k _ e=>Or.inl e)
   exact (ht3.setCell (a:=⟨w.heap.size,0,none⟩) (fun h=>by simp at h) _).setCell (a:=⟨w.heap.size,1,none⟩) (fun h=>by simp at h) _
end
end
end Go.Proofs.YtgcanabckogmmaaDoor
