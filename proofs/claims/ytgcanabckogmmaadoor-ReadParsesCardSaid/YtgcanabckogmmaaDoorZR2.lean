/- LexT, LexS, LexB. -/
import Derived.Test.YtgcanabckogmmaaDoorZR1
import Derived.Test.YtgcanabckogmmaaDoorShelf
import Derived.Outline
import Derived.Deep.Draws
import Derived.Deep.LoopGhost
import Derived.Lib.SmallJoins
import Derived.Deep.RegionLaw
import Derived.Deep.AppendLies
namespace Go.Proofs.YtgcanabckogmmaaDoor
set_option linter.unusedVariables false
set_option linter.unusedSimpArgs false
section
open Go.RowKit
def LexAt (w:World)(lb:Nat)(s:ByteArray)(ln cl i:Nat)(v:Value):Prop:=w.heap[lb]?=some (.cells #[.int .i64 ln,.int .i64 cl,.int .i64 i,.string s,v] 79 (0,0))
section
variable {w w':World} {lb ln cl i:Nat} {s:ByteArray} {v:Value}
theorem LexAt.lt (h:LexAt w lb s ln cl i v):lb<w.heap.size:=(Array.getElem?_eq_some_iff.1 h).1
theorem LexAt.c0 (h:LexAt w lb s ln cl i v):w.cell? ⟨lb,0,none⟩=some (.int .i64 ln):=blk_cell h 0
theorem LexAt.c1 (h:LexAt w lb s ln cl i v):w.cell? ⟨lb,1,none⟩=some (.int .i64 cl):=blk_cell h 1
theorem LexAt.c2 (h:LexAt w lb s ln cl i v):w.cell? ⟨lb,2,none⟩=some (.int .i64 i):=blk_cell h 2
theorem LexAt.c3 (h:LexAt w lb s ln cl i v):w.cell? ⟨lb,3,none⟩=some (.string s):=blk_cell h 3
theorem LexAt.c4 (h:LexAt w lb s ln cl i v):w.cell? ⟨lb,4,none⟩=some v:=blk_cell h 4
theorem LexAt.fr (h:LexAt w lb s ln cl i v)(j:Nat):w.frozen? ⟨lb,j,none⟩=false:=by
 unfold LexAt at h
 simp [World.frozen?,h]
theorem LexAt.touch {Q:Nat→Prop}(h:LexAt w lb s ln cl i v)(ht:Touch w w' Q)(hn:¬Q lb):LexAt w' lb s ln cl i v:=(ht.block lb h.lt hn).trans h
theorem LexAt.drawn (h:LexAt w lb s ln cl i v)(n:Nat):LexAt (w.drewN n) lb s ln cl i v:=h
theorem LexAt.below (h:LexAt w lb s ln cl i v)(hb:Below w.heap.size w w'):LexAt w' lb s ln cl i v:=(hb.block lb h.lt).trans h
theorem LexAt.step (h:LexAt w lb s ln cl i v):LexAt ((w.setCell ⟨lb,2,none⟩ (.int .i64 ((i:Int)+1))).setCell ⟨lb,1,none⟩ (.int .i64 ((cl:Int)+1))) lb s ln (cl+1) (i+1) v:=by
 have h1:=blk_set (i:=1) (.int .i64 ((cl:Int)+1)) (blk_set (i:=2) (.int .i64 ((i:Int)+1)) h)
 unfold LexAt
 rw [h1]
 rfl
def rest (s:ByteArray)(i:Nat):List UInt8:=s.data.toList.drop i
theorem rest_at {s:ByteArray}{i:Nat}(h:i<s.size):rest s i=s[i]::rest s (i+1):=by
 unfold rest
 exact List.drop_eq_getElem_cons (by simpa using h)
theorem rest_end {s:ByteArray}{i:Nat}(h:s.size≤i):rest s i=[]:=by
 unfold rest
 exact List.drop_eq_nil_of_le (by simpa using h)
def run (p:UInt8→Bool)(s:ByteArray)(i:Nat):Nat:=((rest s i).takeWhile p).length
theorem run_yes {p:UInt8→Bool}{s:ByteArray}{i:Nat}(h:i<s.size)(hp:p s[i]=true):run p s i=run p s (i+1)+1:=by
 unfold run
 rw [rest_at h,List.takeWhile_cons,if_pos hp,List.length_cons]
theorem run_no {p:UInt8→Bool}{s:ByteArray}{i:Nat}(h:i<s.size)(hp:p s[i]=false):run p s i=0:=by
 unfold run
 rw [rest_at h,List.takeWhile_cons,if_neg (by rw [hp];simp)]
 rfl
theorem run_end {p:UInt8→Bool}{s:ByteArray}{i:Nat}(h:s.size≤i):run p s i=0:=by
 unfold run
 rw [rest_end h]
 rfl
theorem run_le (p:UInt8→Bool)(s:ByteArray)(i:Nat):run p s i≤s.size-i:=by
 unfold run rest
 have:=List.Sublist.length_le (List.takeWhile_sublist p (l:=s.data.toList.drop i))
 simpa using this
set_option maxHeartbeats 4000000 in
theorem take_blank (h:LexAt w lb s ln cl i v)(hi:i≤s.size)(hs:s.size≤2000000)(hc:cl≤4000000):
  Calls Tryd.prog 53 #[.pointer (some ⟨lb,0,none⟩),.func (.func 52) #[] #[]] w fun e w'=>e=.returned (.string (s.extract i (i+run blankB s i)))∧LexAt w' lb s ln (cl+run blankB s i) (i+run blankB s i) v∧Touch w w' (fun k=>k=lb):=by
 have c2:=h.c2
 obtain⟨K,hK⟩:∃K,K=run blankB s i:=⟨_,rfl⟩
 have hKl:=run_le blankB s i
 rw [←hK] at hKl ⊢
 replace hK:=Lib.hid hK
 go_enter Tryd.func53,Tryd.ntmps53
 go_wp2_with fail
 go_loopg [] K (fun k wr=>∃m c:Nat,Hid (m+k=i+K∧c+i=cl+m∧k=run blankB s m)∧i≤m∧m≤s.size∧c≤8000000∧LexAt wr lb s ln c m v∧Touch w wr (fun k=>k=lb))
 case atStart=>exact⟨i,cl,Lib.hid ⟨rfl,by omega,hK.out⟩,Nat.le_refl _,hi,by omega,h,Touch.refl _ _⟩
 case round=>
  obtain⟨m,c,hr,him,hm,hcb,hL,ht⟩:=hrel
  clear c2 h
  have c2:=hL.c2
  have c3:=hL.c3
  have c1:=hL.c1
  have f1:=hL.fr 1
  have f2:=hL.fr 2
  by_cases hlt:m<s.size
  ·cases hb:blankB s[m] with
   | true=>
    have hcc:=Lib.hid (blank_any s[m])
    rw [hb] at hcc
    have i1:(m:Int)<(s.size:Int):=by omega
    have hr2:=Lib.hid (run_yes hlt hb)
    clear hb
    go_wp2_with fail
    go_quiet ((go_at_call 52;exact Calls.quiet_of_same (hcc.out _)))
    have hL2:=hL.drawn nq
    have ht2:=ht.trans (Touch.drewN wr nq _)
    clear hL ht c1 c2 c3 f1 f2
    generalize wr.drewN nq=wx at hL2 ht2 ⊢
    have c1:=hL2.c1
    have c2:=hL2.c2
    have f1:=hL2.fr 1
    have f2:=hL2.fr 2
    have b1:(c:Int)+1<9223372036854775808:=by omega
    go_wp2_with fail
    have hL3:=hL2.step
    have ht3:=(ht2.setCell (a:=⟨lb,2,none⟩) (fun _=>rfl) (.int .i64 ((m:Int)+1))).setCell (a:=⟨lb,1,none⟩) (fun _=>rfl) (.int .i64 ((c:Int)+1))
    obtain⟨e1,e2,e3⟩:=hr.out
    have e4:=hr2.out
    go_roundg (gk-1)
    case rel=>exact⟨m+1,c+1,Lib.hid ⟨by omega,by omega,by omega⟩,by omega,by omega,by omega,hL3,ht3⟩
    case measure=>omega
   | false=>
    have hcc:=Lib.hid (blank_any s[m])
    rw [hb] at hcc
    have i1:(m:Int)<(s.size:Int):=by omega
    have hr2:=Lib.hid (run_no hlt hb)
    clear hb
    go_wp2_with fail
    go_quiet ((go_at_call 52;exact Calls.quiet_of_same (hcc.out _)))
    have hL2:=hL.drawn nq
    have ht2:=ht.trans (Touch.drewN wr nq _)
    clear hL ht c1 c2 c3 f1 f2
    generalize wr.drewN nq=wx at hL2 ht2 ⊢
    have c2:=hL2.c2
    have c3:=hL2.c3
    have b2:(i:Int)≤(m:Int):=by omega
    have b3:(m:Int)≤(s.size:Int):=by omega
    go_wp2_with fail
    go_quiet (fail)
    go_wp2_with fail
    obtain⟨e1,e2,e3⟩:=hr.out
    have e4:=hr2.out
    obtain rfl:m=i+K:=by omega
    obtain rfl:c=cl+K:=by omega
    go_ret
    exact⟨rfl,hL2.drawn nq,ht2.trans (Touch.drewN wx nq _)⟩
  ·have hr2:=Lib.hid (run_end (p:=blankB) (s:=s) (i:=m) (by omega))
   have g1:decide ((m:Int)<(s.size:Int))=false:=by simp;omega
   go_wp2_with fail
   go_quiet (fail)
   have hL2:=hL.drawn nq
   have ht2:=ht.trans (Touch.drewN wr nq _)
   clear hL ht c1 c2 c3 f1 f2
   generalize wr.drewN nq=wx at hL2 ht2 ⊢
   have c2:=hL2.c2
   have c3:=hL2.c3
   have b2:(i:Int)≤(m:Int):=by omega
   have b3:(m:Int)≤(s.size:Int):=by omega
   go_wp2_with fail
   go_quiet (fail)
   go_wp2_with fail
   obtain⟨e1,e2,e3⟩:=hr.out
   have e4:=hr2.out
   obtain rfl:m=i+K:=by omega
   obtain rfl:c=cl+K:=by omega
   go_ret
   exact⟨rfl,hL2.drawn nq,ht2.trans (Touch.drewN wx nq _)⟩
set_option maxHeartbeats 4000000 in
theorem take_line (h:LexAt w lb s ln cl i v)(hi:i≤s.size)(hs:s.size≤2000000)(hc:cl≤4000000):
  Calls Tryd.prog 53 #[.pointer (some ⟨lb,0,none⟩),.func (.func 54) #[] #[]] w fun e w'=>e=.returned (.string (s.extract i (i+run lineB s i)))∧LexAt w' lb s ln (cl+run lineB s i) (i+run lineB s i) v∧Touch w w' (fun k=>k=lb):=by
 have c2:=h.c2
 obtain⟨K,hK⟩:∃K,K=run lineB s i:=⟨_,rfl⟩
 have hKl:=run_le lineB s i
 rw [←hK] at hKl ⊢
 replace hK:=Lib.hid hK
 go_enter Tryd.func53,Tryd.ntmps53
 go_wp2_with fail
 go_loopg [] K (fun k wr=>∃m c:Nat,Hid (m+k=i+K∧c+i=cl+m∧k=run lineB s m)∧i≤m∧m≤s.size∧c≤8000000∧LexAt wr lb s ln c m v∧Touch w wr (fun k=>k=lb))
 case atStart=>exact⟨i,cl,Lib.hid ⟨rfl,by omega,hK.out⟩,Nat.le_refl _,hi,by omega,h,Touch.refl _ _⟩
 case round=>
  obtain⟨m,c,hr,him,hm,hcb,hL,ht⟩:=hrel
  clear c2 h
  have c2:=hL.c2
  have c3:=hL.c3
  have c1:=hL.c1
  have f1:=hL.fr 1
  have f2:=hL.fr 2
  by_cases hlt:m<s.size
  ·cases hb:lineB s[m] with
   | true=>
    have hcc:=Lib.hid (line_any s[m])
    rw [hb] at hcc
    have i1:(m:Int)<(s.size:Int):=by omega
    have hr2:=Lib.hid (run_yes hlt hb)
    clear hb
    go_wp2_with fail
    go_quiet ((go_at_call 54;exact Calls.quiet_of_same (hcc.out _)))
    have hL2:=hL.drawn nq
    have ht2:=ht.trans (Touch.drewN wr nq _)
    clear hL ht c1 c2 c3 f1 f2
    generalize wr.drewN nq=wx at hL2 ht2 ⊢
    have c1:=hL2.c1
    have c2:=hL2.c2
    have f1:=hL2.fr 1
    have f2:=hL2.fr 2
    have b1:(c:Int)+1<9223372036854775808:=by omega
    go_wp2_with fail
    have hL3:=hL2.step
    have ht3:=(ht2.setCell (a:=⟨lb,2,none⟩) (fun _=>rfl) (.int .i64 ((m:Int)+1))).setCell (a:=⟨lb,1,none⟩) (fun _=>rfl) (.int .i64 ((c:Int)+1))
    obtain⟨e1,e2,e3⟩:=hr.out
    have e4:=hr2.out
    go_roundg (gk-1)
    case rel=>exact⟨m+1,c+1,Lib.hid ⟨by omega,by omega,by omega⟩,by omega,by omega,by omega,hL3,ht3⟩
    case measure=>omega
   | false=>
    have hcc:=Lib.hid (line_any s[m])
    rw [hb] at hcc
    have i1:(m:Int)<(s.size:Int):=by omega
    have hr2:=Lib.hid (run_no hlt hb)
    clear hb
    go_wp2_with fail
    go_quiet ((go_at_call 54;exact Calls.quiet_of_same (hcc.out _)))
    have hL2:=hL.drawn nq
    have ht2:=ht.trans (Touch.drewN wr nq _)
    clear hL ht c1 c2 c3 f1 f2
    generalize wr.drewN nq=wx at hL2 ht2 ⊢
    have c2:=hL2.c2
    have c3:=hL2.c3
    have b2:(i:Int)≤(m:Int):=by omega
    have b3:(m:Int)≤(s.size:Int):=by omega
    go_wp2_with fail
    go_quiet (fail)
    go_wp2_with fail
    obtain⟨e1,e2,e3⟩:=hr.out
    have e4:=hr2.out
    obtain rfl:m=i+K:=by omega
    obtain rfl:c=cl+K:=by omega
    go_ret
    exact⟨rfl,hL2.drawn nq,ht2.trans (Touch.drewN wx nq _)⟩
  ·have hr2:=Lib.hid (run_end (p:=lineB) (s:=s) (i:=m) (by omega))
   have g1:decide ((m:Int)<(s.size:Int))=false:=by simp;omega
   go_wp2_with fail
   go_quiet (fail)
   have hL2:=hL.drawn nq
   have ht2:=ht.trans (Touch.drewN wr nq _)
   clear hL ht c1 c2 c3 f1 f2
   generalize wr.drewN nq=wx at hL2 ht2 ⊢
   have c2:=hL2.c2
   have c3:=hL2.c3
   have b2:(i:Int)≤(m:Int):=by omega
   have b3:(m:Int)≤(s.size:Int):=by omega
   go_wp2_with fail
   go_quiet (fail)
   go_wp2_with fail
   obtain⟨e1,e2,e3⟩:=hr.out
   have e4:=hr2.out
   obtain rfl:m=i+K:=by omega
   obtain rfl:c=cl+K:=by omega
   go_ret
   exact⟨rfl,hL2.drawn nq,ht2.trans (Touch.drewN wx nq _)⟩
set_option maxHeartbeats 4000000 in
theorem take_part (h:LexAt w lb s ln cl i v)(hi:i≤s.size)(hs:s.size≤2000000)(hc:cl≤4000000):
  Calls Tryd.prog 53 #[.pointer (some ⟨lb,0,none⟩),.func (.func 57) #[] #[]] w fun e w'=>e=.returned (.string (s.extract i (i+run partB s i)))∧LexAt w' lb s ln (cl+run partB s i) (i+run partB s i) v∧Touch w w' (fun k=>k=lb):=by
 have c2:=h.c2
 obtain⟨K,hK⟩:∃K,K=run partB s i:=⟨_,rfl⟩
 have hKl:=run_le partB s i
 rw [←hK] at hKl ⊢
 replace hK:=Lib.hid hK
 go_enter Tryd.func53,Tryd.ntmps53
 go_wp2_with fail
 go_loopg [] K (fun k wr=>∃m c:Nat,Hid (m+k=i+K∧c+i=cl+m∧k=run partB s m)∧i≤m∧m≤s.size∧c≤8000000∧LexAt wr lb s ln c m v∧Touch w wr (fun k=>k=lb))
 case atStart=>exact⟨i,cl,Lib.hid ⟨rfl,by omega,hK.out⟩,Nat.le_refl _,hi,by omega,h,Touch.refl _ _⟩
 case round=>
  obtain⟨m,c,hr,him,hm,hcb,hL,ht⟩:=hrel
  clear c2 h
  have c2:=hL.c2
  have c3:=hL.c3
  have c1:=hL.c1
  have f1:=hL.fr 1
  have f2:=hL.fr 2
  by_cases hlt:m<s.size
  ·cases hb:partB s[m] with
   | true=>
    have hcc:=Lib.hid (part_any s[m])
    rw [hb] at hcc
    have i1:(m:Int)<(s.size:Int):=by omega
    have hr2:=Lib.hid (run_yes hlt hb)
    clear hb
    go_wp2_with fail
    go_quiet ((go_at_call 57;exact Calls.quiet_of_same (hcc.out _)))
    have hL2:=hL.drawn nq
    have ht2:=ht.trans (Touch.drewN wr nq _)
    clear hL ht c1 c2 c3 f1 f2
    generalize wr.drewN nq=wx at hL2 ht2 ⊢
    have c1:=hL2.c1
    have c2:=hL2.c2
    have f1:=hL2.fr 1
    have f2:=hL2.fr 2
    have b1:(c:Int)+1<9223372036854775808:=by omega
    go_wp2_with fail
    have hL3:=hL2.step
    have ht3:=(ht2.setCell (a:=⟨lb,2,none⟩) (fun _=>rfl) (.int .i64 ((m:Int)+1))).setCell (a:=⟨lb,1,none⟩) (fun _=>rfl) (.int .i64 ((c:Int)+1))
    obtain⟨e1,e2,e3⟩:=hr.out
    have e4:=hr2.out
    go_roundg (gk-1)
    case rel=>exact⟨m+1,c+1,Lib.hid ⟨by omega,by omega,by omega⟩,by omega,by omega,by omega,hL3,ht3⟩
    case measure=>omega
   | false=>
    have hcc:=Lib.hid (part_any s[m])
    rw [hb] at hcc
    have i1:(m:Int)<(s.size:Int):=by omega
    have hr2:=Lib.hid (run_no hlt hb)
    clear hb
    go_wp2_with fail
    go_quiet ((go_at_call 57;exact Calls.quiet_of_same (hcc.out _)))
    have hL2:=hL.drawn nq
    have ht2:=ht.trans (Touch.drewN wr nq _)
    clear hL ht c1 c2 c3 f1 f2
    generalize wr.drewN nq=wx at hL2 ht2 ⊢
    have c2:=hL2.c2
    have c3:=hL2.c3
    have b2:(i:Int)≤(m:Int):=by omega
    have b3:(m:Int)≤(s.size:Int):=by omega
    go_wp2_with fail
    go_quiet (fail)
    go_wp2_with fail
    obtain⟨e1,e2,e3⟩:=hr.out
    have e4:=hr2.out
    obtain rfl:m=i+K:=by omega
    obtain rfl:c=cl+K:=by omega
    go_ret
    exact⟨rfl,hL2.drawn nq,ht2.trans (Touch.drewN wx nq _)⟩
  ·have hr2:=Lib.hid (run_end (p:=partB) (s:=s) (i:=m) (by omega))
   have g1:decide ((m:Int)<(s.size:Int))=false:=by simp;omega
   go_wp2_with fail
   go_quiet (fail)
   have hL2:=hL.drawn nq
   have ht2:=ht.trans (Touch.drewN wr nq _)
   clear hL ht c1 c2 c3 f1 f2
   generalize wr.drewN nq=wx at hL2 ht2 ⊢
   have c2:=hL2.c2
   have c3:=hL2.c3
   have b2:(i:Int)≤(m:Int):=by omega
   have b3:(m:Int)≤(s.size:Int):=by omega
   go_wp2_with fail
   go_quiet (fail)
   go_wp2_with fail
   obtain⟨e1,e2,e3⟩:=hr.out
   have e4:=hr2.out
   obtain rfl:m=i+K:=by omega
   obtain rfl:c=cl+K:=by omega
   go_ret
   exact⟨rfl,hL2.drawn nq,ht2.trans (Touch.drewN wx nq _)⟩
set_option maxHeartbeats 4000000 in
theorem take_digit (h:LexAt w lb s ln cl i v)(hi:i≤s.size)(hs:s.size≤2000000)(hc:cl≤4000000):
  Calls Tryd.prog 53 #[.pointer (some ⟨lb,0,none⟩),.func (.func 58) #[] #[]] w fun e w'=>e=.returned (.string (s.extract i (i+run digitB s i)))∧LexAt w' lb s ln (cl+run digitB s i) (i+run digitB s i) v∧Touch w w' (fun k=>k=lb):=by
 have c2:=h.c2
 obtain⟨K,hK⟩:∃K,K=run digitB s i:=⟨_,rfl⟩
 have hKl:=run_le digitB s i
 rw [←hK] at hKl ⊢
 replace hK:=Lib.hid hK
 go_enter Tryd.func53,Tryd.ntmps53
 go_wp2_with fail
 go_loopg [] K (fun k wr=>∃m c:Nat,Hid (m+k=i+K∧c+i=cl+m∧k=run digitB s m)∧i≤m∧m≤s.size∧c≤8000000∧LexAt wr lb s ln c m v∧Touch w wr (fun k=>k=lb))
 case atStart=>exact⟨i,cl,Lib.hid ⟨rfl,by omega,hK.out⟩,Nat.le_refl _,hi,by omega,h,Touch.refl _ _⟩
 case round=>
  obtain⟨m,c,hr,him,hm,hcb,hL,ht⟩:=hrel
  clear c2 h
  have c2:=hL.c2
  have c3:=hL.c3
  have c1:=hL.c1
  have f1:=hL.fr 1
  have f2:=hL.fr 2
  by_cases hlt:m<s.size
  ·cases hb:digitB s[m] with
   | true=>
    have hcc:=Lib.hid (digit_any s[m])
    rw [hb] at hcc
    have i1:(m:Int)<(s.size:Int):=by omega
    have hr2:=Lib.hid (run_yes hlt hb)
    clear hb
    go_wp2_with fail
    go_quiet ((go_at_call 58;exact Calls.quiet_of_same (hcc.out _)))
    have hL2:=hL.drawn nq
    have ht2:=ht.trans (Touch.drewN wr nq _)
    clear hL ht c1 c2 c3 f1 f2
    generalize wr.drewN nq=wx at hL2 ht2 ⊢
    have c1:=hL2.c1
    have c2:=hL2.c2
    have f1:=hL2.fr 1
    have f2:=hL2.fr 2
    have b1:(c:Int)+1<9223372036854775808:=by omega
    go_wp2_with fail
    have hL3:=hL2.step
    have ht3:=(ht2.setCell (a:=⟨lb,2,none⟩) (fun _=>rfl) (.int .i64 ((m:Int)+1))).setCell (a:=⟨lb,1,none⟩) (fun _=>rfl) (.int .i64 ((c:Int)+1))
    obtain⟨e1,e2,e3⟩:=hr.out
    have e4:=hr2.out
    go_roundg (gk-1)
    case rel=>exact⟨m+1,c+1,Lib.hid ⟨by omega,by omega,by omega⟩,by omega,by omega,by omega,hL3,ht3⟩
    case measure=>omega
   | false=>
    have hcc:=Lib.hid (digit_any s[m])
    rw [hb] at hcc
    have i1:(m:Int)<(s.size:Int):=by omega
    have hr2:=Lib.hid (run_no hlt hb)
    clear hb
    go_wp2_with fail
    go_quiet ((go_at_call 58;exact Calls.quiet_of_same (hcc.out _)))
    have hL2:=hL.drawn nq
    have ht2:=ht.trans (Touch.drewN wr nq _)
    clear hL ht c1 c2 c3 f1 f2
    generalize wr.drewN nq=wx at hL2 ht2 ⊢
    have c2:=hL2.c2
    have c3:=hL2.c3
    have b2:(i:Int)≤(m:Int):=by omega
    have b3:(m:Int)≤(s.size:Int):=by omega
    go_wp2_with fail
    go_quiet (fail)
    go_wp2_with fail
    obtain⟨e1,e2,e3⟩:=hr.out
    have e4:=hr2.out
    obtain rfl:m=i+K:=by omega
    obtain rfl:c=cl+K:=by omega
    go_ret
    exact⟨rfl,hL2.drawn nq,ht2.trans (Touch.drewN wx nq _)⟩
  ·have hr2:=Lib.hid (run_end (p:=digitB) (s:=s) (i:=m) (by omega))
   have g1:decide ((m:Int)<(s.size:Int))=false:=by simp;omega
   go_wp2_with fail
   go_quiet (fail)
   have hL2:=hL.drawn nq
   have ht2:=ht.trans (Touch.drewN wr nq _)
   clear hL ht c1 c2 c3 f1 f2
   generalize wr.drewN nq=wx at hL2 ht2 ⊢
   have c2:=hL2.c2
   have c3:=hL2.c3
   have b2:(i:Int)≤(m:Int):=by omega
   have b3:(m:Int)≤(s.size:Int):=by omega
   go_wp2_with fail
   go_quiet (fail)
   go_wp2_with fail
   obtain⟨e1,e2,e3⟩:=hr.out
   have e4:=hr2.out
   obtain rfl:m=i+K:=by omega
   obtain rfl:c=cl+K:=by omega
   go_ret
   exact⟨rfl,hL2.drawn nq,ht2.trans (Touch.drewN wx nq _)⟩
end
end
section
open Go.RowKit
section
variable {w w':World} {lb ln cl i m pl pf:Nat} {s:ByteArray} {v:Value}
theorem one_any (hp:w.cell? ⟨pl,0,none⟩=some (.pointer (some ⟨lb,0,none⟩)))(hf:w.cell? ⟨pf,0,none⟩=some (.int .i64 i))(h:LexAt w lb s ln cl m v)(x:Int){q:Bool}(hq:decide (m=i)=q):
  Calls Tryd.prog 61 #[.int .u8 x,.pointer (some ⟨pl,0,none⟩),.pointer (some ⟨pf,0,none⟩)] w fun e w'=>e=.returned (.bool q)∧∃n,w'=w.drewN n:=by
 have c2:=h.c2
 have e1:((m:Int)==(i:Int))=q:=by rw [←hq,Bool.eq_iff_iff];simp;omega
 clear hq h
 go_enter Tryd.func61,Tryd.ntmps61
 go_wp2_with fail
 go_quiet (fail)
 go_wp2_with fail
 go_ret
 exact⟨rfl,_,rfl⟩
set_option maxHeartbeats 4000000 in
theorem take_one (h:LexAt w lb s ln cl i v)(hi:i<s.size)(hs:s.size≤2000000)(hc:cl≤4000000)(hp:w.cell? ⟨pl,0,none⟩=some (.pointer (some ⟨lb,0,none⟩)))(hf:w.cell? ⟨pf,0,none⟩=some (.int .i64 i))(n1:pl≠lb)(n2:pf≠lb)(l1:pl<w.heap.size)(l2:pf<w.heap.size):
  Calls Tryd.prog 53 #[.pointer (some ⟨lb,0,none⟩),.func (.func 61) #[] #[.pointer (some ⟨pl,0,none⟩),.pointer (some ⟨pf,0,none⟩)]] w fun e w'=>e=.returned (.string (s.extract i (i+1)))∧LexAt w' lb s ln (cl+1) (i+1) v∧Touch w w' (fun k=>k=lb):=by
 have c2:=h.c2
 go_enter Tryd.func53,Tryd.ntmps53
 go_wp2_with fail
 go_loopg [] 1 (fun k wr=>∃m c:Nat,Hid (m+k=i+1∧c+i=cl+m)∧m≤i+1∧i≤m∧m≤s.size∧c≤8000000∧LexAt wr lb s ln c m v∧Touch w wr (fun k=>k=lb))
 case atStart=>exact⟨i,cl,Lib.hid ⟨rfl,by omega⟩,by omega,Nat.le_refl _,by omega,by omega,h,Touch.refl _ _⟩
 case round=>
  obtain⟨m,c,hr,hmi,him,hm,hcb,hL,ht⟩:=hrel
  have hp2:=(World.cell?_of_block (w:=w) (ht.block pl l1 n1)).trans hp
  have hf2:=(World.cell?_of_block (w:=w) (ht.block pf l2 n2)).trans hf
  clear c2 h hp hf
  have c2:=hL.c2
  have c3:=hL.c3
  have c1:=hL.c1
  have f1:=hL.fr 1
  have f2:=hL.fr 2
  by_cases hlt:m<s.size
  ·have i1:(m:Int)<(s.size:Int):=by omega
   by_cases he:m=i
   ·have hcc:∀n',Calls Tryd.prog 61 #[.int .u8 s[m].toNat,.pointer (some ⟨pl,0,none⟩),.pointer (some ⟨pf,0,none⟩)] (wr.drewN n') fun e w''=>e=.returned (.bool true)∧∃n,w''=wr.drewN n:=fun n'=>(one_any (w:=wr.drewN n') hp2 hf2 (hL.drawn n') _ (decide_eq_true he)).mono fun _ _ ⟨e,n,h⟩=>⟨e,n'+n,h.trans (World.drewN_drewN _ _ _)⟩
    replace hcc:=Lib.hid hcc
    replace he:=Lib.hid he
    clear hp2 hf2
    go_wp2_with fail
    go_quiet ((go_at_call 61;exact hcc.out _))
    have hL2:=hL.drawn nq
    have ht2:=ht.trans (Touch.drewN wr nq _)
    clear hL ht c1 c2 c3 f1 f2 hcc
    generalize wr.drewN nq=wx at hL2 ht2 ⊢
    have c1:=hL2.c1
    have c2:=hL2.c2
    have f1:=hL2.fr 1
    have f2:=hL2.fr 2
    have b1:(c:Int)+1<9223372036854775808:=by omega
    go_wp2_with fail
    have hL3:=hL2.step
    have ht3:=(ht2.setCell (a:=⟨lb,2,none⟩) (fun _=>rfl) (.int .i64 ((m:Int)+1))).setCell (a:=⟨lb,1,none⟩) (fun _=>rfl) (.int .i64 ((c:Int)+1))
    obtain⟨e1,e2⟩:=hr.out
    have e4:=he.out
    go_roundg (gk-1)
    case rel=>exact⟨m+1,c+1,Lib.hid ⟨by omega,by omega⟩,by omega,by omega,by omega,by omega,hL3,ht3⟩
    case measure=>omega
   ·have hcc:∀n',Calls Tryd.prog 61 #[.int .u8 s[m].toNat,.pointer (some ⟨pl,0,none⟩),.pointer (some ⟨pf,0,none⟩)] (wr.drewN n') fun e w''=>e=.returned (.bool false)∧∃n,w''=wr.drewN n:=fun n'=>(one_any (w:=wr.drewN n') hp2 hf2 (hL.drawn n') _ (decide_eq_false he)).mono fun _ _ ⟨e,n,h⟩=>⟨e,n'+n,h.trans (World.drewN_drewN _ _ _)⟩
    replace hcc:=Lib.hid hcc
    have he':m=i+1:=by omega
    replace he':=Lib.hid he'
    clear hp2 hf2 he
    go_wp2_with fail
    go_quiet ((go_at_call 61;exact hcc.out _))
    have hL2:=hL.drawn nq
    have ht2:=ht.trans (Touch.drewN wr nq _)
    clear hL ht c1 c2 c3 f1 f2 hcc
    generalize wr.drewN nq=wx at hL2 ht2 ⊢
    have c2:=hL2.c2
    have c3:=hL2.c3
    have b2:(i:Int)≤(m:Int):=by omega
    have b3:(m:Int)≤(s.size:Int):=by omega
    go_wp2_with fail
    go_quiet (fail)
    go_wp2_with fail
    obtain⟨e1,e2⟩:=hr.out
    obtain rfl:=he'.out
    obtain rfl:c=cl+1:=by omega
    go_ret
    exact⟨rfl,hL2.drawn nq,ht2.trans (Touch.drewN wx nq _)⟩
  ·have g1:decide ((m:Int)<(s.size:Int))=false:=by simp;omega
   have he':m=i+1:=by omega
   replace he':=Lib.hid he'
   clear hp2 hf2
   go_wp2_with fail
   go_quiet (fail)
   have hL2:=hL.drawn nq
   have ht2:=ht.trans (Touch.drewN wr nq _)
   clear hL ht c1 c2 c3 f1 f2
   generalize wr.drewN nq=wx at hL2 ht2 ⊢
   have c2:=hL2.c2
   have c3:=hL2.c3
   have b2:(i:Int)≤(m:Int):=by omega
   have b3:(m:Int)≤(s.size:Int):=by omega
   go_wp2_with fail
   go_quiet (fail)
   go_wp2_with fail
   obtain⟨e1,e2⟩:=hr.out
   obtain rfl:=he'.out
   obtain rfl:c=cl+1:=by omega
   go_ret
   exact⟨rfl,hL2.drawn nq,ht2.trans (Touch.drewN wx nq _)⟩
end
end
section
open Go.RowKit Go.Shelf
theorem index_eq:∀(l:List UInt8) (c:UInt8),decide (Lib.indexByte l c≥0)=decide (c∈l)
 | [],c=>by simp [Lib.indexByte]
 | b::l,c=>by
  have ih:=index_eq l c
  rw [decide_eq_decide] at ih ⊢
  unfold Lib.indexByte
  by_cases h:b=c
  ·simp [h]
  ·have h1:(b==c)=false:=by simpa using h
   rw [h1]
   simp only [Bool.false_eq_true,if_false,List.mem_cons]
   rw [←ih]
   have h2: -1≤Lib.indexByte l c:=by
    clear ih h h1
    induction l with
    | nil=>simp [Lib.indexByte]
    | cons a l ih=>
     unfold Lib.indexByte
     split
     ·omega
     ·split
      ·omega
      ·omega
   by_cases h3:Lib.indexByte l c= -1
   ·rw [h3];simp;exact fun e=>h e.symm
   ·have h4:(Lib.indexByte l c== -1)=false:=by simpa using h3
    rw [h4]
    simp only [Bool.false_eq_true,if_false]
    constructor
    ·intro _;right;omega
    ·rintro (e | _)
     ·exact absurd e.symm h
     ·omega
section
variable {w w':World} {lb ln cl i:Nat} {s:ByteArray} {v:Value}
theorem sign_any (b:UInt8)(w:World):Calls Tryd.prog 60 #[.string ⟨#[61,44,58,40,41,123,125,91,93]⟩,.int .u8 b.toNat] w fun e w'=>∃n:Int,e=.returned (.int .i64 n)∧decide (n≥0)=signB b∧w'=w:=by
 refine (Any.strings_IndexByte Tryd.lays137 ⟨#[61,44,58,40,41,123,125,91,93]⟩ (b.toNat:Int) w).mono ?_
 rintro e w' ⟨rfl,rfl⟩
 refine⟨_,rfl,?_,rfl⟩
 rw [index_eq]
 unfold signB signs
 rw [show ((b.toNat:Int).toNat.toUInt8)=b from by simp]
theorem clone_any (t:ByteArray)(w:World)(h:t.size≤2000000):Calls Tryd.prog 68 #[.string t] w fun e w'=>e=.returned (.string t)∧Below w.heap.size w w':=by
 have hc:=Lib.hid (Any.stringslite_Clone Tryd.laysM316 t w (by omega))
 go_enter Tryd.func68,Tryd.ntmps68
 go_wp2_with fail
 refine hc.out.mono ?_
 rintro e w' ⟨rfl,hb⟩
 go_wp2_with fail
 go_ret
 exact⟨rfl,hb⟩
theorem atoi_any (t:ByteArray)(n:Int)(w:World)(hl:t.size≤9)(h:Lib.atoi t.data.toList=some n):Calls Tryd.prog 69 #[.string t] w fun e w'=>e=.returned (.tuple #[.int .i64 n,.nilIface])∧Below w.heap.size w w':=by
 refine (Any.strconv_Atoi Tryd.lays172 t n (by omega) h w).mono ?_
 rintro e w' ⟨rfl,u,rfl⟩
 exact⟨rfl,Joins.below_bytesWorld _ _ _ _ (Nat.le_refl _)⟩
theorem infoTok:(Tryd.prog.info? 38).map (fun i=>(i.zero,i.size,i.bytes))=some (some (.agg #[.int .u8 0,.string ⟨#[]⟩,.int .i64 0,.int .i64 0,.int .i64 0]),5,48):=by kernel_rfl
def cellsT (t:Tok):List Value:=[.int .u8 t.kind,.string ⟨t.text.toArray⟩,.int .i64 t.num,.int .i64 t.line,.int .i64 t.col]
structure LexW (B:Nat) (w:World) (lb:Nat) (s:ByteArray) (ln cl i:Nat) (v:Value) (out:List Tok):Prop where
 at':LexAt w lb s ln cl i v
 row:w.ownsRow B 38 5 v out.length (out.flatMap cellsT)
 low:lb<B
 top:B≤w.heap.size
theorem put_end {B gg cap':Nat}{O:Obj}{w1 w2:World}{out:List Tok}{t:Tok}(h:LexW B w lb s ln cl i v out)(hb:Below w.heap.size w w1)(hgrow:(w1.alloc O).grownBy w2 v.ownBlock)
  (hown:w2.ownsRow B 38 5 (.slice (some ⟨gg,0,none⟩) (out.length+1) cap') (out.length+1) (out.flatMap cellsT++cellsT t)) (hat:v.ownBlock=some gg∨gg=w1.heap.size+1):
  LexW B (w2.setCell ⟨lb,4,none⟩ (.slice (some ⟨gg,0,none⟩) (out.length+1) cap')) lb s ln cl i (.slice (some ⟨gg,0,none⟩) (out.length+1) cap') (out++[t])∧
   Touch w (w2.setCell ⟨lb,4,none⟩ (.slice (some ⟨gg,0,none⟩) (out.length+1) cap')) (fun k=>k=lb∨v.ownBlock=some k):=by
 have hlow:=h.low
 have htop:=h.top
 have hne:v.ownBlock≠some lb:=fun e=>by have:=(h.row.lt lb e).1;omega
 have ht1:Touch w w1 (fun k=>v.ownBlock=some k):=Touch.of_below hb _
 have ht2:=(ht1.alloc O).trans ((Touch.of_grown hgrow (S:=fun k=>v.ownBlock=some k) (fun k e=>e)))
 have hL:=h.at'.touch ht2 hne
 have hlt:=h.at'.lt
 have hz:=hb.size
 have hgl:gg≠lb:=by
  rintro rfl
  rcases hat with e | e
  ·exact hne e
  ·omega
 have ht3:Touch w w2 (fun k=>k=lb∨v.ownBlock=some k):=ht2.mono (fun k _ e=>Or.inr e)
 refine⟨⟨?_,?_,hlow,?_⟩,ht3.setCell (a:=⟨lb,4,none⟩) (fun _=>Or.inl rfl) _⟩
 ·have h1:=blk_set (i:=4) (.slice (some ⟨gg,0,none⟩) (out.length+1) cap') hL
  unfold LexAt
  rw [h1]
  rfl
 ·rw [List.flatMap_append,List.length_append]
  have h2:=ownsRow_touch (S:=fun k=>k=lb) hown ((Touch.refl w2 (fun k=>k=lb)).setCell (a:=⟨lb,4,none⟩) (fun _=>rfl) (.slice (some ⟨gg,0,none⟩) (out.length+1) cap')) (fun b hb e=>by
   simp [Value.ownBlock] at hb
   omega)
  simpa using h2
 ·have:=ht2.size
  simp
  omega
set_option maxHeartbeats 2000000 in
theorem put_any {B l c k n:Nat}{out:List Tok}{t:List UInt8}(h:LexW B w lb s ln cl i v out)(ho:out.length≤2000000)(ht:t.length≤2000000):
  Calls Tryd.prog 56 #[.pointer (some ⟨lb,0,none⟩),.int .u8 k,.agg #[.int .i64 l,.int .i64 c],.string ⟨t.toArray⟩,.int .i64 n] w fun e w'=>e=.returned (.tuple #[])∧∃v',LexW B w' lb s ln cl i v' (out++[⟨k,t,n,l,c⟩])∧Touch w w' (fun k=>k=lb∨v.ownBlock=some k):=by
 obtain⟨i0,hi0,hz0,hz1,hz2⟩:=info_parts infoTok
 have c4:=h.at'.c4
 go_enter Tryd.func56,Tryd.ntmps56
 have hb0:Below w.heap.size w (w.alloc (.cells #[.int .i64 l,.int .i64 c] 26)):=(Below.refl _ _).alloc (Nat.le_refl _) _
 have hcl:=Lib.hid (clone_any ⟨t.toArray⟩ (w.alloc (.cells #[.int .i64 l,.int .i64 c] 26)).drew (by show t.toArray.size≤2000000;simpa using ht))
 have hrow:=h.row
 have hlow:=h.low
 have htop:=h.top
 have hlb:=h.at'.lt
 go_wp2_with fail
 generalize hx:w.alloc (.cells #[.int .i64 l,.int .i64 c] 26)=wx at *
 have hL:=h.at'.below hb0
 have hrow1:=ownsRow_touch hrow (Touch.of_below hb0 (fun _=>False)) (fun _ _ h=>h)
 have c4:=hL.c4
 have s0:wx.cell? ⟨w.heap.size,0,none⟩=some (.int .i64 l):=by rw [←hx];simp
 have s1:wx.cell? ⟨w.heap.size,1,none⟩=some (.int .i64 c):=by rw [←hx];simp
 have hxz:wx.heap.size=w.heap.size+1:=by rw [←hx];simp
 replace hxz:=Lib.hid hxz
 have hxle:w.heap.size<wx.heap.size:=by have:=hxz.out;omega
 have hne:v.ownBlock≠some lb:=fun e=>by have:=(hrow.lt lb e).1;omega
 clear hx hxz
 go_region_law (first
  | (go_simp;go_at_call 68;refine hcl.out.mono ?_;rintro e w1 ⟨rfl,hb1⟩;have r4:=(hb1.cell (p:=⟨lb,4,none⟩) (by simp;omega)).trans c4;have r0:=(hb1.cell (p:=⟨w.heap.size,0,none⟩) hxle).trans s0;have r1:=(hb1.cell (p:=⟨w.heap.size,1,none⟩) hxle).trans s1;have hrow2:=ownsRow_touch hrow1.drew (Touch.of_below hb1 (fun _=>False)) (fun _ _ h=>h);have hzw:wx.heap.size≤w1.heap.size:=hb1.size;have q4:∀o,(w1.alloc o).cell? ⟨lb,4,none⟩=some v:=fun o=>(World.cell?_alloc_past _ _ _ (by omega)).trans r4;have g4:∀o,(w1.alloc o).frozen? ⟨lb,4,none⟩=false:=fun o=>(World.frozen?_alloc_past _ _ _ (by omega)).trans ((hb1.frozen (p:=⟨lb,4,none⟩) (by simp;omega)).trans (hL.fr 4));go_simp)
  | (refine step_append_lies _ (by rfl) _ _ _ (by rfl) B 38 i0 _ 5 48 Tryd.underlying34 hi0 hz0 hz1 hz2 rfl (by omega) v out.length _ (by rfl) (hrow2.alloc _)
      ⟨w1.heap.size,0,none⟩ 1 1 [.int .u8 k,.string ⟨t.toArray⟩,.int .i64 n,.int .i64 l,.int .i64 c] (by rfl) (by rfl) (World.news_of_block (cs:=#[.int .u8 k,.string ⟨t.toArray⟩,.int .i64 n,.int .i64 l,.int .i64 c]) (t:=38) (fr:=(0,0)) (heap_alloc_new w1 _)) (by simp [Value.oneCell'])
      (by omega) (by unfold maxLen;omega) (by omega) (by simp;omega) (w1.heap.size+1) (by simp) ?_;intro gg cap' w2 hown2 hgrow hat hlt2;have t4:w2.cell? ⟨lb,4,none⟩=some v:=(hgrow.cell_far ⟨lb,4,none⟩ (by simp;omega) (Ne.symm hne)).trans (q4 _);have u4:w2.frozen? ⟨lb,4,none⟩=false:=(hgrow.frozen_far ⟨lb,4,none⟩ (by simp;omega) (Ne.symm hne)).trans (g4 _)))
 all_goals
  have hzb:Below w.heap.size w w1:=(hb0.mono (Nat.le_refl _)).trans (Below.trans (b:=wx.drew) ⟨rfl,rfl,rfl,Nat.le_refl _,fun _ _=>rfl⟩ (hb1.mono (Nat.le_of_lt hxle)))
  have hres:=Lib.hid (put_end (t:=⟨k,t,n,l,c⟩) h hzb hgrow hown2 hat)
  clear h hrow hrow1 hrow2 hL hb0 hb1 hcl r4 r0 r1 s0 s1 q4 g4 hown2 hgrow hat c4
  go_wp2_with fail
  go_end0
  exact⟨rfl,_,hres.out⟩
end
end
end Go.Proofs.YtgcanabckogmmaaDoor
