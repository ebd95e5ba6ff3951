/- RefW, Told, LaidJ, RdG7, RdB3. -/
import Derived.Test.YtgcanabckogmmaaDoorZR24
import Derived.Test.YtgcanabckogmmaaDoorZR22
import Derived.Test.YtgcanabckogmmaaDoorZR23
import Derived.Deep.Cut
import Derived.Deep.CutRange
import Derived.Deep.CutBlock
import Derived.Maps.AppendAt
namespace Go.Proofs.YtgcanabckogmmaaDoor
set_option linter.unusedVariables false
set_option linter.unusedSimpArgs false
section
open Go.RowKit Go.Shelf
structure RefW (w wr:World) (s:ByteArray) (i:Nat) (v:Value) (out:List Tok):Prop where
 res:wr.heap[w.heap.size]?=some (.cells #[.int .i64 0,.int .i64 0] 26 (0,0))
 row:wr.ownsRow (w.heap.size+1) 38 5 v out.length (out.flatMap cellsT)
 below:Below w.heap.size w wr
 few:out.length≤i
 inn:i≤s.size
 left:lex s.data.toList 1 1=sofar out (lexAt s i)
section
variable {w wr w1 w2:World} {s:ByteArray} {i:Nat} {v:Value} {out:List Tok}
theorem RefW.lt (h:RefW w wr s i v out):w.heap.size<wr.heap.size:=(Array.getElem?_eq_some_iff.1 h.res).1
theorem RefW.kept (h:RefW w wr s i v out)(hb:Below wr.heap.size wr w1):RefW w w1 s i v out:=
 ⟨(hb.block _ h.lt).trans h.res,ownsRow_touch h.row (Touch.of_below hb (fun _=>False)) (fun _ _ h=>h),h.below.trans (hb.mono (Nat.le_of_lt h.lt)),h.few,h.inn,h.left⟩
theorem RefW.goes {j:Nat}(h:RefW w wr s i v out)(h1:i≤j)(h2:j≤s.size)(he:lexAt s i=lexAt s j):RefW w wr s j v out:=
 ⟨h.res,h.row,h.below,Nat.le_trans h.few h1,h2,by rw [h.left,he]⟩
theorem RefW.bad {b:Bad}(h:RefW w wr s i v out)(he:lexAt s i=.error b):lex s.data.toList 1 1=.error b:=by rw [h.left,he];rfl
theorem RefW.grown {v':Value}{O:Obj}{t:Tok}(h:RefW w wr s i v out)(hb:Below wr.heap.size wr w1)(hgrow:(w1.alloc O).grownBy w2 v.ownBlock)
  (hown:w2.ownsRow (w.heap.size+1) 38 5 v' (out.length+1) (out.flatMap cellsT++cellsT t)):
  w2.heap[w.heap.size]?=some (.cells #[.int .i64 0,.int .i64 0] 26 (0,0))∧w2.ownsRow (w.heap.size+1) 38 5 v' (out++[t]).length ((out++[t]).flatMap cellsT)∧Below w.heap.size w w2:=by
 have hlt:=h.lt
 have hz:=hb.size
 have hne:v.ownBlock≠some w.heap.size:=fun e=>by have:=(h.row.lt _ e).1;omega
 have ht1:Touch wr w1 (fun k=>v.ownBlock=some k):=Touch.of_below hb _
 have ht2:=(ht1.alloc O).trans ((Touch.of_grown hgrow (S:=fun k=>v.ownBlock=some k) (fun k e=>e)))
 refine⟨(ht2.block _ hlt hne).trans h.res,?_,h.below.trans (ht2.below (Nat.le_of_lt hlt) (fun k hk e=>by have:=(h.row.lt k e).1;omega))⟩
 rw [List.flatMap_append,List.length_append]
 simpa using hown
theorem RefW.grew {v':Value}{j:Nat}{O:Obj}{t:Tok}(h:RefW w wr s i v out)(hb:Below wr.heap.size wr w1)(hgrow:(w1.alloc O).grownBy w2 v.ownBlock)
  (hown:w2.ownsRow (w.heap.size+1) 38 5 v' (out.length+1) (out.flatMap cellsT++cellsT t))
  (hij:i<j) (hj:j≤s.size) (he:lexAt s i=sofar [t] (lexAt s j)):RefW w w2 s j v' (out++[t]):=by
 obtain⟨h1,h2,h3⟩:=h.grown hb hgrow hown
 refine⟨h1,h2,h3,by have:=h.few;simp;omega,hj,?_⟩
 rw [h.left,he]
 cases lexAt s j with
 | error e=>rfl
 | ok l=>simp [sofar]
end
theorem digitB_all {s:ByteArray}{i:Nat}(k:Nat):∀b∈(word digitB s i).take k,digitB b=true:=fun _ hb=>mem_tw (List.mem_of_mem_take hb)
theorem num_bound {s:ByteArray}{i m nn:Nat}(hd:∀k,∀b∈(word digitB s i).take k,digitB b=true)(h:nn=numOf ((word digitB s i).take (min (m-i) 9))):nn≤999999999∧(m-i<9→nn≤99999999):=by
 have h1:=numOf_lt _ (hd (min (m-i) 9))
 have h2:((word digitB s i).take (min (m-i) 9)).length≤min (m-i) 9:=by rw [List.length_take];omega
 constructor
 ·have:10 ^ ((word digitB s i).take (min (m-i) 9)).length≤10 ^ 9:=Nat.pow_le_pow_right (by omega) (by omega)
  have e:10 ^ 9=1000000000:=rfl
  omega
 ·intro h8
  have:10 ^ ((word digitB s i).take (min (m-i) 9)).length≤10 ^ 8:=Nat.pow_le_pow_right (by omega) (by omega)
  have e:10 ^ 8=100000000:=rfl
  omega
theorem word_at {p:UInt8→Bool}{s:ByteArray}{i m:Nat}(h:m+run p s m=i+run p s i)(him:i≤m)(hm:m<s.size)(hp:p s[m]=true):(word p s i)[m-i]?=some s[m]:=by
 have h1:=run_yes hm hp
 have hpre:word p s i <+: rest s i:=List.takeWhile_prefix p
 have hlt:m-i<(word p s i).length:=by rw [word_len];omega
 rw [List.getElem?_eq_getElem hlt,hpre.getElem hlt]
 unfold rest
 rw [List.getElem_drop]
 congr 1
 simp only [show i+(m-i)=m from by omega]
 rfl
theorem num_step {s:ByteArray}{i m nn:Nat}(h:m+run digitB s m=i+run digitB s i)(him:i≤m)(hm:m<s.size)(hp:digitB s[m]=true)(h9:m-i<9)(hn:nn=numOf ((word digitB s i).take (min (m-i) 9))):
  10*nn+(s[m].toNat-48)=numOf ((word digitB s i).take (min (m+1-i) 9)):=by
 rw [show min (m+1-i) 9=(m-i)+1 from by omega,take_snoc (word_at h him hm hp),numOf_snoc,hn,show min (m-i) 9=m-i from by omega]
theorem num_all {s:ByteArray}{i m nn:Nat}(hn:nn=numOf ((word digitB s i).take (min (m-i) 9)))(hm:m=i+run digitB s i):nn=numOf ((word digitB s i).take 9):=by
 rw [hn]
 by_cases h:m-i≤9
 ·rw [show min (m-i) 9=m-i from by omega,List.take_of_length_le (show (word digitB s i).length≤m-i from by rw [word_len];omega),List.take_of_length_le (show (word digitB s i).length≤9 from by rw [word_len];omega)]
 ·rw [show min (m-i) 9=9 from by omega]
theorem row_set' {w w':World}{v:Value}{out:List Tok}(h:w'.ownsRow (w.heap.size+1) 38 5 v out.length (out.flatMap cellsT))(x y:Value):RowT w ((w'.setCell ⟨w.heap.size,0,none⟩ x).setCell ⟨w.heap.size,1,none⟩ y) v out:=
 own_mono (ownsRow_touch (S:=fun k=>k=w.heap.size) h (((Touch.refl w' (fun k=>k=w.heap.size)).setCell (a:=⟨w.heap.size,0,none⟩) (fun _=>rfl) _).setCell (a:=⟨w.heap.size,1,none⟩) (fun _=>rfl) _) (fun b hb e=>by have:=(h.lt b hb).1;omega)) (Nat.le_succ _)
set_option maxRecDepth 20000 in
set_option maxHeartbeats 8000000 in
theorem ref_any {w:World}{s:ByteArray}(hs:s.size≤1048576):Calls Tryd.prog 21 #[.string s] w fun e w'=>LexPost w (lex s.data.toList 1 1) e w':=by
 have d1:decide ((s.size:Int) > 1048576)=false:=by simp;omega
 obtain⟨i0,hi0,hz0,hz1,hz2⟩:=info_parts infoTok
 go_enter Tryd.func21,Tryd.ntmps21
 go_wp2_with fail
 have hW0:RefW w (w.alloc (.cells #[.int .i64 0,.int .i64 0] 26)) s 0 (.slice none 0 0) []:=
  ⟨heap_alloc_new w _,World.ownsRow_nil _ _ _ _,(Below.refl _ _).alloc (Nat.le_refl _) _,Nat.le_refl _,Nat.zero_le _,by rw [sofar_nil,lexAt_zero]⟩
 generalize (w.alloc (.cells #[.int .i64 0,.int .i64 0] 26))=wa at hW0 ⊢
 go_loopw [5,6,7,8,9,10] (fun a i c f n b wr=>∃(k:Nat) (out:List Tok),i=.int .i64 k∧RefW w wr s k a out) (fun _ i _ _ _ _ _=>s.size-(intOf i).toNat)
 case atStart=>exact⟨0,[],rfl,hW0⟩
 case round=>
  clear hW0
  obtain⟨i,out,rfl,hW⟩:=hrel
  have hi:=hW.inn
  have hfew:=hW.few
  obtain⟨l,c,hlc⟩:∃l c,Hid (sp s i=(l,c)):=⟨_,_,Lib.hid rfl⟩
  have hwlt:=hW.lt
  have hsp:=Lib.hid (show Calls Tryd.prog 48 #[.string s,.int .i64 i] wr (fun e w'=>e=.returned (.agg #[.int .i64 l,.int .i64 c])∧Below wr.heap.size wr w') from by have h:=rspot_any s i wr hi (by omega);rw [show spotOf (s.data.toList.take i)=(l,c) from hlc.out] at h;exact h)
  have hspd:=Lib.hid (show Calls Tryd.prog 48 #[.string s,.int .i64 i] wr.drew (fun e w'=>e=.returned (.agg #[.int .i64 l,.int .i64 c])∧Below wr.heap.size wr.drew w') from by have h:=rspot_any s i wr.drew hi (by omega);rw [show spotOf (s.data.toList.take i)=(l,c) from hlc.out] at h;exact h)
  by_cases hlt:i<s.size
  ·have i1:(i:Int)<(s.size:Int):=by omega
   by_cases k1:s[i]=10∨blankB s[i]=true
   ·have hW2:=hW.goes (j:=i+1) (by omega) (by omega) (lexAt_blank hlt k1)
    have k2:s[i]=10∨s[i]=32∨s[i]=9∨s[i]=13:=by
     rcases k1 with k | k
     ·exact .inl k
     ·unfold blankB at k
      simp at k
      rcases k with (k | k) | k
      ·exact .inr (.inl k)
      ·exact .inr (.inr (.inl k))
      ·exact .inr (.inr (.inr k))
    rcases k2 with k | k | k | k
    ·as_aux_lemma=>
     have f32:((s[i].toNat:Int)==32)=false:=by rw [k];rfl
     have f9:((s[i].toNat:Int)==9)=false:=by rw [k];rfl
     have f13:((s[i].toNat:Int)==13)=false:=by rw [k];rfl
     have f10:((s[i].toNat:Int)==10)=true:=by rw [k];rfl
     clear k k1 hsp hspd
     go_wp2_with fail
     go_round
     case rel=>exact⟨i+1,out,by go_num,hW2⟩
     case measure=>simp [intOf];omega
    ·as_aux_lemma=>
     have f32:((s[i].toNat:Int)==32)=true:=by rw [k];rfl
     have f9:((s[i].toNat:Int)==9)=false:=by rw [k];rfl
     have f13:((s[i].toNat:Int)==13)=false:=by rw [k];rfl
     have f10:((s[i].toNat:Int)==10)=false:=by rw [k];rfl
     clear k k1 hsp hspd
     go_wp2_with fail
     go_round
     case rel=>exact⟨i+1,out,by go_num,hW2⟩
     case measure=>simp [intOf];omega
    ·as_aux_lemma=>
     have f32:((s[i].toNat:Int)==32)=false:=by rw [k];rfl
     have f9:((s[i].toNat:Int)==9)=true:=by rw [k];rfl
     have f13:((s[i].toNat:Int)==13)=false:=by rw [k];rfl
     have f10:((s[i].toNat:Int)==10)=false:=by rw [k];rfl
     clear k k1 hsp hspd
     go_wp2_with fail
     go_round
     case rel=>exact⟨i+1,out,by go_num,hW2⟩
     case measure=>simp [intOf];omega
    ·as_aux_lemma=>
     have f32:((s[i].toNat:Int)==32)=false:=by rw [k];rfl
     have f9:((s[i].toNat:Int)==9)=false:=by rw [k];rfl
     have f13:((s[i].toNat:Int)==13)=true:=by rw [k];rfl
     have f10:((s[i].toNat:Int)==10)=false:=by rw [k];rfl
     clear k k1 hsp hspd
     go_wp2_with fail
     go_round
     case rel=>exact⟨i+1,out,by go_num,hW2⟩
     case measure=>simp [intOf];omega
   ·have f32:((s[i].toNat:Int)==32)=false:=by rw [show ((s[i].toNat:Int)==32)=(s[i]==32) from eqB s[i] 32];simp;intro e;exact k1 (.inr (by rw [e];rfl))
    have f9:((s[i].toNat:Int)==9)=false:=by rw [show ((s[i].toNat:Int)==9)=(s[i]==9) from eqB s[i] 9];simp;intro e;exact k1 (.inr (by rw [e];rfl))
    have f13:((s[i].toNat:Int)==13)=false:=by rw [show ((s[i].toNat:Int)==13)=(s[i]==13) from eqB s[i] 13];simp;intro e;exact k1 (.inr (by rw [e];rfl))
    have f10:((s[i].toNat:Int)==10)=false:=by rw [show ((s[i].toNat:Int)==10)=(s[i]==10) from eqB s[i] 10];simp;intro e;exact k1 (.inl e)
    by_cases k2:s[i]=59
    ·as_aux_lemma=>
     have f59:((s[i].toNat:Int)==59)=true:=by rw [k2];rfl
     have hnote:=Lib.hid (lexAt_note hlt k1 k2)
     have hp:lineB s[i]=true:=by rw [k2];rfl
     replace k1:=Lib.hid k1
     replace k2:=Lib.hid k2
     replace hp:=Lib.hid hp
     clear hsp hspd
     go_wp2_with fail
     go_loop [6] (fun i2=>∃m:Nat,i2=.int .i64 m∧i≤m∧m≤s.size∧Hid (m+run lineB s m=i+run lineB s i)) (fun i2=>s.size-(intOf i2).toNat)
     case atStart=>exact⟨i,rfl,Nat.le_refl _,hi,Lib.hid rfl⟩
     case round=>
      obtain⟨m,rfl,him,hm,hr⟩:=hrel
      by_cases hml:m<s.size
      ·have i2:(m:Int)<(s.size:Int):=by omega
       have e1:((s[m].toNat:Int) != 10)=lineB s[m]:=by unfold lineB bne;rw [show ((s[m].toNat:Int)==10)=(s[m]==10) from eqB s[m] 10]
       by_cases hpm:lineB s[m]=true
       ·have hr2:=Lib.hid (show m+1+run lineB s (m+1)=i+run lineB s i from by have:=run_yes hml hpm;have:=hr.out;omega)
        rw [hpm] at e1
        clear hpm
        go_wp2_with fail
        go_round
        case rel=>exact⟨m+1,by go_num,by omega,by omega,hr2⟩
        case measure=>simp [intOf];omega
       ·have hpm2:lineB s[m]=false:=by simpa using hpm
        have hr2:=Lib.hid (show m=i+run lineB s i from by have:=run_no hml hpm2;have:=hr.out;omega)
        have him2:i<m:=by have:=run_yes hlt hp.out;have:=hr2.out;omega
        have hW2:=hW.goes (j:=m) (by omega) (by omega) (by rw [hr2.out];exact hnote.out)
        rw [hpm2] at e1
        clear hpm hpm2 hr2 hr hnote
        go_wp2_with fail
        go_round
        case rel=>exact⟨m,out,rfl,hW2⟩
        case measure=>simp [intOf];omega
      ·have g1:decide ((m:Int)<(s.size:Int))=false:=by simp;omega
       have hr2:=Lib.hid (show m=i+run lineB s i from by have:=run_end (p:=lineB) (s:=s) (i:=m) (by omega);have:=hr.out;omega)
       have hW2:=hW.goes (j:=m) (by omega) (by omega) (by rw [hr2.out];exact hnote.out)
       clear hr2 hr hnote
       go_wp2_with fail
       go_round
       case rel=>exact⟨m,out,rfl,hW2⟩
       case measure=>simp [intOf];omega
    ·have f59:((s[i].toNat:Int)==59)=false:=by rw [show ((s[i].toNat:Int)==59)=(s[i]==59) from eqB s[i] 59];simp;exact k2
     have hL:=Lib.hid (fun w=>rletter_any s[i] w)
     have hD:=Lib.hid (fun w=>rdigit_any s[i] w)
     have hG:=Lib.hid (fun w=>rsign_any s[i] w)
     obtain⟨b3,hb3⟩:∃b,letterB s[i]=b:=⟨_,rfl⟩
     obtain⟨b4,hb4⟩:∃b,digitB s[i]=b:=⟨_,rfl⟩
     obtain⟨b5,hb5⟩:∃b,signB s[i]=b:=⟨_,rfl⟩
     rw [hb3] at hL
     rw [hb4] at hD
     rw [hb5] at hG
     cases b3 with
     | true=>
      have hl:=lexAt_name hlt k1 k2 hb3
      rw [hlc.out] at hl
      replace hl:=Lib.hid hl
      have hp:partB s[i]=true:=by unfold partB;rw [hb3];rfl
      replace k1:=Lib.hid k1
      replace k2:=Lib.hid k2
      replace hp:=Lib.hid hp
      clear hb3 hb4 hb5 hsp hD hG
      go_wp2_with (go_at_call 46;refine (hL.out _).mono ?_;rintro e w' ⟨rfl,hw⟩;obtain rfl:=hw.symm)
      clear hL
      go_loop [6] (fun i2=>∃m:Nat,i2=.int .i64 m∧i≤m∧m≤s.size∧Hid (m+run partB s m=i+run partB s i)) (fun i2=>s.size-(intOf i2).toNat)
      case atStart=>exact⟨i,rfl,Nat.le_refl _,hi,Lib.hid rfl⟩
      case round=>
       obtain⟨m,rfl,him,hm,hr⟩:=hrel
       by_cases hml:m<s.size
       ·have i2:(m:Int)<(s.size:Int):=by omega
        have hL:=Lib.hid (fun w=>rletter_any s[m] w)
        have hD:=Lib.hid (fun w=>rdigit_any s[m] w)
        have e1:((s[m].toNat:Int)==46)=(s[m]==46):=eqB s[m] 46
        have hpm:partB s[m]=(letterB s[m] || (digitB s[m] || s[m]==46)):=rfl
        obtain⟨q1,hq1⟩:∃q,letterB s[m]=q:=⟨_,rfl⟩
        obtain⟨q2,hq2⟩:∃q,digitB s[m]=q:=⟨_,rfl⟩
        obtain⟨q3,hq3⟩:∃q,(s[m]==46)=q:=⟨_,rfl⟩
        rw [hq1] at hL
        rw [hq2] at hD
        rw [hq3] at e1
        rw [hq1,hq2,hq3] at hpm
        clear hq1 hq2 hq3
        cases q1 with
        | true=>
         have hr2:=Lib.hid (show m+1+run partB s (m+1)=i+run partB s i from by have:=run_yes hml hpm;have:=hr.out;omega)
         clear hpm hr hl
         go_wp2_with (first | (go_at_call 46;refine (hL.out _).mono ?_;rintro e w' ⟨rfl,hw⟩;obtain rfl:=hw.symm) | (go_at_call 47;refine (hD.out _).mono ?_;rintro e w' ⟨rfl,hw⟩;obtain rfl:=hw.symm))
         go_round
         case rel=>exact⟨m+1,by go_num,by omega,by omega,hr2⟩
         case measure=>simp [intOf];omega
        | false=>
         cases q2 with
         | true=>
          have hr2:=Lib.hid (show m+1+run partB s (m+1)=i+run partB s i from by have:=run_yes hml hpm;have:=hr.out;omega)
          clear hpm hr hl
          go_wp2_with (first | (go_at_call 46;refine (hL.out _).mono ?_;rintro e w' ⟨rfl,hw⟩;obtain rfl:=hw.symm) | (go_at_call 47;refine (hD.out _).mono ?_;rintro e w' ⟨rfl,hw⟩;obtain rfl:=hw.symm))
          go_round
          case rel=>exact⟨m+1,by go_num,by omega,by omega,hr2⟩
          case measure=>simp [intOf];omega
         | false=>
          cases q3 with
          | true=>
           have hr2:=Lib.hid (show m+1+run partB s (m+1)=i+run partB s i from by have:=run_yes hml hpm;have:=hr.out;omega)
           clear hpm hr hl
           go_wp2_with (first | (go_at_call 46;refine (hL.out _).mono ?_;rintro e w' ⟨rfl,hw⟩;obtain rfl:=hw.symm) | (go_at_call 47;refine (hD.out _).mono ?_;rintro e w' ⟨rfl,hw⟩;obtain rfl:=hw.symm))
           go_round
           case rel=>exact⟨m+1,by go_num,by omega,by omega,hr2⟩
           case measure=>simp [intOf];omega
          | false=>
           have hr2:=Lib.hid (show m=i+run partB s i from by have:=run_no hml hpm;have:=hr.out;omega)
           have hfar:i<m:=by have:=run_yes hlt hp.out;have:=hr2.out;omega
           have hext:=Lib.hid (show s.extract i m=⟨(word partB s i).toArray⟩ from by rw [hr2.out];exact word_extract _ _ _)
           have hleft:=Lib.hid (show lexAt s i=sofar [⟨1,word partB s i,0,l,c⟩] (lexAt s m) from by rw [hr2.out];exact hl.out)
           have hend:=hm
           clear hl hr2
           clear hpm hr hp
           go_wp2_with (first | (go_at_call 46;refine (hL.out _).mono ?_;rintro e w' ⟨rfl,hw⟩;obtain rfl:=hw.symm) | (go_at_call 47;refine (hD.out _).mono ?_;rintro e w' ⟨rfl,hw⟩;obtain rfl:=hw.symm))
           clear hL hD
           go_region_law (first
            | (go_simp;go_at_call 48;refine hspd.out.mono ?_;rintro e w1 ⟨rfl,hb1⟩;have hrow2:=ownsRow_touch hW.row.drew (Touch.of_below hb1 (fun _=>False)) (fun _ _ h=>h);have hzw:wr.heap.size≤w1.heap.size:=hb1.size;go_simp)
            | (refine step_append_lies _ (by rfl) _ _ _ (by rfl) (w.heap.size+1) 38 i0 _ 5 48 Tryd.underlying34 hi0 hz0 hz1 hz2 rfl (by omega) u5 out.length _ (by rfl) (hrow2.alloc _)
                ⟨w1.heap.size,0,none⟩ 1 1 [.int .u8 1,.string (s.extract i m),.int .i64 0,.int .i64 l,.int .i64 c] (by rfl) (by rfl) (World.news_of_block (cs:=#[.int .u8 1,.string (s.extract i m),.int .i64 0,.int .i64 l,.int .i64 c]) (t:=38) (fr:=(0,0)) (heap_alloc_new w1 _)) (by simp [Value.oneCell'])
                (by omega) (by unfold maxLen;omega) (by omega) (by simp;omega) (w1.heap.size+1) (by simp) ?_;intro gg cap' w2 hown2 hgrow hat hlt2))
           all_goals
            have hW2:=hW.grew (t:=⟨1,word partB s i,0,l,c⟩) (Below.trans (b:=wr.drew) ⟨rfl,rfl,rfl,Nat.le_refl _,fun _ _=>rfl⟩ hb1) hgrow (by rw [hext.out] at hown2;exact hown2) hfar hend hleft.out
            clear hW hb1 hgrow hown2 hat hrow2 hleft hlt2
            conv in Act.put _ _ _=>(arg 2;whnf)
            conv in Act.put _ _ _=>simp only [Act.put,List.setIfInBounds_toArray,List.set_cons_succ,List.set_cons_zero]
            go_wp2_with fail
            go_roundw
            case rel=>exact⟨m,_,rfl,hW2⟩
            case measure=>simp [intOf];omega
       ·have g1:decide ((m:Int)<(s.size:Int))=false:=by simp;omega
        have hr2:=Lib.hid (show m=i+run partB s i from by have:=run_end (p:=partB) (s:=s) (i:=m) (by omega);have:=hr.out;omega)
        have hfar:i<m:=by have:=run_yes hlt hp.out;have:=hr2.out;omega
        have hext:=Lib.hid (show s.extract i m=⟨(word partB s i).toArray⟩ from by rw [hr2.out];exact word_extract _ _ _)
        have hleft:=Lib.hid (show lexAt s i=sofar [⟨1,word partB s i,0,l,c⟩] (lexAt s m) from by rw [hr2.out];exact hl.out)
        have hend:=hm
        clear hl hr2
        clear hr hp
        go_wp2_with fail
        go_region_law (first
         | (go_simp;go_at_call 48;refine hspd.out.mono ?_;rintro e w1 ⟨rfl,hb1⟩;have hrow2:=ownsRow_touch hW.row.drew (Touch.of_below hb1 (fun _=>False)) (fun _ _ h=>h);have hzw:wr.heap.size≤w1.heap.size:=hb1.size;go_simp)
         | (refine step_append_lies _ (by rfl) _ _ _ (by rfl) (w.heap.size+1) 38 i0 _ 5 48 Tryd.underlying34 hi0 hz0 hz1 hz2 rfl (by omega) u5 out.length _ (by rfl) (hrow2.alloc _)
             ⟨w1.heap.size,0,none⟩ 1 1 [.int .u8 1,.string (s.extract i m),.int .i64 0,.int .i64 l,.int .i64 c] (by rfl) (by rfl) (World.news_of_block (cs:=#[.int .u8 1,.string (s.extract i m),.int .i64 0,.int .i64 l,.int .i64 c]) (t:=38) (fr:=(0,0)) (heap_alloc_new w1 _)) (by simp [Value.oneCell'])
             (by omega) (by unfold maxLen;omega) (by omega) (by simp;omega) (w1.heap.size+1) (by simp) ?_;intro gg cap' w2 hown2 hgrow hat hlt2))
        all_goals
         have hW2:=hW.grew (t:=⟨1,word partB s i,0,l,c⟩) (Below.trans (b:=wr.drew) ⟨rfl,rfl,rfl,Nat.le_refl _,fun _ _=>rfl⟩ hb1) hgrow (by rw [hext.out] at hown2;exact hown2) hfar hend hleft.out
         clear hW hb1 hgrow hown2 hat hrow2 hleft hlt2
         conv in Act.put _ _ _=>(arg 2;whnf)
         conv in Act.put _ _ _=>simp only [Act.put,List.setIfInBounds_toArray,List.set_cons_succ,List.set_cons_zero]
         go_wp2_with fail
         go_roundw
         case rel=>exact⟨m,_,rfl,hW2⟩
         case measure=>simp [intOf];omega
     | false=>
      cases b4 with
      | true=>
       have hbad:=Lib.hid (fun h5:badN s i=true=>show lexAt s i=.error (l,c,31) from by have h:=lexAt_badnum hlt k1 k2 hb3 hb4 h5;rw [hlc.out] at h;exact h)
       have hgood:=Lib.hid (fun h5:badN s i=false=>show lexAt s i=sofar [⟨2,word digitB s i,numOf (word digitB s i),l,c⟩] (lexAt s (i+run digitB s i)) from by have h:=lexAt_number hlt k1 k2 hb3 hb4 h5;rw [hlc.out] at h;exact h)
       have hp:=Lib.hid hb4
       replace k1:=Lib.hid k1
       replace k2:=Lib.hid k2
       clear hb3 hb4 hb5 hG
       go_upto_block 7 with (first | (go_at_call 46;refine (hL.out _).mono ?_;rintro e w' ⟨rfl,hw⟩;obtain rfl:=hw.symm) | (go_at_call 47;refine (hD.out _).mono ?_;rintro e w' ⟨rfl,hw⟩;obtain rfl:=hw.symm))
       clear hL hD
       go_cut [6,9] from 99 to 122 (fun i2 n2 wx=>wx=wr∧∃m nn:Nat,i2=.int .i64 m∧n2=.int .i64 nn∧i<m∧m≤s.size∧nn≤999999999∧Hid (m=i+run digitB s i∧nn=numOf ((word digitB s i).take 9)∧∀h:m<s.size,digitB s[m]=false))
       case first=>as_aux_lemma=>
        go_wp2_with fail
        go_loop [6,9] (fun i2 n2=>∃m nn:Nat,i2=.int .i64 m∧n2=.int .i64 nn∧i≤m∧m≤s.size∧nn≤999999999∧(m-i<9→nn≤99999999)∧Hid (m+run digitB s m=i+run digitB s i∧nn=numOf ((word digitB s i).take (min (m-i) 9)))) (fun i2 _=>s.size-(intOf i2).toNat)
        case atStart=>exact⟨i,0,rfl,rfl,Nat.le_refl _,hi,by omega,fun _=>by omega,Lib.hid ⟨rfl,by simp [numOf]⟩⟩
        case round=>
         obtain⟨m,nn,rfl,rfl,him,hm,hnn,hn8,hr⟩:=hrel
         by_cases hml:m<s.size
         ·have i2:(m:Int)<(s.size:Int):=by omega
          obtain⟨q,hq⟩:∃q,digitB s[m]=q:=⟨_,rfl⟩
          have hD:=Lib.hid (fun w=>rdigit_any s[m] w)
          rw [hq] at hD
          cases q with
          | true=>
           obtain⟨v1,v2⟩:=digit_val hq
           have v3:(48:Int)≤(s[m].toNat:Int):=by omega
           have v4:(s[m].toNat:Int)≤57:=by omega
           have hr1:m+1+run digitB s (m+1)=i+run digitB s i:=by have:=run_yes hml hq;have:=hr.out.1;omega
           by_cases h9:m-i<9
           ·have g9:decide ((m:Int)-(i:Int)<9)=true:=by simp;omega
            have hst:=num_step hr.out.1 him hml hq h9 hr.out.2
            have hbd:=num_bound digitB_all hst
            have hn9:=hn8 h9
            have hz:=Lib.hid (show (10*(nn:Int)+((s[m].toNat:Int)-48))=((10*nn+(s[m].toNat-48):Nat):Int) from by omega)
            replace hst:=Lib.hid hst
            replace hbd:=Lib.hid hbd
            replace hr1:=Lib.hid hr1
            clear hr hn8 hq
            go_wp2_with (go_at_call 47;refine (hD.out _).mono ?_;rintro e w' ⟨rfl,hw⟩;obtain rfl:=hw.symm)
            go_round
            case rel=>exact⟨m+1,10*nn+(s[m].toNat-48),by go_num,by rw [←hz.out],by omega,by omega,hbd.out.1,hbd.out.2,Lib.hid ⟨hr1.out,hst.out⟩⟩
            case measure=>simp [intOf];omega
           ·have g9:decide ((m:Int)-(i:Int)<9)=false:=by simp;omega
            have hst:nn=numOf ((word digitB s i).take (min (m+1-i) 9)):=by rw [hr.out.2,show min (m-i) 9=9 from by omega,show min (m+1-i) 9=9 from by omega]
            replace hst:=Lib.hid hst
            replace hr1:=Lib.hid hr1
            clear hr hn8 hq
            go_wp2_with (go_at_call 47;refine (hD.out _).mono ?_;rintro e w' ⟨rfl,hw⟩;obtain rfl:=hw.symm)
            go_round
            case rel=>exact⟨m+1,nn,by go_num,rfl,by omega,by omega,hnn,fun h=>by omega,Lib.hid ⟨hr1.out,hst.out⟩⟩
            case measure=>simp [intOf];omega
          | false=>
           have hmm:m=i+run digitB s i:=by have:=run_no hml hq;have:=hr.out.1;omega
           have hfar:i<m:=by have:=run_yes hlt hp.out;omega
           have hst:nn=numOf ((word digitB s i).take 9):=num_all hr.out.2 hmm
           have hcc:=Lib.hid (show m=i+run digitB s i∧nn=numOf ((word digitB s i).take 9)∧∀h:m<s.size,digitB s[m]=false from ⟨hmm,hst,fun _=>hq⟩)
           clear hr hn8 hmm hst hq
           go_wp2_with (go_at_call 47;refine (hD.out _).mono ?_;rintro e w' ⟨rfl,hw⟩;obtain rfl:=hw.symm)
           go_meet
           exact⟨rfl,m,nn,rfl,rfl,hfar,hm,hnn,hcc⟩
         ·have g1:decide ((m:Int)<(s.size:Int))=false:=by simp;omega
          have hmm:m=i+run digitB s i:=by have:=run_end (p:=digitB) (s:=s) (i:=m) (by omega);have:=hr.out.1;omega
          have hfar:i<m:=by have:=run_yes hlt hp.out;omega
          have hst:nn=numOf ((word digitB s i).take 9):=num_all hr.out.2 hmm
          have hcc:=Lib.hid (show m=i+run digitB s i∧nn=numOf ((word digitB s i).take 9)∧∀h:m<s.size,digitB s[m]=false from ⟨hmm,hst,fun h=>absurd h hml⟩)
          clear hr hn8 hmm hst
          go_wp2_with fail
          go_meet
          exact⟨rfl,m,nn,rfl,rfl,hfar,hm,hnn,hcc⟩
       case rest=>
        obtain⟨hwc,m,nn,rfl,rfl,hfar,hend,hnn,hcc⟩:=hcut
        obtain rfl:=hwc.symm
        obtain⟨q4,hq4⟩:∃q4,Hid ((rest s m).head?.any partB=q4):=⟨_,Lib.hid rfl⟩
        go_upto_region 24 with fail
        go_cut [10] from 123 to 138 (fun b wx=>wx=wr∧b=.bool q4)
        case first=>as_aux_lemma=>
         by_cases hml:m<s.size
         ·have i2:(m:Int)<(s.size:Int):=by omega
          have hL:=Lib.hid (fun w=>rletter_any s[m] w)
          have e1:((s[m].toNat:Int)==46)=(s[m]==46):=eqB s[m] 46
          have hq:q4=(letterB s[m] || s[m]==46):=by
           rw [←hq4.out,rest_at hml]
           show partB s[m]=_
           unfold partB
           rw [hcc.out.2.2 hml]
           rfl
          obtain⟨q1,hq1⟩:∃q,letterB s[m]=q:=⟨_,rfl⟩
          obtain⟨q3,hq3⟩:∃q,(s[m]==46)=q:=⟨_,rfl⟩
          rw [hq1] at hL
          rw [hq3] at e1
          rw [hq1,hq3] at hq
          replace hq:=Lib.hid hq
          clear hq1 hq3
          cases q1 with
          | true=>
           go_wp2_with (go_at_call 46;refine (hL.out _).mono ?_;rintro e w' ⟨rfl,hw⟩;obtain rfl:=hw.symm)
           go_meet
           exact⟨rfl,by rw [hq.out];rfl⟩
          | false=>
           cases q3 with
           | true=>
            go_wp2_with (go_at_call 46;refine (hL.out _).mono ?_;rintro e w' ⟨rfl,hw⟩;obtain rfl:=hw.symm)
            go_meet
            exact⟨rfl,by rw [hq.out];rfl⟩
           | false=>
            go_wp2_with (go_at_call 46;refine (hL.out _).mono ?_;rintro e w' ⟨rfl,hw⟩;obtain rfl:=hw.symm)
            go_meet
            exact⟨rfl,by rw [hq.out];rfl⟩
         ·have g1:decide ((m:Int)<(s.size:Int))=false:=by simp;omega
          have hq:=Lib.hid (show q4=false from by rw [←hq4.out,rest_end (by omega)];rfl)
          go_wp2_with fail
          go_meet
          exact⟨rfl,by rw [hq.out]⟩
        case rest=>
         obtain⟨hwc,rfl⟩:=hcut
         obtain rfl:=hwc.symm
         obtain⟨bad,hb⟩:∃bad,Hid (badN s i=bad):=⟨_,Lib.hid rfl⟩
         go_upto_region 25 with fail
         go_cut [155] from 139 to 155 (fun b wx=>wx=wr∧b=.bool bad)
         case first=>as_aux_lemma=>
          have hbq:bad=((q4 || decide (9<run digitB s i)) || (decide (1<run digitB s i)&&decide (s[i]=48))):=by
           rw [←hb.out,badN_eq hlt,←hcc.out.1,hq4.out]
          have e1:decide ((m:Int)-(i:Int) > 9)=decide (9<run digitB s i):=by rw [decide_eq_decide];have:=hcc.out.1;omega
          have e2:decide ((m:Int)-(i:Int) > 1)=decide (1<run digitB s i):=by rw [decide_eq_decide];have:=hcc.out.1;omega
          have e3:((s[i].toNat:Int)==48)=decide (s[i]=48):=by rw [show ((s[i].toNat:Int)==48)=(s[i]==48) from eqB s[i] 48,Bool.eq_iff_iff];simp
          generalize decide (9<run digitB s i)=r1 at hbq e1
          generalize decide (1<run digitB s i)=r2 at hbq e2
          generalize decide (s[i]=48)=r3 at hbq e3
          replace hbq:=Lib.hid hbq
          cases r1<;>cases r2<;>cases r3<;>cases q4
          all_goals
           go_wp2_with fail
           go_meet
           exact⟨rfl,by rw [hbq.out];rfl⟩
         case rest=>
          obtain⟨hwc,rfl⟩:=hcut
          obtain rfl:=hwc.symm
          cases bad with
          | true=>
           have hl:=Lib.hid (hW.bad (hbad.out hb.out))
           clear hspd hbad hgood hcc hq4 hb
           go_wp2_with fail
           refine hsp.out.mono ?_
           rintro e w1 ⟨rfl,hb1⟩
           have hres1:=(hW.kept hb1).res
           have hlt1:=(hW.kept hb1).lt
           have x0:=blk_cell hres1 0
           have x1:=blk_cell hres1 1
           simp at x0 x1
           have xf0:w1.frozen? ⟨w.heap.size,0,none⟩=false:=by simp [World.frozen?,hres1]
           have xf1:w1.frozen? ⟨w.heap.size,1,none⟩=false:=by simp [World.frozen?,hres1]
           have hbb:=Lib.hid (hW.kept hb1).below
           clear hres1 hb1 hsp
           go_wp2_with fail
           refine bodyPost_ret (v:=.tuple #[.slice none 0 0,.agg #[.int .i64 l,.int .i64 c],.int .i64 31]) (by simp [results,Tryd.results21,go_sem, *]) rfl ?_
           unfold LexPost
           rw [hl.out]
           exact⟨rfl,(hbb.out.setCell (p:=⟨w.heap.size,0,none⟩) (Nat.le_refl _) _).setCell (p:=⟨w.heap.size,1,none⟩) (Nat.le_refl _) _⟩
          | false=>
           have hw9:(word digitB s i).take 9=word digitB s i:=by
            refine List.take_of_length_le ?_
            rw [word_len]
            have h:=badN_eq hlt
            rw [hb.out] at h
            by_cases h9:9<run digitB s i
            ·rw [decide_eq_true h9] at h;simp at h
            ·omega
           have hext:=Lib.hid (show s.extract i m=⟨(word digitB s i).toArray⟩ from by rw [hcc.out.1];exact word_extract _ _ _)
           have hleft:=Lib.hid (show lexAt s i=sofar [⟨2,word digitB s i,nn,l,c⟩] (lexAt s m) from by rw [hcc.out.1,hcc.out.2.1,hw9];exact hgood.out hb.out)
           have him:i≤m:=by omega
           clear hsp hbad hgood hcc hq4 hb hw9
           go_upto_region 27 with fail
           go_region_law (first
            | (go_simp;go_at_call 48;refine hspd.out.mono ?_;rintro e w1 ⟨rfl,hb1⟩;have hrow2:=ownsRow_touch hW.row.drew (Touch.of_below hb1 (fun _=>False)) (fun _ _ h=>h);have hzw:wr.heap.size≤w1.heap.size:=hb1.size;go_simp)
            | (refine step_append_lies _ (by rfl) _ _ _ (by rfl) (w.heap.size+1) 38 i0 _ 5 48 Tryd.underlying34 hi0 hz0 hz1 hz2 rfl (by omega) u5 out.length _ (by rfl) (hrow2.alloc _)
                ⟨w1.heap.size,0,none⟩ 1 1 [.int .u8 2,.string (s.extract i m),.int .i64 nn,.int .i64 l,.int .i64 c] (by rfl) (by rfl) (World.news_of_block (cs:=#[.int .u8 2,.string (s.extract i m),.int .i64 nn,.int .i64 l,.int .i64 c]) (t:=38) (fr:=(0,0)) (heap_alloc_new w1 _)) (by simp [Value.oneCell'])
                (by omega) (by unfold maxLen;omega) (by omega) (by simp;omega) (w1.heap.size+1) (by simp) ?_;intro gg cap' w2 hown2 hgrow hat hlt2))
           all_goals
            have hW2:=hW.grew (t:=⟨2,word digitB s i,nn,l,c⟩) (Below.trans (b:=wr.drew) ⟨rfl,rfl,rfl,Nat.le_refl _,fun _ _=>rfl⟩ hb1) hgrow (by rw [hext.out] at hown2;exact hown2) hfar hend hleft.out
            clear hW hb1 hgrow hown2 hat hrow2 hleft hlt2
            conv in Act.put _ _ _=>(arg 2;whnf)
            conv in Act.put _ _ _=>simp only [Act.put,List.setIfInBounds_toArray,List.set_cons_succ,List.set_cons_zero]
            go_wp2_with fail
            go_roundw
            case rel=>exact⟨m,_,rfl,hW2⟩
            case measure=>simp [intOf];omega
      | false=>
       cases b5 with
       | true=>
        have hl:=lexAt_sign hlt k1 k2 hb3 hb4 hb5
        rw [hlc.out] at hl
        obtain⟨m,hm⟩:∃m,Hid (m=i+1):=⟨_,Lib.hid rfl⟩
        replace k1:=Lib.hid k1
        replace k2:=Lib.hid k2
        clear hsp hb3 hb4 hb5
        have hfar:i<m:=by have:=hm.out;omega
        have him:i≤m:=by omega
        have hend:m≤s.size:=by have:=hm.out;omega
        have hext:=Lib.hid (show s.extract i m=⟨[s[i]].toArray⟩ from by
         rw [hm.out]
         apply ByteArray.ext
         apply Array.ext'
         rw [ByteArray.data_extract]
         simp only [Array.toList_extract,List.extract_eq_take_drop]
         rw [show i+1-i=1 from by omega,show s.data.toList.drop i=s[i]::rest s (i+1) from rest_at hlt]
         rfl)
        have hleft:=Lib.hid (show lexAt s i=sofar [⟨3,[s[i]],0,l,c⟩] (lexAt s m) from by rw [hm.out];exact hl)
        clear hl
        go_upto_region 29 with (first | (go_at_call 46;refine (hL.out _).mono ?_;rintro e w' ⟨rfl,hw⟩;obtain rfl:=hw.symm) | (go_at_call 47;refine (hD.out _).mono ?_;rintro e w' ⟨rfl,hw⟩;obtain rfl:=hw.symm) | (go_at_call 49;refine (hG.out _).mono ?_;rintro e w' ⟨rfl,hw⟩;obtain rfl:=hw.symm))
        clear hL hD hG
        go_cut [6] from 174 to 175 (fun a wx=>wx=wr∧a=.int .i64 m)
        case first=>as_aux_lemma=>
         go_wp2_with fail
         go_meet
         exact⟨rfl,by rw [hm.out];go_num⟩
        case rest=>
         obtain⟨hwc,rfl⟩:=hcut
         obtain rfl:=hwc.symm
         clear hm
         go_upto_region 30 with fail
         go_region_law (first
          | (go_simp;go_at_call 48;refine hspd.out.mono ?_;rintro e w1 ⟨rfl,hb1⟩;have hrow2:=ownsRow_touch hW.row.drew (Touch.of_below hb1 (fun _=>False)) (fun _ _ h=>h);have hzw:wr.heap.size≤w1.heap.size:=hb1.size;go_simp)
          | (refine step_append_lies _ (by rfl) _ _ _ (by rfl) (w.heap.size+1) 38 i0 _ 5 48 Tryd.underlying34 hi0 hz0 hz1 hz2 rfl (by omega) u5 out.length _ (by rfl) (hrow2.alloc _)
              ⟨w1.heap.size,0,none⟩ 1 1 [.int .u8 3,.string (s.extract i m),.int .i64 0,.int .i64 l,.int .i64 c] (by rfl) (by rfl) (World.news_of_block (cs:=#[.int .u8 3,.string (s.extract i m),.int .i64 0,.int .i64 l,.int .i64 c]) (t:=38) (fr:=(0,0)) (heap_alloc_new w1 _)) (by simp [Value.oneCell'])
              (by omega) (by unfold maxLen;omega) (by omega) (by simp;omega) (w1.heap.size+1) (by simp) ?_;intro gg cap' w2 hown2 hgrow hat hlt2))
         all_goals
          have hW2:=hW.grew (t:=⟨3,[s[i]],0,l,c⟩) (Below.trans (b:=wr.drew) ⟨rfl,rfl,rfl,Nat.le_refl _,fun _ _=>rfl⟩ hb1) hgrow (by rw [hext.out] at hown2;exact hown2) hfar hend hleft.out
          clear hW hb1 hgrow hown2 hat hrow2 hleft hlt2
          conv in Act.put _ _ _=>(arg 2;whnf)
          conv in Act.put _ _ _=>simp only [Act.put,List.setIfInBounds_toArray,List.set_cons_succ,List.set_cons_zero]
          go_wp2_with fail
          go_roundw
          case rel=>exact⟨m,_,rfl,hW2⟩
          case measure=>simp [intOf];omega
       | false=>
        have hl:=lexAt_byte hlt k1 k2 hb3 hb4 hb5
        rw [hlc.out] at hl
        replace hl:=Lib.hid (hW.bad hl)
        replace k1:=Lib.hid k1
        replace k2:=Lib.hid k2
        clear hspd hb3 hb4 hb5
        go_upto_region 8 with (first | (go_at_call 46;refine (hL.out _).mono ?_;rintro e w' ⟨rfl,hw⟩;obtain rfl:=hw.symm) | (go_at_call 47;refine (hD.out _).mono ?_;rintro e w' ⟨rfl,hw⟩;obtain rfl:=hw.symm) | (go_at_call 49;refine (hG.out _).mono ?_;rintro e w' ⟨rfl,hw⟩;obtain rfl:=hw.symm))
        clear hL hD hG
        go_wp2_with fail
        refine hsp.out.mono ?_
        rintro e w1 ⟨rfl,hb1⟩
        have hres1:=(hW.kept hb1).res
        have hlt1:=(hW.kept hb1).lt
        have x0:=blk_cell hres1 0
        have x1:=blk_cell hres1 1
        simp at x0 x1
        have xf0:w1.frozen? ⟨w.heap.size,0,none⟩=false:=by simp [World.frozen?,hres1]
        have xf1:w1.frozen? ⟨w.heap.size,1,none⟩=false:=by simp [World.frozen?,hres1]
        have hbb:=Lib.hid (hW.kept hb1).below
        clear hres1 hb1 hsp
        go_wp2_with fail
        refine bodyPost_ret (v:=.tuple #[.slice none 0 0,.agg #[.int .i64 l,.int .i64 c],.int .i64 30]) (by simp [results,Tryd.results21,go_sem, *]) rfl ?_
        unfold LexPost
        rw [hl.out]
        exact⟨rfl,(hbb.out.setCell (p:=⟨w.heap.size,0,none⟩) (Nat.le_refl _) _).setCell (p:=⟨w.heap.size,1,none⟩) (Nat.le_refl _) _⟩
  ·have hie:i=s.size:=by omega
   have hl:=lexAt_end (s:=s) (i:=i) (by omega)
   rw [hlc.out] at hl
   replace hl:=Lib.hid (show lex s.data.toList 1 1=.ok (out++[⟨4,[],0,l,c⟩]) from by rw [hW.left,hl];rfl)
   have g1:decide ((i:Int)<(s.size:Int))=false:=by simp;omega
   have hsp2:=Lib.hid (show Calls Tryd.prog 48 #[.string s,.int .i64 (s.size:Nat)] wr (fun e w'=>e=.returned (.agg #[.int .i64 l,.int .i64 c])∧Below wr.heap.size wr w') from by rw [←hie];exact hsp.out)
   replace hie:=Lib.hid hie
   clear hsp hspd
   go_wp2_with fail
   refine hsp2.out.mono ?_
   rintro e w1 ⟨rfl,hb1⟩
   have hW1:=hW.kept hb1
   have hrow:=hW1.row
   have hlt1:=hW1.lt
   clear hb1 hsp2
   go_wp2_with (at_builtin;refine wpList_append_own_at _ rfl _ _ 34 rfl (w.heap.size+1) 38 i0 _ 5 48 Tryd.underlying34 hi0 hz0 hz1 hz2 rfl (by decide) _ _ _ rfl (hrow.alloc _) ⟨w1.heap.size,0,none⟩ 1 1 [.int .u8 4,.string ⟨#[]⟩,.int .i64 0,.int .i64 l,.int .i64 c] rfl rfl (World.news_of_block (cs:=#[.int .u8 4,.string ⟨#[]⟩,.int .i64 0,.int .i64 l,.int .i64 c]) (t:=38) (fr:=(0,0)) (heap_alloc_new w1 _)) (by simp [Value.oneCell']) (by unfold maxLen;omega) (by omega) (by simp;omega) ?_)
   intro v' w2 hown2 hgrow hnil hat
   obtain⟨h1,h2,h3⟩:=hW1.grown (t:=⟨4,[],0,l,c⟩) (Below.refl _ _) hgrow hown2
   have x0:=blk_cell h1 0
   have x1:=blk_cell h1 1
   simp at x0 x1
   have xf0:w2.frozen? ⟨w.heap.size,0,none⟩=false:=by simp [World.frozen?,h1]
   have xf1:w2.frozen? ⟨w.heap.size,1,none⟩=false:=by simp [World.frozen?,h1]
   have hfin:=Lib.hid (And.intro h2 h3)
   have hlt2:=(Array.getElem?_eq_some_iff.1 h1).1
   clear h1 h2 h3 hown2 hgrow hnil hat hrow hW1
   go_wp2_with fail
   refine bodyPost_ret (v:=.tuple #[v',.agg #[.int .i64 0,.int .i64 0],.int .i64 0]) (by simp [results,Tryd.results21,go_sem, *]) rfl ?_
   unfold LexPost
   rw [hl.out]
   exact⟨⟨_,rfl,row_set' hfin.out.1 _ _⟩,(hfin.out.2.setCell (p:=⟨w.heap.size,0,none⟩) (Nat.le_refl _) _).setCell (p:=⟨w.heap.size,1,none⟩) (Nat.le_refl _) _⟩
end
section
open Go.RowKit Go.Shelf
def toks (r:Except Bad (List Tok)):List Tok:=match r with | .error _=>[] | .ok l=>l
set_option maxRecDepth 20000 in
set_option maxHeartbeats 4000000 in
theorem ref_long {s:ByteArray}{w:World}(hs:1048576<s.size)(h63:s.size≤maxLen):Calls Tryd.prog 21 #[.string s] w fun e w'=>e=.returned (.tuple #[.slice none 0 0,.agg #[.int .i64 0,.int .i64 0],.int .i64 2])∧Below w.heap.size w w':=by
 unfold maxLen at h63
 have d1:decide ((s.size:Int) > 1048576)=true:=by simp;omega
 go_enter Tryd.func21,Tryd.ntmps21
 go_wp2_with fail
 refine bodyPost_ret (v:=.tuple #[.slice none 0 0,.agg #[.int .i64 0,.int .i64 0],.int .i64 2]) (by simp [results,Tryd.results21,go_sem, *]) rfl ⟨rfl,?_⟩
 exact (Below.refl _ _).alloc (Nat.le_refl _) _
end
section
def FormOk (kind:Nat)(text:List UInt8)(num:Nat):Prop:=
 (kind=1∧num=0∧(∃c r,text=c::r∧letterB c=true)∧∀b∈text,partB b=true)∨
 (kind=2∧num=numOf text∧text≠[]∧(∀b∈text,digitB b=true)∧text.length≤9∧(1<text.length→text.head?≠some 48))∨
 (kind=3∧num=0∧∃c,text=[c]∧signB c=true)
theorem digit_no {c:UInt8}(h:digitB c=true):c≠10∧blankB c=false∧c≠59∧letterB c=false:=by
 have hv:=digit_val h
 refine⟨by rintro rfl;exact absurd h (by decide),?_,by rintro rfl;exact absurd h (by decide),?_⟩
 ·cases hb:blankB c with
  | false=>rfl
  | true=>
   unfold blankB at hb
   simp at hb
   rcases hb with (rfl | rfl) | rfl<;>exact absurd h (by decide)
 ·cases hb:letterB c with
  | false=>rfl
  | true=>
   unfold letterB at hb
   simp [UInt8.le_iff_toNat_le] at hb
   rcases hb with hb | hb | rfl
   ·omega
   ·omega
   ·exact absurd h (by decide)
theorem sign_no {c:UInt8}(h:signB c=true):c≠10∧blankB c=false∧c≠59∧letterB c=false∧digitB c=false∧partB c=false:=by
 unfold signB at h
 simp [signs] at h
 rcases h with rfl | rfl | rfl | rfl | rfl | rfl | rfl | rfl | rfl<;>decide
end
section
theorem step_lines {l:List UInt8}{ln cl k ln' cl':Nat}{t:Option Tok}(h:stepL l ln cl=.ok (k,ln',cl',t)):ln≤ln'∧∀x,t=some x→x.line=ln:=by
 refine⟨?_,fun x hx=>by subst hx;exact (step_tok h).2.2.1⟩
 unfold stepL at h
 split at h
 ·cases h
 ·split at h
  ·injection h with h;injection h with h1 h;injection h with h2 h;omega
  ·split at h
   ·injection h with h;injection h with h1 h;injection h with h2 h;omega
   ·split at h
    ·injection h with h;injection h with h1 h;injection h with h2 h;omega
    ·split at h
     ·injection h with h;injection h with h1 h;injection h with h2 h;omega
     ·split at h
      ·split at h
       ·cases h
       ·injection h with h;injection h with h1 h;injection h with h2 h;omega
      ·split at h
       ·injection h with h;injection h with h1 h;injection h with h2 h;omega
       ·cases h
end
section
theorem step_formOk {l:List UInt8}{ln cl k a b:Nat}{t:Tok}(h:stepL l ln cl=.ok (k,a,b,some t)):FormOk t.kind t.text t.num:=by
 cases l with
 | nil=>cases h
 | cons c r=>
  unfold stepL at h
  dsimp only at h
  split at h
  ·injection h with h;injection h with _ h;injection h with _ h;injection h with _ h;cases h
  ·split at h
   ·injection h with h;injection h with _ h;injection h with _ h;injection h with _ h;cases h
   ·split at h
    ·injection h with h;injection h with _ h;injection h with _ h;injection h with _ h;cases h
    ·split at h
     ·rename_i hc
      injection h with h;injection h with _ h;injection h with _ h;injection h with _ h;injection h with h
      subst h
      refine .inl ⟨rfl,rfl,⟨c,r.takeWhile partB,?_,hc⟩,fun b hb=>mem_tw hb⟩
      show (c::r).takeWhile partB=_
      rw [List.takeWhile_cons,if_pos (by unfold partB;rw [hc];rfl)]
     ·split at h
      ·rename_i hc
       split at h
       ·cases h
       ·rename_i hb
        injection h with h;injection h with _ h;injection h with _ h;injection h with _ h;injection h with h
        subst h
        rw [Bool.not_eq_true,Bool.or_eq_false_iff,Bool.or_eq_false_iff] at hb
        obtain⟨⟨-,h9⟩,h1⟩:=hb
        have hcons:(c::r).takeWhile digitB=c::r.takeWhile digitB:=by rw [List.takeWhile_cons,if_pos hc]
        refine .inr (.inl ⟨rfl,rfl,by rw [hcons];simp,fun b hb=>mem_tw hb,?_,fun hl=>?_⟩)
        ·have:=of_decide_eq_false h9
         show ((c::r).takeWhile digitB).length≤9
         omega
        ·show ((c::r).takeWhile digitB).head?≠some 48
         rw [hcons]
         have hl:1<((c::r).takeWhile digitB).length:=hl
         rw [decide_eq_true hl,Bool.true_and] at h1
         have:=of_decide_eq_false h1
         simpa using this
      ·split at h
       ·rename_i hc
        injection h with h;injection h with _ h;injection h with _ h;injection h with _ h;injection h with h
        subst h
        exact .inr (.inr ⟨rfl,rfl,c,rfl,hc⟩)
       ·cases h
theorem lex_formOk:∀(n:Nat) (l:List UInt8) (ln cl:Nat) (T:List Tok),lexN n l ln cl=.ok T→∀t∈T,t.kind=4∨FormOk t.kind t.text t.num
 | n,[],ln,cl,T,h=>by
  rw [lexN.eq_def] at h
  injection h with h
  subst h
  intro t ht
  rw [List.mem_singleton] at ht
  subst ht
  exact .inl rfl
 | 0,c::r,ln,cl,T,h=>by rw [lexN.eq_def] at h;cases h
 | n+1,c::r,ln,cl,T,h=>by
  rw [lexN] at h
  cases hs:stepL (c::r) ln cl with
  | error e=>rw [hs] at h;cases h
  | ok x=>
   obtain⟨k,ln',cl',t⟩:=x
   rw [hs] at h
   cases hr:lexN n ((c::r).drop k) ln' cl' with
   | error e=>have h:add t (lexN n ((c::r).drop k) ln' cl')=.ok T:=h;rw [hr] at h;cases h
   | ok T'=>
    have h:add t (lexN n ((c::r).drop k) ln' cl')=.ok T:=h
    rw [hr] at h
    injection h with h
    subst h
    intro u hu
    rcases List.mem_append.1 hu with hu | hu
    ·cases t with
     | none=>cases hu
     | some x=>
      rw [Option.toList_some,List.mem_singleton] at hu
      subst hu
      exact .inr (step_formOk hs)
    ·exact lex_formOk n _ _ _ _ hr u hu
theorem lex_sorted:∀(n:Nat) (l:List UInt8) (ln cl:Nat) (T:List Tok),lexN n l ln cl=.ok T→(∀t∈T,ln≤t.line)∧∀i x y,T[i]?=some x→T[i+1]?=some y→x.line≤y.line
 | n,[],ln,cl,T,h=>by
  rw [lexN.eq_def] at h
  injection h with h
  subst h
  refine⟨fun t ht=>?_,fun i x y h1 h2=>?_⟩
  ·rw [List.mem_singleton] at ht
   subst ht
   exact Nat.le_refl _
  ·simp at h2
 | 0,c::r,ln,cl,T,h=>by rw [lexN.eq_def] at h;cases h
 | n+1,c::r,ln,cl,T,h=>by
  rw [lexN] at h
  cases hs:stepL (c::r) ln cl with
  | error e=>rw [hs] at h;cases h
  | ok x=>
   obtain⟨k,ln',cl',t⟩:=x
   rw [hs] at h
   have hp:=step_lines hs
   cases hr:lexN n ((c::r).drop k) ln' cl' with
   | error e=>have h:add t (lexN n ((c::r).drop k) ln' cl')=.ok T:=h;rw [hr] at h;cases h
   | ok T'=>
    have h:add t (lexN n ((c::r).drop k) ln' cl')=.ok T:=h
    rw [hr] at h
    injection h with h
    subst h
    obtain⟨h1,h2⟩:=lex_sorted n _ _ _ _ hr
    cases t with
    | none=>exact⟨fun u hu=>Nat.le_trans hp.1 (h1 u hu),h2⟩
    | some x=>
     have hx:=hp.2 x rfl
     refine⟨fun u hu=>?_,fun i u v hu hv=>?_⟩
     ·rw [Option.toList_some,List.singleton_append] at hu
      rcases List.mem_cons.1 hu with rfl | hu
      ·omega
      ·exact Nat.le_trans hp.1 (h1 u hu)
     ·rw [Option.toList_some,List.singleton_append] at hu hv
      cases i with
      | zero=>
       rw [List.getElem?_cons_zero] at hu
       rw [List.getElem?_cons_succ] at hv
       injection hu with hu
       subst hu
       have:=h1 v (List.mem_of_getElem? hv)
       omega
      | succ i=>
       rw [List.getElem?_cons_succ] at hu hv
       exact h2 i u v hu hv
end
end Go.Proofs.YtgcanabckogmmaaDoor
