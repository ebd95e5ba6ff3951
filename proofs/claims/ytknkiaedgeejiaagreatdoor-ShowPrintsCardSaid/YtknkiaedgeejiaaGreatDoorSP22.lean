/- Sr13. -/
import Derived.Test.YtknkiaedgeejiaaGreatDoorSP21
namespace Go.Proofs.YtknkiaedgeejiaaGreatDoor
set_option linter.unusedVariables false
set_option linter.unusedSimpArgs false
section
open Go.RowKit Go.Maps Go.Shelf Go.WideMaps
attribute [local go_sem] Oper.semAt_some
theorem bne_of5 {a b:Int}{e:Bool}(h:(a==b)=e):(a != b)=!e:=by unfold bne;rw [h]
set_option maxRecDepth 20000 in
set_option maxHeartbeats 16000000 in
theorem badInstr5_any {w:World}{d:Ins}{va vl:Value}(ha:RdS w va d.args)(hl:RdS w vl d.labels)(hf:d.Fits):Calls Tryz.prog 104 #[.agg (insV d va vl).toArray] w fun e w'=>e=.returned (.bool (badFieldsB d))∧Below w.heap.size w w':=by
 obtain⟨aa,ca,rfl⟩:=ha.shape
 obtain⟨al,cl,rfl⟩:=hl.shape
 obtain⟨W2,hW2⟩:∃W2,w.alloc (.cells (insV d (.slice aa d.args.length ca) (.slice al d.labels.length cl)).toArray 46)=W2:=⟨_,rfl⟩
 have hb:W2.heap[w.heap.size]?=some (.cells (insV d (.slice aa d.args.length ca) (.slice al d.labels.length cl)).toArray 46 (0,0)):=by rw [←hW2];exact at_newN rfl
 have hB:Below w.heap.size w W2:=by rw [←hW2];exact (Below.refl _ _).alloc (Nat.le_refl _) _
 have hlt:w.heap.size<W2.heap.size:=(Array.getElem?_eq_some_iff.1 hb).1
 have c0:W2.cell? ⟨w.heap.size,0,none⟩=some (.int .u8 d.op):=by rw [blk_cell hb];rfl
 have c1:W2.cell? ⟨w.heap.size,1,none⟩=some (.string d.dst):=by rw [blk_cell hb];rfl
 have c2:W2.cell? ⟨w.heap.size,2,none⟩=some (.string d.a):=by rw [blk_cell hb];rfl
 have c3:W2.cell? ⟨w.heap.size,3,none⟩=some (.string d.b):=by rw [blk_cell hb];rfl
 have c4:W2.cell? ⟨w.heap.size,4,none⟩=some (.int .i64 d.n):=by rw [blk_cell hb];rfl
 have c5:W2.cell? ⟨w.heap.size,5,none⟩=some (.string d.fn):=by rw [blk_cell hb];rfl
 have c6:W2.cell? ⟨w.heap.size,6,none⟩=some (.slice aa d.args.length ca):=by rw [blk_cell hb];rfl
 have c7:W2.cell? ⟨w.heap.size,7,none⟩=some (.slice al d.labels.length cl):=by rw [blk_cell hb];rfl
 replace hW2:=Lib.hid hW2
 replace hB:=Lib.hid hB
 have kF:=Lib.hid (fun w=>fields5_any d.op w)
 obtain⟨-,-,f1,f2,f3,-,f5,f6,f7,f8,f9⟩:=hf
 unfold maxLen at f8 f9
 have hAe:=Lib.hid (fields5 d)
 have hcm:=comb_has d.op
 have hcs:=comb_must d.op
 clear ha hl hb f1 f2 f3 f5 f6 f7
 have kd:=Lib.hid (fun w=>has_d d.op w)
 have ka:=Lib.hid (fun w=>has_a d.op w)
 have kb:=Lib.hid (fun w=>has_b d.op w)
 have kn:=Lib.hid (fun w=>has_n d.op w)
 have kf:=Lib.hid (fun w=>has_f d.op w)
 have kg:=Lib.hid (fun w=>has_g d.op w)
 have kl:=Lib.hid (fun w=>has_l d.op w)
 have md:=Lib.hid (fun w=>must_d d.op w)
 have ma:=Lib.hid (fun w=>must_a d.op w)
 have mb:=Lib.hid (fun w=>must_b d.op w)
 have mf:=Lib.hid (fun w=>must_f d.op w)
 obtain⟨A,hA⟩:∃A,A=fldR d:=⟨_,rfl⟩
 obtain⟨M,hM⟩:∃M,M=mustR d:=⟨_,rfl⟩
 obtain⟨L,hL⟩:∃L,L=lastR d:=⟨_,rfl⟩
 obtain⟨B,hBB⟩:∃B,B=badFieldsB d:=⟨_,rfl⟩
 rw [←hBB,←hA,←hM,←hL] at hAe
 rw [←hBB]
 clear hBB
 unfold fldR at hA
 unfold mustR at hM
 unfold lastR at hL
 obtain⟨op,hop⟩:∃x,x=d.op:=⟨_,rfl⟩
 obtain⟨N,hN⟩:∃x,x=d.n:=⟨_,rfl⟩
 obtain⟨na,hna⟩:∃n,n=d.args.length:=⟨_,rfl⟩
 obtain⟨nl,hnl⟩:∃n,n=d.labels.length:=⟨_,rfl⟩
 rw [←hna] at c6 f8 hA hL
 rw [←hnl] at c7 f9 hA hL
 rw [←hN] at c4 hA hL
 rw [←hop] at kF hcm hcs c0 hA hM hL hAe kd ka kb kn kf kg kl md ma mb mf
 clear hna hnl hN hop
 obtain⟨S,hS⟩:∃S,S=fldB op:=⟨_,rfl⟩
 rw [←hS] at kF hcm hAe kd ka kb kn kf kg kl md ma mb mf
 clear hS
 generalize fhB op 100=hd at *
 generalize fhB op 97=ha at *
 generalize fhB op 98=hb at *
 generalize fhB op 110=hn at *
 generalize fhB op 102=hf at *
 generalize fhB op 103=hg at *
 generalize fhB op 108=hl at *
 generalize fmB op 100=ud at *
 generalize fmB op 97=ua at *
 generalize fmB op 98=ub at *
 generalize fmB op 102=uf at *
 obtain⟨ed,rd⟩:∃e,(d.dst.toList==[])=e:=⟨_,rfl⟩
 obtain⟨ea,ra⟩:∃e,(d.a.toList==[])=e:=⟨_,rfl⟩
 obtain⟨eb,rb⟩:∃e,(d.b.toList==[])=e:=⟨_,rfl⟩
 obtain⟨en,rn⟩:∃e,(N==0)=e:=⟨_,rfl⟩
 obtain⟨ef,rf⟩:∃e,(d.fn.toList==[])=e:=⟨_,rfl⟩
 obtain⟨eg,rg⟩:∃e,((na:Int)==0)=e:=⟨_,rfl⟩
 obtain⟨el,rl⟩:∃e,((nl:Int)==0)=e:=⟨_,rfl⟩
 rw [rd,ra,rb,rn,rf,rg,rl] at hA
 rw [rd,ra,rb,rf] at hM
 replace hA:=Lib.hid hA
 replace hM:=Lib.hid hM
 replace hL:=Lib.hid hL
 replace hAe:=Lib.hid hAe
 replace hcm:=Lib.hid hcm
 replace hcs:=Lib.hid hcs
 replace rd:=Lib.hid rd
 replace ra:=Lib.hid ra
 replace rb:=Lib.hid rb
 replace rn:=Lib.hid rn
 replace rf:=Lib.hid rf
 replace rg:=Lib.hid rg
 replace rl:=Lib.hid rl
 go_enter Tryz.func104,Tryz.ntmps104
 go_upto_region 1 with fail
 rw [hW2.out]
 clear hW2
 by_cases hS0:(S.toList==[])=true
 ·have hAe2:=hAe.out
  rw [hS0,Bool.true_or] at hAe2
  subst hAe2
  clear hcm hcs hA hM hL hAe
  go_wp2_with (go_at_call 157;refine (kF.out _).mono ?_;rintro e w' ⟨rfl,rfl⟩)
  go_ret
  exact⟨rfl,hB.out⟩
 replace hS0:(S.toList==[])=false:=by simpa using hS0
 have hAe:=Lib.hid (show B=(A || (M || L)) from by rw [hAe.out,hS0,Bool.false_or])
 go_upto_region 4 with (go_at_call 157;refine (kF.out _).mono ?_;rintro e w' ⟨rfl,rfl⟩)
 dsimp only [List.append]
 go_cut [78] from 9 to 78 (fun x wx=>x=.bool A∧wx=W2)
 case first=>
  have hcm:_:=hcm.out.resolve_left (by intro h;rw [h,ByteArray.toList_eq] at hS0;cases hS0)
  clear hcs hM hL hAe hS0 f8 f9 md ma mb mf c0
  rcases hcm with ⟨rfl,rfl,rfl,rfl,rfl,rfl,rfl⟩ | ⟨rfl,rfl,rfl,rfl,rfl,rfl,rfl⟩ | ⟨rfl,rfl,rfl,rfl,rfl,rfl,rfl⟩ | ⟨rfl,rfl,rfl,rfl,rfl,rfl,rfl⟩ | ⟨rfl,rfl,rfl,rfl,rfl,rfl,rfl⟩ | ⟨rfl,rfl,rfl,rfl,rfl,rfl,rfl⟩ | ⟨rfl,rfl,rfl,rfl,rfl,rfl,rfl⟩ | ⟨rfl,rfl,rfl,rfl,rfl,rfl,rfl⟩ | ⟨rfl,rfl,rfl,rfl,rfl,rfl,rfl⟩ | ⟨rfl,rfl,rfl,rfl,rfl,rfl,rfl⟩ | ⟨rfl,rfl,rfl,rfl,rfl,rfl,rfl⟩
  ·cases ea with
   | true=>
    cases eb with
    | true=>
     cases ef with
     | true=>
      cases eg with
      | true=>
       cases el with
       | true=>
        have iea:=ra.out
        have ieb:=rb.out
        have ief:=rf.out
        have ieg:=rg.out
        have iel:=rl.out
        have ibg:=bne_of5 ieg
        have ibl:=bne_of5 iel
        clear rd ra rb rn rf rg rl
        go_wp2_with (go_at_call 158;(first | with_reducible refine Calls.mono (kd.out _) ?_ | with_reducible refine Calls.mono (ka.out _) ?_ | with_reducible refine Calls.mono (kb.out _) ?_ | with_reducible refine Calls.mono (kn.out _) ?_ | with_reducible refine Calls.mono (kf.out _) ?_ | with_reducible refine Calls.mono (kg.out _) ?_ | with_reducible refine Calls.mono (kl.out _) ?_);rintro e w' ⟨rfl,rfl⟩)
        go_meet
        exact⟨by rw [hA.out];rfl,rfl⟩
       | false=>
        have iea:=ra.out
        have ieb:=rb.out
        have ief:=rf.out
        have ieg:=rg.out
        have iel:=rl.out
        have ibg:=bne_of5 ieg
        have ibl:=bne_of5 iel
        clear rd ra rb rn rf rg rl
        go_wp2_with (go_at_call 158;(first | with_reducible refine Calls.mono (kd.out _) ?_ | with_reducible refine Calls.mono (ka.out _) ?_ | with_reducible refine Calls.mono (kb.out _) ?_ | with_reducible refine Calls.mono (kn.out _) ?_ | with_reducible refine Calls.mono (kf.out _) ?_ | with_reducible refine Calls.mono (kg.out _) ?_ | with_reducible refine Calls.mono (kl.out _) ?_);rintro e w' ⟨rfl,rfl⟩)
        go_meet
        exact⟨by rw [hA.out];rfl,rfl⟩
      | false=>
       have iea:=ra.out
       have ieb:=rb.out
       have ief:=rf.out
       have ieg:=rg.out
       have ibg:=bne_of5 ieg
       clear rd ra rb rn rf rg rl
       go_wp2_with (go_at_call 158;(first | with_reducible refine Calls.mono (kd.out _) ?_ | with_reducible refine Calls.mono (ka.out _) ?_ | with_reducible refine Calls.mono (kb.out _) ?_ | with_reducible refine Calls.mono (kn.out _) ?_ | with_reducible refine Calls.mono (kf.out _) ?_ | with_reducible refine Calls.mono (kg.out _) ?_ | with_reducible refine Calls.mono (kl.out _) ?_);rintro e w' ⟨rfl,rfl⟩)
       go_meet
       exact⟨by rw [hA.out];rfl,rfl⟩
     | false=>
      have iea:=ra.out
      have ieb:=rb.out
      have ief:=rf.out
      clear rd ra rb rn rf rg rl
      go_wp2_with (go_at_call 158;(first | with_reducible refine Calls.mono (kd.out _) ?_ | with_reducible refine Calls.mono (ka.out _) ?_ | with_reducible refine Calls.mono (kb.out _) ?_ | with_reducible refine Calls.mono (kn.out _) ?_ | with_reducible refine Calls.mono (kf.out _) ?_ | with_reducible refine Calls.mono (kg.out _) ?_ | with_reducible refine Calls.mono (kl.out _) ?_);rintro e w' ⟨rfl,rfl⟩)
      go_meet
      exact⟨by rw [hA.out];rfl,rfl⟩
    | false=>
     have iea:=ra.out
     have ieb:=rb.out
     clear rd ra rb rn rf rg rl
     go_wp2_with (go_at_call 158;(first | with_reducible refine Calls.mono (kd.out _) ?_ | with_reducible refine Calls.mono (ka.out _) ?_ | with_reducible refine Calls.mono (kb.out _) ?_ | with_reducible refine Calls.mono (kn.out _) ?_ | with_reducible refine Calls.mono (kf.out _) ?_ | with_reducible refine Calls.mono (kg.out _) ?_ | with_reducible refine Calls.mono (kl.out _) ?_);rintro e w' ⟨rfl,rfl⟩)
     go_meet
     exact⟨by rw [hA.out];rfl,rfl⟩
   | false=>
    have iea:=ra.out
    clear rd ra rb rn rf rg rl
    go_wp2_with (go_at_call 158;(first | with_reducible refine Calls.mono (kd.out _) ?_ | with_reducible refine Calls.mono (ka.out _) ?_ | with_reducible refine Calls.mono (kb.out _) ?_ | with_reducible refine Calls.mono (kn.out _) ?_ | with_reducible refine Calls.mono (kf.out _) ?_ | with_reducible refine Calls.mono (kg.out _) ?_ | with_reducible refine Calls.mono (kl.out _) ?_);rintro e w' ⟨rfl,rfl⟩)
    go_meet
    exact⟨by rw [hA.out];rfl,rfl⟩
  ·cases ea with
   | true=>
    cases eb with
    | true=>
     cases en with
     | true=>
      cases ef with
      | true=>
       cases eg with
       | true=>
        cases el with
        | true=>
         have iea:=ra.out
         have ieb:=rb.out
         have ien:=rn.out
         have ief:=rf.out
         have ieg:=rg.out
         have iel:=rl.out
         have ibn:=bne_of5 ien
         have ibg:=bne_of5 ieg
         have ibl:=bne_of5 iel
         clear rd ra rb rn rf rg rl
         go_wp2_with (go_at_call 158;(first | with_reducible refine Calls.mono (kd.out _) ?_ | with_reducible refine Calls.mono (ka.out _) ?_ | with_reducible refine Calls.mono (kb.out _) ?_ | with_reducible refine Calls.mono (kn.out _) ?_ | with_reducible refine Calls.mono (kf.out _) ?_ | with_reducible refine Calls.mono (kg.out _) ?_ | with_reducible refine Calls.mono (kl.out _) ?_);rintro e w' ⟨rfl,rfl⟩)
         go_meet
         exact⟨by rw [hA.out];rfl,rfl⟩
        | false=>
         have iea:=ra.out
         have ieb:=rb.out
         have ien:=rn.out
         have ief:=rf.out
         have ieg:=rg.out
         have iel:=rl.out
         have ibn:=bne_of5 ien
         have ibg:=bne_of5 ieg
         have ibl:=bne_of5 iel
         clear rd ra rb rn rf rg rl
         go_wp2_with (go_at_call 158;(first | with_reducible refine Calls.mono (kd.out _) ?_ | with_reducible refine Calls.mono (ka.out _) ?_ | with_reducible refine Calls.mono (kb.out _) ?_ | with_reducible refine Calls.mono (kn.out _) ?_ | with_reducible refine Calls.mono (kf.out _) ?_ | with_reducible refine Calls.mono (kg.out _) ?_ | with_reducible refine Calls.mono (kl.out _) ?_);rintro e w' ⟨rfl,rfl⟩)
         go_meet
         exact⟨by rw [hA.out];rfl,rfl⟩
       | false=>
        have iea:=ra.out
        have ieb:=rb.out
        have ien:=rn.out
        have ief:=rf.out
        have ieg:=rg.out
        have ibn:=bne_of5 ien
        have ibg:=bne_of5 ieg
        clear rd ra rb rn rf rg rl
        go_wp2_with (go_at_call 158;(first | with_reducible refine Calls.mono (kd.out _) ?_ | with_reducible refine Calls.mono (ka.out _) ?_ | with_reducible refine Calls.mono (kb.out _) ?_ | with_reducible refine Calls.mono (kn.out _) ?_ | with_reducible refine Calls.mono (kf.out _) ?_ | with_reducible refine Calls.mono (kg.out _) ?_ | with_reducible refine Calls.mono (kl.out _) ?_);rintro e w' ⟨rfl,rfl⟩)
        go_meet
        exact⟨by rw [hA.out];rfl,rfl⟩
      | false=>
       have iea:=ra.out
       have ieb:=rb.out
       have ien:=rn.out
       have ief:=rf.out
       have ibn:=bne_of5 ien
       clear rd ra rb rn rf rg rl
       go_wp2_with (go_at_call 158;(first | with_reducible refine Calls.mono (kd.out _) ?_ | with_reducible refine Calls.mono (ka.out _) ?_ | with_reducible refine Calls.mono (kb.out _) ?_ | with_reducible refine Calls.mono (kn.out _) ?_ | with_reducible refine Calls.mono (kf.out _) ?_ | with_reducible refine Calls.mono (kg.out _) ?_ | with_reducible refine Calls.mono (kl.out _) ?_);rintro e w' ⟨rfl,rfl⟩)
       go_meet
       exact⟨by rw [hA.out];rfl,rfl⟩
     | false=>
      have iea:=ra.out
      have ieb:=rb.out
      have ien:=rn.out
      have ibn:=bne_of5 ien
      clear rd ra rb rn rf rg rl
      go_wp2_with (go_at_call 158;(first | with_reducible refine Calls.mono (kd.out _) ?_ | with_reducible refine Calls.mono (ka.out _) ?_ | with_reducible refine Calls.mono (kb.out _) ?_ | with_reducible refine Calls.mono (kn.out _) ?_ | with_reducible refine Calls.mono (kf.out _) ?_ | with_reducible refine Calls.mono (kg.out _) ?_ | with_reducible refine Calls.mono (kl.out _) ?_);rintro e w' ⟨rfl,rfl⟩)
      go_meet
      exact⟨by rw [hA.out];rfl,rfl⟩
    | false=>
     have iea:=ra.out
     have ieb:=rb.out
     clear rd ra rb rn rf rg rl
     go_wp2_with (go_at_call 158;(first | with_reducible refine Calls.mono (kd.out _) ?_ | with_reducible refine Calls.mono (ka.out _) ?_ | with_reducible refine Calls.mono (kb.out _) ?_ | with_reducible refine Calls.mono (kn.out _) ?_ | with_reducible refine Calls.mono (kf.out _) ?_ | with_reducible refine Calls.mono (kg.out _) ?_ | with_reducible refine Calls.mono (kl.out _) ?_);rintro e w' ⟨rfl,rfl⟩)
     go_meet
     exact⟨by rw [hA.out];rfl,rfl⟩
   | false=>
    have iea:=ra.out
    clear rd ra rb rn rf rg rl
    go_wp2_with (go_at_call 158;(first | with_reducible refine Calls.mono (kd.out _) ?_ | with_reducible refine Calls.mono (ka.out _) ?_ | with_reducible refine Calls.mono (kb.out _) ?_ | with_reducible refine Calls.mono (kn.out _) ?_ | with_reducible refine Calls.mono (kf.out _) ?_ | with_reducible refine Calls.mono (kg.out _) ?_ | with_reducible refine Calls.mono (kl.out _) ?_);rintro e w' ⟨rfl,rfl⟩)
    go_meet
    exact⟨by rw [hA.out];rfl,rfl⟩
  ·cases ea with
   | true=>
    cases eb with
    | true=>
     cases en with
     | true=>
      cases eg with
      | true=>
       cases el with
       | true=>
        have iea:=ra.out
        have ieb:=rb.out
        have ien:=rn.out
        have ieg:=rg.out
        have iel:=rl.out
        have ibn:=bne_of5 ien
        have ibg:=bne_of5 ieg
        have ibl:=bne_of5 iel
        clear rd ra rb rn rf rg rl
        go_wp2_with (go_at_call 158;(first | with_reducible refine Calls.mono (kd.out _) ?_ | with_reducible refine Calls.mono (ka.out _) ?_ | with_reducible refine Calls.mono (kb.out _) ?_ | with_reducible refine Calls.mono (kn.out _) ?_ | with_reducible refine Calls.mono (kf.out _) ?_ | with_reducible refine Calls.mono (kg.out _) ?_ | with_reducible refine Calls.mono (kl.out _) ?_);rintro e w' ⟨rfl,rfl⟩)
        go_meet
        exact⟨by rw [hA.out];rfl,rfl⟩
       | false=>
        have iea:=ra.out
        have ieb:=rb.out
        have ien:=rn.out
        have ieg:=rg.out
        have iel:=rl.out
        have ibn:=bne_of5 ien
        have ibg:=bne_of5 ieg
        have ibl:=bne_of5 iel
        clear rd ra rb rn rf rg rl
        go_wp2_with (go_at_call 158;(first | with_reducible refine Calls.mono (kd.out _) ?_ | with_reducible refine Calls.mono (ka.out _) ?_ | with_reducible refine Calls.mono (kb.out _) ?_ | with_reducible refine Calls.mono (kn.out _) ?_ | with_reducible refine Calls.mono (kf.out _) ?_ | with_reducible refine Calls.mono (kg.out _) ?_ | with_reducible refine Calls.mono (kl.out _) ?_);rintro e w' ⟨rfl,rfl⟩)
        go_meet
        exact⟨by rw [hA.out];rfl,rfl⟩
      | false=>
       have iea:=ra.out
       have ieb:=rb.out
       have ien:=rn.out
       have ieg:=rg.out
       have ibn:=bne_of5 ien
       have ibg:=bne_of5 ieg
       clear rd ra rb rn rf rg rl
       go_wp2_with (go_at_call 158;(first | with_reducible refine Calls.mono (kd.out _) ?_ | with_reducible refine Calls.mono (ka.out _) ?_ | with_reducible refine Calls.mono (kb.out _) ?_ | with_reducible refine Calls.mono (kn.out _) ?_ | with_reducible refine Calls.mono (kf.out _) ?_ | with_reducible refine Calls.mono (kg.out _) ?_ | with_reducible refine Calls.mono (kl.out _) ?_);rintro e w' ⟨rfl,rfl⟩)
       go_meet
       exact⟨by rw [hA.out];rfl,rfl⟩
     | false=>
      have iea:=ra.out
      have ieb:=rb.out
      have ien:=rn.out
      have ibn:=bne_of5 ien
      clear rd ra rb rn rf rg rl
      go_wp2_with (go_at_call 158;(first | with_reducible refine Calls.mono (kd.out _) ?_ | with_reducible refine Calls.mono (ka.out _) ?_ | with_reducible refine Calls.mono (kb.out _) ?_ | with_reducible refine Calls.mono (kn.out _) ?_ | with_reducible refine Calls.mono (kf.out _) ?_ | with_reducible refine Calls.mono (kg.out _) ?_ | with_reducible refine Calls.mono (kl.out _) ?_);rintro e w' ⟨rfl,rfl⟩)
      go_meet
      exact⟨by rw [hA.out];rfl,rfl⟩
    | false=>
     have iea:=ra.out
     have ieb:=rb.out
     clear rd ra rb rn rf rg rl
     go_wp2_with (go_at_call 158;(first | with_reducible refine Calls.mono (kd.out _) ?_ | with_reducible refine Calls.mono (ka.out _) ?_ | with_reducible refine Calls.mono (kb.out _) ?_ | with_reducible refine Calls.mono (kn.out _) ?_ | with_reducible refine Calls.mono (kf.out _) ?_ | with_reducible refine Calls.mono (kg.out _) ?_ | with_reducible refine Calls.mono (kl.out _) ?_);rintro e w' ⟨rfl,rfl⟩)
     go_meet
     exact⟨by rw [hA.out];rfl,rfl⟩
   | false=>
    have iea:=ra.out
    clear rd ra rb rn rf rg rl
    go_wp2_with (go_at_call 158;(first | with_reducible refine Calls.mono (kd.out _) ?_ | with_reducible refine Calls.mono (ka.out _) ?_ | with_reducible refine Calls.mono (kb.out _) ?_ | with_reducible refine Calls.mono (kn.out _) ?_ | with_reducible refine Calls.mono (kf.out _) ?_ | with_reducible refine Calls.mono (kg.out _) ?_ | with_reducible refine Calls.mono (kl.out _) ?_);rintro e w' ⟨rfl,rfl⟩)
    go_meet
    exact⟨by rw [hA.out];rfl,rfl⟩
  ·cases eb with
   | true=>
    cases en with
    | true=>
     cases ef with
     | true=>
      cases eg with
      | true=>
       cases el with
       | true=>
        have ieb:=rb.out
        have ien:=rn.out
        have ief:=rf.out
        have ieg:=rg.out
        have iel:=rl.out
        have ibn:=bne_of5 ien
        have ibg:=bne_of5 ieg
        have ibl:=bne_of5 iel
        clear rd ra rb rn rf rg rl
        go_wp2_with (go_at_call 158;(first | with_reducible refine Calls.mono (kd.out _) ?_ | with_reducible refine Calls.mono (ka.out _) ?_ | with_reducible refine Calls.mono (kb.out _) ?_ | with_reducible refine Calls.mono (kn.out _) ?_ | with_reducible refine Calls.mono (kf.out _) ?_ | with_reducible refine Calls.mono (kg.out _) ?_ | with_reducible refine Calls.mono (kl.out _) ?_);rintro e w' ⟨rfl,rfl⟩)
        go_meet
        exact⟨by rw [hA.out];rfl,rfl⟩
       | false=>
        have ieb:=rb.out
        have ien:=rn.out
        have ief:=rf.out
        have ieg:=rg.out
        have iel:=rl.out
        have ibn:=bne_of5 ien
        have ibg:=bne_of5 ieg
        have ibl:=bne_of5 iel
        clear rd ra rb rn rf rg rl
        go_wp2_with (go_at_call 158;(first | with_reducible refine Calls.mono (kd.out _) ?_ | with_reducible refine Calls.mono (ka.out _) ?_ | with_reducible refine Calls.mono (kb.out _) ?_ | with_reducible refine Calls.mono (kn.out _) ?_ | with_reducible refine Calls.mono (kf.out _) ?_ | with_reducible refine Calls.mono (kg.out _) ?_ | with_reducible refine Calls.mono (kl.out _) ?_);rintro e w' ⟨rfl,rfl⟩)
        go_meet
        exact⟨by rw [hA.out];rfl,rfl⟩
      | false=>
       have ieb:=rb.out
       have ien:=rn.out
       have ief:=rf.out
       have ieg:=rg.out
       have ibn:=bne_of5 ien
       have ibg:=bne_of5 ieg
       clear rd ra rb rn rf rg rl
       go_wp2_with (go_at_call 158;(first | with_reducible refine Calls.mono (kd.out _) ?_ | with_reducible refine Calls.mono (ka.out _) ?_ | with_reducible refine Calls.mono (kb.out _) ?_ | with_reducible refine Calls.mono (kn.out _) ?_ | with_reducible refine Calls.mono (kf.out _) ?_ | with_reducible refine Calls.mono (kg.out _) ?_ | with_reducible refine Calls.mono (kl.out _) ?_);rintro e w' ⟨rfl,rfl⟩)
       go_meet
       exact⟨by rw [hA.out];rfl,rfl⟩
     | false=>
      have ieb:=rb.out
      have ien:=rn.out
      have ief:=rf.out
      have ibn:=bne_of5 ien
      clear rd ra rb rn rf rg rl
      go_wp2_with (go_at_call 158;(first | with_reducible refine Calls.mono (kd.out _) ?_ | with_reducible refine Calls.mono (ka.out _) ?_ | with_reducible refine Calls.mono (kb.out _) ?_ | with_reducible refine Calls.mono (kn.out _) ?_ | with_reducible refine Calls.mono (kf.out _) ?_ | with_reducible refine Calls.mono (kg.out _) ?_ | with_reducible refine Calls.mono (kl.out _) ?_);rintro e w' ⟨rfl,rfl⟩)
      go_meet
      exact⟨by rw [hA.out];rfl,rfl⟩
    | false=>
     have ieb:=rb.out
     have ien:=rn.out
     have ibn:=bne_of5 ien
     clear rd ra rb rn rf rg rl
     go_wp2_with (go_at_call 158;(first | with_reducible refine Calls.mono (kd.out _) ?_ | with_reducible refine Calls.mono (ka.out _) ?_ | with_reducible refine Calls.mono (kb.out _) ?_ | with_reducible refine Calls.mono (kn.out _) ?_ | with_reducible refine Calls.mono (kf.out _) ?_ | with_reducible refine Calls.mono (kg.out _) ?_ | with_reducible refine Calls.mono (kl.out _) ?_);rintro e w' ⟨rfl,rfl⟩)
     go_meet
     exact⟨by rw [hA.out];rfl,rfl⟩
   | false=>
    have ieb:=rb.out
    clear rd ra rb rn rf rg rl
    go_wp2_with (go_at_call 158;(first | with_reducible refine Calls.mono (kd.out _) ?_ | with_reducible refine Calls.mono (ka.out _) ?_ | with_reducible refine Calls.mono (kb.out _) ?_ | with_reducible refine Calls.mono (kn.out _) ?_ | with_reducible refine Calls.mono (kf.out _) ?_ | with_reducible refine Calls.mono (kg.out _) ?_ | with_reducible refine Calls.mono (kl.out _) ?_);rintro e w' ⟨rfl,rfl⟩)
    go_meet
    exact⟨by rw [hA.out];rfl,rfl⟩
  ·cases ea with
   | true=>
    cases eb with
    | true=>
     cases en with
     | true=>
      cases ef with
      | true=>
       have iea:=ra.out
       have ieb:=rb.out
       have ien:=rn.out
       have ief:=rf.out
       have ibn:=bne_of5 ien
       clear rd ra rb rn rf rg rl
       go_wp2_with (go_at_call 158;(first | with_reducible refine Calls.mono (kd.out _) ?_ | with_reducible refine Calls.mono (ka.out _) ?_ | with_reducible refine Calls.mono (kb.out _) ?_ | with_reducible refine Calls.mono (kn.out _) ?_ | with_reducible refine Calls.mono (kf.out _) ?_ | with_reducible refine Calls.mono (kg.out _) ?_ | with_reducible refine Calls.mono (kl.out _) ?_);rintro e w' ⟨rfl,rfl⟩)
       go_meet
       exact⟨by rw [hA.out];rfl,rfl⟩
      | false=>
       have iea:=ra.out
       have ieb:=rb.out
       have ien:=rn.out
       have ief:=rf.out
       have ibn:=bne_of5 ien
       clear rd ra rb rn rf rg rl
       go_wp2_with (go_at_call 158;(first | with_reducible refine Calls.mono (kd.out _) ?_ | with_reducible refine Calls.mono (ka.out _) ?_ | with_reducible refine Calls.mono (kb.out _) ?_ | with_reducible refine Calls.mono (kn.out _) ?_ | with_reducible refine Calls.mono (kf.out _) ?_ | with_reducible refine Calls.mono (kg.out _) ?_ | with_reducible refine Calls.mono (kl.out _) ?_);rintro e w' ⟨rfl,rfl⟩)
       go_meet
       exact⟨by rw [hA.out];rfl,rfl⟩
     | false=>
      have iea:=ra.out
      have ieb:=rb.out
      have ien:=rn.out
      have ibn:=bne_of5 ien
      clear rd ra rb rn rf rg rl
      go_wp2_with (go_at_call 158;(first | with_reducible refine Calls.mono (kd.out _) ?_ | with_reducible refine Calls.mono (ka.out _) ?_ | with_reducible refine Calls.mono (kb.out _) ?_ | with_reducible refine Calls.mono (kn.out _) ?_ | with_reducible refine Calls.mono (kf.out _) ?_ | with_reducible refine Calls.mono (kg.out _) ?_ | with_reducible refine Calls.mono (kl.out _) ?_);rintro e w' ⟨rfl,rfl⟩)
      go_meet
      exact⟨by rw [hA.out];rfl,rfl⟩
    | false=>
     have iea:=ra.out
     have ieb:=rb.out
     clear rd ra rb rn rf rg rl
     go_wp2_with (go_at_call 158;(first | with_reducible refine Calls.mono (kd.out _) ?_ | with_reducible refine Calls.mono (ka.out _) ?_ | with_reducible refine Calls.mono (kb.out _) ?_ | with_reducible refine Calls.mono (kn.out _) ?_ | with_reducible refine Calls.mono (kf.out _) ?_ | with_reducible refine Calls.mono (kg.out _) ?_ | with_reducible refine Calls.mono (kl.out _) ?_);rintro e w' ⟨rfl,rfl⟩)
     go_meet
     exact⟨by rw [hA.out];rfl,rfl⟩
   | false=>
    have iea:=ra.out
    clear rd ra rb rn rf rg rl
    go_wp2_with (go_at_call 158;(first | with_reducible refine Calls.mono (kd.out _) ?_ | with_reducible refine Calls.mono (ka.out _) ?_ | with_reducible refine Calls.mono (kb.out _) ?_ | with_reducible refine Calls.mono (kn.out _) ?_ | with_reducible refine Calls.mono (kf.out _) ?_ | with_reducible refine Calls.mono (kg.out _) ?_ | with_reducible refine Calls.mono (kl.out _) ?_);rintro e w' ⟨rfl,rfl⟩)
    go_meet
    exact⟨by rw [hA.out];rfl,rfl⟩
  ·cases eb with
   | true=>
    cases ef with
    | true=>
     cases eg with
     | true=>
      cases el with
      | true=>
       have ieb:=rb.out
       have ief:=rf.out
       have ieg:=rg.out
       have iel:=rl.out
       have ibg:=bne_of5 ieg
       have ibl:=bne_of5 iel
       clear rd ra rb rn rf rg rl
       go_wp2_with (go_at_call 158;(first | with_reducible refine Calls.mono (kd.out _) ?_ | with_reducible refine Calls.mono (ka.out _) ?_ | with_reducible refine Calls.mono (kb.out _) ?_ | with_reducible refine Calls.mono (kn.out _) ?_ | with_reducible refine Calls.mono (kf.out _) ?_ | with_reducible refine Calls.mono (kg.out _) ?_ | with_reducible refine Calls.mono (kl.out _) ?_);rintro e w' ⟨rfl,rfl⟩)
       go_meet
       exact⟨by rw [hA.out];rfl,rfl⟩
      | false=>
       have ieb:=rb.out
       have ief:=rf.out
       have ieg:=rg.out
       have iel:=rl.out
       have ibg:=bne_of5 ieg
       have ibl:=bne_of5 iel
       clear rd ra rb rn rf rg rl
       go_wp2_with (go_at_call 158;(first | with_reducible refine Calls.mono (kd.out _) ?_ | with_reducible refine Calls.mono (ka.out _) ?_ | with_reducible refine Calls.mono (kb.out _) ?_ | with_reducible refine Calls.mono (kn.out _) ?_ | with_reducible refine Calls.mono (kf.out _) ?_ | with_reducible refine Calls.mono (kg.out _) ?_ | with_reducible refine Calls.mono (kl.out _) ?_);rintro e w' ⟨rfl,rfl⟩)
       go_meet
       exact⟨by rw [hA.out];rfl,rfl⟩
     | false=>
      have ieb:=rb.out
      have ief:=rf.out
      have ieg:=rg.out
      have ibg:=bne_of5 ieg
      clear rd ra rb rn rf rg rl
      go_wp2_with (go_at_call 158;(first | with_reducible refine Calls.mono (kd.out _) ?_ | with_reducible refine Calls.mono (ka.out _) ?_ | with_reducible refine Calls.mono (kb.out _) ?_ | with_reducible refine Calls.mono (kn.out _) ?_ | with_reducible refine Calls.mono (kf.out _) ?_ | with_reducible refine Calls.mono (kg.out _) ?_ | with_reducible refine Calls.mono (kl.out _) ?_);rintro e w' ⟨rfl,rfl⟩)
      go_meet
      exact⟨by rw [hA.out];rfl,rfl⟩
    | false=>
     have ieb:=rb.out
     have ief:=rf.out
     clear rd ra rb rn rf rg rl
     go_wp2_with (go_at_call 158;(first | with_reducible refine Calls.mono (kd.out _) ?_ | with_reducible refine Calls.mono (ka.out _) ?_ | with_reducible refine Calls.mono (kb.out _) ?_ | with_reducible refine Calls.mono (kn.out _) ?_ | with_reducible refine Calls.mono (kf.out _) ?_ | with_reducible refine Calls.mono (kg.out _) ?_ | with_reducible refine Calls.mono (kl.out _) ?_);rintro e w' ⟨rfl,rfl⟩)
     go_meet
     exact⟨by rw [hA.out];rfl,rfl⟩
   | false=>
    have ieb:=rb.out
    clear rd ra rb rn rf rg rl
    go_wp2_with (go_at_call 158;(first | with_reducible refine Calls.mono (kd.out _) ?_ | with_reducible refine Calls.mono (ka.out _) ?_ | with_reducible refine Calls.mono (kb.out _) ?_ | with_reducible refine Calls.mono (kn.out _) ?_ | with_reducible refine Calls.mono (kf.out _) ?_ | with_reducible refine Calls.mono (kg.out _) ?_ | with_reducible refine Calls.mono (kl.out _) ?_);rintro e w' ⟨rfl,rfl⟩)
    go_meet
    exact⟨by rw [hA.out];rfl,rfl⟩
  ·cases ed with
   | true=>
    cases en with
    | true=>
     cases ef with
     | true=>
      cases eg with
      | true=>
       cases el with
       | true=>
        have ied:=rd.out
        have ien:=rn.out
        have ief:=rf.out
        have ieg:=rg.out
        have iel:=rl.out
        have ibn:=bne_of5 ien
        have ibg:=bne_of5 ieg
        have ibl:=bne_of5 iel
        clear rd ra rb rn rf rg rl
        go_wp2_with (go_at_call 158;(first | with_reducible refine Calls.mono (kd.out _) ?_ | with_reducible refine Calls.mono (ka.out _) ?_ | with_reducible refine Calls.mono (kb.out _) ?_ | with_reducible refine Calls.mono (kn.out _) ?_ | with_reducible refine Calls.mono (kf.out _) ?_ | with_reducible refine Calls.mono (kg.out _) ?_ | with_reducible refine Calls.mono (kl.out _) ?_);rintro e w' ⟨rfl,rfl⟩)
        go_meet
        exact⟨by rw [hA.out];rfl,rfl⟩
       | false=>
        have ied:=rd.out
        have ien:=rn.out
        have ief:=rf.out
        have ieg:=rg.out
        have iel:=rl.out
        have ibn:=bne_of5 ien
        have ibg:=bne_of5 ieg
        have ibl:=bne_of5 iel
        clear rd ra rb rn rf rg rl
        go_wp2_with (go_at_call 158;(first | with_reducible refine Calls.mono (kd.out _) ?_ | with_reducible refine Calls.mono (ka.out _) ?_ | with_reducible refine Calls.mono (kb.out _) ?_ | with_reducible refine Calls.mono (kn.out _) ?_ | with_reducible refine Calls.mono (kf.out _) ?_ | with_reducible refine Calls.mono (kg.out _) ?_ | with_reducible refine Calls.mono (kl.out _) ?_);rintro e w' ⟨rfl,rfl⟩)
        go_meet
        exact⟨by rw [hA.out];rfl,rfl⟩
      | false=>
       have ied:=rd.out
       have ien:=rn.out
       have ief:=rf.out
       have ieg:=rg.out
       have ibn:=bne_of5 ien
       have ibg:=bne_of5 ieg
       clear rd ra rb rn rf rg rl
       go_wp2_with (go_at_call 158;(first | with_reducible refine Calls.mono (kd.out _) ?_ | with_reducible refine Calls.mono (ka.out _) ?_ | with_reducible refine Calls.mono (kb.out _) ?_ | with_reducible refine Calls.mono (kn.out _) ?_ | with_reducible refine Calls.mono (kf.out _) ?_ | with_reducible refine Calls.mono (kg.out _) ?_ | with_reducible refine Calls.mono (kl.out _) ?_);rintro e w' ⟨rfl,rfl⟩)
       go_meet
       exact⟨by rw [hA.out];rfl,rfl⟩
     | false=>
      have ied:=rd.out
      have ien:=rn.out
      have ief:=rf.out
      have ibn:=bne_of5 ien
      clear rd ra rb rn rf rg rl
      go_wp2_with (go_at_call 158;(first | with_reducible refine Calls.mono (kd.out _) ?_ | with_reducible refine Calls.mono (ka.out _) ?_ | with_reducible refine Calls.mono (kb.out _) ?_ | with_reducible refine Calls.mono (kn.out _) ?_ | with_reducible refine Calls.mono (kf.out _) ?_ | with_reducible refine Calls.mono (kg.out _) ?_ | with_reducible refine Calls.mono (kl.out _) ?_);rintro e w' ⟨rfl,rfl⟩)
      go_meet
      exact⟨by rw [hA.out];rfl,rfl⟩
    | false=>
     have ied:=rd.out
     have ien:=rn.out
     have ibn:=bne_of5 ien
     clear rd ra rb rn rf rg rl
     go_wp2_with (go_at_call 158;(first | with_reducible refine Calls.mono (kd.out _) ?_ | with_reducible refine Calls.mono (ka.out _) ?_ | with_reducible refine Calls.mono (kb.out _) ?_ | with_reducible refine Calls.mono (kn.out _) ?_ | with_reducible refine Calls.mono (kf.out _) ?_ | with_reducible refine Calls.mono (kg.out _) ?_ | with_reducible refine Calls.mono (kl.out _) ?_);rintro e w' ⟨rfl,rfl⟩)
     go_meet
     exact⟨by rw [hA.out];rfl,rfl⟩
   | false=>
    have ied:=rd.out
    clear rd ra rb rn rf rg rl
    go_wp2_with (go_at_call 158;(first | with_reducible refine Calls.mono (kd.out _) ?_ | with_reducible refine Calls.mono (ka.out _) ?_ | with_reducible refine Calls.mono (kb.out _) ?_ | with_reducible refine Calls.mono (kn.out _) ?_ | with_reducible refine Calls.mono (kf.out _) ?_ | with_reducible refine Calls.mono (kg.out _) ?_ | with_reducible refine Calls.mono (kl.out _) ?_);rintro e w' ⟨rfl,rfl⟩)
    go_meet
    exact⟨by rw [hA.out];rfl,rfl⟩
  ·cases ea with
   | true=>
    cases eb with
    | true=>
     cases en with
     | true=>
      cases el with
      | true=>
       have iea:=ra.out
       have ieb:=rb.out
       have ien:=rn.out
       have iel:=rl.out
       have ibn:=bne_of5 ien
       have ibl:=bne_of5 iel
       clear rd ra rb rn rf rg rl
       go_wp2_with (go_at_call 158;(first | with_reducible refine Calls.mono (kd.out _) ?_ | with_reducible refine Calls.mono (ka.out _) ?_ | with_reducible refine Calls.mono (kb.out _) ?_ | with_reducible refine Calls.mono (kn.out _) ?_ | with_reducible refine Calls.mono (kf.out _) ?_ | with_reducible refine Calls.mono (kg.out _) ?_ | with_reducible refine Calls.mono (kl.out _) ?_);rintro e w' ⟨rfl,rfl⟩)
       go_meet
       exact⟨by rw [hA.out];rfl,rfl⟩
      | false=>
       have iea:=ra.out
       have ieb:=rb.out
       have ien:=rn.out
       have iel:=rl.out
       have ibn:=bne_of5 ien
       have ibl:=bne_of5 iel
       clear rd ra rb rn rf rg rl
       go_wp2_with (go_at_call 158;(first | with_reducible refine Calls.mono (kd.out _) ?_ | with_reducible refine Calls.mono (ka.out _) ?_ | with_reducible refine Calls.mono (kb.out _) ?_ | with_reducible refine Calls.mono (kn.out _) ?_ | with_reducible refine Calls.mono (kf.out _) ?_ | with_reducible refine Calls.mono (kg.out _) ?_ | with_reducible refine Calls.mono (kl.out _) ?_);rintro e w' ⟨rfl,rfl⟩)
       go_meet
       exact⟨by rw [hA.out];rfl,rfl⟩
     | false=>
      have iea:=ra.out
      have ieb:=rb.out
      have ien:=rn.out
      have ibn:=bne_of5 ien
      clear rd ra rb rn rf rg rl
      go_wp2_with (go_at_call 158;(first | with_reducible refine Calls.mono (kd.out _) ?_ | with_reducible refine Calls.mono (ka.out _) ?_ | with_reducible refine Calls.mono (kb.out _) ?_ | with_reducible refine Calls.mono (kn.out _) ?_ | with_reducible refine Calls.mono (kf.out _) ?_ | with_reducible refine Calls.mono (kg.out _) ?_ | with_reducible refine Calls.mono (kl.out _) ?_);rintro e w' ⟨rfl,rfl⟩)
      go_meet
      exact⟨by rw [hA.out];rfl,rfl⟩
    | false=>
     have iea:=ra.out
     have ieb:=rb.out
     clear rd ra rb rn rf rg rl
     go_wp2_with (go_at_call 158;(first | with_reducible refine Calls.mono (kd.out _) ?_ | with_reducible refine Calls.mono (ka.out _) ?_ | with_reducible refine Calls.mono (kb.out _) ?_ | with_reducible refine Calls.mono (kn.out _) ?_ | with_reducible refine Calls.mono (kf.out _) ?_ | with_reducible refine Calls.mono (kg.out _) ?_ | with_reducible refine Calls.mono (kl.out _) ?_);rintro e w' ⟨rfl,rfl⟩)
     go_meet
     exact⟨by rw [hA.out];rfl,rfl⟩
   | false=>
    have iea:=ra.out
    clear rd ra rb rn rf rg rl
    go_wp2_with (go_at_call 158;(first | with_reducible refine Calls.mono (kd.out _) ?_ | with_reducible refine Calls.mono (ka.out _) ?_ | with_reducible refine Calls.mono (kb.out _) ?_ | with_reducible refine Calls.mono (kn.out _) ?_ | with_reducible refine Calls.mono (kf.out _) ?_ | with_reducible refine Calls.mono (kg.out _) ?_ | with_reducible refine Calls.mono (kl.out _) ?_);rintro e w' ⟨rfl,rfl⟩)
    go_meet
    exact⟨by rw [hA.out];rfl,rfl⟩
  ·cases eb with
   | true=>
    cases en with
    | true=>
     cases ef with
     | true=>
      cases el with
      | true=>
       have ieb:=rb.out
       have ien:=rn.out
       have ief:=rf.out
       have iel:=rl.out
       have ibn:=bne_of5 ien
       have ibl:=bne_of5 iel
       clear rd ra rb rn rf rg rl
       go_wp2_with (go_at_call 158;(first | with_reducible refine Calls.mono (kd.out _) ?_ | with_reducible refine Calls.mono (ka.out _) ?_ | with_reducible refine Calls.mono (kb.out _) ?_ | with_reducible refine Calls.mono (kn.out _) ?_ | with_reducible refine Calls.mono (kf.out _) ?_ | with_reducible refine Calls.mono (kg.out _) ?_ | with_reducible refine Calls.mono (kl.out _) ?_);rintro e w' ⟨rfl,rfl⟩)
       go_meet
       exact⟨by rw [hA.out];rfl,rfl⟩
      | false=>
       have ieb:=rb.out
       have ien:=rn.out
       have ief:=rf.out
       have iel:=rl.out
       have ibn:=bne_of5 ien
       have ibl:=bne_of5 iel
       clear rd ra rb rn rf rg rl
       go_wp2_with (go_at_call 158;(first | with_reducible refine Calls.mono (kd.out _) ?_ | with_reducible refine Calls.mono (ka.out _) ?_ | with_reducible refine Calls.mono (kb.out _) ?_ | with_reducible refine Calls.mono (kn.out _) ?_ | with_reducible refine Calls.mono (kf.out _) ?_ | with_reducible refine Calls.mono (kg.out _) ?_ | with_reducible refine Calls.mono (kl.out _) ?_);rintro e w' ⟨rfl,rfl⟩)
       go_meet
       exact⟨by rw [hA.out];rfl,rfl⟩
     | false=>
      have ieb:=rb.out
      have ien:=rn.out
      have ief:=rf.out
      have ibn:=bne_of5 ien
      clear rd ra rb rn rf rg rl
      go_wp2_with (go_at_call 158;(first | with_reducible refine Calls.mono (kd.out _) ?_ | with_reducible refine Calls.mono (ka.out _) ?_ | with_reducible refine Calls.mono (kb.out _) ?_ | with_reducible refine Calls.mono (kn.out _) ?_ | with_reducible refine Calls.mono (kf.out _) ?_ | with_reducible refine Calls.mono (kg.out _) ?_ | with_reducible refine Calls.mono (kl.out _) ?_);rintro e w' ⟨rfl,rfl⟩)
      go_meet
      exact⟨by rw [hA.out];rfl,rfl⟩
    | false=>
     have ieb:=rb.out
     have ien:=rn.out
     have ibn:=bne_of5 ien
     clear rd ra rb rn rf rg rl
     go_wp2_with (go_at_call 158;(first | with_reducible refine Calls.mono (kd.out _) ?_ | with_reducible refine Calls.mono (ka.out _) ?_ | with_reducible refine Calls.mono (kb.out _) ?_ | with_reducible refine Calls.mono (kn.out _) ?_ | with_reducible refine Calls.mono (kf.out _) ?_ | with_reducible refine Calls.mono (kg.out _) ?_ | with_reducible refine Calls.mono (kl.out _) ?_);rintro e w' ⟨rfl,rfl⟩)
     go_meet
     exact⟨by rw [hA.out];rfl,rfl⟩
   | false=>
    have ieb:=rb.out
    clear rd ra rb rn rf rg rl
    go_wp2_with (go_at_call 158;(first | with_reducible refine Calls.mono (kd.out _) ?_ | with_reducible refine Calls.mono (ka.out _) ?_ | with_reducible refine Calls.mono (kb.out _) ?_ | with_reducible refine Calls.mono (kn.out _) ?_ | with_reducible refine Calls.mono (kf.out _) ?_ | with_reducible refine Calls.mono (kg.out _) ?_ | with_reducible refine Calls.mono (kl.out _) ?_);rintro e w' ⟨rfl,rfl⟩)
    go_meet
    exact⟨by rw [hA.out];rfl,rfl⟩
  ·cases ed with
   | true=>
    cases ea with
    | true=>
     cases eb with
     | true=>
      cases en with
      | true=>
       cases ef with
       | true=>
        cases eg with
        | true=>
         have ied:=rd.out
         have iea:=ra.out
         have ieb:=rb.out
         have ien:=rn.out
         have ief:=rf.out
         have ieg:=rg.out
         have ibn:=bne_of5 ien
         have ibg:=bne_of5 ieg
         clear rd ra rb rn rf rg rl
         go_wp2_with (go_at_call 158;(first | with_reducible refine Calls.mono (kd.out _) ?_ | with_reducible refine Calls.mono (ka.out _) ?_ | with_reducible refine Calls.mono (kb.out _) ?_ | with_reducible refine Calls.mono (kn.out _) ?_ | with_reducible refine Calls.mono (kf.out _) ?_ | with_reducible refine Calls.mono (kg.out _) ?_ | with_reducible refine Calls.mono (kl.out _) ?_);rintro e w' ⟨rfl,rfl⟩)
         go_meet
         exact⟨by rw [hA.out];rfl,rfl⟩
        | false=>
         have ied:=rd.out
         have iea:=ra.out
         have ieb:=rb.out
         have ien:=rn.out
         have ief:=rf.out
         have ieg:=rg.out
         have ibn:=bne_of5 ien
         have ibg:=bne_of5 ieg
         clear rd ra rb rn rf rg rl
         go_wp2_with (go_at_call 158;(first | with_reducible refine Calls.mono (kd.out _) ?_ | with_reducible refine Calls.mono (ka.out _) ?_ | with_reducible refine Calls.mono (kb.out _) ?_ | with_reducible refine Calls.mono (kn.out _) ?_ | with_reducible refine Calls.mono (kf.out _) ?_ | with_reducible refine Calls.mono (kg.out _) ?_ | with_reducible refine Calls.mono (kl.out _) ?_);rintro e w' ⟨rfl,rfl⟩)
         go_meet
         exact⟨by rw [hA.out];rfl,rfl⟩
       | false=>
        have ied:=rd.out
        have iea:=ra.out
        have ieb:=rb.out
        have ien:=rn.out
        have ief:=rf.out
        have ibn:=bne_of5 ien
        clear rd ra rb rn rf rg rl
        go_wp2_with (go_at_call 158;(first | with_reducible refine Calls.mono (kd.out _) ?_ | with_reducible refine Calls.mono (ka.out _) ?_ | with_reducible refine Calls.mono (kb.out _) ?_ | with_reducible refine Calls.mono (kn.out _) ?_ | with_reducible refine Calls.mono (kf.out _) ?_ | with_reducible refine Calls.mono (kg.out _) ?_ | with_reducible refine Calls.mono (kl.out _) ?_);rintro e w' ⟨rfl,rfl⟩)
        go_meet
        exact⟨by rw [hA.out];rfl,rfl⟩
      | false=>
       have ied:=rd.out
       have iea:=ra.out
       have ieb:=rb.out
       have ien:=rn.out
       have ibn:=bne_of5 ien
       clear rd ra rb rn rf rg rl
       go_wp2_with (go_at_call 158;(first | with_reducible refine Calls.mono (kd.out _) ?_ | with_reducible refine Calls.mono (ka.out _) ?_ | with_reducible refine Calls.mono (kb.out _) ?_ | with_reducible refine Calls.mono (kn.out _) ?_ | with_reducible refine Calls.mono (kf.out _) ?_ | with_reducible refine Calls.mono (kg.out _) ?_ | with_reducible refine Calls.mono (kl.out _) ?_);rintro e w' ⟨rfl,rfl⟩)
       go_meet
       exact⟨by rw [hA.out];rfl,rfl⟩
     | false=>
      have ied:=rd.out
      have iea:=ra.out
      have ieb:=rb.out
      clear rd ra rb rn rf rg rl
      go_wp2_with (go_at_call 158;(first | with_reducible refine Calls.mono (kd.out _) ?_ | with_reducible refine Calls.mono (ka.out _) ?_ | with_reducible refine Calls.mono (kb.out _) ?_ | with_reducible refine Calls.mono (kn.out _) ?_ | with_reducible refine Calls.mono (kf.out _) ?_ | with_reducible refine Calls.mono (kg.out _) ?_ | with_reducible refine Calls.mono (kl.out _) ?_);rintro e w' ⟨rfl,rfl⟩)
      go_meet
      exact⟨by rw [hA.out];rfl,rfl⟩
    | false=>
     have ied:=rd.out
     have iea:=ra.out
     clear rd ra rb rn rf rg rl
     go_wp2_with (go_at_call 158;(first | with_reducible refine Calls.mono (kd.out _) ?_ | with_reducible refine Calls.mono (ka.out _) ?_ | with_reducible refine Calls.mono (kb.out _) ?_ | with_reducible refine Calls.mono (kn.out _) ?_ | with_reducible refine Calls.mono (kf.out _) ?_ | with_reducible refine Calls.mono (kg.out _) ?_ | with_reducible refine Calls.mono (kl.out _) ?_);rintro e w' ⟨rfl,rfl⟩)
     go_meet
     exact⟨by rw [hA.out];rfl,rfl⟩
   | false=>
    have ied:=rd.out
    clear rd ra rb rn rf rg rl
    go_wp2_with (go_at_call 158;(first | with_reducible refine Calls.mono (kd.out _) ?_ | with_reducible refine Calls.mono (ka.out _) ?_ | with_reducible refine Calls.mono (kb.out _) ?_ | with_reducible refine Calls.mono (kn.out _) ?_ | with_reducible refine Calls.mono (kf.out _) ?_ | with_reducible refine Calls.mono (kg.out _) ?_ | with_reducible refine Calls.mono (kl.out _) ?_);rintro e w' ⟨rfl,rfl⟩)
    go_meet
    exact⟨by rw [hA.out];rfl,rfl⟩
  ·cases ed with
   | true=>
    cases eb with
    | true=>
     cases en with
     | true=>
      cases ef with
      | true=>
       cases eg with
       | true=>
        cases el with
        | true=>
         have ied:=rd.out
         have ieb:=rb.out
         have ien:=rn.out
         have ief:=rf.out
         have ieg:=rg.out
         have iel:=rl.out
         have ibn:=bne_of5 ien
         have ibg:=bne_of5 ieg
         have ibl:=bne_of5 iel
         clear rd ra rb rn rf rg rl
         go_wp2_with (go_at_call 158;(first | with_reducible refine Calls.mono (kd.out _) ?_ | with_reducible refine Calls.mono (ka.out _) ?_ | with_reducible refine Calls.mono (kb.out _) ?_ | with_reducible refine Calls.mono (kn.out _) ?_ | with_reducible refine Calls.mono (kf.out _) ?_ | with_reducible refine Calls.mono (kg.out _) ?_ | with_reducible refine Calls.mono (kl.out _) ?_);rintro e w' ⟨rfl,rfl⟩)
         go_meet
         exact⟨by rw [hA.out];rfl,rfl⟩
        | false=>
         have ied:=rd.out
         have ieb:=rb.out
         have ien:=rn.out
         have ief:=rf.out
         have ieg:=rg.out
         have iel:=rl.out
         have ibn:=bne_of5 ien
         have ibg:=bne_of5 ieg
         have ibl:=bne_of5 iel
         clear rd ra rb rn rf rg rl
         go_wp2_with (go_at_call 158;(first | with_reducible refine Calls.mono (kd.out _) ?_ | with_reducible refine Calls.mono (ka.out _) ?_ | with_reducible refine Calls.mono (kb.out _) ?_ | with_reducible refine Calls.mono (kn.out _) ?_ | with_reducible refine Calls.mono (kf.out _) ?_ | with_reducible refine Calls.mono (kg.out _) ?_ | with_reducible refine Calls.mono (kl.out _) ?_);rintro e w' ⟨rfl,rfl⟩)
         go_meet
         exact⟨by rw [hA.out];rfl,rfl⟩
       | false=>
        have ied:=rd.out
        have ieb:=rb.out
        have ien:=rn.out
        have ief:=rf.out
        have ieg:=rg.out
        have ibn:=bne_of5 ien
        have ibg:=bne_of5 ieg
        clear rd ra rb rn rf rg rl
        go_wp2_with (go_at_call 158;(first | with_reducible refine Calls.mono (kd.out _) ?_ | with_reducible refine Calls.mono (ka.out _) ?_ | with_reducible refine Calls.mono (kb.out _) ?_ | with_reducible refine Calls.mono (kn.out _) ?_ | with_reducible refine Calls.mono (kf.out _) ?_ | with_reducible refine Calls.mono (kg.out _) ?_ | with_reducible refine Calls.mono (kl.out _) ?_);rintro e w' ⟨rfl,rfl⟩)
        go_meet
        exact⟨by rw [hA.out];rfl,rfl⟩
      | false=>
       have ied:=rd.out
       have ieb:=rb.out
       have ien:=rn.out
       have ief:=rf.out
       have ibn:=bne_of5 ien
       clear rd ra rb rn rf rg rl
       go_wp2_with (go_at_call 158;(first | with_reducible refine Calls.mono (kd.out _) ?_ | with_reducible refine Calls.mono (ka.out _) ?_ | with_reducible refine Calls.mono (kb.out _) ?_ | with_reducible refine Calls.mono (kn.out _) ?_ | with_reducible refine Calls.mono (kf.out _) ?_ | with_reducible refine Calls.mono (kg.out _) ?_ | with_reducible refine Calls.mono (kl.out _) ?_);rintro e w' ⟨rfl,rfl⟩)
       go_meet
       exact⟨by rw [hA.out];rfl,rfl⟩
     | false=>
      have ied:=rd.out
      have ieb:=rb.out
      have ien:=rn.out
      have ibn:=bne_of5 ien
      clear rd ra rb rn rf rg rl
      go_wp2_with (go_at_call 158;(first | with_reducible refine Calls.mono (kd.out _) ?_ | with_reducible refine Calls.mono (ka.out _) ?_ | with_reducible refine Calls.mono (kb.out _) ?_ | with_reducible refine Calls.mono (kn.out _) ?_ | with_reducible refine Calls.mono (kf.out _) ?_ | with_reducible refine Calls.mono (kg.out _) ?_ | with_reducible refine Calls.mono (kl.out _) ?_);rintro e w' ⟨rfl,rfl⟩)
      go_meet
      exact⟨by rw [hA.out];rfl,rfl⟩
    | false=>
     have ied:=rd.out
     have ieb:=rb.out
     clear rd ra rb rn rf rg rl
     go_wp2_with (go_at_call 158;(first | with_reducible refine Calls.mono (kd.out _) ?_ | with_reducible refine Calls.mono (ka.out _) ?_ | with_reducible refine Calls.mono (kb.out _) ?_ | with_reducible refine Calls.mono (kn.out _) ?_ | with_reducible refine Calls.mono (kf.out _) ?_ | with_reducible refine Calls.mono (kg.out _) ?_ | with_reducible refine Calls.mono (kl.out _) ?_);rintro e w' ⟨rfl,rfl⟩)
     go_meet
     exact⟨by rw [hA.out];rfl,rfl⟩
   | false=>
    have ied:=rd.out
    clear rd ra rb rn rf rg rl
    go_wp2_with (go_at_call 158;(first | with_reducible refine Calls.mono (kd.out _) ?_ | with_reducible refine Calls.mono (ka.out _) ?_ | with_reducible refine Calls.mono (kb.out _) ?_ | with_reducible refine Calls.mono (kn.out _) ?_ | with_reducible refine Calls.mono (kf.out _) ?_ | with_reducible refine Calls.mono (kg.out _) ?_ | with_reducible refine Calls.mono (kl.out _) ?_);rintro e w' ⟨rfl,rfl⟩)
    go_meet
    exact⟨by rw [hA.out];rfl,rfl⟩
 case rest=>
  obtain⟨rfl,rfl⟩:=hcut
  clear hcm hA kd ka kb kn kf kg kl kF rn rg rl
  cases A with
  | true=>
   go_wp2_with fail
   go_ret
   exact⟨by rw [hAe.out];rfl,hB.out⟩
  | false=>
   go_upto_region 6 with fail
   go_cut [112] from 79 to 112 (fun x w2=>x=.bool M∧w2=wc)
   case first=>
    clear hL hAe hS0 f8 f9 c0 c4 c6 c7
    rcases hcs.out with ⟨rfl,rfl,rfl,rfl⟩ | ⟨rfl,rfl,rfl,rfl⟩ | ⟨rfl,rfl,rfl,rfl⟩ | ⟨rfl,rfl,rfl,rfl⟩ | ⟨rfl,rfl,rfl,rfl⟩ | ⟨rfl,rfl,rfl,rfl⟩ | ⟨rfl,rfl,rfl,rfl⟩
    all_goals clear hcs
    ·cases ed with
     | true=>
      have ied:=rd.out
      clear rd ra rb rf
      go_wp2_with (go_at_call 160;(first | with_reducible refine Calls.mono (md.out _) ?_ | with_reducible refine Calls.mono (ma.out _) ?_ | with_reducible refine Calls.mono (mb.out _) ?_ | with_reducible refine Calls.mono (mf.out _) ?_);rintro e w' ⟨rfl,rfl⟩)
      go_meet
      exact⟨by rw [hM.out];rfl,rfl⟩
     | false=>
      have ied:=rd.out
      clear rd ra rb rf
      go_wp2_with (go_at_call 160;(first | with_reducible refine Calls.mono (md.out _) ?_ | with_reducible refine Calls.mono (ma.out _) ?_ | with_reducible refine Calls.mono (mb.out _) ?_ | with_reducible refine Calls.mono (mf.out _) ?_);rintro e w' ⟨rfl,rfl⟩)
      go_meet
      exact⟨by rw [hM.out];rfl,rfl⟩
    ·cases ed with
     | true=>
      have ied:=rd.out
      clear rd ra rb rf
      go_wp2_with (go_at_call 160;(first | with_reducible refine Calls.mono (md.out _) ?_ | with_reducible refine Calls.mono (ma.out _) ?_ | with_reducible refine Calls.mono (mb.out _) ?_ | with_reducible refine Calls.mono (mf.out _) ?_);rintro e w' ⟨rfl,rfl⟩)
      go_meet
      exact⟨by rw [hM.out];rfl,rfl⟩
     | false=>
      cases ef with
      | true=>
       have ied:=rd.out
       have ief:=rf.out
       clear rd ra rb rf
       go_wp2_with (go_at_call 160;(first | with_reducible refine Calls.mono (md.out _) ?_ | with_reducible refine Calls.mono (ma.out _) ?_ | with_reducible refine Calls.mono (mb.out _) ?_ | with_reducible refine Calls.mono (mf.out _) ?_);rintro e w' ⟨rfl,rfl⟩)
       go_meet
       exact⟨by rw [hM.out];rfl,rfl⟩
      | false=>
       have ied:=rd.out
       have ief:=rf.out
       clear rd ra rb rf
       go_wp2_with (go_at_call 160;(first | with_reducible refine Calls.mono (md.out _) ?_ | with_reducible refine Calls.mono (ma.out _) ?_ | with_reducible refine Calls.mono (mb.out _) ?_ | with_reducible refine Calls.mono (mf.out _) ?_);rintro e w' ⟨rfl,rfl⟩)
       go_meet
       exact⟨by rw [hM.out];rfl,rfl⟩
    ·cases ed with
     | true=>
      have ied:=rd.out
      clear rd ra rb rf
      go_wp2_with (go_at_call 160;(first | with_reducible refine Calls.mono (md.out _) ?_ | with_reducible refine Calls.mono (ma.out _) ?_ | with_reducible refine Calls.mono (mb.out _) ?_ | with_reducible refine Calls.mono (mf.out _) ?_);rintro e w' ⟨rfl,rfl⟩)
      go_meet
      exact⟨by rw [hM.out];rfl,rfl⟩
     | false=>
      cases ea with
      | true=>
       have ied:=rd.out
       have iea:=ra.out
       clear rd ra rb rf
       go_wp2_with (go_at_call 160;(first | with_reducible refine Calls.mono (md.out _) ?_ | with_reducible refine Calls.mono (ma.out _) ?_ | with_reducible refine Calls.mono (mb.out _) ?_ | with_reducible refine Calls.mono (mf.out _) ?_);rintro e w' ⟨rfl,rfl⟩)
       go_meet
       exact⟨by rw [hM.out];rfl,rfl⟩
      | false=>
       have ied:=rd.out
       have iea:=ra.out
       clear rd ra rb rf
       go_wp2_with (go_at_call 160;(first | with_reducible refine Calls.mono (md.out _) ?_ | with_reducible refine Calls.mono (ma.out _) ?_ | with_reducible refine Calls.mono (mb.out _) ?_ | with_reducible refine Calls.mono (mf.out _) ?_);rintro e w' ⟨rfl,rfl⟩)
       go_meet
       exact⟨by rw [hM.out];rfl,rfl⟩
    ·cases ea with
     | true=>
      have iea:=ra.out
      clear rd ra rb rf
      go_wp2_with (go_at_call 160;(first | with_reducible refine Calls.mono (md.out _) ?_ | with_reducible refine Calls.mono (ma.out _) ?_ | with_reducible refine Calls.mono (mb.out _) ?_ | with_reducible refine Calls.mono (mf.out _) ?_);rintro e w' ⟨rfl,rfl⟩)
      go_meet
      exact⟨by rw [hM.out];rfl,rfl⟩
     | false=>
      cases eb with
      | true=>
       have iea:=ra.out
       have ieb:=rb.out
       clear rd ra rb rf
       go_wp2_with (go_at_call 160;(first | with_reducible refine Calls.mono (md.out _) ?_ | with_reducible refine Calls.mono (ma.out _) ?_ | with_reducible refine Calls.mono (mb.out _) ?_ | with_reducible refine Calls.mono (mf.out _) ?_);rintro e w' ⟨rfl,rfl⟩)
       go_meet
       exact⟨by rw [hM.out];rfl,rfl⟩
      | false=>
       have iea:=ra.out
       have ieb:=rb.out
       clear rd ra rb rf
       go_wp2_with (go_at_call 160;(first | with_reducible refine Calls.mono (md.out _) ?_ | with_reducible refine Calls.mono (ma.out _) ?_ | with_reducible refine Calls.mono (mb.out _) ?_ | with_reducible refine Calls.mono (mf.out _) ?_);rintro e w' ⟨rfl,rfl⟩)
       go_meet
       exact⟨by rw [hM.out];rfl,rfl⟩
    ·cases ef with
     | true=>
      have ief:=rf.out
      clear rd ra rb rf
      go_wp2_with (go_at_call 160;(first | with_reducible refine Calls.mono (md.out _) ?_ | with_reducible refine Calls.mono (ma.out _) ?_ | with_reducible refine Calls.mono (mb.out _) ?_ | with_reducible refine Calls.mono (mf.out _) ?_);rintro e w' ⟨rfl,rfl⟩)
      go_meet
      exact⟨by rw [hM.out];rfl,rfl⟩
     | false=>
      have ief:=rf.out
      clear rd ra rb rf
      go_wp2_with (go_at_call 160;(first | with_reducible refine Calls.mono (md.out _) ?_ | with_reducible refine Calls.mono (ma.out _) ?_ | with_reducible refine Calls.mono (mb.out _) ?_ | with_reducible refine Calls.mono (mf.out _) ?_);rintro e w' ⟨rfl,rfl⟩)
      go_meet
      exact⟨by rw [hM.out];rfl,rfl⟩
    ·cases ea with
     | true=>
      have iea:=ra.out
      clear rd ra rb rf
      go_wp2_with (go_at_call 160;(first | with_reducible refine Calls.mono (md.out _) ?_ | with_reducible refine Calls.mono (ma.out _) ?_ | with_reducible refine Calls.mono (mb.out _) ?_ | with_reducible refine Calls.mono (mf.out _) ?_);rintro e w' ⟨rfl,rfl⟩)
      go_meet
      exact⟨by rw [hM.out];rfl,rfl⟩
     | false=>
      have iea:=ra.out
      clear rd ra rb rf
      go_wp2_with (go_at_call 160;(first | with_reducible refine Calls.mono (md.out _) ?_ | with_reducible refine Calls.mono (ma.out _) ?_ | with_reducible refine Calls.mono (mb.out _) ?_ | with_reducible refine Calls.mono (mf.out _) ?_);rintro e w' ⟨rfl,rfl⟩)
      go_meet
      exact⟨by rw [hM.out];rfl,rfl⟩
    ·clear rd ra rb rf
     go_wp2_with (go_at_call 160;(first | with_reducible refine Calls.mono (md.out _) ?_ | with_reducible refine Calls.mono (ma.out _) ?_ | with_reducible refine Calls.mono (mb.out _) ?_ | with_reducible refine Calls.mono (mf.out _) ?_);rintro e w' ⟨rfl,rfl⟩)
     go_meet
     exact⟨by rw [hM.out];rfl,rfl⟩
   case rest=>
    obtain⟨rfl,rfl⟩:=hcut
    clear hcs hM md ma mb mf rd ra rb rf c1 c2 c3 c5
    cases M with
    | true=>
     go_wp2_with fail
     go_ret
     exact⟨by rw [hAe.out];rfl,hB.out⟩
    | false=>
     have hAL:=Lib.hid (show B=L from by rw [hAe.out];rfl)
     clear hAe hS0
     by_cases o1:op=1
     ·subst o1
      have hLL:=hL.out
      simp only [show ((1:Int)=1)=True from by simp,show ((2:Int)=1)=False from by decide,show ((2:Int)=2)=True from by simp,show ((7:Int)=1)=False from by decide,show ((7:Int)=2)=False from by decide,show ((7:Int)=7)=True from by simp,show ((6:Int)=1)=False from by decide,show ((6:Int)=2)=False from by decide,show ((6:Int)=7)=False from by decide,show ((6:Int)=6)=True from by simp,show ((12:Int)=1)=False from by decide,show ((12:Int)=2)=False from by decide,show ((12:Int)=7)=False from by decide,show ((12:Int)=6)=False from by decide,show ((12:Int)=12)=True from by simp,show ((13:Int)=1)=False from by decide,show ((13:Int)=2)=False from by decide,show ((13:Int)=7)=False from by decide,show ((13:Int)=6)=False from by decide,show ((13:Int)=12)=False from by decide,show ((13:Int)=13)=True from by simp,or_self,if_true,if_false,true_or,or_true] at hLL
      obtain⟨y1,xy1⟩:∃e,decide (N<1)=e:=⟨_,rfl⟩
      obtain⟨y2,xy2⟩:∃e,decide (N > 64)=e:=⟨_,rfl⟩
      rw [xy1,xy2] at hLL
      subst hLL
      clear hL
      cases y1<;>cases y2<;>(
       go_wp2_with fail
       go_ret
       exact⟨by rw [hAL.out];rfl,hB.out⟩)
     by_cases o2:op=2
     ·subst o2
      have hLL:=hL.out
      simp only [show ((1:Int)=1)=True from by simp,show ((2:Int)=1)=False from by decide,show ((2:Int)=2)=True from by simp,show ((7:Int)=1)=False from by decide,show ((7:Int)=2)=False from by decide,show ((7:Int)=7)=True from by simp,show ((6:Int)=1)=False from by decide,show ((6:Int)=2)=False from by decide,show ((6:Int)=7)=False from by decide,show ((6:Int)=6)=True from by simp,show ((12:Int)=1)=False from by decide,show ((12:Int)=2)=False from by decide,show ((12:Int)=7)=False from by decide,show ((12:Int)=6)=False from by decide,show ((12:Int)=12)=True from by simp,show ((13:Int)=1)=False from by decide,show ((13:Int)=2)=False from by decide,show ((13:Int)=7)=False from by decide,show ((13:Int)=6)=False from by decide,show ((13:Int)=12)=False from by decide,show ((13:Int)=13)=True from by simp,or_self,if_true,if_false,true_or,or_true] at hLL
      obtain⟨y1,xy1⟩:∃e,decide (N<1)=e:=⟨_,rfl⟩
      obtain⟨y2,xy2⟩:∃e,decide (N > 64)=e:=⟨_,rfl⟩
      rw [xy1,xy2] at hLL
      subst hLL
      clear hL
      cases y1<;>cases y2<;>(
       go_wp2_with fail
       go_ret
       exact⟨by rw [hAL.out];rfl,hB.out⟩)
     by_cases o7:op=7
     ·subst o7
      have hLL:=hL.out
      simp only [show ((1:Int)=1)=True from by simp,show ((2:Int)=1)=False from by decide,show ((2:Int)=2)=True from by simp,show ((7:Int)=1)=False from by decide,show ((7:Int)=2)=False from by decide,show ((7:Int)=7)=True from by simp,show ((6:Int)=1)=False from by decide,show ((6:Int)=2)=False from by decide,show ((6:Int)=7)=False from by decide,show ((6:Int)=6)=True from by simp,show ((12:Int)=1)=False from by decide,show ((12:Int)=2)=False from by decide,show ((12:Int)=7)=False from by decide,show ((12:Int)=6)=False from by decide,show ((12:Int)=12)=True from by simp,show ((13:Int)=1)=False from by decide,show ((13:Int)=2)=False from by decide,show ((13:Int)=7)=False from by decide,show ((13:Int)=6)=False from by decide,show ((13:Int)=12)=False from by decide,show ((13:Int)=13)=True from by simp,or_self,if_true,if_false,true_or,or_true] at hLL
      obtain⟨y1,xy1⟩:∃e,decide (N<0)=e:=⟨_,rfl⟩
      obtain⟨y2,xy2⟩:∃e,decide (N > 63)=e:=⟨_,rfl⟩
      rw [xy1,xy2] at hLL
      subst hLL
      clear hL
      cases y1<;>cases y2<;>(
       go_wp2_with fail
       go_ret
       exact⟨by rw [hAL.out];rfl,hB.out⟩)
     by_cases o6:op=6
     ·subst o6
      have hLL:=hL.out
      simp only [show ((1:Int)=1)=True from by simp,show ((2:Int)=1)=False from by decide,show ((2:Int)=2)=True from by simp,show ((7:Int)=1)=False from by decide,show ((7:Int)=2)=False from by decide,show ((7:Int)=7)=True from by simp,show ((6:Int)=1)=False from by decide,show ((6:Int)=2)=False from by decide,show ((6:Int)=7)=False from by decide,show ((6:Int)=6)=True from by simp,show ((12:Int)=1)=False from by decide,show ((12:Int)=2)=False from by decide,show ((12:Int)=7)=False from by decide,show ((12:Int)=6)=False from by decide,show ((12:Int)=12)=True from by simp,show ((13:Int)=1)=False from by decide,show ((13:Int)=2)=False from by decide,show ((13:Int)=7)=False from by decide,show ((13:Int)=6)=False from by decide,show ((13:Int)=12)=False from by decide,show ((13:Int)=13)=True from by simp,or_self,if_true,if_false,true_or,or_true] at hLL
      obtain⟨y1,xy1⟩:∃e,decide ((nl:Int)<1)=e:=⟨_,rfl⟩
      obtain⟨y2,xy2⟩:∃e,((nl:Int)==(na:Int))=e:=⟨_,rfl⟩
      rw [xy1,xy2] at hLL
      subst hLL
      clear hL
      cases y1<;>cases y2<;>(
       have by2:=bne_of5 xy2
       simp only [Bool.not_true,Bool.not_false] at by2
       go_wp2_with fail
       go_ret
       exact⟨by rw [hAL.out];rfl,hB.out⟩)
     by_cases o12:op=12
     ·subst o12
      have hLL:=hL.out
      simp only [show ((1:Int)=1)=True from by simp,show ((2:Int)=1)=False from by decide,show ((2:Int)=2)=True from by simp,show ((7:Int)=1)=False from by decide,show ((7:Int)=2)=False from by decide,show ((7:Int)=7)=True from by simp,show ((6:Int)=1)=False from by decide,show ((6:Int)=2)=False from by decide,show ((6:Int)=7)=False from by decide,show ((6:Int)=6)=True from by simp,show ((12:Int)=1)=False from by decide,show ((12:Int)=2)=False from by decide,show ((12:Int)=7)=False from by decide,show ((12:Int)=6)=False from by decide,show ((12:Int)=12)=True from by simp,show ((13:Int)=1)=False from by decide,show ((13:Int)=2)=False from by decide,show ((13:Int)=7)=False from by decide,show ((13:Int)=6)=False from by decide,show ((13:Int)=12)=False from by decide,show ((13:Int)=13)=True from by simp,or_self,if_true,if_false,true_or,or_true] at hLL
      obtain⟨y1,xy1⟩:∃e,((nl:Int)==2)=e:=⟨_,rfl⟩
      rw [xy1] at hLL
      subst hLL
      clear hL
      cases y1<;>(
       have by1:=bne_of5 xy1
       simp only [Bool.not_true,Bool.not_false] at by1
       go_wp2_with fail
       go_ret
       exact⟨by rw [hAL.out];rfl,hB.out⟩)
     by_cases o13:op=13
     ·subst o13
      have hLL:=hL.out
      simp only [show ((1:Int)=1)=True from by simp,show ((2:Int)=1)=False from by decide,show ((2:Int)=2)=True from by simp,show ((7:Int)=1)=False from by decide,show ((7:Int)=2)=False from by decide,show ((7:Int)=7)=True from by simp,show ((6:Int)=1)=False from by decide,show ((6:Int)=2)=False from by decide,show ((6:Int)=7)=False from by decide,show ((6:Int)=6)=True from by simp,show ((12:Int)=1)=False from by decide,show ((12:Int)=2)=False from by decide,show ((12:Int)=7)=False from by decide,show ((12:Int)=6)=False from by decide,show ((12:Int)=12)=True from by simp,show ((13:Int)=1)=False from by decide,show ((13:Int)=2)=False from by decide,show ((13:Int)=7)=False from by decide,show ((13:Int)=6)=False from by decide,show ((13:Int)=12)=False from by decide,show ((13:Int)=13)=True from by simp,or_self,if_true,if_false,true_or,or_true] at hLL
      obtain⟨y1,xy1⟩:∃e,((nl:Int)==1)=e:=⟨_,rfl⟩
      rw [xy1] at hLL
      subst hLL
      clear hL
      cases y1<;>(
       have by1:=bne_of5 xy1
       simp only [Bool.not_true,Bool.not_false] at by1
       go_wp2_with fail
       go_ret
       exact⟨by rw [hAL.out];rfl,hB.out⟩)
     have hLL:=hL.out
     rw [if_neg (by omega),if_neg o7,if_neg o6,if_neg o12,if_neg o13] at hLL
     subst hLL
     have b1:(op==1)=false:=beq_eq_false_iff_ne.2 o1
     have b2:(op==2)=false:=beq_eq_false_iff_ne.2 o2
     have b7:(op==7)=false:=beq_eq_false_iff_ne.2 o7
     have b6:(op==6)=false:=beq_eq_false_iff_ne.2 o6
     have b12:(op==12)=false:=beq_eq_false_iff_ne.2 o12
     have b13:(op==13)=false:=beq_eq_false_iff_ne.2 o13
     clear hL
     go_wp2_with fail
     go_ret
     exact⟨by rw [hAL.out];first | done | rfl,hB.out⟩
end
end Go.Proofs.YtknkiaedgeejiaaGreatDoor
