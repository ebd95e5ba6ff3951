/- Sr12, Sr11. -/
import Derived.Test.YtknkiaedgeejiaaGreatDoorSP20
namespace Go.Proofs.YtknkiaedgeejiaaGreatDoor
set_option linter.unusedVariables false
set_option linter.unusedSimpArgs false
section
open Go.RowKit Go.Maps Go.Shelf Go.WideMaps
attribute [local go_sem] Oper.semAt_some
set_option maxRecDepth 20000 in
set_option maxHeartbeats 16000000 in
theorem badName5_any {w:World}{d:Ins}{va vl:Value}(ha:RdS w va d.args)(hl:RdS w vl d.labels)(hf:d.Fits):Calls Tryz.prog 103 #[.agg (insV d va vl).toArray] w fun e w'=>e=.returned (.bool (badNamesB d))∧Below w.heap.size w w':=by
 obtain⟨aa,ca,rfl⟩:=ha.shape
 obtain⟨al,cl,rfl⟩:=hl.shape
 obtain⟨W2,hW2⟩:∃W2,w.alloc (.cells (insV d (.slice aa d.args.length ca) (.slice al d.labels.length cl)).toArray 46)=W2:=⟨_,rfl⟩
 have hb:W2.heap[w.heap.size]?=some (.cells (insV d (.slice aa d.args.length ca) (.slice al d.labels.length cl)).toArray 46 (0,0)):=by rw [←hW2];exact at_newN rfl
 have hB:Below w.heap.size w W2:=by rw [←hW2];exact (Below.refl _ _).alloc (Nat.le_refl _) _
 have hlt:w.heap.size<W2.heap.size:=(Array.getElem?_eq_some_iff.1 hb).1
 have c0:W2.cell? ⟨w.heap.size,0,none⟩=some (.int .u8 d.op):=by rw [blk_cell hb];rfl
 have c1:W2.cell? ⟨w.heap.size,1,none⟩=some (.string d.dst):=by rw [blk_cell hb];rfl
 have c2:W2.cell? ⟨w.heap.size,2,none⟩=some (.string d.a):=by rw [blk_cell hb];rfl
 have c3:W2.cell? ⟨w.heap.size,3,none⟩=some (.string d.b):=by rw [blk_cell hb];rfl
 have c4:W2.cell? ⟨w.heap.size,4,none⟩=some (.int .i64 d.n):=by rw [blk_cell hb];rfl
 have c5:W2.cell? ⟨w.heap.size,5,none⟩=some (.string d.fn):=by rw [blk_cell hb];rfl
 have c6:W2.cell? ⟨w.heap.size,6,none⟩=some (.slice aa d.args.length ca):=by rw [blk_cell hb];rfl
 have c7:W2.cell? ⟨w.heap.size,7,none⟩=some (.slice al d.labels.length cl):=by rw [blk_cell hb];rfl
 replace hW2:=Lib.hid hW2
 replace hB:=Lib.hid hB
 have kF:=Lib.hid (fun w=>fields5_any d.op w)
 obtain⟨-,-,f1,f2,f3,-,f5,f6,f7,f8,f9⟩:=hf
 unfold maxLen at f8 f9
 have kid:=Lib.hid (fun w=>ris_any d.dst w f1)
 have kif:=Lib.hid (fun w=>ris_any d.fn w f5)
 have koa:=Lib.hid (fun w=>operand5_any d.a w f2)
 have kob:=Lib.hid (fun w=>operand5_any d.b w f3)
 have hAe:=Lib.hid (names5 d)
 have hcm:=comb_name d.op
 have haC:=Lib.hid (fun k (hk:k<d.args.length)=>(by
  obtain⟨s,he⟩:∃s,d.args[k]?=some s:=⟨_,List.getElem?_eq_getElem hk⟩
  obtain⟨b,off,cap,e,hc⟩:=ha.cell he
  exact⟨s,b,off,he,by cases e;rfl,(hB.out.cell (cell_size hc)).trans hc,f6 s (List.mem_of_getElem? he)⟩:∃s b off,d.args[k]?=some s∧aa=some ⟨b,off,none⟩∧W2.cell? ⟨b,off+k,none⟩=some (.string s)∧s.size≤maxLen))
 have hlC:=Lib.hid (fun k (hk:k<d.labels.length)=>(by
  obtain⟨s,he⟩:∃s,d.labels[k]?=some s:=⟨_,List.getElem?_eq_getElem hk⟩
  obtain⟨b,off,cap,e,hc⟩:=hl.cell he
  exact⟨s,b,off,he,by cases e;rfl,(hB.out.cell (cell_size hc)).trans hc,f7 s (List.mem_of_getElem? he)⟩:∃s b off,d.labels[k]?=some s∧al=some ⟨b,off,none⟩∧W2.cell? ⟨b,off+k,none⟩=some (.string s)∧s.size≤maxLen))
 clear ha hl hb f1 f2 f3 f5 f6 f7
 have kd:=Lib.hid (fun w=>has_d d.op w)
 have kf:=Lib.hid (fun w=>has_f d.op w)
 have ka:=Lib.hid (fun w=>has_a d.op w)
 have kb:=Lib.hid (fun w=>has_b d.op w)
 have kg:=Lib.hid (fun w=>has_g d.op w)
 have kl:=Lib.hid (fun w=>has_l d.op w)
 obtain⟨A,hA⟩:∃A,A=nameR d:=⟨_,rfl⟩
 rw [←hA] at hAe
 replace hA:=Lib.hid hA
 obtain⟨B,hBB⟩:∃B,B=badNamesB d:=⟨_,rfl⟩
 rw [←hBB] at hAe ⊢
 clear hBB
 obtain⟨LA,hLA⟩:∃L,L=d.args:=⟨_,rfl⟩
 obtain⟨LL,hLL⟩:∃L,L=d.labels:=⟨_,rfl⟩
 rw [←hLA] at haC hAe c6 f8
 rw [←hLL] at hlC hAe c7 f9
 clear hLA hLL
 obtain⟨na,hna⟩:∃n,n=LA.length:=⟨_,rfl⟩
 obtain⟨nl,hnl⟩:∃n,n=LL.length:=⟨_,rfl⟩
 rw [←hna] at haC c6 f8
 rw [←hnl] at hlC c7 f9
 replace hna:=Lib.hid hna
 replace hnl:=Lib.hid hnl
 have hA2:=hA.out
 unfold nameR at hA2
 have g1:=Lib.hid (fun _:Unit=>(rfl:(d.dst.toList==[])=(d.dst.toList==[])))
 have g2:=Lib.hid (fun _:Unit=>(rfl:(d.fn.toList==[])=(d.fn.toList==[])))
 have g3:=Lib.hid (fun _:Unit=>(rfl:(d.a.toList==[])=(d.a.toList==[])))
 have g4:=Lib.hid (fun _:Unit=>(rfl:(d.b.toList==[])=(d.b.toList==[])))
 replace hA2:=Lib.hid hA2
 obtain⟨S,hS⟩:∃S,S=fldB d.op:=⟨_,rfl⟩
 rw [←hS] at kF kd kf ka kb kg kl
 clear hS
 generalize fhB d.op 100=hd at *
 generalize fhB d.op 102=hf at *
 generalize fhB d.op 97=ha at *
 generalize fhB d.op 98=hb at *
 generalize fhB d.op 103=hg at *
 generalize fhB d.op 108=hl at *
 generalize isName d.dst=n1 at *
 generalize isName d.fn=n2 at *
 generalize isOperand d.a=n3 at *
 generalize isOperand d.b=n4 at *
 obtain⟨e1,h1⟩:∃e,(d.dst.toList==[])=e:=⟨_,rfl⟩
 obtain⟨e2,h2⟩:∃e,(d.fn.toList==[])=e:=⟨_,rfl⟩
 obtain⟨e3,h3⟩:∃e,(d.a.toList==[])=e:=⟨_,rfl⟩
 obtain⟨e4,h4⟩:∃e,(d.b.toList==[])=e:=⟨_,rfl⟩
 replace hA2:=hA2.out
 rw [h1,h2,h3,h4] at hA2
 clear g1 g2 g3 g4 hA
 replace hA2:=Lib.hid hA2
 replace h1:=Lib.hid h1
 replace h2:=Lib.hid h2
 replace h3:=Lib.hid h3
 replace h4:=Lib.hid h4
 replace hcm:=Lib.hid hcm
 go_enter Tryz.func103,Tryz.ntmps103
 go_upto_region 1 with fail
 rw [hW2.out]
 clear hW2
 go_upto_region 2 with (go_at_call 157;refine (kF.out _).mono ?_;rintro e w' ⟨rfl,rfl⟩)
 go_cut [66] from 9 to 66 (fun x wx=>x=.bool A∧wx=W2)
 case first=>
  clear haC hlC hAe c6 c7 f8 f9 kg kl
  rcases hcm.out with ⟨rfl,rfl,rfl,rfl⟩ | ⟨rfl,rfl,rfl,rfl⟩ | ⟨rfl,rfl,rfl,rfl⟩ | ⟨rfl,rfl,rfl,rfl⟩ | ⟨rfl,rfl,rfl,rfl⟩ | ⟨rfl,rfl,rfl,rfl⟩
  all_goals clear hcm
  ·cases e1 with
   | true=>
    have i1:=h1.out
    clear h1 h2 h3 h4
    go_wp2_with (first | (go_at_call 158;(first | with_reducible refine Calls.mono (kd.out _) ?_ | with_reducible refine Calls.mono (kf.out _) ?_ | with_reducible refine Calls.mono (ka.out _) ?_ | with_reducible refine Calls.mono (kb.out _) ?_);rintro e w' ⟨rfl,rfl⟩) | (go_at_call 101;(first | with_reducible refine Calls.mono (kid.out _) ?_ | with_reducible refine Calls.mono (kif.out _) ?_);rintro e w' ⟨rfl,rfl⟩) | (go_at_call 159;(first | with_reducible refine Calls.mono (koa.out _) ?_ | with_reducible refine Calls.mono (kob.out _) ?_);rintro e w' ⟨rfl,rfl⟩))
    go_meet
    exact⟨by rw [hA2.out];rfl,rfl⟩
   | false=>
    cases n1 with
    | true=>
     have i1:=h1.out
     clear h1 h2 h3 h4
     go_wp2_with (first | (go_at_call 158;(first | with_reducible refine Calls.mono (kd.out _) ?_ | with_reducible refine Calls.mono (kf.out _) ?_ | with_reducible refine Calls.mono (ka.out _) ?_ | with_reducible refine Calls.mono (kb.out _) ?_);rintro e w' ⟨rfl,rfl⟩) | (go_at_call 101;(first | with_reducible refine Calls.mono (kid.out _) ?_ | with_reducible refine Calls.mono (kif.out _) ?_);rintro e w' ⟨rfl,rfl⟩) | (go_at_call 159;(first | with_reducible refine Calls.mono (koa.out _) ?_ | with_reducible refine Calls.mono (kob.out _) ?_);rintro e w' ⟨rfl,rfl⟩))
     go_meet
     exact⟨by rw [hA2.out];rfl,rfl⟩
    | false=>
     have i1:=h1.out
     clear h1 h2 h3 h4
     go_wp2_with (first | (go_at_call 158;(first | with_reducible refine Calls.mono (kd.out _) ?_ | with_reducible refine Calls.mono (kf.out _) ?_ | with_reducible refine Calls.mono (ka.out _) ?_ | with_reducible refine Calls.mono (kb.out _) ?_);rintro e w' ⟨rfl,rfl⟩) | (go_at_call 101;(first | with_reducible refine Calls.mono (kid.out _) ?_ | with_reducible refine Calls.mono (kif.out _) ?_);rintro e w' ⟨rfl,rfl⟩) | (go_at_call 159;(first | with_reducible refine Calls.mono (koa.out _) ?_ | with_reducible refine Calls.mono (kob.out _) ?_);rintro e w' ⟨rfl,rfl⟩))
     go_meet
     exact⟨by rw [hA2.out];rfl,rfl⟩
  ·cases e1 with
   | true=>
    cases e2 with
    | true=>
     have i1:=h1.out
     have i2:=h2.out
     clear h1 h2 h3 h4
     go_wp2_with (first | (go_at_call 158;(first | with_reducible refine Calls.mono (kd.out _) ?_ | with_reducible refine Calls.mono (kf.out _) ?_ | with_reducible refine Calls.mono (ka.out _) ?_ | with_reducible refine Calls.mono (kb.out _) ?_);rintro e w' ⟨rfl,rfl⟩) | (go_at_call 101;(first | with_reducible refine Calls.mono (kid.out _) ?_ | with_reducible refine Calls.mono (kif.out _) ?_);rintro e w' ⟨rfl,rfl⟩) | (go_at_call 159;(first | with_reducible refine Calls.mono (koa.out _) ?_ | with_reducible refine Calls.mono (kob.out _) ?_);rintro e w' ⟨rfl,rfl⟩))
     go_meet
     exact⟨by rw [hA2.out];rfl,rfl⟩
    | false=>
     cases n2 with
     | true=>
      have i1:=h1.out
      have i2:=h2.out
      clear h1 h2 h3 h4
      go_wp2_with (first | (go_at_call 158;(first | with_reducible refine Calls.mono (kd.out _) ?_ | with_reducible refine Calls.mono (kf.out _) ?_ | with_reducible refine Calls.mono (ka.out _) ?_ | with_reducible refine Calls.mono (kb.out _) ?_);rintro e w' ⟨rfl,rfl⟩) | (go_at_call 101;(first | with_reducible refine Calls.mono (kid.out _) ?_ | with_reducible refine Calls.mono (kif.out _) ?_);rintro e w' ⟨rfl,rfl⟩) | (go_at_call 159;(first | with_reducible refine Calls.mono (koa.out _) ?_ | with_reducible refine Calls.mono (kob.out _) ?_);rintro e w' ⟨rfl,rfl⟩))
      go_meet
      exact⟨by rw [hA2.out];rfl,rfl⟩
     | false=>
      have i1:=h1.out
      have i2:=h2.out
      clear h1 h2 h3 h4
      go_wp2_with (first | (go_at_call 158;(first | with_reducible refine Calls.mono (kd.out _) ?_ | with_reducible refine Calls.mono (kf.out _) ?_ | with_reducible refine Calls.mono (ka.out _) ?_ | with_reducible refine Calls.mono (kb.out _) ?_);rintro e w' ⟨rfl,rfl⟩) | (go_at_call 101;(first | with_reducible refine Calls.mono (kid.out _) ?_ | with_reducible refine Calls.mono (kif.out _) ?_);rintro e w' ⟨rfl,rfl⟩) | (go_at_call 159;(first | with_reducible refine Calls.mono (koa.out _) ?_ | with_reducible refine Calls.mono (kob.out _) ?_);rintro e w' ⟨rfl,rfl⟩))
      go_meet
      exact⟨by rw [hA2.out];rfl,rfl⟩
   | false=>
    cases n1 with
    | true=>
     cases e2 with
     | true=>
      have i1:=h1.out
      have i2:=h2.out
      clear h1 h2 h3 h4
      go_wp2_with (first | (go_at_call 158;(first | with_reducible refine Calls.mono (kd.out _) ?_ | with_reducible refine Calls.mono (kf.out _) ?_ | with_reducible refine Calls.mono (ka.out _) ?_ | with_reducible refine Calls.mono (kb.out _) ?_);rintro e w' ⟨rfl,rfl⟩) | (go_at_call 101;(first | with_reducible refine Calls.mono (kid.out _) ?_ | with_reducible refine Calls.mono (kif.out _) ?_);rintro e w' ⟨rfl,rfl⟩) | (go_at_call 159;(first | with_reducible refine Calls.mono (koa.out _) ?_ | with_reducible refine Calls.mono (kob.out _) ?_);rintro e w' ⟨rfl,rfl⟩))
      go_meet
      exact⟨by rw [hA2.out];rfl,rfl⟩
     | false=>
      cases n2 with
      | true=>
       have i1:=h1.out
       have i2:=h2.out
       clear h1 h2 h3 h4
       go_wp2_with (first | (go_at_call 158;(first | with_reducible refine Calls.mono (kd.out _) ?_ | with_reducible refine Calls.mono (kf.out _) ?_ | with_reducible refine Calls.mono (ka.out _) ?_ | with_reducible refine Calls.mono (kb.out _) ?_);rintro e w' ⟨rfl,rfl⟩) | (go_at_call 101;(first | with_reducible refine Calls.mono (kid.out _) ?_ | with_reducible refine Calls.mono (kif.out _) ?_);rintro e w' ⟨rfl,rfl⟩) | (go_at_call 159;(first | with_reducible refine Calls.mono (koa.out _) ?_ | with_reducible refine Calls.mono (kob.out _) ?_);rintro e w' ⟨rfl,rfl⟩))
       go_meet
       exact⟨by rw [hA2.out];rfl,rfl⟩
      | false=>
       have i1:=h1.out
       have i2:=h2.out
       clear h1 h2 h3 h4
       go_wp2_with (first | (go_at_call 158;(first | with_reducible refine Calls.mono (kd.out _) ?_ | with_reducible refine Calls.mono (kf.out _) ?_ | with_reducible refine Calls.mono (ka.out _) ?_ | with_reducible refine Calls.mono (kb.out _) ?_);rintro e w' ⟨rfl,rfl⟩) | (go_at_call 101;(first | with_reducible refine Calls.mono (kid.out _) ?_ | with_reducible refine Calls.mono (kif.out _) ?_);rintro e w' ⟨rfl,rfl⟩) | (go_at_call 159;(first | with_reducible refine Calls.mono (koa.out _) ?_ | with_reducible refine Calls.mono (kob.out _) ?_);rintro e w' ⟨rfl,rfl⟩))
       go_meet
       exact⟨by rw [hA2.out];rfl,rfl⟩
    | false=>
     have i1:=h1.out
     clear h1 h2 h3 h4
     go_wp2_with (first | (go_at_call 158;(first | with_reducible refine Calls.mono (kd.out _) ?_ | with_reducible refine Calls.mono (kf.out _) ?_ | with_reducible refine Calls.mono (ka.out _) ?_ | with_reducible refine Calls.mono (kb.out _) ?_);rintro e w' ⟨rfl,rfl⟩) | (go_at_call 101;(first | with_reducible refine Calls.mono (kid.out _) ?_ | with_reducible refine Calls.mono (kif.out _) ?_);rintro e w' ⟨rfl,rfl⟩) | (go_at_call 159;(first | with_reducible refine Calls.mono (koa.out _) ?_ | with_reducible refine Calls.mono (kob.out _) ?_);rintro e w' ⟨rfl,rfl⟩))
     go_meet
     exact⟨by rw [hA2.out];rfl,rfl⟩
  ·cases e1 with
   | true=>
    cases e3 with
    | true=>
     have i1:=h1.out
     have i3:=h3.out
     clear h1 h2 h3 h4
     go_wp2_with (first | (go_at_call 158;(first | with_reducible refine Calls.mono (kd.out _) ?_ | with_reducible refine Calls.mono (kf.out _) ?_ | with_reducible refine Calls.mono (ka.out _) ?_ | with_reducible refine Calls.mono (kb.out _) ?_);rintro e w' ⟨rfl,rfl⟩) | (go_at_call 101;(first | with_reducible refine Calls.mono (kid.out _) ?_ | with_reducible refine Calls.mono (kif.out _) ?_);rintro e w' ⟨rfl,rfl⟩) | (go_at_call 159;(first | with_reducible refine Calls.mono (koa.out _) ?_ | with_reducible refine Calls.mono (kob.out _) ?_);rintro e w' ⟨rfl,rfl⟩))
     go_meet
     exact⟨by rw [hA2.out];rfl,rfl⟩
    | false=>
     cases n3 with
     | true=>
      have i1:=h1.out
      have i3:=h3.out
      clear h1 h2 h3 h4
      go_wp2_with (first | (go_at_call 158;(first | with_reducible refine Calls.mono (kd.out _) ?_ | with_reducible refine Calls.mono (kf.out _) ?_ | with_reducible refine Calls.mono (ka.out _) ?_ | with_reducible refine Calls.mono (kb.out _) ?_);rintro e w' ⟨rfl,rfl⟩) | (go_at_call 101;(first | with_reducible refine Calls.mono (kid.out _) ?_ | with_reducible refine Calls.mono (kif.out _) ?_);rintro e w' ⟨rfl,rfl⟩) | (go_at_call 159;(first | with_reducible refine Calls.mono (koa.out _) ?_ | with_reducible refine Calls.mono (kob.out _) ?_);rintro e w' ⟨rfl,rfl⟩))
      go_meet
      exact⟨by rw [hA2.out];rfl,rfl⟩
     | false=>
      have i1:=h1.out
      have i3:=h3.out
      clear h1 h2 h3 h4
      go_wp2_with (first | (go_at_call 158;(first | with_reducible refine Calls.mono (kd.out _) ?_ | with_reducible refine Calls.mono (kf.out _) ?_ | with_reducible refine Calls.mono (ka.out _) ?_ | with_reducible refine Calls.mono (kb.out _) ?_);rintro e w' ⟨rfl,rfl⟩) | (go_at_call 101;(first | with_reducible refine Calls.mono (kid.out _) ?_ | with_reducible refine Calls.mono (kif.out _) ?_);rintro e w' ⟨rfl,rfl⟩) | (go_at_call 159;(first | with_reducible refine Calls.mono (koa.out _) ?_ | with_reducible refine Calls.mono (kob.out _) ?_);rintro e w' ⟨rfl,rfl⟩))
      go_meet
      exact⟨by rw [hA2.out];rfl,rfl⟩
   | false=>
    cases n1 with
    | true=>
     cases e3 with
     | true=>
      have i1:=h1.out
      have i3:=h3.out
      clear h1 h2 h3 h4
      go_wp2_with (first | (go_at_call 158;(first | with_reducible refine Calls.mono (kd.out _) ?_ | with_reducible refine Calls.mono (kf.out _) ?_ | with_reducible refine Calls.mono (ka.out _) ?_ | with_reducible refine Calls.mono (kb.out _) ?_);rintro e w' ⟨rfl,rfl⟩) | (go_at_call 101;(first | with_reducible refine Calls.mono (kid.out _) ?_ | with_reducible refine Calls.mono (kif.out _) ?_);rintro e w' ⟨rfl,rfl⟩) | (go_at_call 159;(first | with_reducible refine Calls.mono (koa.out _) ?_ | with_reducible refine Calls.mono (kob.out _) ?_);rintro e w' ⟨rfl,rfl⟩))
      go_meet
      exact⟨by rw [hA2.out];rfl,rfl⟩
     | false=>
      cases n3 with
      | true=>
       have i1:=h1.out
       have i3:=h3.out
       clear h1 h2 h3 h4
       go_wp2_with (first | (go_at_call 158;(first | with_reducible refine Calls.mono (kd.out _) ?_ | with_reducible refine Calls.mono (kf.out _) ?_ | with_reducible refine Calls.mono (ka.out _) ?_ | with_reducible refine Calls.mono (kb.out _) ?_);rintro e w' ⟨rfl,rfl⟩) | (go_at_call 101;(first | with_reducible refine Calls.mono (kid.out _) ?_ | with_reducible refine Calls.mono (kif.out _) ?_);rintro e w' ⟨rfl,rfl⟩) | (go_at_call 159;(first | with_reducible refine Calls.mono (koa.out _) ?_ | with_reducible refine Calls.mono (kob.out _) ?_);rintro e w' ⟨rfl,rfl⟩))
       go_meet
       exact⟨by rw [hA2.out];rfl,rfl⟩
      | false=>
       have i1:=h1.out
       have i3:=h3.out
       clear h1 h2 h3 h4
       go_wp2_with (first | (go_at_call 158;(first | with_reducible refine Calls.mono (kd.out _) ?_ | with_reducible refine Calls.mono (kf.out _) ?_ | with_reducible refine Calls.mono (ka.out _) ?_ | with_reducible refine Calls.mono (kb.out _) ?_);rintro e w' ⟨rfl,rfl⟩) | (go_at_call 101;(first | with_reducible refine Calls.mono (kid.out _) ?_ | with_reducible refine Calls.mono (kif.out _) ?_);rintro e w' ⟨rfl,rfl⟩) | (go_at_call 159;(first | with_reducible refine Calls.mono (koa.out _) ?_ | with_reducible refine Calls.mono (kob.out _) ?_);rintro e w' ⟨rfl,rfl⟩))
       go_meet
       exact⟨by rw [hA2.out];rfl,rfl⟩
    | false=>
     have i1:=h1.out
     clear h1 h2 h3 h4
     go_wp2_with (first | (go_at_call 158;(first | with_reducible refine Calls.mono (kd.out _) ?_ | with_reducible refine Calls.mono (kf.out _) ?_ | with_reducible refine Calls.mono (ka.out _) ?_ | with_reducible refine Calls.mono (kb.out _) ?_);rintro e w' ⟨rfl,rfl⟩) | (go_at_call 101;(first | with_reducible refine Calls.mono (kid.out _) ?_ | with_reducible refine Calls.mono (kif.out _) ?_);rintro e w' ⟨rfl,rfl⟩) | (go_at_call 159;(first | with_reducible refine Calls.mono (koa.out _) ?_ | with_reducible refine Calls.mono (kob.out _) ?_);rintro e w' ⟨rfl,rfl⟩))
     go_meet
     exact⟨by rw [hA2.out];rfl,rfl⟩
  ·cases e3 with
   | true=>
    cases e4 with
    | true=>
     have i3:=h3.out
     have i4:=h4.out
     clear h1 h2 h3 h4
     go_wp2_with (first | (go_at_call 158;(first | with_reducible refine Calls.mono (kd.out _) ?_ | with_reducible refine Calls.mono (kf.out _) ?_ | with_reducible refine Calls.mono (ka.out _) ?_ | with_reducible refine Calls.mono (kb.out _) ?_);rintro e w' ⟨rfl,rfl⟩) | (go_at_call 101;(first | with_reducible refine Calls.mono (kid.out _) ?_ | with_reducible refine Calls.mono (kif.out _) ?_);rintro e w' ⟨rfl,rfl⟩) | (go_at_call 159;(first | with_reducible refine Calls.mono (koa.out _) ?_ | with_reducible refine Calls.mono (kob.out _) ?_);rintro e w' ⟨rfl,rfl⟩))
     go_meet
     exact⟨by rw [hA2.out];rfl,rfl⟩
    | false=>
     cases n4 with
     | true=>
      have i3:=h3.out
      have i4:=h4.out
      clear h1 h2 h3 h4
      go_wp2_with (first | (go_at_call 158;(first | with_reducible refine Calls.mono (kd.out _) ?_ | with_reducible refine Calls.mono (kf.out _) ?_ | with_reducible refine Calls.mono (ka.out _) ?_ | with_reducible refine Calls.mono (kb.out _) ?_);rintro e w' ⟨rfl,rfl⟩) | (go_at_call 101;(first | with_reducible refine Calls.mono (kid.out _) ?_ | with_reducible refine Calls.mono (kif.out _) ?_);rintro e w' ⟨rfl,rfl⟩) | (go_at_call 159;(first | with_reducible refine Calls.mono (koa.out _) ?_ | with_reducible refine Calls.mono (kob.out _) ?_);rintro e w' ⟨rfl,rfl⟩))
      go_meet
      exact⟨by rw [hA2.out];rfl,rfl⟩
     | false=>
      have i3:=h3.out
      have i4:=h4.out
      clear h1 h2 h3 h4
      go_wp2_with (first | (go_at_call 158;(first | with_reducible refine Calls.mono (kd.out _) ?_ | with_reducible refine Calls.mono (kf.out _) ?_ | with_reducible refine Calls.mono (ka.out _) ?_ | with_reducible refine Calls.mono (kb.out _) ?_);rintro e w' ⟨rfl,rfl⟩) | (go_at_call 101;(first | with_reducible refine Calls.mono (kid.out _) ?_ | with_reducible refine Calls.mono (kif.out _) ?_);rintro e w' ⟨rfl,rfl⟩) | (go_at_call 159;(first | with_reducible refine Calls.mono (koa.out _) ?_ | with_reducible refine Calls.mono (kob.out _) ?_);rintro e w' ⟨rfl,rfl⟩))
      go_meet
      exact⟨by rw [hA2.out];rfl,rfl⟩
   | false=>
    cases n3 with
    | true=>
     cases e4 with
     | true=>
      have i3:=h3.out
      have i4:=h4.out
      clear h1 h2 h3 h4
      go_wp2_with (first | (go_at_call 158;(first | with_reducible refine Calls.mono (kd.out _) ?_ | with_reducible refine Calls.mono (kf.out _) ?_ | with_reducible refine Calls.mono (ka.out _) ?_ | with_reducible refine Calls.mono (kb.out _) ?_);rintro e w' ⟨rfl,rfl⟩) | (go_at_call 101;(first | with_reducible refine Calls.mono (kid.out _) ?_ | with_reducible refine Calls.mono (kif.out _) ?_);rintro e w' ⟨rfl,rfl⟩) | (go_at_call 159;(first | with_reducible refine Calls.mono (koa.out _) ?_ | with_reducible refine Calls.mono (kob.out _) ?_);rintro e w' ⟨rfl,rfl⟩))
      go_meet
      exact⟨by rw [hA2.out];rfl,rfl⟩
     | false=>
      cases n4 with
      | true=>
       have i3:=h3.out
       have i4:=h4.out
       clear h1 h2 h3 h4
       go_wp2_with (first | (go_at_call 158;(first | with_reducible refine Calls.mono (kd.out _) ?_ | with_reducible refine Calls.mono (kf.out _) ?_ | with_reducible refine Calls.mono (ka.out _) ?_ | with_reducible refine Calls.mono (kb.out _) ?_);rintro e w' ⟨rfl,rfl⟩) | (go_at_call 101;(first | with_reducible refine Calls.mono (kid.out _) ?_ | with_reducible refine Calls.mono (kif.out _) ?_);rintro e w' ⟨rfl,rfl⟩) | (go_at_call 159;(first | with_reducible refine Calls.mono (koa.out _) ?_ | with_reducible refine Calls.mono (kob.out _) ?_);rintro e w' ⟨rfl,rfl⟩))
       go_meet
       exact⟨by rw [hA2.out];rfl,rfl⟩
      | false=>
       have i3:=h3.out
       have i4:=h4.out
       clear h1 h2 h3 h4
       go_wp2_with (first | (go_at_call 158;(first | with_reducible refine Calls.mono (kd.out _) ?_ | with_reducible refine Calls.mono (kf.out _) ?_ | with_reducible refine Calls.mono (ka.out _) ?_ | with_reducible refine Calls.mono (kb.out _) ?_);rintro e w' ⟨rfl,rfl⟩) | (go_at_call 101;(first | with_reducible refine Calls.mono (kid.out _) ?_ | with_reducible refine Calls.mono (kif.out _) ?_);rintro e w' ⟨rfl,rfl⟩) | (go_at_call 159;(first | with_reducible refine Calls.mono (koa.out _) ?_ | with_reducible refine Calls.mono (kob.out _) ?_);rintro e w' ⟨rfl,rfl⟩))
       go_meet
       exact⟨by rw [hA2.out];rfl,rfl⟩
    | false=>
     have i3:=h3.out
     clear h1 h2 h3 h4
     go_wp2_with (first | (go_at_call 158;(first | with_reducible refine Calls.mono (kd.out _) ?_ | with_reducible refine Calls.mono (kf.out _) ?_ | with_reducible refine Calls.mono (ka.out _) ?_ | with_reducible refine Calls.mono (kb.out _) ?_);rintro e w' ⟨rfl,rfl⟩) | (go_at_call 101;(first | with_reducible refine Calls.mono (kid.out _) ?_ | with_reducible refine Calls.mono (kif.out _) ?_);rintro e w' ⟨rfl,rfl⟩) | (go_at_call 159;(first | with_reducible refine Calls.mono (koa.out _) ?_ | with_reducible refine Calls.mono (kob.out _) ?_);rintro e w' ⟨rfl,rfl⟩))
     go_meet
     exact⟨by rw [hA2.out];rfl,rfl⟩
  ·clear h1 h2 h3 h4
   go_wp2_with (first | (go_at_call 158;(first | with_reducible refine Calls.mono (kd.out _) ?_ | with_reducible refine Calls.mono (kf.out _) ?_ | with_reducible refine Calls.mono (ka.out _) ?_ | with_reducible refine Calls.mono (kb.out _) ?_);rintro e w' ⟨rfl,rfl⟩) | (go_at_call 101;(first | with_reducible refine Calls.mono (kid.out _) ?_ | with_reducible refine Calls.mono (kif.out _) ?_);rintro e w' ⟨rfl,rfl⟩) | (go_at_call 159;(first | with_reducible refine Calls.mono (koa.out _) ?_ | with_reducible refine Calls.mono (kob.out _) ?_);rintro e w' ⟨rfl,rfl⟩))
   go_meet
   exact⟨by rw [hA2.out];rfl,rfl⟩
  ·cases e3 with
   | true=>
    have i3:=h3.out
    clear h1 h2 h3 h4
    go_wp2_with (first | (go_at_call 158;(first | with_reducible refine Calls.mono (kd.out _) ?_ | with_reducible refine Calls.mono (kf.out _) ?_ | with_reducible refine Calls.mono (ka.out _) ?_ | with_reducible refine Calls.mono (kb.out _) ?_);rintro e w' ⟨rfl,rfl⟩) | (go_at_call 101;(first | with_reducible refine Calls.mono (kid.out _) ?_ | with_reducible refine Calls.mono (kif.out _) ?_);rintro e w' ⟨rfl,rfl⟩) | (go_at_call 159;(first | with_reducible refine Calls.mono (koa.out _) ?_ | with_reducible refine Calls.mono (kob.out _) ?_);rintro e w' ⟨rfl,rfl⟩))
    go_meet
    exact⟨by rw [hA2.out];rfl,rfl⟩
   | false=>
    cases n3 with
    | true=>
     have i3:=h3.out
     clear h1 h2 h3 h4
     go_wp2_with (first | (go_at_call 158;(first | with_reducible refine Calls.mono (kd.out _) ?_ | with_reducible refine Calls.mono (kf.out _) ?_ | with_reducible refine Calls.mono (ka.out _) ?_ | with_reducible refine Calls.mono (kb.out _) ?_);rintro e w' ⟨rfl,rfl⟩) | (go_at_call 101;(first | with_reducible refine Calls.mono (kid.out _) ?_ | with_reducible refine Calls.mono (kif.out _) ?_);rintro e w' ⟨rfl,rfl⟩) | (go_at_call 159;(first | with_reducible refine Calls.mono (koa.out _) ?_ | with_reducible refine Calls.mono (kob.out _) ?_);rintro e w' ⟨rfl,rfl⟩))
     go_meet
     exact⟨by rw [hA2.out];rfl,rfl⟩
    | false=>
     have i3:=h3.out
     clear h1 h2 h3 h4
     go_wp2_with (first | (go_at_call 158;(first | with_reducible refine Calls.mono (kd.out _) ?_ | with_reducible refine Calls.mono (kf.out _) ?_ | with_reducible refine Calls.mono (ka.out _) ?_ | with_reducible refine Calls.mono (kb.out _) ?_);rintro e w' ⟨rfl,rfl⟩) | (go_at_call 101;(first | with_reducible refine Calls.mono (kid.out _) ?_ | with_reducible refine Calls.mono (kif.out _) ?_);rintro e w' ⟨rfl,rfl⟩) | (go_at_call 159;(first | with_reducible refine Calls.mono (koa.out _) ?_ | with_reducible refine Calls.mono (kob.out _) ?_);rintro e w' ⟨rfl,rfl⟩))
     go_meet
     exact⟨by rw [hA2.out];rfl,rfl⟩
 case rest=>
  obtain⟨rfl,rfl⟩:=hcut
  clear hcm h1 h2 h3 h4 kid kif koa kob kd kf ka kb c0 c1 c2 c3 c4 c5
  cases A with
  | true=>
   go_wp2_with fail
   go_ret
   exact⟨by rw [hAe.out];rfl,hB.out⟩
  | false=>
   go_upto_block 0 with fail
   go_wp2_with fail
   go_loop [4] (fun i=>∃k:Nat,k≤na∧i=.int .i64 k∧Hid (hg=true→(LA.take k).all isOperand=true)) (fun i=>na-(intOf i).toNat)
   case atStart=>exact⟨0,Nat.zero_le _,rfl,Lib.hid (fun _=>by simp)⟩
   case round=>
    obtain⟨k,hk,rfl,hr⟩:=hrel
    by_cases hkn:k<na
    ·have j1:decide ((k:Int)<(na:Int))=true:=by simpa using hkn
     obtain⟨s,b,off,he,rfl,hc,hs⟩:=haC.out k hkn
     have hbl:=cell_size hc
     have ko:=Lib.hid (fun w=>operand5_any s w hs)
     obtain⟨u,hu⟩:∃u,isOperand s=u:=⟨_,rfl⟩
     rw [hu] at ko
     have hnext:=Lib.hid (fun (h:hg=true→u=true)=>Lib.hid (fun h0:hg=true=>(by rw [take_snocT he,List.all_append,hr.out h0];simp [hu,h h0]:(LA.take (k+1)).all isOperand=true)))
     have hbad:=Lib.hid (fun (h0:hg=true) (h:u=false)=>(by
      rw [hAe.out,h0]
      have:LA.all isOperand=false:=by
       rw [List.all_eq_false]
       exact⟨s,List.mem_of_getElem? he,by rw [hu,h];simp⟩
      rw [this]
      rfl:B=true))
     clear hr he hs hu
     cases hg with
     | false=>
      go_wp2_with (go_at_call 158;refine Calls.mono (kg.out _) ?_;rintro e w' ⟨rfl,rfl⟩)
      go_round
      case rel=>exact⟨k+1,by omega,by go_num,hnext.out (by first | exact (fun h=>by cases h) | simp)⟩
      case measure=>simp [intOf];omega
     | true=>
      cases u with
      | true=>
       go_wp2_with (first | (go_at_call 158;refine Calls.mono (kg.out _) ?_;rintro e w' ⟨rfl,rfl⟩) | (go_at_call 159;refine Calls.mono (ko.out _) ?_;rintro e w' ⟨rfl,rfl⟩))
       go_round
       case rel=>exact⟨k+1,by omega,by go_num,hnext.out (by first | exact fun _=>rfl | simp)⟩
       case measure=>simp [intOf];omega
      | false=>
       go_wp2_with (first | (go_at_call 158;refine Calls.mono (kg.out _) ?_;rintro e w' ⟨rfl,rfl⟩) | (go_at_call 159;refine Calls.mono (ko.out _) ?_;rintro e w' ⟨rfl,rfl⟩))
       go_ret
       exact⟨by rw [show B=true from by first | exact hbad.out rfl rfl | simpa using hbad.out];rfl,hB.out⟩
    ·have j1:decide ((k:Int)<(na:Int))=false:=by simp;omega
     obtain rfl:k=na:=by omega
     have hAg:=Lib.hid (show B=(hl&&!LL.all isName) from by
      rw [hAe.out,Bool.false_or]
      cases hg with
      | false=>simp
      | true=>
       have h9:=hr.out rfl
       rw [List.take_of_length_le (by rw [←hna.out];exact Nat.le_refl _)] at h9
       rw [h9]
       simp)
     clear hr haC hAe kg hna
     go_wp2_with fail
     go_loop [5] (fun i=>∃k:Nat,k≤nl∧i=.int .i64 k∧Hid (hl=true→(LL.take k).all isName=true)) (fun i=>nl-(intOf i).toNat)
     case atStart=>exact⟨0,Nat.zero_le _,rfl,Lib.hid (fun _=>by simp)⟩
     case round=>
      obtain⟨k,hk,rfl,hr⟩:=hrel
      by_cases hkn:k<nl
      ·have j1:decide ((k:Int)<(nl:Int))=true:=by simpa using hkn
       obtain⟨s,b,off,he,rfl,hc,hs⟩:=hlC.out k hkn
       have hbl:=cell_size hc
       have ko:=Lib.hid (fun w=>ris_any s w hs)
       obtain⟨u,hu⟩:∃u,isName s=u:=⟨_,rfl⟩
       rw [hu] at ko
       have hnext:=Lib.hid (fun (h:hl=true→u=true)=>Lib.hid (fun h0:hl=true=>(by rw [take_snocT he,List.all_append,hr.out h0];simp [hu,h h0]:(LL.take (k+1)).all isName=true)))
       have hbad:=Lib.hid (fun (h0:hl=true) (h:u=false)=>(by
        rw [hAg.out,h0]
        have:LL.all isName=false:=by
         rw [List.all_eq_false]
         exact⟨s,List.mem_of_getElem? he,by rw [hu,h];simp⟩
        rw [this]
        rfl:B=true))
       clear hr he hs hu
       cases hl with
       | false=>
        go_wp2_with (go_at_call 158;refine Calls.mono (kl.out _) ?_;rintro e w' ⟨rfl,rfl⟩)
        go_round
        case rel=>exact⟨k+1,by omega,by go_num,hnext.out (by first | exact (fun h=>by cases h) | simp)⟩
        case measure=>simp [intOf];omega
       | true=>
        cases u with
        | true=>
         go_wp2_with (first | (go_at_call 158;refine Calls.mono (kl.out _) ?_;rintro e w' ⟨rfl,rfl⟩) | (go_at_call 101;refine Calls.mono (ko.out _) ?_;rintro e w' ⟨rfl,rfl⟩))
         go_round
         case rel=>exact⟨k+1,by omega,by go_num,hnext.out (by first | exact fun _=>rfl | simp)⟩
         case measure=>simp [intOf];omega
        | false=>
         go_wp2_with (first | (go_at_call 158;refine Calls.mono (kl.out _) ?_;rintro e w' ⟨rfl,rfl⟩) | (go_at_call 101;refine Calls.mono (ko.out _) ?_;rintro e w' ⟨rfl,rfl⟩))
         go_ret
         exact⟨by rw [show B=true from by first | exact hbad.out rfl rfl | simpa using hbad.out];rfl,hB.out⟩
      ·have j1:decide ((k:Int)<(nl:Int))=false:=by simp;omega
       obtain rfl:k=nl:=by omega
       have hfin:=Lib.hid (show B=false from by
        rw [hAg.out]
        cases hl with
        | false=>simp
        | true=>
         have h9:=hr.out rfl
         rw [List.take_of_length_le (by rw [←hnl.out];exact Nat.le_refl _)] at h9
         rw [h9]
         simp)
       clear hr
       go_wp2_with fail
       go_ret
       exact⟨by rw [hfin.out];rfl,hB.out⟩
end
section
open Go.RowKit Go.Maps Go.Shelf Go.WideMaps
attribute [local go_sem] Oper.semAt_some
theorem zeroN5 (n:Int):(decide (n<0) || decide (n > 0))=!(n==0):=by
 by_cases h:n=0
 ·subst h;rfl
 ·have h1:(n==0)=false:=beq_eq_false_iff_ne.2 h
  rw [h1]
  by_cases h2:n<0
  ·simp [h2]
  ·have h3:n > 0:=by omega
   simp [h3]
theorem misN5 (n:Nat)(k:Int)(hk:k≠ -1):misB k n=!((n:Int)==k):=by
 unfold misB
 have h1:(k != -1)=true:=by simpa using hk
 rw [h1,Bool.true_and]
 by_cases h:(n:Int)=k
 ·have h2:((n:Int)==k)=true:=by simpa using h
  rw [h2]
  simp [h]
 ·have h2:((n:Int)==k)=false:=by simpa using h
  rw [h2]
  simp
  omega
theorem misO5 (n:Nat):misB (-1) n=false:=rfl
theorem phiN5 (a l:Nat):(((a:Int)==0) || ((a:Int) != (l:Int)))=(decide ((l:Int)<1) || !((l:Int)==(a:Int))):=by
 by_cases h:a=l
 ·subst h
  by_cases h0:a=0
  ·subst h0;rfl
  ·have h1:((a:Int)==0)=false:=by simp;omega
   have h2:decide ((a:Int)<1)=false:=by simp;omega
   rw [h1,h2]
   simp
 ·have h1:((a:Int) != (l:Int))=true:=by simp;omega
  have h2:((l:Int)==(a:Int))=false:=by simp;omega
  rw [h1,h2]
  simp
set_option maxHeartbeats 8000000 in
theorem fields5 (d:Ins):badFieldsB d=(((fldB d.op).toList==[]) || (fldR d || (mustR d || lastR d))):=by
 obtain⟨op,dst,a,b,n,fn,args,labels⟩:=d
 have key:∀s,shapeN op=some s→badFieldsB ⟨op,dst,a,b,n,fn,args,labels⟩=badShp ⟨op,dst,a,b,n,fn,args,labels⟩ s:=fun s h=>badFieldsB_some h
 unfold fldR mustR lastR
 dsimp only
 rcases ops5 op with h | h
 ·rcases h with rfl | rfl | rfl | rfl | rfl | rfl | rfl | rfl | rfl | rfl | rfl | rfl | rfl | rfl
  ·rw [key _ rfl]
   unfold badShp
   dsimp only
   rw [show fhB 1 100=true from rfl,show fhB 1 97=false from rfl,show fhB 1 98=false from rfl,show fhB 1 110=true from rfl,show fhB 1 102=false from rfl,show fhB 1 103=false from rfl,show fhB 1 108=false from rfl,show fmB 1 100=true from rfl,show fmB 1 97=false from rfl,show fmB 1 98=false from rfl,show fmB 1 102=false from rfl,show ((fldB 1).toList==[])=false from by rw [ByteArray.toList_eq];rfl]
   simp only [miss_zero5,miss_one5,miss_two5,misO5,misN5 _ 0 (by decide),misN5 _ 1 (by decide),misN5 _ 2 (by decide),phiN5,show ((1:Int)=1)=True from by simp,show ((1:Int)=2)=False from by simp,show ((1:Int)=7)=False from by simp,show ((1:Int)=6)=False from by simp,show ((1:Int)=12)=False from by simp,show ((1:Int)=13)=False from by simp,show ((1:Int)==6)=false from rfl,or_self,or_true,true_or,or_false,false_or,if_true,if_false,←zeroN5,Bool.true_and,Bool.false_and,Bool.true_or,Bool.false_or,Bool.or_false,Bool.or_true,Bool.and_true,Bool.and_false,Bool.not_false,Bool.not_true,Bool.not_not]
   first | rfl | ac_rfl
  ·rw [key _ rfl]
   unfold badShp
   dsimp only
   rw [show fhB 2 100=true from rfl,show fhB 2 97=false from rfl,show fhB 2 98=false from rfl,show fhB 2 110=true from rfl,show fhB 2 102=false from rfl,show fhB 2 103=false from rfl,show fhB 2 108=false from rfl,show fmB 2 100=true from rfl,show fmB 2 97=false from rfl,show fmB 2 98=false from rfl,show fmB 2 102=false from rfl,show ((fldB 2).toList==[])=false from by rw [ByteArray.toList_eq];rfl]
   simp only [miss_zero5,miss_one5,miss_two5,misO5,misN5 _ 0 (by decide),misN5 _ 1 (by decide),misN5 _ 2 (by decide),phiN5,show ((2:Int)=1)=False from by simp,show ((2:Int)=2)=True from by simp,show ((2:Int)=7)=False from by simp,show ((2:Int)=6)=False from by simp,show ((2:Int)=12)=False from by simp,show ((2:Int)=13)=False from by simp,show ((2:Int)==6)=false from rfl,or_self,or_true,true_or,or_false,false_or,if_true,if_false,←zeroN5,Bool.true_and,Bool.false_and,Bool.true_or,Bool.false_or,Bool.or_false,Bool.or_true,Bool.and_true,Bool.and_false,Bool.not_false,Bool.not_true,Bool.not_not]
   first | rfl | ac_rfl
  ·rw [key _ rfl]
   unfold badShp
   dsimp only
   rw [show fhB 3 100=true from rfl,show fhB 3 97=false from rfl,show fhB 3 98=false from rfl,show fhB 3 110=false from rfl,show fhB 3 102=false from rfl,show fhB 3 103=false from rfl,show fhB 3 108=false from rfl,show fmB 3 100=true from rfl,show fmB 3 97=false from rfl,show fmB 3 98=false from rfl,show fmB 3 102=false from rfl,show ((fldB 3).toList==[])=false from by rw [ByteArray.toList_eq];rfl]
   simp only [miss_zero5,miss_one5,miss_two5,misO5,misN5 _ 0 (by decide),misN5 _ 1 (by decide),misN5 _ 2 (by decide),phiN5,show ((3:Int)=1)=False from by simp,show ((3:Int)=2)=False from by simp,show ((3:Int)=7)=False from by simp,show ((3:Int)=6)=False from by simp,show ((3:Int)=12)=False from by simp,show ((3:Int)=13)=False from by simp,show ((3:Int)==6)=false from rfl,or_self,or_true,true_or,or_false,false_or,if_true,if_false,←zeroN5,Bool.true_and,Bool.false_and,Bool.true_or,Bool.false_or,Bool.or_false,Bool.or_true,Bool.and_true,Bool.and_false,Bool.not_false,Bool.not_true,Bool.not_not]
   first | rfl | ac_rfl
  ·rw [key _ rfl]
   unfold badShp
   dsimp only
   rw [show fhB 4 100=true from rfl,show fhB 4 97=false from rfl,show fhB 4 98=false from rfl,show fhB 4 110=false from rfl,show fhB 4 102=true from rfl,show fhB 4 103=false from rfl,show fhB 4 108=false from rfl,show fmB 4 100=true from rfl,show fmB 4 97=false from rfl,show fmB 4 98=false from rfl,show fmB 4 102=true from rfl,show ((fldB 4).toList==[])=false from by rw [ByteArray.toList_eq];rfl]
   simp only [miss_zero5,miss_one5,miss_two5,misO5,misN5 _ 0 (by decide),misN5 _ 1 (by decide),misN5 _ 2 (by decide),phiN5,show ((4:Int)=1)=False from by simp,show ((4:Int)=2)=False from by simp,show ((4:Int)=7)=False from by simp,show ((4:Int)=6)=False from by simp,show ((4:Int)=12)=False from by simp,show ((4:Int)=13)=False from by simp,show ((4:Int)==6)=false from rfl,or_self,or_true,true_or,or_false,false_or,if_true,if_false,←zeroN5,Bool.true_and,Bool.false_and,Bool.true_or,Bool.false_or,Bool.or_false,Bool.or_true,Bool.and_true,Bool.and_false,Bool.not_false,Bool.not_true,Bool.not_not]
   first | rfl | ac_rfl
  ·rw [key _ rfl]
   unfold badShp
   dsimp only
   rw [show fhB 5 100=true from rfl,show fhB 5 97=true from rfl,show fhB 5 98=false from rfl,show fhB 5 110=false from rfl,show fhB 5 102=false from rfl,show fhB 5 103=false from rfl,show fhB 5 108=false from rfl,show fmB 5 100=true from rfl,show fmB 5 97=true from rfl,show fmB 5 98=false from rfl,show fmB 5 102=false from rfl,show ((fldB 5).toList==[])=false from by rw [ByteArray.toList_eq];rfl]
   simp only [miss_zero5,miss_one5,miss_two5,misO5,misN5 _ 0 (by decide),misN5 _ 1 (by decide),misN5 _ 2 (by decide),phiN5,show ((5:Int)=1)=False from by simp,show ((5:Int)=2)=False from by simp,show ((5:Int)=7)=False from by simp,show ((5:Int)=6)=False from by simp,show ((5:Int)=12)=False from by simp,show ((5:Int)=13)=False from by simp,show ((5:Int)==6)=false from rfl,or_self,or_true,true_or,or_false,false_or,if_true,if_false,←zeroN5,Bool.true_and,Bool.false_and,Bool.true_or,Bool.false_or,Bool.or_false,Bool.or_true,Bool.and_true,Bool.and_false,Bool.not_false,Bool.not_true,Bool.not_not]
   first | rfl | ac_rfl
  ·rw [key _ rfl]
   unfold badShp
   dsimp only
   rw [show fhB 6 100=true from rfl,show fhB 6 97=false from rfl,show fhB 6 98=false from rfl,show fhB 6 110=false from rfl,show fhB 6 102=false from rfl,show fhB 6 103=true from rfl,show fhB 6 108=true from rfl,show fmB 6 100=true from rfl,show fmB 6 97=false from rfl,show fmB 6 98=false from rfl,show fmB 6 102=false from rfl,show ((fldB 6).toList==[])=false from by rw [ByteArray.toList_eq];rfl]
   simp only [miss_zero5,miss_one5,miss_two5,misO5,misN5 _ 0 (by decide),misN5 _ 1 (by decide),misN5 _ 2 (by decide),phiN5,show ((6:Int)=1)=False from by simp,show ((6:Int)=2)=False from by simp,show ((6:Int)=7)=False from by simp,show ((6:Int)=6)=True from by simp,show ((6:Int)=12)=False from by simp,show ((6:Int)=13)=False from by simp,show ((6:Int)==6)=true from rfl,or_self,or_true,true_or,or_false,false_or,if_true,if_false,←zeroN5,Bool.true_and,Bool.false_and,Bool.true_or,Bool.false_or,Bool.or_false,Bool.or_true,Bool.and_true,Bool.and_false,Bool.not_false,Bool.not_true,Bool.not_not]
   first | rfl | ac_rfl
  ·rw [key _ rfl]
   unfold badShp
   dsimp only
   rw [show fhB 7 100=true from rfl,show fhB 7 97=true from rfl,show fhB 7 98=false from rfl,show fhB 7 110=true from rfl,show fhB 7 102=false from rfl,show fhB 7 103=false from rfl,show fhB 7 108=false from rfl,show fmB 7 100=true from rfl,show fmB 7 97=true from rfl,show fmB 7 98=false from rfl,show fmB 7 102=false from rfl,show ((fldB 7).toList==[])=false from by rw [ByteArray.toList_eq];rfl]
   simp only [miss_zero5,miss_one5,miss_two5,misO5,misN5 _ 0 (by decide),misN5 _ 1 (by decide),misN5 _ 2 (by decide),phiN5,show ((7:Int)=1)=False from by simp,show ((7:Int)=2)=False from by simp,show ((7:Int)=7)=True from by simp,show ((7:Int)=6)=False from by simp,show ((7:Int)=12)=False from by simp,show ((7:Int)=13)=False from by simp,show ((7:Int)==6)=false from rfl,or_self,or_true,true_or,or_false,false_or,if_true,if_false,←zeroN5,Bool.true_and,Bool.false_and,Bool.true_or,Bool.false_or,Bool.or_false,Bool.or_true,Bool.and_true,Bool.and_false,Bool.not_false,Bool.not_true,Bool.not_not]
   first | rfl | ac_rfl
  ·rw [key _ rfl]
   unfold badShp
   dsimp only
   rw [show fhB 8 100=true from rfl,show fhB 8 97=true from rfl,show fhB 8 98=false from rfl,show fhB 8 110=false from rfl,show fhB 8 102=false from rfl,show fhB 8 103=false from rfl,show fhB 8 108=false from rfl,show fmB 8 100=true from rfl,show fmB 8 97=true from rfl,show fmB 8 98=false from rfl,show fmB 8 102=false from rfl,show ((fldB 8).toList==[])=false from by rw [ByteArray.toList_eq];rfl]
   simp only [miss_zero5,miss_one5,miss_two5,misO5,misN5 _ 0 (by decide),misN5 _ 1 (by decide),misN5 _ 2 (by decide),phiN5,show ((8:Int)=1)=False from by simp,show ((8:Int)=2)=False from by simp,show ((8:Int)=7)=False from by simp,show ((8:Int)=6)=False from by simp,show ((8:Int)=12)=False from by simp,show ((8:Int)=13)=False from by simp,show ((8:Int)==6)=false from rfl,or_self,or_true,true_or,or_false,false_or,if_true,if_false,←zeroN5,Bool.true_and,Bool.false_and,Bool.true_or,Bool.false_or,Bool.or_false,Bool.or_true,Bool.and_true,Bool.and_false,Bool.not_false,Bool.not_true,Bool.not_not]
   first | rfl | ac_rfl
  ·rw [key _ rfl]
   unfold badShp
   dsimp only
   rw [show fhB 9 100=false from rfl,show fhB 9 97=true from rfl,show fhB 9 98=true from rfl,show fhB 9 110=false from rfl,show fhB 9 102=false from rfl,show fhB 9 103=false from rfl,show fhB 9 108=false from rfl,show fmB 9 100=false from rfl,show fmB 9 97=true from rfl,show fmB 9 98=true from rfl,show fmB 9 102=false from rfl,show ((fldB 9).toList==[])=false from by rw [ByteArray.toList_eq];rfl]
   simp only [miss_zero5,miss_one5,miss_two5,misO5,misN5 _ 0 (by decide),misN5 _ 1 (by decide),misN5 _ 2 (by decide),phiN5,show ((9:Int)=1)=False from by simp,show ((9:Int)=2)=False from by simp,show ((9:Int)=7)=False from by simp,show ((9:Int)=6)=False from by simp,show ((9:Int)=12)=False from by simp,show ((9:Int)=13)=False from by simp,show ((9:Int)==6)=false from rfl,or_self,or_true,true_or,or_false,false_or,if_true,if_false,←zeroN5,Bool.true_and,Bool.false_and,Bool.true_or,Bool.false_or,Bool.or_false,Bool.or_true,Bool.and_true,Bool.and_false,Bool.not_false,Bool.not_true,Bool.not_not]
   first | rfl | ac_rfl
  ·rw [key _ rfl]
   unfold badShp
   dsimp only
   rw [show fhB 10 100=true from rfl,show fhB 10 97=false from rfl,show fhB 10 98=false from rfl,show fhB 10 110=false from rfl,show fhB 10 102=true from rfl,show fhB 10 103=true from rfl,show fhB 10 108=false from rfl,show fmB 10 100=false from rfl,show fmB 10 97=false from rfl,show fmB 10 98=false from rfl,show fmB 10 102=true from rfl,show ((fldB 10).toList==[])=false from by rw [ByteArray.toList_eq];rfl]
   simp only [miss_zero5,miss_one5,miss_two5,misO5,misN5 _ 0 (by decide),misN5 _ 1 (by decide),misN5 _ 2 (by decide),phiN5,show ((10:Int)=1)=False from by simp,show ((10:Int)=2)=False from by simp,show ((10:Int)=7)=False from by simp,show ((10:Int)=6)=False from by simp,show ((10:Int)=12)=False from by simp,show ((10:Int)=13)=False from by simp,show ((10:Int)==6)=false from rfl,or_self,or_true,true_or,or_false,false_or,if_true,if_false,←zeroN5,Bool.true_and,Bool.false_and,Bool.true_or,Bool.false_or,Bool.or_false,Bool.or_true,Bool.and_true,Bool.and_false,Bool.not_false,Bool.not_true,Bool.not_not]
   first | rfl | ac_rfl
  ·rw [key _ rfl]
   unfold badShp
   dsimp only
   rw [show fhB 11 100=true from rfl,show fhB 11 97=true from rfl,show fhB 11 98=false from rfl,show fhB 11 110=false from rfl,show fhB 11 102=false from rfl,show fhB 11 103=true from rfl,show fhB 11 108=false from rfl,show fmB 11 100=false from rfl,show fmB 11 97=true from rfl,show fmB 11 98=false from rfl,show fmB 11 102=false from rfl,show ((fldB 11).toList==[])=false from by rw [ByteArray.toList_eq];rfl]
   simp only [miss_zero5,miss_one5,miss_two5,misO5,misN5 _ 0 (by decide),misN5 _ 1 (by decide),misN5 _ 2 (by decide),phiN5,show ((11:Int)=1)=False from by simp,show ((11:Int)=2)=False from by simp,show ((11:Int)=7)=False from by simp,show ((11:Int)=6)=False from by simp,show ((11:Int)=12)=False from by simp,show ((11:Int)=13)=False from by simp,show ((11:Int)==6)=false from rfl,or_self,or_true,true_or,or_false,false_or,if_true,if_false,←zeroN5,Bool.true_and,Bool.false_and,Bool.true_or,Bool.false_or,Bool.or_false,Bool.or_true,Bool.and_true,Bool.and_false,Bool.not_false,Bool.not_true,Bool.not_not]
   first | rfl | ac_rfl
  ·rw [key _ rfl]
   unfold badShp
   dsimp only
   rw [show fhB 12 100=false from rfl,show fhB 12 97=false from rfl,show fhB 12 98=false from rfl,show fhB 12 110=false from rfl,show fhB 12 102=false from rfl,show fhB 12 103=false from rfl,show fhB 12 108=true from rfl,show fmB 12 100=false from rfl,show fmB 12 97=false from rfl,show fmB 12 98=false from rfl,show fmB 12 102=false from rfl,show ((fldB 12).toList==[])=false from by rw [ByteArray.toList_eq];rfl]
   simp only [miss_zero5,miss_one5,miss_two5,misO5,misN5 _ 0 (by decide),misN5 _ 1 (by decide),misN5 _ 2 (by decide),phiN5,show ((12:Int)=1)=False from by simp,show ((12:Int)=2)=False from by simp,show ((12:Int)=7)=False from by simp,show ((12:Int)=6)=False from by simp,show ((12:Int)=12)=True from by simp,show ((12:Int)=13)=False from by simp,show ((12:Int)==6)=false from rfl,or_self,or_true,true_or,or_false,false_or,if_true,if_false,←zeroN5,Bool.true_and,Bool.false_and,Bool.true_or,Bool.false_or,Bool.or_false,Bool.or_true,Bool.and_true,Bool.and_false,Bool.not_false,Bool.not_true,Bool.not_not]
   first | rfl | ac_rfl
  ·rw [key _ rfl]
   unfold badShp
   dsimp only
   rw [show fhB 13 100=false from rfl,show fhB 13 97=false from rfl,show fhB 13 98=false from rfl,show fhB 13 110=false from rfl,show fhB 13 102=false from rfl,show fhB 13 103=false from rfl,show fhB 13 108=true from rfl,show fmB 13 100=false from rfl,show fmB 13 97=false from rfl,show fmB 13 98=false from rfl,show fmB 13 102=false from rfl,show ((fldB 13).toList==[])=false from by rw [ByteArray.toList_eq];rfl]
   simp only [miss_zero5,miss_one5,miss_two5,misO5,misN5 _ 0 (by decide),misN5 _ 1 (by decide),misN5 _ 2 (by decide),phiN5,show ((13:Int)=1)=False from by simp,show ((13:Int)=2)=False from by simp,show ((13:Int)=7)=False from by simp,show ((13:Int)=6)=False from by simp,show ((13:Int)=12)=False from by simp,show ((13:Int)=13)=True from by simp,show ((13:Int)==6)=false from rfl,or_self,or_true,true_or,or_false,false_or,if_true,if_false,←zeroN5,Bool.true_and,Bool.false_and,Bool.true_or,Bool.false_or,Bool.or_false,Bool.or_true,Bool.and_true,Bool.and_false,Bool.not_false,Bool.not_true,Bool.not_not]
   first | rfl | ac_rfl
  ·rw [key _ rfl]
   unfold badShp
   dsimp only
   rw [show fhB 14 100=false from rfl,show fhB 14 97=true from rfl,show fhB 14 98=false from rfl,show fhB 14 110=false from rfl,show fhB 14 102=false from rfl,show fhB 14 103=false from rfl,show fhB 14 108=false from rfl,show fmB 14 100=false from rfl,show fmB 14 97=false from rfl,show fmB 14 98=false from rfl,show fmB 14 102=false from rfl,show ((fldB 14).toList==[])=false from by rw [ByteArray.toList_eq];rfl]
   simp only [miss_zero5,miss_one5,miss_two5,misO5,misN5 _ 0 (by decide),misN5 _ 1 (by decide),misN5 _ 2 (by decide),phiN5,show ((14:Int)=1)=False from by simp,show ((14:Int)=2)=False from by simp,show ((14:Int)=7)=False from by simp,show ((14:Int)=6)=False from by simp,show ((14:Int)=12)=False from by simp,show ((14:Int)=13)=False from by simp,show ((14:Int)==6)=false from rfl,or_self,or_true,true_or,or_false,false_or,if_true,if_false,←zeroN5,Bool.true_and,Bool.false_and,Bool.true_or,Bool.false_or,Bool.or_false,Bool.or_true,Bool.and_true,Bool.and_false,Bool.not_false,Bool.not_true,Bool.not_not]
   first | rfl | ac_rfl
 ·have hs:shapeN op=none:=by
   unfold shapeN
   repeat' split
   all_goals first | omega | rfl
  have hf:fldB op=⟨#[]⟩:=by
   obtain⟨h1,h2,h3,h4,h5,h6,h7,h8,h9,h10,h11,h12,h13,h14⟩:=h
   unfold fldB
   simp only [h1,h2,h3,h4,h5,h6,h7,h8,h9,h10,h11,h12,h13,h14,if_false]
  rw [badFieldsB_none hs,hf,show ((⟨#[]⟩:ByteArray).toList==[])=true from by rw [ByteArray.toList_eq];rfl]
  rfl
end
end Go.Proofs.YtknkiaedgeejiaaGreatDoor
