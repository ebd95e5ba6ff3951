/- NBadF, SwM, OwnE, SwB, SwW. -/
import Derived.Test.YtknkiaedgeejiaaGreatDoorSP1
import Derived.Test.YtknkiaedgeejiaaGreatDoorShelf
import Derived.Deep.RegionHeld3
import Derived.Lib.Join
import Derived.Lib.ItoaNum
import Derived.Lib.Builder
import Derived.Lib.AppendStr
import Derived.Lib.UnsafeStr
import Derived.Lib.FrozenHead
import Derived.Deep.AppendLies
namespace Go.Proofs.YtknkiaedgeejiaaGreatDoor
set_option linter.unusedVariables false
set_option linter.unusedSimpArgs false
section
open Go.RowKit Go.Maps
def InsAt (w:World)(b o:Nat)(d:Ins):Prop:=b<w.heap.size∧∃va vl,RdS w va d.args∧RdS w vl d.labels∧∀(j:Nat) (u:Value),(insV d va vl)[j]?=some u→w.cell? ⟨b,o+j,none⟩=some u
theorem InsAt.below {w w':World}{b o:Nat}{d:Ins}(h:InsAt w b o d)(hb:Below w.heap.size w w'):InsAt w' b o d:=by
 obtain⟨h0,va,vl,h1,h2,h3⟩:=h
 exact⟨Nat.lt_of_lt_of_le h0 hb.size,va,vl,Rd.below h1 hb,Rd.below h2 hb,fun j u hj=>(hb.cell (p:=⟨b,o+j,none⟩) h0).trans (h3 j u hj)⟩
theorem InsAt.cells {w:World}{b o:Nat}{d:Ins}(h:InsAt w b o d):∃aa ca al cl,RdS w (.slice aa d.args.length ca) d.args∧RdS w (.slice al d.labels.length cl) d.labels∧
  w.cell? ⟨b,o,none⟩=some (.int .u8 d.op)∧w.cell? ⟨b,o+1,none⟩=some (.string d.dst)∧w.cell? ⟨b,o+2,none⟩=some (.string d.a)∧w.cell? ⟨b,o+3,none⟩=some (.string d.b)∧w.cell? ⟨b,o+4,none⟩=some (.int .i64 d.n)∧w.cell? ⟨b,o+5,none⟩=some (.string d.fn)∧w.cell? ⟨b,o+6,none⟩=some (.slice aa d.args.length ca)∧w.cell? ⟨b,o+7,none⟩=some (.slice al d.labels.length cl):=by
 obtain⟨h0,va,vl,h1,h2,h3⟩:=h
 obtain⟨aa,ca,rfl⟩:=h1.shape
 obtain⟨al,cl,rfl⟩:=h2.shape
 exact⟨aa,ca,al,cl,h1,h2,h3 0 _ rfl,h3 1 _ rfl,h3 2 _ rfl,h3 3 _ rfl,h3 4 _ rfl,h3 5 _ rfl,h3 6 _ rfl,h3 7 _ rfl⟩
def badShp (d:Ins)(s:Shp):Bool:=(d.op==6&&((d.args.length:Int)==0 || (d.args.length:Int) != (d.labels.length:Int))) || (missB s.dst d.dst || (missB s.a d.a || (missB s.b d.b || (missB s.fn d.fn || (decide (d.n<s.low) || (decide (d.n > s.high) || (misB s.args d.args.length || misB s.labels d.labels.length)))))))
def badFieldsB (d:Ins):Bool:=match shapeN d.op with
 | none=>true
 | some s=>badShp d s
theorem badFieldsB_some {d:Ins}{s:Shp}(h:shapeN d.op=some s):badFieldsB d=badShp d s:=by unfold badFieldsB;rw [h]
theorem badFieldsB_none {d:Ins}(h:shapeN d.op=none):badFieldsB d=true:=by unfold badFieldsB;rw [h]
structure InsShp (W:World) (b o S:Nat) (d:Ins) (s:Shp) (va vl:Value):Prop where
 c0:W.cell? ⟨b,o,none⟩=some (.int .u8 d.op)
 c1:W.cell? ⟨b,o+1,none⟩=some (.string d.dst)
 c2:W.cell? ⟨b,o+2,none⟩=some (.string d.a)
 c3:W.cell? ⟨b,o+3,none⟩=some (.string d.b)
 c4:W.cell? ⟨b,o+4,none⟩=some (.int .i64 d.n)
 c5:W.cell? ⟨b,o+5,none⟩=some (.string d.fn)
 c6:W.cell? ⟨b,o+6,none⟩=some va
 c7:W.cell? ⟨b,o+7,none⟩=some vl
 s0:W.cell? ⟨S,0,none⟩=some (.int .u8 s.dst)
 s1:W.cell? ⟨S,1,none⟩=some (.int .u8 s.a)
 s2:W.cell? ⟨S,2,none⟩=some (.int .u8 s.b)
 s3:W.cell? ⟨S,3,none⟩=some (.int .u8 s.fn)
 s4:W.cell? ⟨S,4,none⟩=some (.int .i64 s.low)
 s5:W.cell? ⟨S,5,none⟩=some (.int .i64 s.high)
 s6:W.cell? ⟨S,6,none⟩=some (.int .i64 s.args)
 s7:W.cell? ⟨S,7,none⟩=some (.int .i64 s.labels)
theorem InsShp.drewN {W:World}{b o S:Nat}{d:Ins}{s:Shp}{va vl:Value}(h:InsShp W b o S d s va vl)(n:Nat):InsShp (W.drewN n) b o S d s va vl:=
 ⟨h.c0,h.c1,h.c2,h.c3,h.c4,h.c5,h.c6,h.c7,h.s0,h.s1,h.s2,h.s3,h.s4,h.s5,h.s6,h.s7⟩
theorem InsShp.below {W W':World}{b o S:Nat}{d:Ins}{s:Shp}{va vl:Value}(h:InsShp W b o S d s va vl)(hB:Below W.heap.size W W'):InsShp W' b o S d s va vl:=by
 have k:∀{p:Addr} {v:Value},W.cell? p=some v→W'.cell? p=some v:=fun {p} {v} hc=>(hB.cell (p:=p) (cell_size hc)).trans hc
 exact⟨k h.c0,k h.c1,k h.c2,k h.c3,k h.c4,k h.c5,k h.c6,k h.c7,k h.s0,k h.s1,k h.s2,k h.s3,k h.s4,k h.s5,k h.s6,k h.s7⟩
theorem insShp {w w2:World}{b o:Nat}{d:Ins}{s:Shp}{va vl:Value}(hb:Below w.heap.size w w2)(hbl:b<w.heap.size)
  (c:∀(j:Nat) (u:Value),(insV d va vl)[j]?=some u→w.cell? ⟨b,o+j,none⟩=some u):InsShp (w2.alloc (.cells (shpA s) 171)) b o w2.heap.size d s va vl:=by
 have k:∀(j:Nat) (u:Value),(insV d va vl)[j]?=some u→(w2.alloc (.cells (shpA s) 171)).cell? ⟨b,o+j,none⟩=some u:=fun j u hj=>by
  have h1:=(hb.cell (p:=⟨b,o+j,none⟩) hbl).trans (c j u hj)
  exact (((Below.refl w2.heap.size w2).alloc (Nat.le_refl _) _).cell (p:=⟨b,o+j,none⟩) (Nat.lt_of_lt_of_le hbl hb.size)).trans h1
 have hN:(w2.alloc (.cells (shpA s) 171)).heap[w2.heap.size]?=some (.cells (shpA s) 171 (0,0)):=at_newN rfl
 exact⟨k 0 _ rfl,k 1 _ rfl,k 2 _ rfl,k 3 _ rfl,k 4 _ rfl,k 5 _ rfl,k 6 _ rfl,k 7 _ rfl,by rw [blk_cell hN];rfl,by rw [blk_cell hN];rfl,by rw [blk_cell hN];rfl,by rw [blk_cell hN];rfl,by rw [blk_cell hN];rfl,by rw [blk_cell hN];rfl,by rw [blk_cell hN];rfl,by rw [blk_cell hN];rfl⟩
set_option maxRecDepth 20000 in
set_option maxHeartbeats 8000000 in
theorem badFields_any {w:World}{b o:Nat}{d:Ins}(h:InsAt w b o d)(h0:0≤d.op)(hla:d.args.length≤maxLen)(hll:d.labels.length≤maxLen):Calls Tryz.prog 140 #[.pointer (some ⟨b,o,none⟩)] w fun e w'=>e=.returned (.bool (badFieldsB d))∧Below w.heap.size w w':=by
 obtain⟨hbl,va,vl,r1,r2,hcs⟩:=h
 obtain⟨aa,ca,rfl⟩:=r1.shape
 obtain⟨al,cl,rfl⟩:=r2.shape
 have c0:w.cell? ⟨b,o,none⟩=some (.int .u8 d.op):=hcs 0 _ rfl
 unfold maxLen at hla hll
 cases hs:shapeN d.op with
 | none=>
  rw [badFieldsB_none hs]
  have k1:=Lib.hid (fun w=>shapeOf_none d.op h0 hs w)
  clear hs r1 r2 hcs
  go_enter Tryz.func140,Tryz.ntmps140
  go_wp2_with fail
  refine (k1.out _).mono ?_
  rintro e w2 ⟨rfl,hb⟩
  go_wp2_with fail
  go_ret
  exact⟨rfl,hb.alloc hb.size _⟩
 | some s=>
  rw [badFieldsB_some hs]
  unfold badShp
  have k1:=Lib.hid (fun w=>shapeOf_some d.op s hs w)
  have hF:=Lib.hid (fun (w2:World) (hb:Below w.heap.size w w2)=>insShp (s:=s) hb hbl hcs)
  have k2:=Lib.hid (fun w=>misses_any s.dst d.dst w)
  have k3:=Lib.hid (fun w=>misses_any s.a d.a w)
  have k4:=Lib.hid (fun w=>misses_any s.b d.b w)
  have k5:=Lib.hid (fun w=>misses_any s.fn d.fn w)
  have k6:=Lib.hid (fun w=>miscounts_any s.args d.args.length w)
  have k7:=Lib.hid (fun w=>miscounts_any s.labels d.labels.length w)
  clear hs r1 r2 h0 hcs
  generalize hn1:d.args.length=n1 at *
  generalize hn2:d.labels.length=n2 at *
  generalize hp0:(d.op==6)=p0
  generalize hq1:((n1:Int)==0)=q1
  generalize hq2:((n1:Int) != (n2:Int))=q2
  generalize missB s.dst d.dst=p1 at *
  generalize missB s.a d.a=p2 at *
  generalize missB s.b d.b=p3 at *
  generalize missB s.fn d.fn=p4 at *
  generalize hp5:decide (d.n<s.low)=p5
  generalize hp6:decide (d.n > s.high)=p6
  generalize misB s.args (n1:Int)=p7 at *
  generalize misB s.labels (n2:Int)=p8 at *
  have g0:=Lib.hid (fun _:Unit=>hp0)
  have g1:=Lib.hid (fun _:Unit=>hq1)
  have g2:=Lib.hid (fun _:Unit=>hq2)
  obtain⟨g,hg⟩:∃g,Hid (g=(p0&&(q1 || q2))):=⟨_,Lib.hid rfl⟩
  have g5:=Lib.hid (fun _:Unit=>hp5)
  have g6:=Lib.hid (fun _:Unit=>hp6)
  clear hp0 hq1 hq2 hp5 hp6 hn1 hn2
  unfold shpA at k1 hF
  go_enter Tryz.func140,Tryz.ntmps140
  go_wp2_with fail
  refine (k1.out _).mono ?_
  rintro e w2 ⟨rfl,hb⟩
  have hF2:=Lib.hid (hF.out _ hb)
  have hB2:=Lib.hid (hb.alloc hb.size (.cells #[.int .u8 s.dst,.int .u8 s.a,.int .u8 s.b,.int .u8 s.fn,.int .i64 s.low,.int .i64 s.high,.int .i64 s.args,.int .i64 s.labels] 171))
  clear hF hb k1 c0
  go_upto_region 4 with fail
  generalize hS:w2.heap.size=S at hF2 ⊢
  generalize (w2.alloc (.cells #[.int .u8 s.dst,.int .u8 s.a,.int .u8 s.b,.int .u8 s.fn,.int .i64 s.low,.int .i64 s.high,.int .i64 s.args,.int .i64 s.labels] 171))=W at hF2 hB2 ⊢
  go_cut [40] from 15 to 40 (fun x wx=>x=.bool g∧∃n,wx=W.drewN n)
  case first=>
   obtain⟨c0,c1,c2,c3,c4,c5,c6,c7,s0,s1,s2,s3,s4,s5,s6,s7⟩:=hF2.out
   clear c1 c2 c3 c4 c5 s0 s1 s2 s3 s4 s5 s6 s7 k2 k3 k4 k5 k6 k7
   have hp0:=g0.out ()
   have hq1:=g1.out ()
   have hq2:=g2.out ()
   clear g0 g1 g2 g5 g6
   cases p0 with
   | false=>
    go_quiet (fail)
    go_wp2_with fail
    go_meet
    exact⟨by rw [hg.out];rfl,_,rfl⟩
   | true=>
    cases q1 with
    | true=>
     go_quiet (fail)
     go_wp2_with fail
     go_meet
     exact⟨by rw [hg.out];rfl,_,rfl⟩
    | false=>
     cases q2<;>(
      go_quiet (fail)
      go_wp2_with fail
      go_meet
      exact⟨by rw [hg.out];rfl,_,rfl⟩)
  case rest=>
   obtain⟨rfl,nn,rfl⟩:=hcut
   have hF3:=Lib.hid (hF2.out.drewN nn)
   have hB3:=Lib.hid (below_drawn hB2.out nn)
   clear hF2 hB2 g0 g1 g2
   generalize W.drewN nn=W3 at hF3 hB3 ⊢
   cases g with
   | true=>
    go_wp2_with fail
    go_ret
    exact⟨by rw [←hg.out];rfl,hB3.out⟩
   | false=>
    obtain⟨c0,c1,c2,c3,c4,c5,c6,c7,s0,s1,s2,s3,s4,s5,s6,s7⟩:=hF3.out
    clear c0
    have hp5:=g5.out ()
    have hp6:=g6.out ()
    clear g5 g6
    go_wp2_with fail
    dsimp only [List.append]
    refine wp_region_quiet_lit (by kernel_rfl) (by kernel_rfl) ?_
    repeat (go_big_quiet_step ((first | (go_at_call 169;first | (with_reducible exact Calls.quiet_of_same (k2.out _)) | (with_reducible exact Calls.quiet_of_same (k3.out _)) | (with_reducible exact Calls.quiet_of_same (k4.out _)) | (with_reducible exact Calls.quiet_of_same (k5.out _))) | (go_at_call 170;first | (with_reducible exact Calls.quiet_of_same (k6.out _)) | (with_reducible exact Calls.quiet_of_same (k7.out _))))))
    cases p1 with
    | true=>
     repeat (go_big_quiet_step ((first | (go_at_call 169;first | (with_reducible exact Calls.quiet_of_same (k2.out _)) | (with_reducible exact Calls.quiet_of_same (k3.out _)) | (with_reducible exact Calls.quiet_of_same (k4.out _)) | (with_reducible exact Calls.quiet_of_same (k5.out _))) | (go_at_call 170;first | (with_reducible exact Calls.quiet_of_same (k6.out _)) | (with_reducible exact Calls.quiet_of_same (k7.out _))))))
     refine wpQuiet_nil ?_
     intro _ hw'
     obtain⟨nq,hw''⟩:=hw'
     subst hw''
     go_wp2_with fail
     go_ret
     exact⟨by rw [←hg.out];rfl,below_drawn hB3.out _⟩
    | false=>
     repeat (go_big_quiet_step ((first | (go_at_call 169;first | (with_reducible exact Calls.quiet_of_same (k2.out _)) | (with_reducible exact Calls.quiet_of_same (k3.out _)) | (with_reducible exact Calls.quiet_of_same (k4.out _)) | (with_reducible exact Calls.quiet_of_same (k5.out _))) | (go_at_call 170;first | (with_reducible exact Calls.quiet_of_same (k6.out _)) | (with_reducible exact Calls.quiet_of_same (k7.out _))))))
     cases p2 with
     | true=>
      repeat (go_big_quiet_step ((first | (go_at_call 169;first | (with_reducible exact Calls.quiet_of_same (k2.out _)) | (with_reducible exact Calls.quiet_of_same (k3.out _)) | (with_reducible exact Calls.quiet_of_same (k4.out _)) | (with_reducible exact Calls.quiet_of_same (k5.out _))) | (go_at_call 170;first | (with_reducible exact Calls.quiet_of_same (k6.out _)) | (with_reducible exact Calls.quiet_of_same (k7.out _))))))
      refine wpQuiet_nil ?_
      intro _ hw'
      obtain⟨nq,hw''⟩:=hw'
      subst hw''
      go_wp2_with fail
      go_ret
      exact⟨by rw [←hg.out];rfl,below_drawn hB3.out _⟩
     | false=>
      repeat (go_big_quiet_step ((first | (go_at_call 169;first | (with_reducible exact Calls.quiet_of_same (k2.out _)) | (with_reducible exact Calls.quiet_of_same (k3.out _)) | (with_reducible exact Calls.quiet_of_same (k4.out _)) | (with_reducible exact Calls.quiet_of_same (k5.out _))) | (go_at_call 170;first | (with_reducible exact Calls.quiet_of_same (k6.out _)) | (with_reducible exact Calls.quiet_of_same (k7.out _))))))
      cases p3 with
      | true=>
       repeat (go_big_quiet_step ((first | (go_at_call 169;first | (with_reducible exact Calls.quiet_of_same (k2.out _)) | (with_reducible exact Calls.quiet_of_same (k3.out _)) | (with_reducible exact Calls.quiet_of_same (k4.out _)) | (with_reducible exact Calls.quiet_of_same (k5.out _))) | (go_at_call 170;first | (with_reducible exact Calls.quiet_of_same (k6.out _)) | (with_reducible exact Calls.quiet_of_same (k7.out _))))))
       refine wpQuiet_nil ?_
       intro _ hw'
       obtain⟨nq,hw''⟩:=hw'
       subst hw''
       go_wp2_with fail
       go_ret
       exact⟨by rw [←hg.out];rfl,below_drawn hB3.out _⟩
      | false=>
       repeat (go_big_quiet_step ((first | (go_at_call 169;first | (with_reducible exact Calls.quiet_of_same (k2.out _)) | (with_reducible exact Calls.quiet_of_same (k3.out _)) | (with_reducible exact Calls.quiet_of_same (k4.out _)) | (with_reducible exact Calls.quiet_of_same (k5.out _))) | (go_at_call 170;first | (with_reducible exact Calls.quiet_of_same (k6.out _)) | (with_reducible exact Calls.quiet_of_same (k7.out _))))))
       cases p4 with
       | true=>
        repeat (go_big_quiet_step ((first | (go_at_call 169;first | (with_reducible exact Calls.quiet_of_same (k2.out _)) | (with_reducible exact Calls.quiet_of_same (k3.out _)) | (with_reducible exact Calls.quiet_of_same (k4.out _)) | (with_reducible exact Calls.quiet_of_same (k5.out _))) | (go_at_call 170;first | (with_reducible exact Calls.quiet_of_same (k6.out _)) | (with_reducible exact Calls.quiet_of_same (k7.out _))))))
        refine wpQuiet_nil ?_
        intro _ hw'
        obtain⟨nq,hw''⟩:=hw'
        subst hw''
        go_wp2_with fail
        go_ret
        exact⟨by rw [←hg.out];rfl,below_drawn hB3.out _⟩
       | false=>
        repeat (go_big_quiet_step ((first | (go_at_call 169;first | (with_reducible exact Calls.quiet_of_same (k2.out _)) | (with_reducible exact Calls.quiet_of_same (k3.out _)) | (with_reducible exact Calls.quiet_of_same (k4.out _)) | (with_reducible exact Calls.quiet_of_same (k5.out _))) | (go_at_call 170;first | (with_reducible exact Calls.quiet_of_same (k6.out _)) | (with_reducible exact Calls.quiet_of_same (k7.out _))))))
        cases p5 with
        | true=>
         repeat (go_big_quiet_step ((first | (go_at_call 169;first | (with_reducible exact Calls.quiet_of_same (k2.out _)) | (with_reducible exact Calls.quiet_of_same (k3.out _)) | (with_reducible exact Calls.quiet_of_same (k4.out _)) | (with_reducible exact Calls.quiet_of_same (k5.out _))) | (go_at_call 170;first | (with_reducible exact Calls.quiet_of_same (k6.out _)) | (with_reducible exact Calls.quiet_of_same (k7.out _))))))
         refine wpQuiet_nil ?_
         intro _ hw'
         obtain⟨nq,hw''⟩:=hw'
         subst hw''
         go_wp2_with fail
         go_ret
         exact⟨by rw [←hg.out];rfl,below_drawn hB3.out _⟩
        | false=>
         repeat (go_big_quiet_step ((first | (go_at_call 169;first | (with_reducible exact Calls.quiet_of_same (k2.out _)) | (with_reducible exact Calls.quiet_of_same (k3.out _)) | (with_reducible exact Calls.quiet_of_same (k4.out _)) | (with_reducible exact Calls.quiet_of_same (k5.out _))) | (go_at_call 170;first | (with_reducible exact Calls.quiet_of_same (k6.out _)) | (with_reducible exact Calls.quiet_of_same (k7.out _))))))
         cases p6 with
         | true=>
          repeat (go_big_quiet_step ((first | (go_at_call 169;first | (with_reducible exact Calls.quiet_of_same (k2.out _)) | (with_reducible exact Calls.quiet_of_same (k3.out _)) | (with_reducible exact Calls.quiet_of_same (k4.out _)) | (with_reducible exact Calls.quiet_of_same (k5.out _))) | (go_at_call 170;first | (with_reducible exact Calls.quiet_of_same (k6.out _)) | (with_reducible exact Calls.quiet_of_same (k7.out _))))))
          refine wpQuiet_nil ?_
          intro _ hw'
          obtain⟨nq,hw''⟩:=hw'
          subst hw''
          go_wp2_with fail
          go_ret
          exact⟨by rw [←hg.out];rfl,below_drawn hB3.out _⟩
         | false=>
          repeat (go_big_quiet_step ((first | (go_at_call 169;first | (with_reducible exact Calls.quiet_of_same (k2.out _)) | (with_reducible exact Calls.quiet_of_same (k3.out _)) | (with_reducible exact Calls.quiet_of_same (k4.out _)) | (with_reducible exact Calls.quiet_of_same (k5.out _))) | (go_at_call 170;first | (with_reducible exact Calls.quiet_of_same (k6.out _)) | (with_reducible exact Calls.quiet_of_same (k7.out _))))))
          cases p7 with
          | true=>
           repeat (go_big_quiet_step ((first | (go_at_call 169;first | (with_reducible exact Calls.quiet_of_same (k2.out _)) | (with_reducible exact Calls.quiet_of_same (k3.out _)) | (with_reducible exact Calls.quiet_of_same (k4.out _)) | (with_reducible exact Calls.quiet_of_same (k5.out _))) | (go_at_call 170;first | (with_reducible exact Calls.quiet_of_same (k6.out _)) | (with_reducible exact Calls.quiet_of_same (k7.out _))))))
           refine wpQuiet_nil ?_
           intro _ hw'
           obtain⟨nq,hw''⟩:=hw'
           subst hw''
           go_wp2_with fail
           go_ret
           exact⟨by rw [←hg.out];rfl,below_drawn hB3.out _⟩
          | false=>
           repeat (go_big_quiet_step ((first | (go_at_call 169;first | (with_reducible exact Calls.quiet_of_same (k2.out _)) | (with_reducible exact Calls.quiet_of_same (k3.out _)) | (with_reducible exact Calls.quiet_of_same (k4.out _)) | (with_reducible exact Calls.quiet_of_same (k5.out _))) | (go_at_call 170;first | (with_reducible exact Calls.quiet_of_same (k6.out _)) | (with_reducible exact Calls.quiet_of_same (k7.out _))))))
           cases p8<;>(
            refine wpQuiet_nil ?_
            intro _ hw'
            obtain⟨nq,hw''⟩:=hw'
            subst hw''
            go_wp2_with fail
            go_ret
            exact⟨by rw [←hg.out];rfl,below_drawn hB3.out _⟩)
end
section
open Go.RowKit
def bL (s:ByteArray):List UInt8:=s.data.toList
def brkT (o c:UInt8)(ws:List (List UInt8)):List UInt8:=o::Lib.join ws [44,32]++[c]
def pairT (d:Ins):List (List UInt8):=List.zipWith (fun l a=>bL l++[58,32]++bL a) d.labels d.args
def restT (d:Ins):List (List UInt8):=
 if d.op=1∨d.op=2 then [Lib.decDigits d.n.toNat] else if d.op=3 then [] else if d.op=4 then [bL d.fn] else if d.op=5∨d.op=8 then [bL d.a]
 else if d.op=6 then [brkT 91 93 (pairT d)] else if d.op=7 then [bL d.a,Lib.decDigits d.n.toNat] else if d.op=9 then [bL d.a++[44],bL d.b]
 else if d.op=10 then [bL d.fn++brkT 40 41 (d.args.map bL)] else if d.op=11 then [bL d.a++brkT 40 41 (d.args.map bL)]
 else if d.op=12∨d.op=13 then d.labels.map bL else if d.op=14 then (if bL d.a=[] then [] else [bL d.a]) else []
def wordT (op:Int):List UInt8:=
 if op=1 then [97,108,108,111,99,97] else if op=2 then [109,97,108,108,111,99] else if op=3 then [110,117,108,108] else if op=4 then [97,100,100,114]
 else if op=5 then [99,111,112,121] else if op=6 then [112,104,105] else if op=7 then [102,105,101,108,100] else if op=8 then [108,111,97,100]
 else if op=9 then [115,116,111,114,101] else if op=10 then [99,97,108,108] else if op=11 then [105,99,97,108,108] else if op=12 then [98,114]
 else if op=13 then [103,111,116,111] else [114,101,116]
def valT (d:Ins):Bool:=decide (d.op<9) || ((d.op==10 || d.op==11)&&!(bL d.dst).isEmpty)
def wordsT (d:Ins):List (List UInt8):=(if valT d then [bL d.dst,[61]] else [])++wordT d.op::restT d
def insT (d:Ins):List UInt8:=[32,32]++Lib.join (wordsT d) [32]++[10]
def blkT (b:Blk):List UInt8:=bL b.label++[58,10]++(b.code.map insT).flatten
def headT (f:Fun):List UInt8:=[102,117,110,99,32]++bL f.name++brkT 40 41 (f.params.map bL)++[32,123,10]
def funT (f:Fun):List UInt8:=headT f++(f.blocks.map blkT).flatten++[125,10]
def progT (P:List Fun):List UInt8:=(P.map funT).flatten
def preT (d:Ins):List UInt8:=if bL d.dst=[] then [] else bL d.dst++[32,61,32]
def refT (d:Ins):List UInt8:=
 if d.op=1∨d.op=2 then preT d++wordT d.op++[32]++Lib.decDigits d.n.toNat else if d.op=3 then preT d++wordT 3 else if d.op=4 then preT d++wordT 4++[32]++bL d.fn
 else if d.op=5∨d.op=8 then preT d++wordT d.op++[32]++bL d.a else if d.op=7 then preT d++wordT 7++[32]++bL d.a++[32]++Lib.decDigits d.n.toNat
 else if d.op=9 then wordT 9++[32]++bL d.a++[44,32]++bL d.b else if d.op=10 then preT d++wordT 10++[32]++bL d.fn++brkT 40 41 (d.args.map bL)
 else if d.op=11 then preT d++wordT 11++[32]++bL d.a++brkT 40 41 (d.args.map bL)
 else if d.op=12 then wordT 12++[32]++bL (d.labels.getD 0 ⟨#[]⟩)++[32]++bL (d.labels.getD 1 ⟨#[]⟩) else if d.op=13 then wordT 13++[32]++bL (d.labels.getD 0 ⟨#[]⟩)
 else if d.op=14 then (if bL d.a=[] then wordT 14 else wordT 14++[32]++bL d.a) else preT d++wordT 6++[32]++brkT 91 93 (pairT d)
theorem bL_nil {s:ByteArray}:s.toList.isEmpty=(bL s).isEmpty:=by rw [ByteArray.toList_eq];rfl
theorem join_cons2 (x y:List UInt8)(r:List (List UInt8))(sep:List UInt8):Lib.join (x::y::r) sep=x++sep++Lib.join (y::r) sep:=by
 simp [Lib.join,List.intercalate,List.intersperse]
theorem join1 (x sep:List UInt8):Lib.join [x] sep=x:=Lib.join_one x sep
theorem miss_must {s:ByteArray}(h:missB 2 s=false):bL s≠[]:=by
 unfold missB at h
 rw [bL_nil] at h
 intro e
 rw [e] at h
 simp at h
theorem miss_none {s:ByteArray}(h:missB 0 s=false):bL s=[]:=by
 unfold missB at h
 rw [bL_nil] at h
 cases e:bL s with
 | nil=>rfl
 | cons a l=>rw [e] at h;simp at h
theorem words_val {d:Ins}{k:Int}(e:d.op=k)(h:(decide (k<9) || ((k==10 || k==11)&&!(bL d.dst).isEmpty))=true):wordsT d=[bL d.dst,[61]]++wordT k::restT d:=by
 unfold wordsT valT
 rw [e,h]
 rfl
theorem words_bare {d:Ins}{k:Int}(e:d.op=k)(h:(decide (k<9) || ((k==10 || k==11)&&!(bL d.dst).isEmpty))=false):wordsT d=wordT k::restT d:=by
 unfold wordsT valT
 rw [e,h]
 rfl
theorem pre_val {d:Ins}(h:bL d.dst≠[]):preT d=bL d.dst++[32,61,32]:=if_neg h
theorem pre_bare {d:Ins}(h:bL d.dst=[]):preT d=[]:=if_pos h
theorem join_val (x w:List UInt8)(r:List (List UInt8)):Lib.join ([x,[61]]++w::r) [32]=x++[32,61,32]++Lib.join (w::r) [32]:=by
 show Lib.join (x::[61]::w::r) [32]=_
 rw [join_cons2,join_cons2]
 simp
theorem fields_ok {d:Ins}(h:badFieldsB d=false):∃s,shapeN d.op=some s∧missB s.dst d.dst=false∧missB s.a d.a=false∧missB s.b d.b=false∧missB s.fn d.fn=false∧s.low≤d.n∧d.n≤s.high∧misB s.args d.args.length=false∧misB s.labels d.labels.length=false∧(d.op=6→0<d.args.length∧d.args.length=d.labels.length):=by
 cases hs:shapeN d.op with
 | none=>rw [badFieldsB_none hs] at h;cases h
 | some s=>
  rw [badFieldsB_some hs] at h
  unfold badShp at h
  simp only [Bool.or_eq_false_iff] at h
  obtain⟨h6,hd,ha,hb,hf,hlo,hhi,hg,hl⟩:=h
  refine⟨s,rfl,hd,ha,hb,hf,by simpa using hlo,by simpa using hhi,hg,hl,fun e=>?_⟩
  rw [e,show ((6:Int)==6)=true from rfl,Bool.true_and,Bool.or_eq_false_iff] at h6
  have h8:=beq_eq_false_iff_ne.1 h6.1
  have h9:=bne_eq_false_iff_eq.1 h6.2
  omega
theorem ops_ok {op:Int}{s:Shp}(h:shapeN op=some s):op=1∨op=2∨op=3∨op=4∨op=5∨op=6∨op=7∨op=8∨op=9∨op=10∨op=11∨op=12∨op=13∨op=14:=by
 unfold shapeN at h
 by_cases h0:op=1∨op=2
 ·omega
 rw [if_neg h0] at h
 by_cases h1:op=3
 ·omega
 rw [if_neg h1] at h
 by_cases h2:op=4
 ·omega
 rw [if_neg h2] at h
 by_cases h3:op=5∨op=8
 ·omega
 rw [if_neg h3] at h
 by_cases h4:op=6
 ·omega
 rw [if_neg h4] at h
 by_cases h5:op=7
 ·omega
 rw [if_neg h5] at h
 by_cases h6:op=9
 ·omega
 rw [if_neg h6] at h
 by_cases h7:op=10
 ·omega
 rw [if_neg h7] at h
 by_cases h8:op=11
 ·omega
 rw [if_neg h8] at h
 by_cases h9:op=12
 ·omega
 rw [if_neg h9] at h
 by_cases h10:op=13
 ·omega
 rw [if_neg h10] at h
 by_cases h11:op=14
 ·omega
 rw [if_neg h11] at h
 cases h
theorem two_of {l:List ByteArray}(h:misB 2 l.length=false):∃a b,l=[a,b]:=by
 have h1:l.length=2:=by
  simp [misB] at h
  omega
 match l,h1 with
 | [a,b],_=>exact⟨a,b,rfl⟩
theorem one_of {l:List ByteArray}(h:misB 1 l.length=false):∃a,l=[a]:=by
 have h1:l.length=1:=by
  simp [misB] at h
  omega
 match l,h1 with
 | [a],_=>exact⟨a,rfl⟩
theorem rest_1 {d:Ins}(e:d.op=1):restT d=[Lib.decDigits d.n.toNat]:=by unfold restT;rw [e];rfl
theorem ref_1 {d:Ins}(e:d.op=1):refT d=preT d++wordT 1++[32]++Lib.decDigits d.n.toNat:=by unfold refT;rw [e];rfl
theorem rest_2 {d:Ins}(e:d.op=2):restT d=[Lib.decDigits d.n.toNat]:=by unfold restT;rw [e];rfl
theorem ref_2 {d:Ins}(e:d.op=2):refT d=preT d++wordT 2++[32]++Lib.decDigits d.n.toNat:=by unfold refT;rw [e];rfl
theorem rest_3 {d:Ins}(e:d.op=3):restT d=[]:=by unfold restT;rw [e];rfl
theorem ref_3 {d:Ins}(e:d.op=3):refT d=preT d++wordT 3:=by unfold refT;rw [e];rfl
theorem rest_4 {d:Ins}(e:d.op=4):restT d=[bL d.fn]:=by unfold restT;rw [e];rfl
theorem ref_4 {d:Ins}(e:d.op=4):refT d=preT d++wordT 4++[32]++bL d.fn:=by unfold refT;rw [e];rfl
theorem rest_5 {d:Ins}(e:d.op=5):restT d=[bL d.a]:=by unfold restT;rw [e];rfl
theorem ref_5 {d:Ins}(e:d.op=5):refT d=preT d++wordT 5++[32]++bL d.a:=by unfold refT;rw [e];rfl
theorem rest_6 {d:Ins}(e:d.op=6):restT d=[brkT 91 93 (pairT d)]:=by unfold restT;rw [e];rfl
theorem ref_6 {d:Ins}(e:d.op=6):refT d=preT d++wordT 6++[32]++brkT 91 93 (pairT d):=by unfold refT;rw [e];rfl
theorem rest_7 {d:Ins}(e:d.op=7):restT d=[bL d.a,Lib.decDigits d.n.toNat]:=by unfold restT;rw [e];rfl
theorem ref_7 {d:Ins}(e:d.op=7):refT d=preT d++wordT 7++[32]++bL d.a++[32]++Lib.decDigits d.n.toNat:=by unfold refT;rw [e];rfl
theorem rest_8 {d:Ins}(e:d.op=8):restT d=[bL d.a]:=by unfold restT;rw [e];rfl
theorem ref_8 {d:Ins}(e:d.op=8):refT d=preT d++wordT 8++[32]++bL d.a:=by unfold refT;rw [e];rfl
theorem rest_9 {d:Ins}(e:d.op=9):restT d=[bL d.a++[44],bL d.b]:=by unfold restT;rw [e];rfl
theorem ref_9 {d:Ins}(e:d.op=9):refT d=wordT 9++[32]++bL d.a++[44,32]++bL d.b:=by unfold refT;rw [e];rfl
theorem rest_10 {d:Ins}(e:d.op=10):restT d=[bL d.fn++brkT 40 41 (d.args.map bL)]:=by unfold restT;rw [e];rfl
theorem ref_10 {d:Ins}(e:d.op=10):refT d=preT d++wordT 10++[32]++bL d.fn++brkT 40 41 (d.args.map bL):=by unfold refT;rw [e];rfl
theorem rest_11 {d:Ins}(e:d.op=11):restT d=[bL d.a++brkT 40 41 (d.args.map bL)]:=by unfold restT;rw [e];rfl
theorem ref_11 {d:Ins}(e:d.op=11):refT d=preT d++wordT 11++[32]++bL d.a++brkT 40 41 (d.args.map bL):=by unfold refT;rw [e];rfl
theorem rest_12 {d:Ins}(e:d.op=12):restT d=d.labels.map bL:=by unfold restT;rw [e];rfl
theorem ref_12 {d:Ins}(e:d.op=12):refT d=wordT 12++[32]++bL (d.labels.getD 0 ⟨#[]⟩)++[32]++bL (d.labels.getD 1 ⟨#[]⟩):=by unfold refT;rw [e];rfl
theorem rest_13 {d:Ins}(e:d.op=13):restT d=d.labels.map bL:=by unfold restT;rw [e];rfl
theorem ref_13 {d:Ins}(e:d.op=13):refT d=wordT 13++[32]++bL (d.labels.getD 0 ⟨#[]⟩):=by unfold refT;rw [e];rfl
theorem rest_14 {d:Ins}(e:d.op=14):restT d=(if bL d.a=[] then [] else [bL d.a]):=by unfold restT;rw [e];rfl
theorem ref_14 {d:Ins}(e:d.op=14):refT d=(if bL d.a=[] then wordT 14 else wordT 14++[32]++bL d.a):=by unfold refT;rw [e];rfl
theorem words_ref {d:Ins}(h:badFieldsB d=false):Lib.join (wordsT d) [32]=refT d:=by
 obtain⟨s,hs,hd,ha,hb,hf,hlo,hhi,hg,hl,h6⟩:=fields_ok h
 have ho:=ops_ok hs
 rcases ho with e | e | e | e | e | e | e | e | e | e | e | e | e | e
 all_goals (rw [e] at hs;obtain rfl:=Option.some.inj hs;clear hs)
 ·rw [words_val e rfl,rest_1 e,join_val,join_cons2,join1,ref_1 e,pre_val (miss_must hd)];try simp
 ·rw [words_val e rfl,rest_2 e,join_val,join_cons2,join1,ref_2 e,pre_val (miss_must hd)];try simp
 ·rw [words_val e rfl,rest_3 e,join_val,join1,ref_3 e,pre_val (miss_must hd)];try simp
 ·rw [words_val e rfl,rest_4 e,join_val,join_cons2,join1,ref_4 e,pre_val (miss_must hd)];try simp
 ·rw [words_val e rfl,rest_5 e,join_val,join_cons2,join1,ref_5 e,pre_val (miss_must hd)];try simp
 ·rw [words_val e rfl,rest_6 e,join_val,join_cons2,join1,ref_6 e,pre_val (miss_must hd)];try simp
 ·rw [words_val e rfl,rest_7 e,join_val,join_cons2,join_cons2,join1,ref_7 e,pre_val (miss_must hd)];try simp
 ·rw [words_val e rfl,rest_8 e,join_val,join_cons2,join1,ref_8 e,pre_val (miss_must hd)];try simp
 ·rw [words_bare e rfl,rest_9 e,join_cons2,join_cons2,join1,ref_9 e];try simp
 ·by_cases hx:bL d.dst=[]
  ·rw [words_bare e (by rw [hx];rfl),rest_10 e,join_cons2,join1,ref_10 e,pre_bare hx];try simp
  ·rw [words_val e (by cases hq:bL d.dst with | nil=>exact absurd hq hx | cons _ _=>rfl),rest_10 e,join_val,join_cons2,join1,ref_10 e,pre_val hx];try simp
 ·by_cases hx:bL d.dst=[]
  ·rw [words_bare e (by rw [hx];rfl),rest_11 e,join_cons2,join1,ref_11 e,pre_bare hx];try simp
  ·rw [words_val e (by cases hq:bL d.dst with | nil=>exact absurd hq hx | cons _ _=>rfl),rest_11 e,join_val,join_cons2,join1,ref_11 e,pre_val hx];try simp
 ·obtain⟨a,b,hl2⟩:=two_of hl
  rw [words_bare e rfl,rest_12 e,ref_12 e,hl2];simp [join_cons2,join1]
 ·obtain⟨a,hl2⟩:=one_of hl
  rw [words_bare e rfl,rest_13 e,ref_13 e,hl2];simp [join_cons2,join1]
 ·rw [words_bare e rfl,rest_14 e,ref_14 e]
  by_cases hx:bL d.a=[]
  ·simp [hx,join1]
  ·simp [hx,join_cons2,join1]
end
section
open Go.RowKit Go.Maps
def OwnE {α:Type}(c:Nat)(R:World→List Value→α→Prop)(w:World)(base:Nat)(e:TypeId)(v:Value)(L:List α):Prop:=
 ∃xs,w.ownsRow base e c v L.length xs∧∀i d,L[i]?=some d→∃cs,R w cs d∧cs.length=c∧∀j u,cs[j]?=some u→xs[i*c+j]?=some u
section
variable {α:Type} {c:Nat} {R:World→List Value→α→Prop} {w w':World} {base:Nat} {e:TypeId} {v:Value} {L:List α}
theorem OwnE.nil (w:World)(base:Nat)(e:TypeId):OwnE c R w base e (.slice none 0 0) []:=⟨[],World.ownsRow_nil _ _ _ _,fun i d h=>by simp at h⟩
theorem OwnE.rd (h:OwnE c R w base e v L):RdE c R w v L:=by
 obtain⟨xs,h1,h2⟩:=h
 rcases h1.2 with ⟨rfl,h0⟩ | ⟨g,cap,cur,rfl,-⟩
 ·exact .inl ⟨List.eq_nil_of_length_eq_zero h0,.inl rfl⟩
 ·refine .inr ⟨g,0,cap,rfl,(h1.lt g rfl).2,fun i d hi=>?_⟩
  obtain⟨cs,k1,k2,k3⟩:=h2 i d hi
  refine⟨cs,k1,k2,fun j u hj=>?_⟩
  have:=h1.cells (g:=g) rfl _ u (k3 j u hj)
  rw [add0] at this
  rw [Nat.zero_add]
  exact this
theorem OwnE.form (h:OwnE c R w base e v L):∃a k,v=.slice a L.length k:=by
 obtain⟨xs,h1,h2⟩:=h
 rcases h1.2 with ⟨rfl,h0⟩ | ⟨g,cap,cur,rfl,-⟩
 ·exact⟨none,0,by rw [h0]⟩
 ·exact⟨_,cap,rfl⟩
theorem OwnE.lt (h:OwnE c R w base e v L):∀g,v.ownBlock=some g→base≤g∧g<w.heap.size:=by
 obtain⟨xs,h1,h2⟩:=h
 exact fun g hg=>h1.lt g hg
theorem OwnE.touch {S:Nat→Prop}(h:OwnE c R w base e v L)(hT:Touch w w' S)(hS:∀g,v.ownBlock=some g→¬S g)(hR:∀cs d,R w cs d→R w' cs d):OwnE c R w' base e v L:=by
 obtain⟨xs,h1,h2⟩:=h
 refine⟨xs,⟨h1.1,?_⟩,fun i d hi=>?_⟩
 ·rcases h1.2 with ⟨rfl,h0⟩ | ⟨g,cap,cur,rfl,k1,k2,k3⟩
  ·exact .inl ⟨rfl,h0⟩
  ·exact .inr ⟨g,cap,cur,rfl,k1,(hT.block g (Array.getElem?_eq_some_iff.1 k2).1 (hS g rfl)).trans k2,k3⟩
 ·obtain⟨cs,k1,k2,k3⟩:=h2 i d hi
  exact⟨cs,hR cs d k1,k2,k3⟩
theorem RdE.flat (h:RdE c R w v L):v=.slice none 0 0∧L=[]∨∃(ad:Addr) (k:Nat) (news:List Value),v=.slice (some ad) L.length k∧news.length=L.length*c∧(∀j u,news[j]?=some u→w.cell? (ad.add j)=some u)∧
  (∀i d,L[i]?=some d→∃cs,R w cs d∧cs.length=c∧∀j u,cs[j]?=some u→news[i*c+j]?=some u)∧∀u∈news,∃cs d,R w cs d∧u∈cs:=by
 rcases h with ⟨rfl,rfl | ⟨a,k,rfl⟩⟩ | ⟨b,off,cap,rfl,hlt,hc⟩
 ·exact .inl ⟨rfl,rfl⟩
 ·exact .inr ⟨a,k,[],rfl,by simp,fun j u h=>by simp at h,fun i d h=>by simp at h,fun u h=>by simp at h⟩
 ·refine .inr ⟨⟨b,off,none⟩,cap,?_⟩
  have key:∀n,n≤L.length→∃news:List Value,news.length=n*c∧(∀j u,news[j]?=some u→w.cell? ⟨b,off+j,none⟩=some u)∧
    (∀i d,i<n→L[i]?=some d→∃cs,R w cs d∧cs.length=c∧∀j u,cs[j]?=some u→news[i*c+j]?=some u)∧∀u∈news,∃cs d,R w cs d∧u∈cs:=by
   intro n
   induction n with
   | zero=>intro _;exact⟨[],by simp,fun j u h=>by simp at h,fun i d h=>by omega,fun u h=>by simp at h⟩
   | succ n ih=>
    intro hn
    obtain⟨news,k1,k2,k3,k4⟩:=ih (by omega)
    obtain⟨d,hd⟩:∃d,L[n]?=some d:=⟨_,List.getElem?_eq_getElem (by omega)⟩
    obtain⟨cs,m1,m2,m3⟩:=hc n d hd
    refine⟨news++cs,by rw [List.length_append,k1,m2,Nat.succ_mul],fun j u hj=>?_,fun i d' hi hd'=>?_,fun u hu=>?_⟩
    ·rcases Nat.lt_or_ge j news.length with h | h
     ·rw [List.getElem?_append_left h] at hj
      exact k2 j u hj
     ·rw [List.getElem?_append_right h] at hj
      have:=m3 _ u hj
      rw [k1] at this h
      rw [show off+j=off+n*c+(j-n*c) by omega]
      exact this
    ·by_cases e:i=n
     ·subst e
      rw [hd] at hd'
      cases hd'
      refine⟨cs,m1,m2,fun j u hj=>?_⟩
      rw [List.getElem?_append_right (by omega),k1,show i*c+j-i*c=j by omega]
      exact hj
     ·obtain⟨cs',n1,n2,n3⟩:=k3 i d' (by omega) hd'
      refine⟨cs',n1,n2,fun j u hj=>?_⟩
      have:=n3 j u hj
      rw [List.getElem?_append_left (List.getElem?_eq_some_iff.1 this).1]
      exact this
    ·rcases List.mem_append.1 hu with h | h
     ·exact k4 u h
     ·exact⟨cs,d,m1,h⟩
  obtain⟨news,k1,k2,k3,k4⟩:=key L.length (Nat.le_refl _)
  refine⟨news,rfl,k1,fun j u hj=>?_,fun i d hd=>k3 i d (List.getElem?_eq_some_iff.1 hd).1 hd,k4⟩
  have e2:(⟨b,off,none⟩:Addr).add j=⟨b,off+j,none⟩:=by
   unfold Addr.add
   split<;>simp_all
  rw [e2]
  exact k2 j u hj
theorem wpList_append_rde {P:Program}{ops:Array Oper}{rest:List Oper}{o:Oper}{a:Act}{Q:Exit→Act→World→Prop}(w:World)(hgd:o.guard=none)(s x:Operand)(t:TypeId)
  (ho:o.op=.call {callee:=.builtin .append,args:=#[s,x],argTypes:=#[t,t]})
  (base:Nat) (e:TypeId) (i:TypeInfo) (z:Value) (bytes:Nat) (ht:P.underlying t=some (.slice e)) (hi:P.info? e=some i) (hz:i.zero=some z)
  (hsize:i.size=c) (hby:i.bytes=bytes) (hzs:z.cells.size=c) (hc0:0<c)
  (v:Value) (L:List α) (hs:a.eval s=v) (hown:OwnE c R w base e v L)
  (sv:Value) (M:List α) (hx:a.eval x=sv) (hrd:RdE c R w sv M) (h1:∀cs d,R w cs d→∀u∈cs,u.oneCell'=true)
  (h63:L.length+M.length≤maxLen) (hbytes:(L.length+M.length)*bytes≤140737488355328) (hbase:base≤w.heap.size)
  (hR:∀w' cs d,Touch w w' (fun k=>v.ownBlock=some k)→R w cs d→R w' cs d)
  (h:∀v' w',OwnE c R w' base e v' (L++M)→Touch w w' (fun k=>v.ownBlock=some k)→(v'.ownBlock=v.ownBlock∨v'.ownBlock=some w.heap.size)→wpList P ops Q rest (a.put o.dst v') w'):
  wpList P ops Q (o::rest) a w:=by
 obtain⟨xs,hxs,hxr⟩:=hown
 have hxl:=hxs.1
 rcases hrd.flat with ⟨rfl,rfl⟩ | ⟨ad,k,news,rfl,k1,k2,k3,k4⟩
 ·exact wpList_append_own_none (w:=w) hgd s x t ho base e i c ht hi v L.length xs hs hxs hx (h v w (by rw [List.append_nil];exact⟨xs,hxs,hxr⟩) (Touch.refl _ _) (Or.inl rfl))
 ·refine wpList_append_own_at w hgd s x t ho base e i z c bytes ht hi hz hsize hby hzs hc0 v L.length xs hs hxs ad M.length k news hx k1 k2 (fun u hu=>by obtain⟨cs,d,hr,hm⟩:=k4 u hu;exact h1 cs d hr u hm) h63 hbytes hbase ?_
  intro v' w' h2 h3 _ h4
  have hT:Touch w w' (fun k=>v.ownBlock=some k):=Touch.of_grown h3 (fun k e=>e)
  refine h v' w' ⟨xs++news,by rw [List.length_append];exact h2,fun i' d hd=>?_⟩ hT h4
  rcases Nat.lt_or_ge i' L.length with hlt | hge
  ·rw [List.getElem?_append_left hlt] at hd
   obtain⟨cs,m1,m2,m3⟩:=hxr i' d hd
   refine⟨cs,hR w' cs d hT m1,m2,fun j u hj=>?_⟩
   have:=m3 j u hj
   rw [List.getElem?_append_left (List.getElem?_eq_some_iff.1 this).1]
   exact this
  ·rw [List.getElem?_append_right hge] at hd
   obtain⟨cs,m1,m2,m3⟩:=k3 _ d hd
   refine⟨cs,hR w' cs d hT m1,m2,fun j u hj=>?_⟩
   have h5:i'*c=L.length*c+(i'-L.length)*c:=by rw [←Nat.add_mul];congr 1;omega
   rw [List.getElem?_append_right (by omega),hxl,show i'*c+j-L.length*c=(i'-L.length)*c+j by omega]
   exact m3 j u hj
end
end
section
open Go.RowKit Go.Maps Go.Shelf
attribute [local go_sem] Oper.semAt_some
def Stays (w W:World):Prop:=w.heap.size≤W.heap.size∧∀(k:Nat) (cs:Array Value) (t:TypeId) (fr:Nat × Nat),t≠5→t≠64→w.heap[k]?=some (.cells cs t fr)→W.heap[k]?=some (.cells cs t fr)
theorem Stays.of_below {w W:World}(h:Below w.heap.size w W):Stays w W:=⟨h.size,fun k _ _ _ _ _ e=>(h.block k (Array.getElem?_eq_some_iff.1 e).1).trans e⟩
theorem Stays.trans {w v W:World}(h:Stays w v)(h2:Stays v W):Stays w W:=⟨Nat.le_trans h.1 h2.1,fun k cs t fr n1 n2 e=>h2.2 k cs t fr n1 n2 (h.2 k cs t fr n1 n2 e)⟩
theorem Stays.refl (w:World):Stays w w:=⟨Nat.le_refl _,fun _ _ _ _ _ _ e=>e⟩
theorem Stays.lies {w W:World}(h:Stays w W){k:Nat}{cs:Array Value}{t:TypeId}{fr:Nat × Nat}(e:w.heap[k]?=some (.cells cs t fr))(n:t≠5∧t≠64):W.heap[k]?=some (.cells cs t fr):=h.2 k cs t fr n.1 n.2 e
def Nu (w W:World):Prop:=Stays w W∧∀(k:Nat) es c,w.heap[k]?=some (.map es c)→W.heap[k]?=some (.map es c)
theorem Nu.of_below {w W:World}(h:Below w.heap.size w W):Nu w W:=⟨Stays.of_below h,fun k _ _ e=>(h.block k (Array.getElem?_eq_some_iff.1 e).1).trans e⟩
theorem Nu.trans {w v W:World}(h:Nu w v)(h2:Nu v W):Nu w W:=⟨h.1.trans h2.1,fun k es c e=>h2.2 k es c (h.2 k es c e)⟩
theorem Nu.refl (w:World):Nu w w:=⟨Stays.refl w,fun _ _ _ e=>e⟩
theorem Nu.of_touch {w W:World}{S:Nat→Prop}(h:Touch w W S)(hS:∀k,S k→(∃cs fr,w.heap[k]?=some (.cells cs 5 fr))∨∃cs fr,w.heap[k]?=some (.cells cs 64 fr)):Nu w W:=by
 refine⟨⟨h.size,fun k cs t fr n1 n2 e=>?_⟩,fun k es c e=>?_⟩
 ·rw [h.block k (Array.getElem?_eq_some_iff.1 e).1 (fun hk=>?_)]
  ·exact e
  ·rcases hS k hk with ⟨cs',fr',e'⟩ | ⟨cs',fr',e'⟩
   ·rw [e'] at e
    simp only [Option.some.injEq,Obj.cells.injEq] at e
    exact n1 e.2.1.symm
   ·rw [e'] at e
    simp only [Option.some.injEq,Obj.cells.injEq] at e
    exact n2 e.2.1.symm
 ·rw [h.block k (Array.getElem?_eq_some_iff.1 e).1 (fun hk=>?_)]
  ·exact e
  ·rcases hS k hk with ⟨cs',fr',e'⟩ | ⟨cs',fr',e'⟩<;>(rw [e'] at e;cases e)
theorem row_type {w:World}{B n k:Nat}{v:Value}{xs:List Value}(h:w.ownsRow B 5 1 v n xs)(e:v.ownBlock=some k):∃cs fr,w.heap[k]?=some (.cells cs 5 fr):=by
 rcases h.2 with ⟨rfl,-⟩ | ⟨g,cap,cur,rfl,-,hg,-⟩
 ·cases e
 ·cases e
  exact⟨_,_,hg⟩
structure WrAt (B b:Nat) (L:List UInt8) (m:Value) (w:World):Prop where
 ex:∃p v,(p=.pointer none∨p=.pointer (some ⟨b,0,none⟩))∧w.heap[b]?=some (.cells #[p,v,m] 64 (0,0))∧w.ownsRow B 5 1 v L.length (Lib.byteCells L)∧v.ownBlock≠some b∧(L=[]→v=.slice none 0 0)
 lo:B≤b
structure WrUs (B b:Nat) (L:List UInt8) (m:Value) (w:World):Prop where
 ex:∃v,w.heap[b]?=some (.cells #[.pointer (some ⟨b,0,none⟩),v,m] 64 (0,0))∧w.ownsRow B 5 1 v L.length (Lib.byteCells L)∧v.ownBlock≠some b∧(L=[]→v=.slice none 0 0)
 lo:B≤b
theorem WrUs.at_ {B b:Nat}{L:List UInt8}{m:Value}{w:World}(h:WrUs B b L m w):WrAt B b L m w:=by
 obtain⟨⟨v,h1,h2,h3,h4⟩,hB⟩:=h
 exact⟨⟨_,v,.inr rfl,h1,h2,h3,h4⟩,hB⟩
theorem infoU8:(Tryz.prog.info? 5).map (fun i=>(i.zero,i.size,i.bytes))=some (some (.int .u8 0),1,1):=by kernel_rfl
theorem sizeBld:(Tryz.prog.info? 62).map (·.size)=some 2:=by kernel_rfl
theorem liesBld:liesAt Tryz.prog Tryz.prog.depth 64 (3/Tryz.prog.cellsOf 64) 0 62 1=true:=by kernel_rfl
theorem cellsU8:Tryz.prog.cellsOf 5=1:=by kernel_rfl
set_option maxRecDepth 20000 in
set_option maxHeartbeats 1000000 in
theorem check_any {B b:Nat}{L:List UInt8}{m:Value}{w:World}(h:WrAt B b L m w):Calls Tryz.prog 156 #[.pointer (some ⟨b,0,none⟩)] w fun e w'=>e=.returned (.tuple #[])∧WrUs B b L m w'∧Below B w w'∧Nu w w':=by
 obtain⟨⟨p,v,hp,hb,hown,hne,hnil⟩,hB⟩:=h
 obtain⟨j,hj,hjs⟩:=Option.map_eq_some_iff.1 sizeBld
 have hsh:w.shape? b=some (64,3):=by simp [World.shape?,hb]
 have hlt:b<w.heap.size:=(Array.getElem?_eq_some_iff.1 hb).1
 rcases hp with rfl | rfl
 ·have c0:w.cell? ⟨b,0,none⟩=some (.pointer none):=by rw [blk_cell hb];rfl
  have f0:w.frozen? ⟨b,0,none⟩=false:=by simp [World.frozen?,hb]
  have hb2:=blk_set (i:=0) (.pointer (some ⟨b,0,none⟩)) hb
  have hU:WrUs B b L m (w.setCell ⟨b,0,none⟩ (.pointer (some ⟨b,0,none⟩))):=⟨⟨v,hb2,by
   refine ownsRow_touch (S:=fun k=>k=b) hown ((Touch.refl w (fun k=>k=b)).setCell (a:=⟨b,0,none⟩) (fun _=>rfl) _) (fun k e1 e2=>?_)
   subst e2
   exact hne e1,hne,hnil⟩,hB⟩
  have hBl:Below B w (w.setCell ⟨b,0,none⟩ (.pointer (some ⟨b,0,none⟩))):=(Below.refl B w).setCell (p:=⟨b,0,none⟩) hB _
  have hNu:=Lib.hid (Nu.of_touch ((Touch.refl w (fun k=>k=b)).setCell (a:=⟨b,0,none⟩) (fun _=>rfl) (.pointer (some ⟨b,0,none⟩))) (fun k e=>.inr (by subst e;exact⟨_,_,hb⟩)))
  replace hU:=Lib.hid hU
  replace hBl:=Lib.hid hBl
  replace hown:=Lib.hid hown
  clear hb2 hnil hne
  go_enter Tryz.func156,Tryz.ntmps156
  go_wp2_with fail
  rw [Lib.run_to_unsafe w ⟨b,0,none⟩ Tryz.underlying59 Tryz.underlying183 hj (by rw [hjs];decide) hsh (Nat.zero_lt_succ 2)]
  simp only [Result.andThen]
  rw [Oper.upon_value]
  go_wp2_with fail
  rw [run_callFunc_extern Tryz.func177 (by kernel_rfl) (by kernel_rfl) (by kernel_rfl) (e:=Extern.AbiNoEscape.same) (by kernel_rfl),Lib.run_noEscape]
  simp only [Result.andThen]
  rw [Oper.upon_value]
  go_wp2_with fail
  rw [Lib.run_from_unsafe w ⟨b,0,none⟩ Tryz.underlying183 Tryz.underlying59 hj hsh liesBld]
  simp only [Result.andThen]
  rw [Oper.upon_value]
  go_wp2_with fail
  go_end0
  exact⟨rfl,hU.out,hBl.out,hNu.out⟩
 ·have c0:w.cell? ⟨b,0,none⟩=some (.pointer (some ⟨b,0,none⟩)):=by rw [blk_cell hb];rfl
  have hU:WrUs B b L m w:=⟨⟨v,hb,hown,hne,hnil⟩,hB⟩
  replace hU:=Lib.hid hU
  replace hown:=Lib.hid hown
  clear hb hnil hne hsh
  go_enter Tryz.func156,Tryz.ntmps156
  go_wp2_with fail
  rw [Lib.run_neq_ptr_same w _ Tryz.underlying59 hj]
  go_wp2_with fail
  go_end0
  exact⟨rfl,hU.out,Below.refl B w,Nu.refl w⟩
theorem WrUs.slice {B b:Nat}{L:List UInt8}{m:Value}{w:World}(h:WrUs B b L m w):∃ao cap,w.heap[b]?=some (.cells #[.pointer (some ⟨b,0,none⟩),.slice ao L.length cap,m] 64 (0,0))∧w.ownsRow B 5 1 (.slice ao L.length cap) L.length (Lib.byteCells L)∧(Value.slice ao L.length cap).ownBlock≠some b:=by
 obtain⟨⟨v,h1,h2,h3,h4⟩,hB⟩:=h
 obtain⟨ao,cap,rfl⟩:∃ao cap,v=.slice ao L.length cap:=by
  rcases h2.2 with ⟨hv,h0⟩ | ⟨g,cap,cur,hv,_⟩
  ·exact⟨none,0,by rw [hv,h0]⟩
  ·exact⟨_,_,hv⟩
 exact⟨ao,cap,h1,h2,h3⟩
theorem wrote {B b:Nat}{M:List UInt8}{m v v':Value}{w w2:World}(hb:w.heap[b]?=some (.cells #[.pointer (some ⟨b,0,none⟩),v,m] 64 (0,0)))(hne:v.ownBlock≠some b)(hB:B≤b){n0:Nat}{xs0:List Value}(hown0:w.ownsRow B 5 1 v n0 xs0)(hown:w2.ownsRow B 5 1 v' M.length (Lib.byteCells M))(hg:w.grownBy w2 v.ownBlock)(hM:M≠[]):
  w2.heap[b]?=some (.cells #[.pointer (some ⟨b,0,none⟩),v,m] 64 (0,0))∧WrUs B b M m (w2.setCell ⟨b,1,none⟩ v')∧Nu w (w2.setCell ⟨b,1,none⟩ v'):=by
 have hlt:b<w.heap.size:=(Array.getElem?_eq_some_iff.1 hb).1
 have hb2:w2.heap[b]?=some (.cells #[.pointer (some ⟨b,0,none⟩),v,m] 64 (0,0)):=by
  rw [hg.block b hlt (fun e=>hne e.symm)]
  exact hb
 have hne2:v'.ownBlock≠some b:=by
  intro e
  rcases hown.2 with ⟨h0,h1⟩ | ⟨g,cap,cur,h0,-,h1,-⟩
  ·subst h0
   cases e
  ·subst h0
   cases e
   rw [hb2] at h1
   simp only [Option.some.injEq,Obj.cells.injEq] at h1
   exact absurd h1.2.1 (by decide)
 refine⟨hb2,⟨⟨v',blk_set (i:=1) v' hb2,?_,hne2,fun e=>absurd e hM⟩,hB⟩,Nu.of_touch ((Touch.of_grown (S:=fun k=>k=b∨v.ownBlock=some k) hg (fun k e=>.inr e)).setCell (a:=⟨b,1,none⟩) (fun _=>.inl rfl) v') (fun k hk=>?_)⟩
 rotate_left
 ·rcases hk with rfl | hk
  ·exact .inr ⟨_,_,hb⟩
  ·exact .inl (row_type hown0 hk)
 refine ownsRow_touch (S:=fun k=>k=b) hown ((Touch.refl w2 (fun k=>k=b)).setCell (a:=⟨b,1,none⟩) (fun _=>rfl) _) (fun k e1 e2=>?_)
 subst e2
 exact hne2 e1
set_option maxRecDepth 20000 in
set_option maxHeartbeats 1000000 in
theorem wstr_any {B b:Nat}{L:List UInt8}{m:Value}{w:World}(h:WrAt B b L m w)(s:ByteArray)(hs:bL s≠[])(hlen:L.length+s.size≤140737488355328)(hBw:B≤w.heap.size):Calls Tryz.prog 99 #[.pointer (some ⟨b,0,none⟩),.string s] w fun e w'=>(∃v,e=.returned v)∧WrUs B b (L++bL s) m w'∧Below B w w'∧Nu w w':=by
 obtain⟨i0,hi0,hz0,hz1,hz2⟩:=info_parts infoU8
 have hc:=Lib.hid (check_any h)
 have hB:=h.lo
 clear h
 go_enter Tryz.func99,Tryz.ntmps99
 go_wp2_with fail
 refine hc.out.mono ?_
 rintro e w1 ⟨rfl,hU,hb1,hN1⟩
 obtain⟨ao,cap,hbk,hown,hne⟩:=hU.slice
 have c1:w1.cell? ⟨b,1,none⟩=some (.slice ao L.length cap):=by rw [blk_cell hbk];rfl
 have hlt:b<w1.heap.size:=(Array.getElem?_eq_some_iff.1 hbk).1
 have hsz:=hb1.size
 clear hc
 replace hU:=Lib.hid hU
 replace hbk:=Lib.hid hbk
 replace hb1:=Lib.hid hb1
 replace hown:=Lib.hid hown
 replace hne:=Lib.hid hne
 dsimp only
 go_wp2_with (at_builtin;refine Lib.wpList_append_own_string _ rfl _ _ 60 9 rfl B 5 i0 Tryz.underlying60 Tryz.underlying9 hi0 hz0 hz1 hz2 _ _ _ rfl hown.out s rfl (by unfold maxLen;omega) (by omega) (by omega) ?_)
 intro v' w2 hown2 hgrow hnil
 obtain⟨ao2,n2,cap2,rfl⟩:∃a n c,v'=.slice a n c:=by
  rcases hown2.2 with ⟨hv,_⟩ | ⟨g,cap',cur,hv,_⟩
  ·exact⟨_,_,_,hv⟩
  ·exact⟨_,_,_,hv⟩
 have hM:L++bL s≠[]:=fun e=>hs (List.append_eq_nil_iff.1 e).2
 have hown3:w2.ownsRow B 5 1 (.slice ao2 n2 cap2) (L++bL s).length (Lib.byteCells (L++bL s)):=by
  have e1:(L++bL s).length=L.length+s.size:=by rw [List.length_append];rfl
  rw [e1]
  simpa [Lib.byteCells,Lib.strCells,bL] using hown2
 obtain⟨hb2,hU2,hN2⟩:=wrote hbk.out hne.out hB hown.out hown3 hgrow hM
 have hN3:=Lib.hid (hN1.trans hN2)
 clear hN1 hN2
 have d1:w2.cell? ⟨b,1,none⟩=some (.slice ao L.length cap):=by rw [blk_cell hb2];rfl
 have f1:w2.frozen? ⟨b,1,none⟩=false:=by simp [World.frozen?,hb2]
 have hl2:b<w2.heap.size:=(Array.getElem?_eq_some_iff.1 hb2).1
 have hBl:Below B w (w2.setCell ⟨b,1,none⟩ (.slice ao2 n2 cap2)):=(hb1.out.grown hgrow (by omega) (fun k hk=>(hown.out.lt k hk).1)).setCell (p:=⟨b,1,none⟩) hB _
 clear hgrow hnil hown2 hown3 c1
 replace hU2:=Lib.hid hU2
 replace hBl:=Lib.hid hBl
 replace hb2:=Lib.hid hb2
 go_wp2_with fail
 go_ret2
 exact⟨⟨_,rfl⟩,hU2.out,hBl.out,hN3.out⟩
set_option maxRecDepth 20000 in
set_option maxHeartbeats 1000000 in
theorem wbyte_any {B b:Nat}{L:List UInt8}{m:Value}{w:World}(h:WrAt B b L m w)(c:UInt8)(hlen:L.length+1≤140737488355328)(hBw:B≤w.heap.size):Calls Tryz.prog 100 #[.pointer (some ⟨b,0,none⟩),.int .u8 c.toNat] w fun e w'=>(∃v,e=.returned v)∧WrUs B b (L++[c]) m w'∧Below B w w'∧Nu w w':=by
 obtain⟨i0,hi0,hz0,hz1,hz2⟩:=info_parts infoU8
 have hc:=Lib.hid (check_any h)
 have hB:=h.lo
 clear h
 go_enter Tryz.func100,Tryz.ntmps100
 go_wp2_with fail
 refine hc.out.mono ?_
 rintro e w1 ⟨rfl,hU,hb1,hN1⟩
 obtain⟨ao,cap,hbk,hown,hne⟩:=hU.slice
 have c1:w1.cell? ⟨b,1,none⟩=some (.slice ao L.length cap):=by rw [blk_cell hbk];rfl
 have hlt:b<w1.heap.size:=(Array.getElem?_eq_some_iff.1 hbk).1
 have hsz:=hb1.size
 clear hc
 have hbA:(w1.alloc (.cells #[.int .u8 c.toNat] 5)).heap[b]?=some (.cells #[.pointer (some ⟨b,0,none⟩),.slice ao L.length cap,m] 64 (0,0)):=at_oldN hbk
 have hownA:=hown.alloc (.cells #[.int .u8 c.toNat] 5)
 have hbl1:Below B w (w1.alloc (.cells #[.int .u8 c.toNat] 5)):=hb1.alloc (by omega) _
 replace hU:=Lib.hid hU
 replace hbk:=Lib.hid hbk
 replace hb1:=Lib.hid hb1
 replace hown:=Lib.hid hown
 replace hne:=Lib.hid hne
 replace hbA:=Lib.hid hbA
 replace hownA:=Lib.hid hownA
 replace hbl1:=Lib.hid hbl1
 dsimp only
 go_wp2_with (at_builtin;go_loud (refine wpList_append_own_at _ rfl _ _ 60 rfl B 5 i0 _ 1 1 Tryz.underlying60 hi0 hz0 hz1 hz2 rfl (by decide) _ _ _ rfl hownA.out ⟨w1.heap.size,0,none⟩ 1 1 [.int .u8 c.toNat] rfl rfl (World.news_of_block (cs:=#[.int .u8 c.toNat]) (t:=5) (fr:=(0,0)) (heap_alloc_new w1 _)) (by simp [Value.oneCell']) (by unfold maxLen;omega) (by omega) (by simp;omega) ?_))
 intro v' w2 hown2 hgrow hnil hat
 obtain⟨ao2,n2,cap2,rfl⟩:∃a n c,v'=.slice a n c:=by
  rcases hown2.2 with ⟨hv,_⟩ | ⟨g,cap',cur,hv,_⟩
  ·exact⟨_,_,_,hv⟩
  ·exact⟨_,_,_,hv⟩
 have hM:L++[c]≠[]:=by simp
 have hown3:w2.ownsRow B 5 1 (.slice ao2 n2 cap2) (L++[c]).length (Lib.byteCells (L++[c])):=by
  simpa [Lib.byteCells] using hown2
 obtain⟨hb2,hU2,hN2⟩:=wrote hbA.out hne.out hB hownA.out hown3 hgrow hM
 have hN3:=Lib.hid ((hN1.trans (Nu.of_below ((Below.refl _ _).alloc (Nat.le_refl _) _))).trans hN2)
 clear hN1 hN2
 have d1:w2.cell? ⟨b,1,none⟩=some (.slice ao L.length cap):=by rw [blk_cell hb2];rfl
 have f1:w2.frozen? ⟨b,1,none⟩=false:=by simp [World.frozen?,hb2]
 have hl2:b<w2.heap.size:=(Array.getElem?_eq_some_iff.1 hb2).1
 have hBl:Below B w (w2.setCell ⟨b,1,none⟩ (.slice ao2 n2 cap2)):=(hbl1.out.grown hgrow (by simp;omega) (fun k hk=>(hown.out.lt k hk).1)).setCell (p:=⟨b,1,none⟩) hB _
 clear hgrow hnil hown2 hown3 c1 hat
 replace hU2:=Lib.hid hU2
 replace hBl:=Lib.hid hBl
 replace hb2:=Lib.hid hb2
 go_wp2_with fail
 go_ret
 exact⟨⟨_,rfl⟩,hU2.out,hBl.out,hN3.out⟩
theorem WrAt.slice {B b:Nat}{L:List UInt8}{m:Value}{w:World}(h:WrAt B b L m w):∃p ao cap,w.heap[b]?=some (.cells #[p,.slice ao L.length cap,m] 64 (0,0))∧w.ownsRow B 5 1 (.slice ao L.length cap) L.length (Lib.byteCells L)∧(Value.slice ao L.length cap).ownBlock≠some b∧(L=[]→ao=none∧cap=0):=by
 obtain⟨⟨p,v,hp,h1,h2,h3,h4⟩,hB⟩:=h
 obtain⟨ao,cap,rfl⟩:∃ao cap,v=.slice ao L.length cap:=by
  rcases h2.2 with ⟨hv,h0⟩ | ⟨g,cap,cur,hv,_⟩
  ·exact⟨none,0,by rw [hv,h0]⟩
  ·exact⟨_,_,hv⟩
 refine⟨p,ao,cap,h1,h2,h3,fun e=>?_⟩
 have:=h4 e
 simp at this
 exact⟨this.1,this.2.2⟩
set_option maxRecDepth 20000 in
set_option maxHeartbeats 1000000 in
theorem wlen_any {B b:Nat}{L:List UInt8}{m:Value}{w:World}(h:WrAt B b L m w):Calls Tryz.prog 56 #[.pointer (some ⟨b,0,none⟩)] w fun e w'=>e=.returned (.int .i64 L.length)∧w'=w:=by
 obtain⟨p,ao,cap,hbk,-,-,-⟩:=h.slice
 have c1:w.cell? ⟨b,1,none⟩=some (.slice ao L.length cap):=by rw [blk_cell hbk];rfl
 clear h hbk
 go_enter Tryz.func56,Tryz.ntmps56
 go_wp2_with fail
 go_ret
 exact⟨rfl,rfl⟩
set_option maxRecDepth 20000 in
set_option maxHeartbeats 2000000 in
theorem wtext_any {B b:Nat}{L:List UInt8}{m:Value}{w:World}(h:WrAt B b L m w)(hBw:B≤w.heap.size):Calls Tryz.prog 20 #[.pointer (some ⟨b,0,none⟩)] w fun e w'=>e=.returned (.string ⟨L.toArray⟩)∧Below B w w':=by
 obtain⟨p,ao,cap,hbk,hown,-,hnil⟩:=h.slice
 have c1:w.drew.cell? ⟨b,1,none⟩=some (.slice ao L.length cap):=by
  have:w.drew.heap[b]?=some (.cells #[p,.slice ao L.length cap,m] 64 (0,0)):=hbk
  rw [blk_cell this];rfl
 have hlt:b<w.drew.heap.size:=(Array.getElem?_eq_some_iff.1 hbk).1
 clear h
 by_cases h0:L=[]
 ·obtain⟨rfl,rfl⟩:=hnil h0
  subst h0
  clear hown hnil hbk
  have hUS:(Builtin.unsafeString_ #[100,3] 9 #[.pointer none,.int .i64 0]).run Tryz.prog w.drew=.ok (.string .empty) w.drew:=Lib.run_unsafeString_none _ _ _ _ _
  have hSD:(Builtin.unsafeSliceData_ #[60] 100 #[.slice none 0 0]).run Tryz.prog w.drew=.ok (.pointer none) w.drew:=rfl
  have mixed:Tryz.prog.follows .mixedOrders=true:=by kernel_rfl
  go_enter Tryz.func20,Tryz.ntmps20
  go_wp2_with fail
  go_region_o
  all_goals (go_wp2_with fail;go_ret;exact⟨rfl,Below.drew (Below.refl B w)⟩)
 ·have hl0:L.length≠0:=by simpa using h0
  obtain⟨g,cur,rfl,hbg,hg,hnc,hcm,hcs,htake⟩:∃g cur,ao=some ⟨g,0,none⟩∧B≤g∧w.heap[g]?=some (.cells cur 5 (0,0))∧L.length≤cap∧cap≤maxLen∧cur.size=cap*1∧cur.toList.take (L.length*1)=Lib.byteCells L:=by
   rcases hown.2 with ⟨_,hz⟩ | ⟨g,cap',cur,hv,r1,r2,r3,r4,r5,r6⟩
   ·exact absurd hz hl0
   ·simp only [Value.slice.injEq] at hv
    obtain⟨hv1,-,rfl⟩:=hv
    exact⟨g,cur,hv1,r1,r2,r3,r4,r5,r6⟩
  have hSD:(Builtin.unsafeSliceData_ #[60] 100 #[.slice (some ⟨g,0,none⟩) L.length cap]).run Tryz.prog w.drew=.ok (.pointer (some ⟨g,0,none⟩)) w.drew:=Lib.run_unsafeSliceData_row _ _ _ _ _ _ (by omega)
  have hUS:(Builtin.unsafeString_ #[100,3] 9 #[.pointer (some ⟨g,0,none⟩),.int .i64 L.length]).run Tryz.prog w.drew=.ok (.string ⟨L.toArray⟩) (w.drew.freeze ⟨g,0,none⟩ L.length):=by
   refine Lib.run_unsafeString_row w.drew 100 3 9 5 Tryz.underlying100 cellsU8 g cur.size (by have hg':w.drew.heap[g]?=some (.cells cur 5 (0,0)):=hg;simp [World.shape?,hg']) L h0 (by omega) (by unfold maxLen at hcm;omega) ?_
   intro j x hx
   exact hown.cells (g:=g) rfl j (.int .u8 x.toNat) (by simp [Lib.byteCells,hx])
  have hBl:Below B w (w.drew.freeze ⟨g,0,none⟩ L.length):=Lib.below_freeze (Below.drew (Below.refl B w)) (p:=⟨g,0,none⟩) hbg _
  replace hBl:=Lib.hid hBl
  clear hown hnil hbk hg htake hcs
  have mixed:Tryz.prog.follows .mixedOrders=true:=by kernel_rfl
  go_enter Tryz.func20,Tryz.ntmps20
  go_wp2_with fail
  go_region_o
  all_goals (go_wp2_with fail;go_ret;exact⟨rfl,hBl.out⟩)
end
section
open Go.RowKit Go.Maps Go.Shelf
attribute [local go_sem] Oper.semAt_some
theorem extraJ:Builder.Extra Tryz.prog Tryz.lays156_ren where
 sizeBuilder:=by kernel_rfl
 liesBuilder:=by kernel_rfl
 t5:=Tryz.underlying5
 a5:=Tryz.isAgg5
 z5:=Tryz.sizeOf5
 v5:=Tryz.zeroValue5
 infoByte:=by kernel_rfl
 cellsByte:=by kernel_rfl
 sizeByte:=by kernel_rfl
 neB5:=by decide
def jnB (ws:List ByteArray)(sep:ByteArray):ByteArray:=⟨(Lib.join (ws.map bL) (bL sep)).toArray⟩
set_option maxRecDepth 20000 in
set_option maxHeartbeats 1000000 in
theorem join_none {a:Option Addr}{c:Nat}(sep:ByteArray)(w:World):Calls Tryz.prog 98 #[.slice a 0 c,.string sep] w fun e w'=>e=.returned (.string ⟨#[]⟩)∧Below w.heap.size w w':=by
 go_enter Tryz.func98,Tryz.ntmps98
 go_wp2_with fail
 go_ret
 exact⟨rfl,Below.refl _ _⟩
def RdC (w:World)(v:Value)(ss:List ByteArray):Prop:=RdS w v ss∧∃a c,v=.slice a ss.length c∧ss.length≤c
theorem RdC.below {w w':World}{v:Value}{ss:List ByteArray}(h:RdC w v ss)(hb:Below w.heap.size w w'):RdC w' v ss:=⟨Rd.below h.1 hb,h.2⟩
theorem RdC.of {w:World}{b off cap:Nat}{ss:List ByteArray}(hb:b<w.heap.size)(hc:ss.length≤cap)(h:∀(j:Nat) s,ss[j]?=some s→w.cell? ⟨b,off+j,none⟩=some (.string s)):RdC w (.slice (some ⟨b,off,none⟩) ss.length cap) ss:=by
 refine⟨.inr ⟨b,off,cap,by rw [List.length_map],hb,fun i u hu=>?_⟩,_,_,rfl,hc⟩
 rw [List.getElem?_map] at hu
 obtain⟨s,hs,rfl⟩:=Option.map_eq_some_iff.1 hu
 exact h i s hs
theorem RdC.nil (w:World):RdC w (.slice none 0 0) []:=⟨.inl ⟨rfl,.inl rfl⟩,none,0,rfl,Nat.le_refl _⟩
theorem RdC.cells {w:World}{v:Value}{ss:List ByteArray}(h:RdC w v ss):∃a c,v=.slice a ss.length c∧ss.length≤c∧(ss=[]∨∃b off,a=some ⟨b,off,none⟩∧b<w.heap.size∧∀(j:Nat) s,ss[j]?=some s→w.cell? ⟨b,off+j,none⟩=some (.string s)):=by
 obtain⟨hr,a,c,rfl,hc⟩:=h
 refine⟨a,c,rfl,hc,?_⟩
 rcases hr with ⟨h0,-⟩ | ⟨b,off,cap,hv,hlt,hcl⟩
 ·exact .inl (by simpa using h0)
 ·simp only [Value.slice.injEq] at hv
  obtain⟨rfl,-,rfl⟩:=hv
  exact .inr ⟨b,off,rfl,hlt,fun j s hj=>hcl j _ (by simp [hj])⟩
theorem join_any {w:World}{v:Value}{ws:List ByteArray}(h:RdC w v ws)(sep:ByteArray)(hl:ws.length≤1000000)(hs:(Lib.join (ws.map bL) (bL sep)).length≤100000000):Calls Tryz.prog 98 #[v,.string sep] w fun e w'=>e=.returned (.string (jnB ws sep))∧Below w.heap.size w w':=by
 obtain⟨a,c,rfl,hc,h0 | ⟨b,off,rfl,hlt,hcl⟩⟩:=h.cells
 ·subst h0
  exact join_none sep w
 ·exact Any.strings_Join_48 Tryz.lays156 extraJ b off c ws sep w hcl hlt (by omega) hc (by have:(Lib.join (ws.map (·.data.toList)) sep.data.toList).length≤100000000:=hs;omega)
set_option maxRecDepth 20000 in
set_option maxHeartbeats 1000000 in
theorem spaced_any {w:World}{v:Value}{ws:List ByteArray}(h:RdC w v ws)(hl:ws.length≤1000000)(hs:(Lib.join (ws.map bL) [32]).length≤100000000):Calls Tryz.prog 55 #[v] w fun e w'=>e=.returned (.string (jnB ws ⟨#[32]⟩))∧Below w.heap.size w w':=by
 have hj:=Lib.hid (join_any h ⟨#[32]⟩ hl hs)
 obtain⟨a,c,rfl,-⟩:=h.cells
 clear h
 go_enter Tryz.func55,Tryz.ntmps55
 go_wp2_with fail
 refine hj.out.mono ?_
 rintro e w1 ⟨rfl,hb1⟩
 dsimp only
 go_wp2_with fail
 go_ret
 exact⟨rfl,hb1⟩
set_option maxRecDepth 20000 in
set_option maxHeartbeats 1000000 in
theorem brack_any {w:World}{v:Value}{ws:List ByteArray}(h:RdC w v ws)(o c:ByteArray)(hl:ws.length≤1000000)(hs:(Lib.join (ws.map bL) [44,32]).length≤100000000)(ho:o.size≤100000000)(hc:c.size≤100000000):Calls Tryz.prog 47 #[.string o,.string c,v] w fun e w'=>e=.returned (.string (o++jnB ws ⟨#[44,32]⟩++c))∧Below w.heap.size w w':=by
 have hj:=Lib.hid (join_any h ⟨#[44,32]⟩ hl hs)
 obtain⟨a,k,rfl,-⟩:=h.cells
 have hz:(jnB ws ⟨#[44,32]⟩).size=(Lib.join (ws.map bL) [44,32]).length:=rfl
 have q1:¬9223372036854775807<o.size+(jnB ws ⟨#[44,32]⟩).size:=by omega
 have q2:¬9223372036854775807<o.size+(jnB ws ⟨#[44,32]⟩).size+c.size:=by omega
 have q3:¬9223372036854775807<(o++jnB ws ⟨#[44,32]⟩).size+c.size:=by rw [ByteArray.size_append];exact q2
 clear h
 go_enter Tryz.func47,Tryz.ntmps47
 go_wp2_with fail
 refine hj.out.mono ?_
 rintro e w1 ⟨rfl,hb1⟩
 dsimp only
 go_wp2_with fail
 go_ret
 exact⟨rfl,hb1⟩
set_option maxRecDepth 20000 in
set_option maxHeartbeats 1000000 in
theorem WrAt.below {B b:Nat}{L:List UInt8}{m:Value}{w W:World}(h:WrAt B b L m w)(hb:Below w.heap.size w W):WrAt B b L m W:=by
 obtain⟨⟨p,v,hp,h1,h2,h3,h4⟩,hB⟩:=h
 have hlt:b<w.heap.size:=(Array.getElem?_eq_some_iff.1 h1).1
 refine⟨⟨p,v,hp,(hb.block _ hlt).trans h1,?_,h3,h4⟩,hB⟩
 refine ownsRow_touch (S:=fun k=>w.heap.size≤k) h2 (Touch.of_below hb _) (fun k e1 e2=>?_)
 have:=(h2.lt k e1).2
 exact absurd this (by simpa using e2)
end
end Go.Proofs.YtknkiaedgeejiaaGreatDoor
