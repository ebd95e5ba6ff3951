/- Sr18, SwZ. -/
import Derived.Test.YtknkiaedgeejiaaGreatDoorSP24
import Derived.Test.YtknkiaedgeejiaaGreatDoorSP25
namespace Go.Proofs.YtknkiaedgeejiaaGreatDoor
set_option linter.unusedVariables false
set_option linter.unusedSimpArgs false
section
open Go.RowKit Go.Maps Go.Shelf Go.WideMaps
attribute [local go_sem] Oper.semAt_some
theorem firstR {P:List Fun}(hL:LightP P)(hf:∀d∈P,d.Fits){w:World}{v:Value}(h:RdE 3 RdFun w v P):∀(r:Nat),r=2∨r=9→∀W,Below w.heap.size w W→Calls Tryz.prog 21 #[.agg #[v],.int .u8 r] W fun e W'=>(∃p1 p2 p3:Int,e=.returned (.tuple #[.agg #[.int .i64 p1,.int .i64 p2,.int .i64 p3],.bool (ruleAt P r).isSome]))∧Below W.heap.size W W':=by
 intro r hr W hb
 have h':=RdE.below (fun _ _ x=>RdFun.below x hb) h hb
 obtain⟨a,k,rfl⟩:=h'.form
 rcases hr with rfl | rfl
 ·rw [rule2_any]
  exact first5_any hL h' (r:=2) rfl rfl (fun W2 hb2 f d hd=>ofFunc5_2 (RdE.below (fun _ _ x=>RdFun.below x hb2) h' hb2) hd (hf d (List.mem_of_getElem? hd))) (fun W2 d hd a1 n1 c1 vb rb b x hx=>ofBlock5_2 rb hx ((hf d hd).2.2.1 x (List.mem_of_getElem? hx)).1) (fun W2 d hd a1 n1 c1 vb rb b x hx i c hc m=>ofInstr5_2 rb hx hc (((hf d hd).2.2.1 x (List.mem_of_getElem? hx)).2.1 c (List.mem_of_getElem? hc)) m)
 ·rw [rule9_any]
  exact first5_any hL h' (r:=9) rfl rfl (fun W2 hb2 f d hd=>ofFunc5_9 (RdE.below (fun _ _ x=>RdFun.below x hb2) h' hb2) hd) (fun W2 d hd a1 n1 c1 vb rb b x hx=>by obtain⟨a2,k2,rfl⟩:=rb.form;exact ofBlock5_9 b) (fun W2 d hd a1 n1 c1 vb rb b x hx i c hc m=>ofInstr5_9 rb hx hc (((hf d hd).2.2.1 x (List.mem_of_getElem? hx)).2.1 c (List.mem_of_getElem? hc)) m)
set_option maxRecDepth 20000 in
set_option maxHeartbeats 16000000 in
theorem showPrints_any {w:World}{v:Value}{P:List Fun}(h:RdE 3 RdFunC w v P)(hf:∀d∈P,d.Fits)(hl:P.length≤maxLen):Calls Tryz.prog 3 #[.agg #[v]] w fun e w'=>e=.returned (.bool true)∧Below w.heap.size w w':=by
 obtain⟨ap,cp,rfl⟩:=h.form
 have hpl:=RdE.mono6 (fun cs d=>RdFunC.plain) h
 obtain⟨W2,hW2⟩:∃W2,w.alloc (.cells #[.slice ap P.length cp] 24)=W2:=⟨_,rfl⟩
 have hX:W2.heap[w.heap.size]?=some (.cells #[.slice ap P.length cp] 24 (0,0)):=by rw [←hW2];exact at_newN rfl
 have hw2:Below w.heap.size w W2:=by rw [←hW2];exact (Below.refl _ _).alloc (Nat.le_refl _) _
 have hheavy:=Lib.hid (heavy_any (RdE.below (fun _ _ x=>RdFun.below x hw2) hpl hw2) hf hl)
 obtain⟨n,hn⟩:∃n,n=P.length:=⟨_,rfl⟩
 rw [←hn] at h hX hW2 hheavy hpl ⊢
 have hcX:=Lib.hid (fun (W:World) (hb:Below W2.heap.size W2 W)=>(by rw [blk_cell ((hb.block _ (Array.getElem?_eq_some_iff.1 hX).1).trans hX)];rfl:W.cell? ⟨w.heap.size,0,none⟩=some (.slice ap n cp)))
 have c0:=hcX.out W2 (Below.refl _ _)
 replace hW2:=Lib.hid hW2
 replace hw2:=Lib.hid hw2
 replace hn:=Lib.hid hn
 replace h:=Lib.hid h
 replace hpl:=Lib.hid hpl
 replace hf:=Lib.hid hf
 clear hX hl
 go_enter Tryz.func3,Tryz.ntmps3
 go_upto_region 1 with fail
 rw [hW2.out]
 clear hW2
 go_wp2_with fail
 refine hheavy.out.mono ?_
 rintro e w3 ⟨q,rfl,hb3,hlight⟩
 dsimp only
 have hB3:=Lib.hid hb3
 clear hheavy hb3 c0
 cases q with
 | true=>
  clear hlight
  go_wp2_with fail
  refine (tells_any w3).mono ?_
  rintro e w4 ⟨rfl,hb4⟩
  dsimp only
  have hfin:=Lib.hid (hw2.out.trans ((hB3.out.trans (hb4.mono hB3.out.size)).mono hw2.out.size))
  clear hb4
  go_wp2_with fail
  go_ret
  exact⟨rfl,hfin.out⟩
 | false=>
  have hL:=Lib.hid (hlight rfl)
  clear hlight
  have c0:=hcX.out w3 hB3.out
  have hWB:=Lib.hid (hw2.out.trans (hB3.out.mono hw2.out.size))
  have hown:=Lib.hid (own_any (rdfc_below h.out hWB.out) (by have:=hL.out.1;omega) (fun d hd=>by
   have h1:=hL.out.2 d hd
   exact⟨by have:=h1.1;omega,by have:=h1.2.1;omega,fun x hx=>⟨by have:=(h1.2.2 x hx).1;omega,fun c hc=>⟨by have:=((h1.2.2 x hx).2 c hc).1;omega,by have:=((h1.2.2 x hx).2 c hc).2;omega⟩⟩⟩))
  go_upto_region 3 with fail
  go_wp2_with fail
  refine hown.out.mono ?_
  rintro e w4 ⟨v4,rfl,hR4,hb4⟩
  obtain⟨a4,c4,rfl⟩:=hR4.form
  rw [←hn.out] at hR4 ⊢
  have hB4:=Lib.hid (hB3.out.trans (hb4.mono hB3.out.size))
  have hWB4:=Lib.hid (hw2.out.trans (hB4.out.mono hw2.out.size))
  dsimp only
  have hYb:(w4.alloc (.cells #[.slice a4 n c4] 24)).heap[w4.heap.size]?=some (.cells #[.slice a4 n c4] 24 (0,0)):=heap_alloc_new _ _
  have hB5:Below w4.heap.size w4 (w4.alloc (.cells #[.slice a4 n c4] 24)):=(Below.refl _ _).alloc (Nat.le_refl _) _
  replace hR4:=Lib.hid hR4
  clear hown c0 hb4
  go_upto_region 4 with fail
  obtain⟨Y,hY⟩:∃Y,Y=w4.heap.size:=⟨_,rfl⟩
  rw [←hY] at hYb ⊢
  generalize (w4.alloc (.cells #[.slice a4 n c4] 24))=W5 at hYb hB5 ⊢
  have hYl:Y<W5.heap.size:=(Array.getElem?_eq_some_iff.1 hYb).1
  have hR5:=Lib.hid (rdfc_below hR4.out hB5)
  have hBw5:=Lib.hid (hB4.out.trans (hB5.mono hB4.out.size))
  have hWB5:=Lib.hid (hw2.out.trans (hBw5.out.mono hw2.out.size))
  have hcY:=Lib.hid (fun (W:World) (hb:Below W5.heap.size W5 W)=>(by rw [blk_cell ((hb.block _ hYl).trans hYb)];rfl:W.cell? ⟨Y,0,none⟩=some (.slice a4 n c4)))
  have y0:=hcY.out W5 (Below.refl _ _)
  have hprint:=Lib.hid (print_any (LightP.ok hL.out hf.out) (light_short hL.out) (by have:=hL.out.1;omega) hR5.out)
  obtain⟨T,hT⟩:∃T,T=showS P:=⟨_,rfl⟩
  obtain⟨E,hE⟩:∃E:Int,E=showE P:=⟨_,rfl⟩
  rw [←hT,←hE] at hprint
  replace hT:=Lib.hid hT
  replace hE:=Lib.hid hE
  clear hYb hY hB5 hYl
  go_wp2_with fail
  refine hprint.out.mono ?_
  rintro e w6 ⟨rfl,hb6⟩
  dsimp only
  have hB6:=Lib.hid hb6
  have hBw6:=Lib.hid (hBw5.out.trans (hb6.mono hBw5.out.size))
  have hWB6:=Lib.hid (hw2.out.trans (hBw6.out.mono hw2.out.size))
  clear hprint hb6 y0
  go_upto_region 5 with fail
  have c0:=hcX.out w6 hBw6.out
  have hrp:=Lib.hid (rprint_any hL.out (fun hb=>fun_ok (by unfold brokenP at hb;simp only [Bool.or_eq_false_iff] at hb;simpa using hb.1) (by unfold brokenP at hb;simp only [Bool.or_eq_false_iff] at hb;simpa using hb.2) (light_short hL.out)) (rdfc_below h.out hWB6.out) (firstR hL.out hf.out (RdE.below (fun _ _ x=>RdFun.below x hWB6.out) hpl.out hWB6.out)))
  rw [←hT.out,←hE.out] at hrp
  go_wp2_with fail
  refine hrp.out.mono ?_
  rintro e w7 ⟨rfl,hb7⟩
  dsimp only
  have hB7:=Lib.hid (hB6.out.trans (hb7.mono hB6.out.size))
  have hBw7:=Lib.hid (hBw5.out.trans (hB7.out.mono hBw5.out.size))
  have hWB7:=Lib.hid (hw2.out.trans (hBw7.out.mono hw2.out.size))
  clear hrp hb7 c0
  go_upto_region 6 with fail
  have c0:=hcX.out w7 hBw7.out
  have y0:=hcY.out w7 hB7.out
  have hsame:=Lib.hid (sameP_yes (RdE.mono6 (fun cs d=>RdFunC.plain) (rdfc_below hR5.out hB7.out)) (RdE.below (fun _ _ x=>RdFun.below x hWB7.out) hpl.out hWB7.out) hL.out)
  go_wp2_with fail
  refine hsame.out.mono ?_
  rintro e w8 ⟨rfl,hb8⟩
  dsimp only
  have hWB8:=Lib.hid (hWB7.out.trans (hb8.mono hWB7.out.size))
  clear hsame hb8 c0 y0
  go_wp2_with fail
  refine (tells_any w8).mono ?_
  rintro e w9 ⟨rfl,hb9⟩
  dsimp only
  have hfin:=Lib.hid (hWB8.out.trans (hb9.mono hWB8.out.size))
  clear hb9
  go_wp2_with fail
  go_ret
  exact⟨rfl,hfin.out⟩
end
section
open Go.RowKit Go.Maps Go.WideShapes Go.ChangeShapes Go.ChangeAt Go.Deep
def RdPrgC (w:World)(cs:List Value)(P:List Fun):Prop:=∃v,cs=[v]∧RdE 3 RdFunC w v P
theorem rd_prg_c {H:Type}{enc:TypeId × Value→H}{w:World}{n:Nat}{cs:List Value}{x:DataW H × List MemPlace}(hn:DataW.trod enc Tryz.prog w 0 (fun _=>true) true n 24 cs=some x):∃P:List Fun,RdPrgC w cs P∧PrgFits P:=by
 obtain⟨xs,m,rfl,rfl,hl,hxl,hf⟩:=DataW.trod_struct Tryz.underlying24 hn
 rw [cellsPrg] at hl
 obtain⟨c0,rfl⟩:=List.length_eq_one_iff.1 hl
 have hg:=fun i f hi v hv=>field_one (by kernel_rfl) hxl hf (i:=i) (f:=f) hi (v:=v) hv
 obtain⟨y0,h0⟩:=hg 0 _ rfl _ rfl
 obtain⟨v,L,e1,r1,w1,l1⟩:=rd_elems_in (R:=RdFunC) (F:=Fun.Fits) Tryz.underlying22 cellsFun (by decide) (fun n cs x h=>rd_fun_c h) h0
 exact⟨L,⟨v,e1,r1⟩,w1,l1⟩
end
end Go.Proofs.YtknkiaedgeejiaaGreatDoor
