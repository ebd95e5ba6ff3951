/- SwR. -/
import Derived.Test.YtknkiaedgeejiaaGreatDoorSP3
import Derived.Test.YtknkiaedgeejiaaGreatDoorSP10
import Derived.Deep.RegionHeld3
namespace Go.Proofs.YtknkiaedgeejiaaGreatDoor
set_option linter.unusedVariables false
set_option linter.unusedSimpArgs false
section
open Go.RowKit Go.Maps Go.Shelf
attribute [local go_sem] Oper.semAt_some
structure InsOk (d:Ins):Prop where
 na:d.args.length≤1000
 nl:d.labels.length≤1000
 ga:∀s∈d.args,s.size≤1600
 gl:∀s∈d.labels,s.size≤1600
 sd:d.dst.size≤1600
 sa:d.a.size≤1600
 sb:d.b.size≤1600
 sf:d.fn.size≤1600
 n0:0≤d.n
 n1:d.n<100
 ph:d.op=6→d.args.length=d.labels.length
theorem join_len (sep:List UInt8)(N:Nat)(hsep:sep.length≤N):∀l:List (List UInt8),(∀x∈l,x.length≤N)→(Lib.join l sep).length≤2*N*l.length
 | [],_=>by simp [Lib.join]
 | [x],h=>by
  rw [join1]
  have:=h x (by simp)
  simp
  omega
 | x::y::r,h=>by
  rw [join_cons2]
  have h1:=h x (by simp)
  have h2:=join_len sep N hsep (y::r) (fun z hz=>h z (List.mem_cons_of_mem _ hz))
  simp only [List.length_append,List.length_cons] at h2 ⊢
  have e:2*N*(r.length+1+1)=2*N*(r.length+1)+2*N:=by rw [Nat.mul_add,Nat.mul_one]
  omega
theorem bL_len (s:ByteArray):(bL s).length=s.size:=rfl
theorem args_join {d:Ins}(h:InsOk d):(Lib.join (d.args.map bL) [44,32]).length≤3300000:=by
 have:=join_len [44,32] 1600 (by decide) (d.args.map bL) (fun x hx=>by
  obtain⟨s,hs,rfl⟩:=List.mem_map.1 hx
  exact h.ga s hs)
 rw [List.length_map] at this
 have:=h.na
 omega
theorem pairs_join {d:Ins}(h:InsOk d):(Lib.join ((pairB d).map bL) [44,32]).length≤6700000∧(pairB d).length≤1000:=by
 have hl:(pairB d).length≤1000:=by
  unfold pairB
  rw [List.length_zipWith]
  have:=h.na
  omega
 have:=join_len [44,32] 3300 (by decide) ((pairB d).map bL) (fun x hx=>by
  obtain⟨s,hs,rfl⟩:=List.mem_map.1 hx
  unfold pairB at hs
  obtain⟨k,hk⟩:=List.mem_iff_getElem?.1 hs
  rw [List.getElem?_zipWith] at hk
  cases h1:d.labels[k]? with
  | none=>rw [h1] at hk;simp at hk
  | some a=>
   cases h2:d.args[k]? with
   | none=>rw [h1,h2] at hk;simp at hk
   | some b=>
    rw [h1,h2] at hk
    simp only [Option.some.injEq] at hk
    subst hk
    have i1:=h.gl a (List.mem_of_getElem? h1)
    have i2:=h.ga b (List.mem_of_getElem? h2)
    rw [bL_len,ByteArray.size_append,ByteArray.size_append]
    show a.size+2+b.size≤3300
    omega)
 rw [List.length_map] at this
 omega
theorem rdc_new {w:World}(ss:List ByteArray):RdC (w.alloc (.cells (ss.map Value.string).toArray 9)) (.slice (some ⟨w.heap.size,0,none⟩) ss.length ss.length) ss:=by
 refine RdC.of (by simp) (Nat.le_refl _) (fun j s hj=>?_)
 rw [blk_cell (heap_alloc_new w _)]
 simp [hj]
def numB (d:Ins):ByteArray:=⟨(Lib.decDigits d.n.toNat).toArray⟩
set_option maxRecDepth 20000 in
set_option maxHeartbeats 2000000 in
theorem r4_any {w:World}{d:Ins}{va vl:Value}(ha:RdC w va d.args)(hl:RdC w vl d.labels)(hk:InsOk d):Calls Tryz.prog 40 #[.agg (insV d va vl).toArray] w fun e w'=>∃v,e=.returned v∧RdC w' v []∧Below w.heap.size w w':=by
 obtain⟨aa,ca,rfl,hca,hac⟩:=ha.cells
 obtain⟨al,cl,rfl,hcl,hlc⟩:=hl.cells
 obtain⟨W2,hW2⟩:∃W2,w.alloc (.cells (insV d (.slice aa d.args.length ca) (.slice al d.labels.length cl)).toArray 46)=W2:=⟨_,rfl⟩
 have hb:W2.heap[w.heap.size]?=some (.cells (insV d (.slice aa d.args.length ca) (.slice al d.labels.length cl)).toArray 46 (0,0)):=by rw [←hW2];exact at_newN rfl
 have hB:Below w.heap.size w W2:=by rw [←hW2];exact (Below.refl _ _).alloc (Nat.le_refl _) _
 have hlt:w.heap.size<W2.heap.size:=(Array.getElem?_eq_some_iff.1 hb).1
 clear hb hac hlc
 replace hW2:=Lib.hid hW2
 replace hB:=Lib.hid hB
 replace ha:=Lib.hid ha
 replace hl:=Lib.hid hl
 go_enter Tryz.func40,Tryz.ntmps40
 go_upto_region 1 with fail
 rw [hW2.out]
 clear hW2
 go_wp2_with fail
 go_ret
 exact⟨_,rfl,RdC.nil _,hB.out⟩
set_option maxRecDepth 20000 in
set_option maxHeartbeats 2000000 in
theorem r5_any {w:World}{d:Ins}{va vl:Value}(ha:RdC w va d.args)(hl:RdC w vl d.labels)(hk:InsOk d):Calls Tryz.prog 41 #[.agg (insV d va vl).toArray] w fun e w'=>∃g,e=.returned (.slice (some ⟨g,0,none⟩) 1 1)∧w.heap.size≤g∧w'.heap[g]?=some (.cells #[.string d.a] 9 (0,0))∧Below w.heap.size w w':=by
 obtain⟨aa,ca,rfl,hca,hac⟩:=ha.cells
 obtain⟨al,cl,rfl,hcl,hlc⟩:=hl.cells
 obtain⟨W2,hW2⟩:∃W2,w.alloc (.cells (insV d (.slice aa d.args.length ca) (.slice al d.labels.length cl)).toArray 46)=W2:=⟨_,rfl⟩
 have hb:W2.heap[w.heap.size]?=some (.cells (insV d (.slice aa d.args.length ca) (.slice al d.labels.length cl)).toArray 46 (0,0)):=by rw [←hW2];exact at_newN rfl
 have hB:Below w.heap.size w W2:=by rw [←hW2];exact (Below.refl _ _).alloc (Nat.le_refl _) _
 have hlt:w.heap.size<W2.heap.size:=(Array.getElem?_eq_some_iff.1 hb).1
 have c2:W2.cell? ⟨w.heap.size,2,none⟩=some (.string d.a):=by rw [blk_cell hb];rfl
 clear hb hac hlc
 replace hW2:=Lib.hid hW2
 replace hB:=Lib.hid hB
 replace ha:=Lib.hid ha
 replace hl:=Lib.hid hl
 go_enter Tryz.func41,Tryz.ntmps41
 go_upto_region 1 with fail
 rw [hW2.out]
 clear hW2
 go_wp2_with fail
 go_ret
 exact⟨_,rfl,Nat.le_of_lt hlt,heap_alloc_new W2 _,hB.out.alloc (by omega) _⟩
set_option maxRecDepth 20000 in
set_option maxHeartbeats 2000000 in
theorem r7_any {w:World}{d:Ins}{va vl:Value}(ha:RdC w va d.args)(hl:RdC w vl d.labels)(hk:InsOk d):Calls Tryz.prog 44 #[.agg (insV d va vl).toArray] w fun e w'=>∃v,e=.returned v∧RdC w' v d.labels∧Below w.heap.size w w':=by
 obtain⟨aa,ca,rfl,hca,hac⟩:=ha.cells
 obtain⟨al,cl,rfl,hcl,hlc⟩:=hl.cells
 obtain⟨W2,hW2⟩:∃W2,w.alloc (.cells (insV d (.slice aa d.args.length ca) (.slice al d.labels.length cl)).toArray 46)=W2:=⟨_,rfl⟩
 have hb:W2.heap[w.heap.size]?=some (.cells (insV d (.slice aa d.args.length ca) (.slice al d.labels.length cl)).toArray 46 (0,0)):=by rw [←hW2];exact at_newN rfl
 have hB:Below w.heap.size w W2:=by rw [←hW2];exact (Below.refl _ _).alloc (Nat.le_refl _) _
 have hlt:w.heap.size<W2.heap.size:=(Array.getElem?_eq_some_iff.1 hb).1
 have c7:W2.cell? ⟨w.heap.size,7,none⟩=some (.slice al d.labels.length cl):=by rw [blk_cell hb];rfl
 clear hb hac hlc
 replace hW2:=Lib.hid hW2
 replace hB:=Lib.hid hB
 replace ha:=Lib.hid ha
 replace hl:=Lib.hid hl
 go_enter Tryz.func44,Tryz.ntmps44
 go_upto_region 1 with fail
 rw [hW2.out]
 clear hW2
 go_wp2_with fail
 go_ret
 exact⟨_,rfl,hl.out.below hB.out,hB.out⟩
set_option maxRecDepth 20000 in
set_option maxHeartbeats 2000000 in
theorem r8_any {w:World}{d:Ins}{va vl:Value}(ha:RdC w va d.args)(hl:RdC w vl d.labels)(hk:InsOk d):Calls Tryz.prog 45 #[.agg (insV d va vl).toArray] w fun e w'=>∃v,e=.returned v∧RdC w' v [d.fn]∧Below w.heap.size w w':=by
 obtain⟨aa,ca,rfl,hca,hac⟩:=ha.cells
 obtain⟨al,cl,rfl,hcl,hlc⟩:=hl.cells
 obtain⟨W2,hW2⟩:∃W2,w.alloc (.cells (insV d (.slice aa d.args.length ca) (.slice al d.labels.length cl)).toArray 46)=W2:=⟨_,rfl⟩
 have hb:W2.heap[w.heap.size]?=some (.cells (insV d (.slice aa d.args.length ca) (.slice al d.labels.length cl)).toArray 46 (0,0)):=by rw [←hW2];exact at_newN rfl
 have hB:Below w.heap.size w W2:=by rw [←hW2];exact (Below.refl _ _).alloc (Nat.le_refl _) _
 have hlt:w.heap.size<W2.heap.size:=(Array.getElem?_eq_some_iff.1 hb).1
 have c5:W2.cell? ⟨w.heap.size,5,none⟩=some (.string d.fn):=by rw [blk_cell hb];rfl
 clear hb hac hlc
 replace hW2:=Lib.hid hW2
 replace hB:=Lib.hid hB
 replace ha:=Lib.hid ha
 replace hl:=Lib.hid hl
 go_enter Tryz.func45,Tryz.ntmps45
 go_upto_region 1 with fail
 rw [hW2.out]
 clear hW2
 go_wp2_with fail
 go_ret
 exact⟨_,rfl,rdc_new [d.fn],hB.out.alloc (by omega) _⟩
set_option maxRecDepth 20000 in
set_option maxHeartbeats 2000000 in
theorem r6_any {w:World}{d:Ins}{va vl:Value}(ha:RdC w va d.args)(hl:RdC w vl d.labels)(hk:InsOk d):Calls Tryz.prog 42 #[.agg (insV d va vl).toArray] w fun e w'=>∃v,e=.returned v∧RdC w' v [numB d]∧Below w.heap.size w w':=by
 obtain⟨aa,ca,rfl,hca,hac⟩:=ha.cells
 obtain⟨al,cl,rfl,hcl,hlc⟩:=hl.cells
 obtain⟨W2,hW2⟩:∃W2,w.alloc (.cells (insV d (.slice aa d.args.length ca) (.slice al d.labels.length cl)).toArray 46)=W2:=⟨_,rfl⟩
 have hb:W2.heap[w.heap.size]?=some (.cells (insV d (.slice aa d.args.length ca) (.slice al d.labels.length cl)).toArray 46 (0,0)):=by rw [←hW2];exact at_newN rfl
 have hB:Below w.heap.size w W2:=by rw [←hW2];exact (Below.refl _ _).alloc (Nat.le_refl _) _
 have hlt:w.heap.size<W2.heap.size:=(Array.getElem?_eq_some_iff.1 hb).1
 have c4:W2.cell? ⟨w.heap.size,4,none⟩=some (.int .i64 d.n):=by rw [blk_cell hb];rfl
 obtain⟨q,hq⟩:∃q:Nat,(q:Int)=d.n:=⟨d.n.toNat,by have:=hk.n0;omega⟩
 have hr:(⟨(Lib.decDigits q).toArray⟩:ByteArray)=numB d:=by unfold numB;rw [←hq];rfl
 clear hb hac hlc
 replace hW2:=Lib.hid hW2
 replace hB:=Lib.hid hB
 replace ha:=Lib.hid ha
 replace hl:=Lib.hid hl
 go_enter Tryz.func42,Tryz.ntmps42
 go_upto_region 1 with fail
 rw [hW2.out]
 clear hW2
 go_wp2_with fail
 rw [←hq]
 refine (Any.strconv_Itoa_small Tryz.lays171 q (by have:=hk.n0;have:=hk.n1;omega) W2).mono ?_
 rintro e w3 ⟨rfl,rfl⟩
 dsimp only
 rw [hr]
 go_wp2_with fail
 go_ret
 exact⟨_,rfl,rdc_new [numB d],hB.out.alloc (by omega) _⟩
set_option maxRecDepth 20000 in
set_option maxHeartbeats 2000000 in
theorem r11_any {w:World}{d:Ins}{va vl:Value}(ha:RdC w va d.args)(hl:RdC w vl d.labels)(hk:InsOk d):Calls Tryz.prog 50 #[.agg (insV d va vl).toArray] w fun e w'=>∃v,e=.returned v∧RdC w' v [d.a++⟨#[44]⟩,d.b]∧Below w.heap.size w w':=by
 obtain⟨aa,ca,rfl,hca,hac⟩:=ha.cells
 obtain⟨al,cl,rfl,hcl,hlc⟩:=hl.cells
 obtain⟨W2,hW2⟩:∃W2,w.alloc (.cells (insV d (.slice aa d.args.length ca) (.slice al d.labels.length cl)).toArray 46)=W2:=⟨_,rfl⟩
 have hb:W2.heap[w.heap.size]?=some (.cells (insV d (.slice aa d.args.length ca) (.slice al d.labels.length cl)).toArray 46 (0,0)):=by rw [←hW2];exact at_newN rfl
 have hB:Below w.heap.size w W2:=by rw [←hW2];exact (Below.refl _ _).alloc (Nat.le_refl _) _
 have hlt:w.heap.size<W2.heap.size:=(Array.getElem?_eq_some_iff.1 hb).1
 have c2:W2.cell? ⟨w.heap.size,2,none⟩=some (.string d.a):=by rw [blk_cell hb];rfl
 have c3:W2.cell? ⟨w.heap.size,3,none⟩=some (.string d.b):=by rw [blk_cell hb];rfl
 have q1:¬9223372036854775807<d.a.size+1:=by have:=hk.sa;omega
 clear hb hac hlc
 replace hW2:=Lib.hid hW2
 replace hB:=Lib.hid hB
 replace ha:=Lib.hid ha
 replace hl:=Lib.hid hl
 go_enter Tryz.func50,Tryz.ntmps50
 go_upto_region 1 with fail
 rw [hW2.out]
 clear hW2
 go_wp2_with fail
 go_ret
 exact⟨_,rfl,rdc_new [d.a++⟨#[44]⟩,d.b],hB.out.alloc (by omega) _⟩
def callB (f:ByteArray)(d:Ins):ByteArray:=f++(⟨#[40]⟩++jnB d.args ⟨#[44,32]⟩++⟨#[41]⟩)
def phiW (d:Ins):ByteArray:=⟨#[91]⟩++jnB (pairB d) ⟨#[44,32]⟩++⟨#[93]⟩
theorem brk_size (o c:UInt8)(ws:List ByteArray):((⟨#[o]⟩:ByteArray)++jnB ws ⟨#[44,32]⟩++⟨#[c]⟩).size=(Lib.join (ws.map bL) [44,32]).length+2:=by
 rw [ByteArray.size_append,ByteArray.size_append]
 show 1+(Lib.join (ws.map bL) [44,32]).length+1=_
 omega
set_option maxRecDepth 20000 in
set_option maxHeartbeats 2000000 in
theorem r9_any {w:World}{d:Ins}{va vl:Value}(ha:RdC w va d.args)(hl:RdC w vl d.labels)(hk:InsOk d)(h6:d.args.length=d.labels.length):Calls Tryz.prog 46 #[.agg (insV d va vl).toArray] w fun e w'=>∃v,e=.returned v∧RdC w' v [phiW d]∧Below w.heap.size w w':=by
 obtain⟨aa,ca,rfl,hca,hac⟩:=ha.cells
 obtain⟨al,cl,rfl,hcl,hlc⟩:=hl.cells
 obtain⟨W2,hW2⟩:∃W2,w.alloc (.cells (insV d (.slice aa d.args.length ca) (.slice al d.labels.length cl)).toArray 46)=W2:=⟨_,rfl⟩
 have hb:W2.heap[w.heap.size]?=some (.cells (insV d (.slice aa d.args.length ca) (.slice al d.labels.length cl)).toArray 46 (0,0)):=by rw [←hW2];exact at_newN rfl
 have hB:Below w.heap.size w W2:=by rw [←hW2];exact (Below.refl _ _).alloc (Nat.le_refl _) _
 have hlt:w.heap.size<W2.heap.size:=(Array.getElem?_eq_some_iff.1 hb).1
 have c0:W2.cell? ⟨w.heap.size,0,none⟩=some (.int .u8 d.op):=by rw [blk_cell hb];rfl
 have c1:W2.cell? ⟨w.heap.size,1,none⟩=some (.string d.dst):=by rw [blk_cell hb];rfl
 have c2:W2.cell? ⟨w.heap.size,2,none⟩=some (.string d.a):=by rw [blk_cell hb];rfl
 have c3:W2.cell? ⟨w.heap.size,3,none⟩=some (.string d.b):=by rw [blk_cell hb];rfl
 have c4:W2.cell? ⟨w.heap.size,4,none⟩=some (.int .i64 d.n):=by rw [blk_cell hb];rfl
 have c5:W2.cell? ⟨w.heap.size,5,none⟩=some (.string d.fn):=by rw [blk_cell hb];rfl
 have c6:W2.cell? ⟨w.heap.size,6,none⟩=some (.slice aa d.args.length ca):=by rw [blk_cell hb];rfl
 have c7:W2.cell? ⟨w.heap.size,7,none⟩=some (.slice al d.labels.length cl):=by rw [blk_cell hb];rfl
 have hP:=Lib.hid (pairs_any (ha.below hB) (hl.below hB) h6 (by have:=hk.na;omega) (fun s hs=>by have:=hk.ga s hs;omega) (fun s hs=>by have:=hk.gl s hs;omega))
 clear hb hac hlc h6
 replace hW2:=Lib.hid hW2
 replace hB:=Lib.hid hB
 replace ha:=Lib.hid ha
 replace hl:=Lib.hid hl
 go_enter Tryz.func46,Tryz.ntmps46
 go_upto_region 1 with fail
 rw [hW2.out]
 clear hW2
 go_wp2_with fail
 refine hP.out.mono ?_
 rintro e w3 ⟨v3,rfl,hR,hb3⟩
 obtain⟨a3,c3',rfl,-⟩:=hR.cells
 have hbr:=Lib.hid (brack_any hR ⟨#[91]⟩ ⟨#[93]⟩ (by have:=(pairs_join hk).2;omega) (by have:=(pairs_join hk).1;omega) (by decide) (by decide))
 have hB3:=Lib.hid (hB.out.trans (hb3.mono hB.out.size))
 clear hR hb3 c0 c1 c2 c3 c4 c5 c6 c7
 dsimp only
 go_wp2_with fail
 refine hbr.out.mono ?_
 rintro e w4 ⟨rfl,hb4⟩
 have hB4:=hB3.out.trans (hb4.mono hB3.out.size)
 dsimp only
 go_wp2_with fail
 go_ret
 exact⟨_,rfl,rdc_new [phiW d],hB4.alloc hB4.size _⟩
set_option maxRecDepth 20000 in
set_option maxHeartbeats 2000000 in
theorem r12_any {w:World}{d:Ins}{va vl:Value}(ha:RdC w va d.args)(hl:RdC w vl d.labels)(hk:InsOk d):Calls Tryz.prog 51 #[.agg (insV d va vl).toArray] w fun e w'=>∃v,e=.returned v∧RdC w' v [callB d.fn d]∧Below w.heap.size w w':=by
 obtain⟨aa,ca,rfl,hca,hac⟩:=ha.cells
 obtain⟨al,cl,rfl,hcl,hlc⟩:=hl.cells
 obtain⟨W2,hW2⟩:∃W2,w.alloc (.cells (insV d (.slice aa d.args.length ca) (.slice al d.labels.length cl)).toArray 46)=W2:=⟨_,rfl⟩
 have hb:W2.heap[w.heap.size]?=some (.cells (insV d (.slice aa d.args.length ca) (.slice al d.labels.length cl)).toArray 46 (0,0)):=by rw [←hW2];exact at_newN rfl
 have hB:Below w.heap.size w W2:=by rw [←hW2];exact (Below.refl _ _).alloc (Nat.le_refl _) _
 have hlt:w.heap.size<W2.heap.size:=(Array.getElem?_eq_some_iff.1 hb).1
 have c5:W2.cell? ⟨w.heap.size,5,none⟩=some (.string d.fn):=by rw [blk_cell hb];rfl
 have c6:W2.cell? ⟨w.heap.size,6,none⟩=some (.slice aa d.args.length ca):=by rw [blk_cell hb];rfl
 obtain⟨J,hJ⟩:∃J,J=(⟨#[40]⟩:ByteArray)++jnB d.args ⟨#[44,32]⟩++⟨#[41]⟩:=⟨_,rfl⟩
 have hz:J.size≤10000002:=by rw [hJ,brk_size];have:=args_join hk;omega
 have hcb:callB d.fn d=d.fn++J:=by rw [hJ];rfl
 rw [hcb]
 have hbr:=Lib.hid (fun (W:World) (hw:Below W2.heap.size W2 W)=>(by
  have h:=brack_any ((ha.below hB).below hw) ⟨#[40]⟩ ⟨#[41]⟩ (by have:=hk.na;omega) (by have:=args_join hk;omega) (by decide) (by decide)
  rw [←hJ] at h
  exact h:Calls Tryz.prog 47 #[.string ⟨#[40]⟩,.string ⟨#[41]⟩,.slice aa d.args.length ca] W fun e w'=>e=.returned (.string J)∧Below W.heap.size W w'))
 have hCS:=Lib.hid (fun (W:World) (hw:Below W2.heap.size W2 W)=>(⟨(hw.cell (p:=⟨w.heap.size,5,none⟩) hlt).trans c5,(hw.cell (p:=⟨w.heap.size,6,none⟩) hlt).trans c6⟩:W.cell? ⟨w.heap.size,5,none⟩=some (.string d.fn)∧W.cell? ⟨w.heap.size,6,none⟩=some (.slice aa d.args.length ca)))
 have hC:=hCS.out W2 (Below.refl _ _)
 have q1:¬9223372036854775807<d.fn.size+J.size:=by have:=hk.sf;omega
 clear hb hac hlc c5 c6 hJ hcb
 replace hW2:=Lib.hid hW2
 replace hB:=Lib.hid hB
 replace ha:=Lib.hid ha
 replace hl:=Lib.hid hl
 go_enter Tryz.func51,Tryz.ntmps51
 go_upto_region 1 with fail
 rw [hW2.out]
 clear hW2
 refine wp_region_held_drew (S:=(fun w'=>w'.cell? ⟨w.heap.size,5,none⟩=some (.string d.fn)∧w'.cell? ⟨w.heap.size,6,none⟩=some (.slice aa d.args.length ca))) (by kernel_rfl) hC (fun hHeld=>?_)
 clear hHeld
 refine wpAnyH_take (i:=0) (oi:=(.mk (some 3) (.fieldAddr 46 (.tmp 1) 5) 0 "show.go:91" #[] none)) (v:=?_) rfl (by kernel_rfl) (by kernel_rfl) (by kernel_rfl) (fun _ _ _ h=>h) (Or.inl ⟨by rfl,?_⟩) hC ?_
 rotate_left
 ·(intro w hSw;(try dsimp only at hSw);go_simp;try with_reducible rfl)
 try simp only [Act.put,List.setIfInBounds_toArray,List.set_cons_zero,List.set_cons_succ]
 refine wpAnyH_take (i:=1) (oi:=(.mk (some 4) (.load 9 (.tmp 3)) 9 "show.go:91" #[.mk 0 .data] none)) (v:=?_) rfl (by kernel_rfl) (by kernel_rfl) (by kernel_rfl) (fun _ _ _ h=>h) (Or.inl ⟨by rfl,?_⟩) hC ?_
 rotate_left
 ·(intro w hSw;(try dsimp only at hSw);go_simp;try with_reducible rfl)
 try simp only [Act.put,List.setIfInBounds_toArray,List.set_cons_zero,List.set_cons_succ]
 refine wpAnyH_take (i:=2) (oi:=(.mk (some 5) (.fieldAddr 46 (.tmp 1) 6) 0 "show.go:91" #[] none)) (v:=?_) rfl (by kernel_rfl) (by kernel_rfl) (by kernel_rfl) (fun _ _ _ h=>h) (Or.inl ⟨by rfl,?_⟩) hC ?_
 rotate_left
 ·(intro w hSw;(try dsimp only at hSw);go_simp;try with_reducible rfl)
 try simp only [Act.put,List.setIfInBounds_toArray,List.set_cons_zero,List.set_cons_succ]
 refine wpAnyH_take (i:=3) (oi:=(.mk (some 6) (.load 37 (.tmp 5)) 37 "show.go:91" #[.mk 2 .data] none)) (v:=?_) rfl (by kernel_rfl) (by kernel_rfl) (by kernel_rfl) (fun _ _ _ h=>h) (Or.inl ⟨by rfl,?_⟩) hC ?_
 rotate_left
 ·(intro w hSw;(try dsimp only at hSw);go_simp;try with_reducible rfl)
 try simp only [Act.put,List.setIfInBounds_toArray,List.set_cons_zero,List.set_cons_succ]
 refine wpAnyH_ready (rs:=[4]) (by kernel_rfl) (by simp) (AllReadyH.cons (o:=(.mk (some 7) (.call (.mk (.value (.func 47)) #[(.const (Value.string (ByteArray.mk #[40]))),(.const (Value.string (ByteArray.mk #[41]))),(.tmp 6)] #[9,9,37])) 9 "show.go:91" #[.mk 3 .data] none)) rfl (fun K hK=>?_) AllReadyH.nil)
 go_simp
 (go_at_call 47;refine Calls.mono (hbr.out _ (Below.drew (Below.refl W2.heap.size W2))) ?_;rintro e w3 ⟨rfl,hb⟩)
 have hB3:=Lib.hid (show Below W2.heap.size W2 w3 from (Below.drew (Below.refl W2.heap.size W2)).trans hb)
 replace hC:=hCS.out w3 hB3.out
 clear hb
 refine hK.out _ _ hC (fun hHeld=>?_)
 clear hK K hHeld
 try simp only [Act.put,List.setIfInBounds_toArray,List.set_cons_zero,List.set_cons_succ]
 refine wpAnyH_take (i:=5) (oi:=(.mk (some 8) (.binOp BinOp.add 9 (.tmp 4) (.tmp 7) 9) 9 "show.go:91" #[.mk 1 .data,.mk 4 .data] none)) (v:=?_) rfl (by kernel_rfl) (by kernel_rfl) (by kernel_rfl) (fun _ _ _ h=>h) (Or.inl ⟨by rfl,?_⟩) hC ?_
 rotate_left
 ·(intro w hSw;(try dsimp only at hSw);go_simp;try with_reducible rfl)
 try simp only [Act.put,List.setIfInBounds_toArray,List.set_cons_zero,List.set_cons_succ]
 refine wpAnyH_ready (rs:=[6]) (by kernel_rfl) (by simp) (AllReadyH.cons (o:=(.mk (some 9) (.buildSlice 37 1 #[(0,(.tmp 8))]) 37 "show.go:91" #[.mk 5 .data] none)) rfl (fun K hK=>?_) AllReadyH.nil)
 go_simp
 have hB4:=Lib.hid (hB3.out.alloc hB3.out.size (.cells #[.string (d.fn++J)] 9))
 replace hC:=hCS.out _ hB4.out
 refine hK.out _ _ hC (fun hHeld=>?_)
 clear hK K hHeld
 try simp only [Act.put,List.setIfInBounds_toArray,List.set_cons_zero,List.set_cons_succ]
 refine wpAnyH_take (i:=7) (oi:=(.mk (some 2) (.assign (.tmp 9)) 37 "show.go:91" #[.mk 6 .data,.mk 4 .chain,.mk 0 .phase,.mk 1 .phase,.mk 2 .phase,.mk 3 .phase,.mk 4 .phase,.mk 5 .phase,.mk 6 .phase] none)) (v:=?_) rfl (by kernel_rfl) (by kernel_rfl) (by kernel_rfl) (fun _ _ _ h=>h) (Or.inl ⟨by rfl,?_⟩) hC ?_
 rotate_left
 ·(intro w hSw;(try dsimp only at hSw);go_simp;try with_reducible rfl)
 try simp only [Act.put,List.setIfInBounds_toArray,List.set_cons_zero,List.set_cons_succ]
 refine wpAnyH_done (by kernel_rfl) ?_ _
 go_wp2_with fail
 go_ret
 exact⟨_,rfl,rdc_new [d.fn++J],hB.out.trans (hB4.out.mono hB.out.size)⟩
set_option maxRecDepth 20000 in
set_option maxHeartbeats 2000000 in
theorem r13_any {w:World}{d:Ins}{va vl:Value}(ha:RdC w va d.args)(hl:RdC w vl d.labels)(hk:InsOk d):Calls Tryz.prog 52 #[.agg (insV d va vl).toArray] w fun e w'=>∃v,e=.returned v∧RdC w' v [callB d.a d]∧Below w.heap.size w w':=by
 obtain⟨aa,ca,rfl,hca,hac⟩:=ha.cells
 obtain⟨al,cl,rfl,hcl,hlc⟩:=hl.cells
 obtain⟨W2,hW2⟩:∃W2,w.alloc (.cells (insV d (.slice aa d.args.length ca) (.slice al d.labels.length cl)).toArray 46)=W2:=⟨_,rfl⟩
 have hb:W2.heap[w.heap.size]?=some (.cells (insV d (.slice aa d.args.length ca) (.slice al d.labels.length cl)).toArray 46 (0,0)):=by rw [←hW2];exact at_newN rfl
 have hB:Below w.heap.size w W2:=by rw [←hW2];exact (Below.refl _ _).alloc (Nat.le_refl _) _
 have hlt:w.heap.size<W2.heap.size:=(Array.getElem?_eq_some_iff.1 hb).1
 have c2:W2.cell? ⟨w.heap.size,2,none⟩=some (.string d.a):=by rw [blk_cell hb];rfl
 have c6:W2.cell? ⟨w.heap.size,6,none⟩=some (.slice aa d.args.length ca):=by rw [blk_cell hb];rfl
 obtain⟨J,hJ⟩:∃J,J=(⟨#[40]⟩:ByteArray)++jnB d.args ⟨#[44,32]⟩++⟨#[41]⟩:=⟨_,rfl⟩
 have hz:J.size≤10000002:=by rw [hJ,brk_size];have:=args_join hk;omega
 have hcb:callB d.a d=d.a++J:=by rw [hJ];rfl
 rw [hcb]
 have hbr:=Lib.hid (fun (W:World) (hw:Below W2.heap.size W2 W)=>(by
  have h:=brack_any ((ha.below hB).below hw) ⟨#[40]⟩ ⟨#[41]⟩ (by have:=hk.na;omega) (by have:=args_join hk;omega) (by decide) (by decide)
  rw [←hJ] at h
  exact h:Calls Tryz.prog 47 #[.string ⟨#[40]⟩,.string ⟨#[41]⟩,.slice aa d.args.length ca] W fun e w'=>e=.returned (.string J)∧Below W.heap.size W w'))
 have hCS:=Lib.hid (fun (W:World) (hw:Below W2.heap.size W2 W)=>(⟨(hw.cell (p:=⟨w.heap.size,2,none⟩) hlt).trans c2,(hw.cell (p:=⟨w.heap.size,6,none⟩) hlt).trans c6⟩:W.cell? ⟨w.heap.size,2,none⟩=some (.string d.a)∧W.cell? ⟨w.heap.size,6,none⟩=some (.slice aa d.args.length ca)))
 have hC:=hCS.out W2 (Below.refl _ _)
 have q1:¬9223372036854775807<d.a.size+J.size:=by have:=hk.sa;omega
 clear hb hac hlc c2 c6 hJ hcb
 replace hW2:=Lib.hid hW2
 replace hB:=Lib.hid hB
 replace ha:=Lib.hid ha
 replace hl:=Lib.hid hl
 go_enter Tryz.func52,Tryz.ntmps52
 go_upto_region 1 with fail
 rw [hW2.out]
 clear hW2
 refine wp_region_held_drew (S:=(fun w'=>w'.cell? ⟨w.heap.size,2,none⟩=some (.string d.a)∧w'.cell? ⟨w.heap.size,6,none⟩=some (.slice aa d.args.length ca))) (by kernel_rfl) hC (fun hHeld=>?_)
 clear hHeld
 refine wpAnyH_take (i:=0) (oi:=(.mk (some 3) (.fieldAddr 46 (.tmp 1) 2) 0 "show.go:92" #[] none)) (v:=?_) rfl (by kernel_rfl) (by kernel_rfl) (by kernel_rfl) (fun _ _ _ h=>h) (Or.inl ⟨by rfl,?_⟩) hC ?_
 rotate_left
 ·(intro w hSw;(try dsimp only at hSw);go_simp;try with_reducible rfl)
 try simp only [Act.put,List.setIfInBounds_toArray,List.set_cons_zero,List.set_cons_succ]
 refine wpAnyH_take (i:=1) (oi:=(.mk (some 4) (.load 9 (.tmp 3)) 9 "show.go:92" #[.mk 0 .data] none)) (v:=?_) rfl (by kernel_rfl) (by kernel_rfl) (by kernel_rfl) (fun _ _ _ h=>h) (Or.inl ⟨by rfl,?_⟩) hC ?_
 rotate_left
 ·(intro w hSw;(try dsimp only at hSw);go_simp;try with_reducible rfl)
 try simp only [Act.put,List.setIfInBounds_toArray,List.set_cons_zero,List.set_cons_succ]
 refine wpAnyH_take (i:=2) (oi:=(.mk (some 5) (.fieldAddr 46 (.tmp 1) 6) 0 "show.go:92" #[] none)) (v:=?_) rfl (by kernel_rfl) (by kernel_rfl) (by kernel_rfl) (fun _ _ _ h=>h) (Or.inl ⟨by rfl,?_⟩) hC ?_
 rotate_left
 ·(intro w hSw;(try dsimp only at hSw);go_simp;try with_reducible rfl)
 try simp only [Act.put,List.setIfInBounds_toArray,List.set_cons_zero,List.set_cons_succ]
 refine wpAnyH_take (i:=3) (oi:=(.mk (some 6) (.load 37 (.tmp 5)) 37 "show.go:92" #[.mk 2 .data] none)) (v:=?_) rfl (by kernel_rfl) (by kernel_rfl) (by kernel_rfl) (fun _ _ _ h=>h) (Or.inl ⟨by rfl,?_⟩) hC ?_
 rotate_left
 ·(intro w hSw;(try dsimp only at hSw);go_simp;try with_reducible rfl)
 try simp only [Act.put,List.setIfInBounds_toArray,List.set_cons_zero,List.set_cons_succ]
 refine wpAnyH_ready (rs:=[4]) (by kernel_rfl) (by simp) (AllReadyH.cons (o:=(.mk (some 7) (.call (.mk (.value (.func 47)) #[(.const (Value.string (ByteArray.mk #[40]))),(.const (Value.string (ByteArray.mk #[41]))),(.tmp 6)] #[9,9,37])) 9 "show.go:92" #[.mk 3 .data] none)) rfl (fun K hK=>?_) AllReadyH.nil)
 go_simp
 (go_at_call 47;refine Calls.mono (hbr.out _ (Below.drew (Below.refl W2.heap.size W2))) ?_;rintro e w3 ⟨rfl,hb⟩)
 have hB3:=Lib.hid (show Below W2.heap.size W2 w3 from (Below.drew (Below.refl W2.heap.size W2)).trans hb)
 replace hC:=hCS.out w3 hB3.out
 clear hb
 refine hK.out _ _ hC (fun hHeld=>?_)
 clear hK K hHeld
 try simp only [Act.put,List.setIfInBounds_toArray,List.set_cons_zero,List.set_cons_succ]
 refine wpAnyH_take (i:=5) (oi:=(.mk (some 8) (.binOp BinOp.add 9 (.tmp 4) (.tmp 7) 9) 9 "show.go:92" #[.mk 1 .data,.mk 4 .data] none)) (v:=?_) rfl (by kernel_rfl) (by kernel_rfl) (by kernel_rfl) (fun _ _ _ h=>h) (Or.inl ⟨by rfl,?_⟩) hC ?_
 rotate_left
 ·(intro w hSw;(try dsimp only at hSw);go_simp;try with_reducible rfl)
 try simp only [Act.put,List.setIfInBounds_toArray,List.set_cons_zero,List.set_cons_succ]
 refine wpAnyH_ready (rs:=[6]) (by kernel_rfl) (by simp) (AllReadyH.cons (o:=(.mk (some 9) (.buildSlice 37 1 #[(0,(.tmp 8))]) 37 "show.go:92" #[.mk 5 .data] none)) rfl (fun K hK=>?_) AllReadyH.nil)
 go_simp
 have hB4:=Lib.hid (hB3.out.alloc hB3.out.size (.cells #[.string (d.a++J)] 9))
 replace hC:=hCS.out _ hB4.out
 refine hK.out _ _ hC (fun hHeld=>?_)
 clear hK K hHeld
 try simp only [Act.put,List.setIfInBounds_toArray,List.set_cons_zero,List.set_cons_succ]
 refine wpAnyH_take (i:=7) (oi:=(.mk (some 2) (.assign (.tmp 9)) 37 "show.go:92" #[.mk 6 .data,.mk 4 .chain,.mk 0 .phase,.mk 1 .phase,.mk 2 .phase,.mk 3 .phase,.mk 4 .phase,.mk 5 .phase,.mk 6 .phase] none)) (v:=?_) rfl (by kernel_rfl) (by kernel_rfl) (by kernel_rfl) (fun _ _ _ h=>h) (Or.inl ⟨by rfl,?_⟩) hC ?_
 rotate_left
 ·(intro w hSw;(try dsimp only at hSw);go_simp;try with_reducible rfl)
 try simp only [Act.put,List.setIfInBounds_toArray,List.set_cons_zero,List.set_cons_succ]
 refine wpAnyH_done (by kernel_rfl) ?_ _
 go_wp2_with fail
 go_ret
 exact⟨_,rfl,rdc_new [d.a++J],hB.out.trans (hB4.out.mono hB.out.size)⟩
theorem empty_iff (s:ByteArray):s=⟨#[]⟩↔bL s=[]:=by
 obtain⟨a⟩:=s
 simp [bL]
theorem one_at6 {α:Type}{x d:α}{i:Nat}(h:[x][i]?=some d):i=0∧d=x:=by
 cases i with | zero=>exact⟨rfl,by simpa using h.symm⟩ | succ i=>simp at h
set_option maxRecDepth 20000 in
set_option maxHeartbeats 2000000 in
theorem r14_any {w:World}{d:Ins}{va vl:Value}(ha:RdC w va d.args)(hl:RdC w vl d.labels)(hk:InsOk d){bo:Nat}(hbo:w.cell? ⟨bo,0,none⟩=some (.func (.func 41) #[] #[])∧bo<w.heap.size):Calls Tryz.prog 53 #[.agg (insV d va vl).toArray,.pointer (some ⟨bo,0,none⟩)] w fun e w'=>∃v,e=.returned v∧RdC w' v (if bL d.a=[] then [] else [d.a])∧Below w.heap.size w w':=by
 obtain⟨aa,ca,rfl,hca,hac⟩:=ha.cells
 obtain⟨al,cl,rfl,hcl,hlc⟩:=hl.cells
 obtain⟨W2,hW2⟩:∃W2,w.alloc (.cells (insV d (.slice aa d.args.length ca) (.slice al d.labels.length cl)).toArray 46)=W2:=⟨_,rfl⟩
 have hb:W2.heap[w.heap.size]?=some (.cells (insV d (.slice aa d.args.length ca) (.slice al d.labels.length cl)).toArray 46 (0,0)):=by rw [←hW2];exact at_newN rfl
 have hB:Below w.heap.size w W2:=by rw [←hW2];exact (Below.refl _ _).alloc (Nat.le_refl _) _
 have hlt:w.heap.size<W2.heap.size:=(Array.getElem?_eq_some_iff.1 hb).1
 have c0:W2.cell? ⟨w.heap.size,0,none⟩=some (.int .u8 d.op):=by rw [blk_cell hb];rfl
 have c1:W2.cell? ⟨w.heap.size,1,none⟩=some (.string d.dst):=by rw [blk_cell hb];rfl
 have c2:W2.cell? ⟨w.heap.size,2,none⟩=some (.string d.a):=by rw [blk_cell hb];rfl
 have c3:W2.cell? ⟨w.heap.size,3,none⟩=some (.string d.b):=by rw [blk_cell hb];rfl
 have c4:W2.cell? ⟨w.heap.size,4,none⟩=some (.int .i64 d.n):=by rw [blk_cell hb];rfl
 have c5:W2.cell? ⟨w.heap.size,5,none⟩=some (.string d.fn):=by rw [blk_cell hb];rfl
 have c6:W2.cell? ⟨w.heap.size,6,none⟩=some (.slice aa d.args.length ca):=by rw [blk_cell hb];rfl
 have c7:W2.cell? ⟨w.heap.size,7,none⟩=some (.slice al d.labels.length cl):=by rw [blk_cell hb];rfl
 have cb:W2.cell? ⟨bo,0,none⟩=some (.func (.func 41) #[] #[]):=(hB.cell (p:=⟨bo,0,none⟩) hbo.2).trans hbo.1
 have h5:=Lib.hid (r5_any (ha.below hB) (hl.below hB) hk)
 obtain⟨R,hR⟩:∃R:List ByteArray,R=(if bL d.a=[] then [] else [d.a]):=⟨_,rfl⟩
 rw [←hR]
 replace hR:=Lib.hid hR
 clear hb hac hlc hbo
 replace hW2:=Lib.hid hW2
 replace hB:=Lib.hid hB
 replace ha:=Lib.hid ha
 replace hl:=Lib.hid hl
 go_enter Tryz.func53,Tryz.ntmps53
 go_upto_region 1 with fail
 rw [hW2.out]
 clear hW2
 by_cases hx:bL d.a=[]
 ·have e1:=(empty_iff d.a).2 hx
  rw [e1] at c2
  go_wp2_with fail
  go_ret
  exact⟨_,rfl,(by rw [hR.out,if_pos hx];exact RdC.nil _),hB.out⟩
 ·have e1:(d.a.toList==[])=false:=by
   have h:=bL_nil (s:=d.a)
   cases h1:d.a.toList with
   | nil=>rw [h1] at h;cases h2:bL d.a with | nil=>exact absurd h2 hx | cons _ _=>rw [h2] at h;cases h
   | cons _ _=>rfl
  go_wp2_with fail
  refine h5.out.mono ?_
  rintro e w3 ⟨g,rfl,hg1,hg2,hb3⟩
  dsimp only
  go_wp2_with fail
  go_ret
  exact⟨_,rfl,(by rw [hR.out,if_neg hx];exact RdC.of (ss:=[d.a]) (Array.getElem?_eq_some_iff.1 hg2).1 (Nat.le_refl _) (fun j s hj=>by obtain⟨rfl,rfl⟩:=one_at6 hj;rw [blk_cell hg2];rfl)),hB.out.trans (hb3.mono hB.out.size)⟩
set_option maxRecDepth 20000 in
set_option maxHeartbeats 2000000 in
theorem r10_any {w:World}{d:Ins}{va vl:Value}(ha:RdC w va d.args)(hl:RdC w vl d.labels)(hk:InsOk d){bo bn:Nat}(hbo:w.cell? ⟨bo,0,none⟩=some (.func (.func 41) #[] #[])∧bo<w.heap.size)(hbn:w.cell? ⟨bn,0,none⟩=some (.func (.func 42) #[] #[])∧bn<w.heap.size):Calls Tryz.prog 49 #[.agg (insV d va vl).toArray,.pointer (some ⟨bo,0,none⟩),.pointer (some ⟨bn,0,none⟩)] w fun e w'=>∃v,e=.returned v∧RdC w' v [d.a,numB d]∧Below w.heap.size w w':=by
 obtain⟨aa,ca,rfl,hca,hac⟩:=ha.cells
 obtain⟨al,cl,rfl,hcl,hlc⟩:=hl.cells
 obtain⟨W2,hW2⟩:∃W2,w.alloc (.cells (insV d (.slice aa d.args.length ca) (.slice al d.labels.length cl)).toArray 46)=W2:=⟨_,rfl⟩
 have hb:W2.heap[w.heap.size]?=some (.cells (insV d (.slice aa d.args.length ca) (.slice al d.labels.length cl)).toArray 46 (0,0)):=by rw [←hW2];exact at_newN rfl
 have hB:Below w.heap.size w W2:=by rw [←hW2];exact (Below.refl _ _).alloc (Nat.le_refl _) _
 have hlt:w.heap.size<W2.heap.size:=(Array.getElem?_eq_some_iff.1 hb).1
 have c0:W2.cell? ⟨w.heap.size,0,none⟩=some (.int .u8 d.op):=by rw [blk_cell hb];rfl
 have c1:W2.cell? ⟨w.heap.size,1,none⟩=some (.string d.dst):=by rw [blk_cell hb];rfl
 have c2:W2.cell? ⟨w.heap.size,2,none⟩=some (.string d.a):=by rw [blk_cell hb];rfl
 have c3:W2.cell? ⟨w.heap.size,3,none⟩=some (.string d.b):=by rw [blk_cell hb];rfl
 have c4:W2.cell? ⟨w.heap.size,4,none⟩=some (.int .i64 d.n):=by rw [blk_cell hb];rfl
 have c5:W2.cell? ⟨w.heap.size,5,none⟩=some (.string d.fn):=by rw [blk_cell hb];rfl
 have c6:W2.cell? ⟨w.heap.size,6,none⟩=some (.slice aa d.args.length ca):=by rw [blk_cell hb];rfl
 have c7:W2.cell? ⟨w.heap.size,7,none⟩=some (.slice al d.labels.length cl):=by rw [blk_cell hb];rfl
 have cb:W2.cell? ⟨bo,0,none⟩=some (.func (.func 41) #[] #[]):=(hB.cell (p:=⟨bo,0,none⟩) hbo.2).trans hbo.1
 have cn:W2.cell? ⟨bn,0,none⟩=some (.func (.func 42) #[] #[]):=(hB.cell (p:=⟨bn,0,none⟩) hbn.2).trans hbn.1
 have h5:=Lib.hid (fun (W:World) (hw:Below W2.heap.size W2 W)=>r5_any ((ha.below hB).below hw) ((hl.below hB).below hw) hk)
 have h6:=Lib.hid (fun (W:World) (hw:Below W2.heap.size W2 W)=>r6_any ((ha.below hB).below hw) ((hl.below hB).below hw) hk)
 have hbo2:bo<W2.heap.size:=Nat.lt_of_lt_of_le hbo.2 hB.size
 have hbn2:bn<W2.heap.size:=Nat.lt_of_lt_of_le hbn.2 hB.size
 have hCS:=Lib.hid (fun (W:World) (hw:Below W2.heap.size W2 W)=>(⟨(hw.cell (p:=⟨w.heap.size,0,none⟩) hlt).trans c0,(hw.cell (p:=⟨w.heap.size,1,none⟩) hlt).trans c1,(hw.cell (p:=⟨w.heap.size,2,none⟩) hlt).trans c2,(hw.cell (p:=⟨w.heap.size,3,none⟩) hlt).trans c3,(hw.cell (p:=⟨w.heap.size,4,none⟩) hlt).trans c4,(hw.cell (p:=⟨w.heap.size,5,none⟩) hlt).trans c5,(hw.cell (p:=⟨w.heap.size,6,none⟩) hlt).trans c6,(hw.cell (p:=⟨w.heap.size,7,none⟩) hlt).trans c7,(hw.cell (p:=⟨bo,0,none⟩) hbo2).trans cb,(hw.cell (p:=⟨bn,0,none⟩) hbn2).trans cn⟩:W.cell? ⟨w.heap.size,0,none⟩=some (.int .u8 d.op)∧W.cell? ⟨w.heap.size,1,none⟩=some (.string d.dst)∧W.cell? ⟨w.heap.size,2,none⟩=some (.string d.a)∧W.cell? ⟨w.heap.size,3,none⟩=some (.string d.b)∧W.cell? ⟨w.heap.size,4,none⟩=some (.int .i64 d.n)∧W.cell? ⟨w.heap.size,5,none⟩=some (.string d.fn)∧W.cell? ⟨w.heap.size,6,none⟩=some (.slice aa d.args.length ca)∧W.cell? ⟨w.heap.size,7,none⟩=some (.slice al d.labels.length cl)∧W.cell? ⟨bo,0,none⟩=some (.func (.func 41) #[] #[])∧W.cell? ⟨bn,0,none⟩=some (.func (.func 42) #[] #[])))
 have hC:=hCS.out W2 (Below.refl _ _)
 obtain⟨i0,hi0,hz0,hz1,hz2⟩:=info_parts infoStr6
 clear hb hac hlc hbo hbn cb cn c0 c1 c2 c3 c4 c5 c6 c7
 replace hW2:=Lib.hid hW2
 replace hB:=Lib.hid hB
 replace ha:=Lib.hid ha
 replace hl:=Lib.hid hl
 go_enter Tryz.func49,Tryz.ntmps49
 go_upto_region 1 with fail
 rw [hW2.out]
 clear hW2
 refine wp_region_held_drew (S:=(fun w'=>w'.cell? ⟨w.heap.size,0,none⟩=some (.int .u8 d.op)∧w'.cell? ⟨w.heap.size,1,none⟩=some (.string d.dst)∧w'.cell? ⟨w.heap.size,2,none⟩=some (.string d.a)∧w'.cell? ⟨w.heap.size,3,none⟩=some (.string d.b)∧w'.cell? ⟨w.heap.size,4,none⟩=some (.int .i64 d.n)∧w'.cell? ⟨w.heap.size,5,none⟩=some (.string d.fn)∧w'.cell? ⟨w.heap.size,6,none⟩=some (.slice aa d.args.length ca)∧w'.cell? ⟨w.heap.size,7,none⟩=some (.slice al d.labels.length cl)∧w'.cell? ⟨bo,0,none⟩=some (.func (.func 41) #[] #[])∧w'.cell? ⟨bn,0,none⟩=some (.func (.func 42) #[] #[]))) (by kernel_rfl) hC (fun hHeld=>?_)
 clear hHeld
 refine wpAnyH_take (i:=0) (oi:=(.mk (some 5) (.load 92 (.tmp 1)) 92 "show.go:88" #[] none)) (v:=?_) rfl (by kernel_rfl) (by kernel_rfl) (by kernel_rfl) (fun _ _ _ h=>h) (Or.inl ⟨by rfl,?_⟩) hC ?_
 rotate_left
 ·(intro w hSw;(try dsimp only at hSw);go_simp;try with_reducible rfl)
 try simp only [Act.put,List.setIfInBounds_toArray,List.set_cons_zero,List.set_cons_succ]
 refine wpAnyH_take (i:=1) (oi:=(.mk (some 6) (.load 46 (.tmp 3)) 46 "show.go:88" #[] none)) (v:=?_) rfl (by kernel_rfl) (by kernel_rfl) (by kernel_rfl) (fun _ _ _ h=>h) (Or.inl ⟨by rfl,?_⟩) hC ?_
 rotate_left
 ·(intro w hSw;(try dsimp only at hSw);go_simp;try with_reducible rfl)
 try simp only [Act.put,List.setIfInBounds_toArray,List.set_cons_zero,List.set_cons_succ]
 refine wpAnyH_take (i:=3) (oi:=(.mk (some 8) (.load 92 (.tmp 2)) 92 "show.go:88" #[] none)) (v:=?_) rfl (by kernel_rfl) (by kernel_rfl) (by kernel_rfl) (fun _ _ _ h=>h) (Or.inl ⟨by rfl,?_⟩) hC ?_
 rotate_left
 ·(intro w hSw;(try dsimp only at hSw);go_simp;try with_reducible rfl)
 try simp only [Act.put,List.setIfInBounds_toArray,List.set_cons_zero,List.set_cons_succ]
 refine wpAnyH_take (i:=4) (oi:=(.mk (some 9) (.load 46 (.tmp 3)) 46 "show.go:88" #[] none)) (v:=?_) rfl (by kernel_rfl) (by kernel_rfl) (by kernel_rfl) (fun _ _ _ h=>h) (Or.inl ⟨by rfl,?_⟩) hC ?_
 rotate_left
 ·(intro w hSw;(try dsimp only at hSw);go_simp;try with_reducible rfl)
 try simp only [Act.put,List.setIfInBounds_toArray,List.set_cons_zero,List.set_cons_succ]
 refine wpAnyH_ready (rs:=[2]) (by kernel_rfl) (by simp) (AllReadyH.cons (o:=(.mk (some 7) (.call (.mk (.value (.tmp 5)) #[(.tmp 6)] #[46])) 37 "show.go:88" #[.mk 0 .data,.mk 1 .data] none)) rfl (fun K hK=>?_) AllReadyH.nil)
 go_simp
 (go_at_call 41;refine Calls.mono (h5.out _ (Below.drew (Below.refl W2.heap.size W2))) ?_;rintro e w3 ⟨g,rfl,hg1,hg2,hb⟩)
 have hB3:=Lib.hid (show Below W2.heap.size W2 w3 from (Below.drew (Below.refl W2.heap.size W2)).trans hb)
 replace hC:=hCS.out w3 hB3.out
 have hrow:=Lib.hid (row_of_block (w:=w3) (g:=g) (base:=W2.heap.size) (cs:=[.string d.a]) hg2 hg1 (by simp [maxLen]))
 clear hb hg1 hg2
 refine hK.out _ _ hC (fun hHeld=>?_)
 clear hK K hHeld
 try simp only [Act.put,List.setIfInBounds_toArray,List.set_cons_zero,List.set_cons_succ]
 refine wpAnyH_ready (rs:=[5]) (by kernel_rfl) (by simp) (AllReadyH.cons (o:=(.mk (some 10) (.call (.mk (.value (.tmp 8)) #[(.tmp 9)] #[46])) 37 "show.go:88" #[.mk 3 .data,.mk 4 .data,.mk 2 .chain] none)) rfl (fun K hK=>?_) AllReadyH.nil)
 go_simp
 (go_at_call 42;refine Calls.mono (h6.out _ hB3.out) ?_;rintro e w4 ⟨v4,rfl,hR4,hb⟩)
 obtain⟨a4,c4',rfl,-⟩:=hR4.cells
 have hB4:=Lib.hid (show Below W2.heap.size W2 w4 from hB3.out.trans (hb.mono hB3.out.size))
 replace hC:=hCS.out w4 hB4.out
 replace hrow:=Lib.hid (ownsRow_touch (S:=fun k=>w3.heap.size≤k) hrow.out (Touch.of_below hb _) (fun k e1 e2=>by have:=(hrow.out.lt k e1).2;omega))
 replace hR4:=Lib.hid hR4
 clear hb
 refine hK.out _ _ hC (fun hHeld=>?_)
 clear hK K hHeld
 try simp only [Act.put,List.setIfInBounds_toArray,List.set_cons_zero,List.set_cons_succ]
 refine wpAnyH_ready (rs:=[6]) (by kernel_rfl) (by simp) (AllReadyH.cons (o:=(.mk (some 11) (.call (.mk (.builtin Builtin.append) #[(.tmp 7),(.tmp 10)] #[37,37])) 37 "show.go:88" #[.mk 2 .data,.mk 5 .data,.mk 5 .chain] none)) rfl (fun K hK=>?_) AllReadyH.nil)
 (refine step_append_rd _ rfl _ _ 37 rfl W2.heap.size 9 i0 (.string ⟨#[]⟩) 16 Tryz.underlying37 hi0 hz0 hz1 hz2 rfl _ 1 _ rfl hrow.out _ ([numB d].map Value.string) rfl hR4.out.1 (fun u hu=>by obtain⟨s,-,rfl⟩:=List.mem_map.1 hu;rfl) (by simp [maxLen]) (by simp) hB4.out.size ?_;intro v5 w5 hown5 hgrow5)
 obtain⟨a5,n5,c5',rfl⟩:∃a n c,v5=.slice a n c:=by obtain⟨a,c,e⟩:=own_form6 hown5;exact⟨_,_,_,e⟩
 have hB5:=Lib.hid (hB4.out.grown hgrow5 hB4.out.size (fun k e=>(hrow.out.lt k e).1))
 replace hC:=hCS.out w5 hB5.out
 have hR5:=Lib.hid (own_rdc (ss:=[d.a,numB d]) hown5 rfl)
 clear hgrow5 hown5
 refine hK.out _ _ hC (fun hHeld=>?_)
 clear hK K hHeld
 try simp only [Act.put,List.setIfInBounds_toArray,List.set_cons_zero,List.set_cons_succ]
 refine wpAnyH_take (i:=7) (oi:=(.mk (some 4) (.assign (.tmp 11)) 37 "show.go:88" #[.mk 6 .data,.mk 6 .chain,.mk 0 .phase,.mk 1 .phase,.mk 2 .phase,.mk 3 .phase,.mk 4 .phase,.mk 5 .phase,.mk 6 .phase] none)) (v:=?_) rfl (by kernel_rfl) (by kernel_rfl) (by kernel_rfl) (fun _ _ _ h=>h) (Or.inl ⟨by rfl,?_⟩) hC ?_
 rotate_left
 ·(intro w hSw;(try dsimp only at hSw);go_simp;try with_reducible rfl)
 try simp only [Act.put,List.setIfInBounds_toArray,List.set_cons_zero,List.set_cons_succ]
 refine wpAnyH_done (by kernel_rfl) ?_ _
 go_wp2_with fail
 go_ret
 exact⟨_,rfl,hR5.out,hB.out.trans (hB5.out.mono hB.out.size)⟩
end
end Go.Proofs.YtknkiaedgeejiaaGreatDoor
