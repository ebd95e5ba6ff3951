/- Sr3. -/
import Derived.Test.YtknkiaedgeejiaaGreatDoorSP17
import Derived.Test.YtknkiaedgeejiaaGreatDoorSP11
namespace Go.Proofs.YtknkiaedgeejiaaGreatDoor
set_option linter.unusedVariables false
set_option linter.unusedSimpArgs false
section
open Go.RowKit Go.Maps Go.Shelf Go.WideMaps
attribute [local go_sem] Oper.semAt_some
theorem ne_list {s:ByteArray}(hx:bL s≠[]):(s.toList==[])=false:=by
 have h:=bL_nil (s:=s)
 cases h1:s.toList with
 | nil=>rw [h1] at h;cases h2:bL s with | nil=>exact absurd h2 hx | cons _ _=>rw [h2] at h;cases h
 | cons _ _=>rfl
set_option maxRecDepth 20000 in
set_option maxHeartbeats 4000000 in
theorem l6_1 {w:World}{d:Ins}{va vl:Value}(ha:RdC w va d.args)(hl:RdC w vl d.labels)(hk:InsOk d)(ho:d.op=1)(hx:bL d.dst≠[]):Calls Tryz.prog 23 #[.agg (insV d va vl).toArray] w fun e w'=>(∃s,e=.returned (.string s)∧bL s=refT d)∧Below w.heap.size w w':=by
 obtain⟨aa,ca,rfl,hca,hac⟩:=ha.cells
 obtain⟨al,cl,rfl,hcl,hlc⟩:=hl.cells
 obtain⟨W2,hW2⟩:∃W2,w.alloc (.cells (insV d (.slice aa d.args.length ca) (.slice al d.labels.length cl)).toArray 46)=W2:=⟨_,rfl⟩
 have hb:W2.heap[w.heap.size]?=some (.cells (insV d (.slice aa d.args.length ca) (.slice al d.labels.length cl)).toArray 46 (0,0)):=by rw [←hW2];exact at_newN rfl
 have hB:Below w.heap.size w W2:=by rw [←hW2];exact (Below.refl _ _).alloc (Nat.le_refl _) _
 have hlt:w.heap.size<W2.heap.size:=(Array.getElem?_eq_some_iff.1 hb).1
 have c0:W2.cell? ⟨w.heap.size,0,none⟩=some (.int .u8 d.op):=by rw [blk_cell hb];rfl
 have c1:W2.cell? ⟨w.heap.size,1,none⟩=some (.string d.dst):=by rw [blk_cell hb];rfl
 have c2:W2.cell? ⟨w.heap.size,2,none⟩=some (.string d.a):=by rw [blk_cell hb];rfl
 have c3:W2.cell? ⟨w.heap.size,3,none⟩=some (.string d.b):=by rw [blk_cell hb];rfl
 have c4:W2.cell? ⟨w.heap.size,4,none⟩=some (.int .i64 d.n):=by rw [blk_cell hb];rfl
 have c5:W2.cell? ⟨w.heap.size,5,none⟩=some (.string d.fn):=by rw [blk_cell hb];rfl
 have c6:W2.cell? ⟨w.heap.size,6,none⟩=some (.slice aa d.args.length ca):=by rw [blk_cell hb];rfl
 have c7:W2.cell? ⟨w.heap.size,7,none⟩=some (.slice al d.labels.length cl):=by rw [blk_cell hb];rfl
 rw [ho] at c0
 obtain⟨q,hq⟩:∃q:Nat,(q:Int)=d.n:=⟨d.n.toNat,by have:=hk.n0;omega⟩
 have hq1:q<100:=by have:=hk.n1;omega
 have hqt:d.n.toNat=q:=by omega
 rw [←hq] at c4
 replace hq:=Lib.hid hq
 have hsd:=hk.sd
 have hsa:=hk.sa
 have hsb:=hk.sb
 have hsf:=hk.sf
 have e1:=ne_list hx
 have q0:¬9223372036854775807<d.dst.size+3:=by omega
 have q1:¬9223372036854775807<d.dst.size+3+7:=by omega
 clear hb hac hlc
 replace hW2:=Lib.hid hW2
 replace hB:=Lib.hid hB
 replace ha:=Lib.hid ha
 replace hl:=Lib.hid hl
 go_enter Tryz.func23,Tryz.ntmps23
 go_upto_region 1 with fail
 rw [hW2.out]
 clear hW2
 go_wp2_with fail
 refine (dec6_any hq1 W2).mono ?_
 rintro e w3 ⟨⟨s,rfl,hs,hz⟩,hb3⟩
 have q2:¬9223372036854775807<d.dst.size+3+7+s.size:=by omega
 have hB3:=hB.out.trans (hb3.mono hB.out.size)
 clear hb3
 dsimp only
 go_wp2_with fail
 go_ret
 exact⟨⟨_,rfl,by rw [ref_1 ho,pre_val hx];simp only [bL_app,hs,hqt,List.append_assoc];rfl⟩,hB3⟩
set_option maxRecDepth 20000 in
set_option maxHeartbeats 4000000 in
theorem l6_2 {w:World}{d:Ins}{va vl:Value}(ha:RdC w va d.args)(hl:RdC w vl d.labels)(hk:InsOk d)(ho:d.op=2)(hx:bL d.dst≠[]):Calls Tryz.prog 23 #[.agg (insV d va vl).toArray] w fun e w'=>(∃s,e=.returned (.string s)∧bL s=refT d)∧Below w.heap.size w w':=by
 obtain⟨aa,ca,rfl,hca,hac⟩:=ha.cells
 obtain⟨al,cl,rfl,hcl,hlc⟩:=hl.cells
 obtain⟨W2,hW2⟩:∃W2,w.alloc (.cells (insV d (.slice aa d.args.length ca) (.slice al d.labels.length cl)).toArray 46)=W2:=⟨_,rfl⟩
 have hb:W2.heap[w.heap.size]?=some (.cells (insV d (.slice aa d.args.length ca) (.slice al d.labels.length cl)).toArray 46 (0,0)):=by rw [←hW2];exact at_newN rfl
 have hB:Below w.heap.size w W2:=by rw [←hW2];exact (Below.refl _ _).alloc (Nat.le_refl _) _
 have hlt:w.heap.size<W2.heap.size:=(Array.getElem?_eq_some_iff.1 hb).1
 have c0:W2.cell? ⟨w.heap.size,0,none⟩=some (.int .u8 d.op):=by rw [blk_cell hb];rfl
 have c1:W2.cell? ⟨w.heap.size,1,none⟩=some (.string d.dst):=by rw [blk_cell hb];rfl
 have c2:W2.cell? ⟨w.heap.size,2,none⟩=some (.string d.a):=by rw [blk_cell hb];rfl
 have c3:W2.cell? ⟨w.heap.size,3,none⟩=some (.string d.b):=by rw [blk_cell hb];rfl
 have c4:W2.cell? ⟨w.heap.size,4,none⟩=some (.int .i64 d.n):=by rw [blk_cell hb];rfl
 have c5:W2.cell? ⟨w.heap.size,5,none⟩=some (.string d.fn):=by rw [blk_cell hb];rfl
 have c6:W2.cell? ⟨w.heap.size,6,none⟩=some (.slice aa d.args.length ca):=by rw [blk_cell hb];rfl
 have c7:W2.cell? ⟨w.heap.size,7,none⟩=some (.slice al d.labels.length cl):=by rw [blk_cell hb];rfl
 rw [ho] at c0
 obtain⟨q,hq⟩:∃q:Nat,(q:Int)=d.n:=⟨d.n.toNat,by have:=hk.n0;omega⟩
 have hq1:q<100:=by have:=hk.n1;omega
 have hqt:d.n.toNat=q:=by omega
 rw [←hq] at c4
 replace hq:=Lib.hid hq
 have hsd:=hk.sd
 have hsa:=hk.sa
 have hsb:=hk.sb
 have hsf:=hk.sf
 have e1:=ne_list hx
 have q0:¬9223372036854775807<d.dst.size+3:=by omega
 have q1:¬9223372036854775807<d.dst.size+3+7:=by omega
 clear hb hac hlc
 replace hW2:=Lib.hid hW2
 replace hB:=Lib.hid hB
 replace ha:=Lib.hid ha
 replace hl:=Lib.hid hl
 go_enter Tryz.func23,Tryz.ntmps23
 go_upto_region 1 with fail
 rw [hW2.out]
 clear hW2
 go_wp2_with fail
 refine (dec6_any hq1 W2).mono ?_
 rintro e w3 ⟨⟨s,rfl,hs,hz⟩,hb3⟩
 have q2:¬9223372036854775807<d.dst.size+3+7+s.size:=by omega
 have hB3:=hB.out.trans (hb3.mono hB.out.size)
 clear hb3
 dsimp only
 go_wp2_with fail
 go_ret
 exact⟨⟨_,rfl,by rw [ref_2 ho,pre_val hx];simp only [bL_app,hs,hqt,List.append_assoc];rfl⟩,hB3⟩
set_option maxRecDepth 20000 in
set_option maxHeartbeats 4000000 in
theorem l6_3 {w:World}{d:Ins}{va vl:Value}(ha:RdC w va d.args)(hl:RdC w vl d.labels)(hk:InsOk d)(ho:d.op=3)(hx:bL d.dst≠[]):Calls Tryz.prog 23 #[.agg (insV d va vl).toArray] w fun e w'=>(∃s,e=.returned (.string s)∧bL s=refT d)∧Below w.heap.size w w':=by
 obtain⟨aa,ca,rfl,hca,hac⟩:=ha.cells
 obtain⟨al,cl,rfl,hcl,hlc⟩:=hl.cells
 obtain⟨W2,hW2⟩:∃W2,w.alloc (.cells (insV d (.slice aa d.args.length ca) (.slice al d.labels.length cl)).toArray 46)=W2:=⟨_,rfl⟩
 have hb:W2.heap[w.heap.size]?=some (.cells (insV d (.slice aa d.args.length ca) (.slice al d.labels.length cl)).toArray 46 (0,0)):=by rw [←hW2];exact at_newN rfl
 have hB:Below w.heap.size w W2:=by rw [←hW2];exact (Below.refl _ _).alloc (Nat.le_refl _) _
 have hlt:w.heap.size<W2.heap.size:=(Array.getElem?_eq_some_iff.1 hb).1
 have c0:W2.cell? ⟨w.heap.size,0,none⟩=some (.int .u8 d.op):=by rw [blk_cell hb];rfl
 have c1:W2.cell? ⟨w.heap.size,1,none⟩=some (.string d.dst):=by rw [blk_cell hb];rfl
 have c2:W2.cell? ⟨w.heap.size,2,none⟩=some (.string d.a):=by rw [blk_cell hb];rfl
 have c3:W2.cell? ⟨w.heap.size,3,none⟩=some (.string d.b):=by rw [blk_cell hb];rfl
 have c4:W2.cell? ⟨w.heap.size,4,none⟩=some (.int .i64 d.n):=by rw [blk_cell hb];rfl
 have c5:W2.cell? ⟨w.heap.size,5,none⟩=some (.string d.fn):=by rw [blk_cell hb];rfl
 have c6:W2.cell? ⟨w.heap.size,6,none⟩=some (.slice aa d.args.length ca):=by rw [blk_cell hb];rfl
 have c7:W2.cell? ⟨w.heap.size,7,none⟩=some (.slice al d.labels.length cl):=by rw [blk_cell hb];rfl
 rw [ho] at c0
 obtain⟨q,hq⟩:∃q:Nat,(q:Int)=d.n:=⟨d.n.toNat,by have:=hk.n0;omega⟩
 have hq1:q<100:=by have:=hk.n1;omega
 have hqt:d.n.toNat=q:=by omega
 rw [←hq] at c4
 replace hq:=Lib.hid hq
 have hsd:=hk.sd
 have hsa:=hk.sa
 have hsb:=hk.sb
 have hsf:=hk.sf
 have e1:=ne_list hx
 have q0:¬9223372036854775807<d.dst.size+3:=by omega
 have q1:¬9223372036854775807<d.dst.size+3+4:=by omega
 clear hb hac hlc
 replace hW2:=Lib.hid hW2
 replace hB:=Lib.hid hB
 replace ha:=Lib.hid ha
 replace hl:=Lib.hid hl
 go_enter Tryz.func23,Tryz.ntmps23
 go_upto_region 1 with fail
 rw [hW2.out]
 clear hW2
 go_wp2_with fail
 go_ret
 exact⟨⟨_,rfl,by rw [ref_3 ho,pre_val hx];simp only [bL_app,List.append_assoc];rfl⟩,hB.out⟩
set_option maxRecDepth 20000 in
set_option maxHeartbeats 4000000 in
theorem l6_4 {w:World}{d:Ins}{va vl:Value}(ha:RdC w va d.args)(hl:RdC w vl d.labels)(hk:InsOk d)(ho:d.op=4)(hx:bL d.dst≠[]):Calls Tryz.prog 23 #[.agg (insV d va vl).toArray] w fun e w'=>(∃s,e=.returned (.string s)∧bL s=refT d)∧Below w.heap.size w w':=by
 obtain⟨aa,ca,rfl,hca,hac⟩:=ha.cells
 obtain⟨al,cl,rfl,hcl,hlc⟩:=hl.cells
 obtain⟨W2,hW2⟩:∃W2,w.alloc (.cells (insV d (.slice aa d.args.length ca) (.slice al d.labels.length cl)).toArray 46)=W2:=⟨_,rfl⟩
 have hb:W2.heap[w.heap.size]?=some (.cells (insV d (.slice aa d.args.length ca) (.slice al d.labels.length cl)).toArray 46 (0,0)):=by rw [←hW2];exact at_newN rfl
 have hB:Below w.heap.size w W2:=by rw [←hW2];exact (Below.refl _ _).alloc (Nat.le_refl _) _
 have hlt:w.heap.size<W2.heap.size:=(Array.getElem?_eq_some_iff.1 hb).1
 have c0:W2.cell? ⟨w.heap.size,0,none⟩=some (.int .u8 d.op):=by rw [blk_cell hb];rfl
 have c1:W2.cell? ⟨w.heap.size,1,none⟩=some (.string d.dst):=by rw [blk_cell hb];rfl
 have c2:W2.cell? ⟨w.heap.size,2,none⟩=some (.string d.a):=by rw [blk_cell hb];rfl
 have c3:W2.cell? ⟨w.heap.size,3,none⟩=some (.string d.b):=by rw [blk_cell hb];rfl
 have c4:W2.cell? ⟨w.heap.size,4,none⟩=some (.int .i64 d.n):=by rw [blk_cell hb];rfl
 have c5:W2.cell? ⟨w.heap.size,5,none⟩=some (.string d.fn):=by rw [blk_cell hb];rfl
 have c6:W2.cell? ⟨w.heap.size,6,none⟩=some (.slice aa d.args.length ca):=by rw [blk_cell hb];rfl
 have c7:W2.cell? ⟨w.heap.size,7,none⟩=some (.slice al d.labels.length cl):=by rw [blk_cell hb];rfl
 rw [ho] at c0
 obtain⟨q,hq⟩:∃q:Nat,(q:Int)=d.n:=⟨d.n.toNat,by have:=hk.n0;omega⟩
 have hq1:q<100:=by have:=hk.n1;omega
 have hqt:d.n.toNat=q:=by omega
 rw [←hq] at c4
 replace hq:=Lib.hid hq
 have hsd:=hk.sd
 have hsa:=hk.sa
 have hsb:=hk.sb
 have hsf:=hk.sf
 have e1:=ne_list hx
 have q0:¬9223372036854775807<d.dst.size+3:=by omega
 have q1:¬9223372036854775807<d.dst.size+3+5:=by omega
 have q2:¬9223372036854775807<d.dst.size+3+5+d.fn.size:=by omega
 clear hb hac hlc
 replace hW2:=Lib.hid hW2
 replace hB:=Lib.hid hB
 replace ha:=Lib.hid ha
 replace hl:=Lib.hid hl
 go_enter Tryz.func23,Tryz.ntmps23
 go_upto_region 1 with fail
 rw [hW2.out]
 clear hW2
 go_wp2_with fail
 go_ret
 exact⟨⟨_,rfl,by rw [ref_4 ho,pre_val hx];simp only [bL_app,List.append_assoc];rfl⟩,hB.out⟩
set_option maxRecDepth 20000 in
set_option maxHeartbeats 4000000 in
theorem l6_5 {w:World}{d:Ins}{va vl:Value}(ha:RdC w va d.args)(hl:RdC w vl d.labels)(hk:InsOk d)(ho:d.op=5)(hx:bL d.dst≠[]):Calls Tryz.prog 23 #[.agg (insV d va vl).toArray] w fun e w'=>(∃s,e=.returned (.string s)∧bL s=refT d)∧Below w.heap.size w w':=by
 obtain⟨aa,ca,rfl,hca,hac⟩:=ha.cells
 obtain⟨al,cl,rfl,hcl,hlc⟩:=hl.cells
 obtain⟨W2,hW2⟩:∃W2,w.alloc (.cells (insV d (.slice aa d.args.length ca) (.slice al d.labels.length cl)).toArray 46)=W2:=⟨_,rfl⟩
 have hb:W2.heap[w.heap.size]?=some (.cells (insV d (.slice aa d.args.length ca) (.slice al d.labels.length cl)).toArray 46 (0,0)):=by rw [←hW2];exact at_newN rfl
 have hB:Below w.heap.size w W2:=by rw [←hW2];exact (Below.refl _ _).alloc (Nat.le_refl _) _
 have hlt:w.heap.size<W2.heap.size:=(Array.getElem?_eq_some_iff.1 hb).1
 have c0:W2.cell? ⟨w.heap.size,0,none⟩=some (.int .u8 d.op):=by rw [blk_cell hb];rfl
 have c1:W2.cell? ⟨w.heap.size,1,none⟩=some (.string d.dst):=by rw [blk_cell hb];rfl
 have c2:W2.cell? ⟨w.heap.size,2,none⟩=some (.string d.a):=by rw [blk_cell hb];rfl
 have c3:W2.cell? ⟨w.heap.size,3,none⟩=some (.string d.b):=by rw [blk_cell hb];rfl
 have c4:W2.cell? ⟨w.heap.size,4,none⟩=some (.int .i64 d.n):=by rw [blk_cell hb];rfl
 have c5:W2.cell? ⟨w.heap.size,5,none⟩=some (.string d.fn):=by rw [blk_cell hb];rfl
 have c6:W2.cell? ⟨w.heap.size,6,none⟩=some (.slice aa d.args.length ca):=by rw [blk_cell hb];rfl
 have c7:W2.cell? ⟨w.heap.size,7,none⟩=some (.slice al d.labels.length cl):=by rw [blk_cell hb];rfl
 rw [ho] at c0
 obtain⟨q,hq⟩:∃q:Nat,(q:Int)=d.n:=⟨d.n.toNat,by have:=hk.n0;omega⟩
 have hq1:q<100:=by have:=hk.n1;omega
 have hqt:d.n.toNat=q:=by omega
 rw [←hq] at c4
 replace hq:=Lib.hid hq
 have hsd:=hk.sd
 have hsa:=hk.sa
 have hsb:=hk.sb
 have hsf:=hk.sf
 have e1:=ne_list hx
 have q0:¬9223372036854775807<d.dst.size+3:=by omega
 have q1:¬9223372036854775807<d.dst.size+3+5:=by omega
 have q2:¬9223372036854775807<d.dst.size+3+5+d.a.size:=by omega
 clear hb hac hlc
 replace hW2:=Lib.hid hW2
 replace hB:=Lib.hid hB
 replace ha:=Lib.hid ha
 replace hl:=Lib.hid hl
 go_enter Tryz.func23,Tryz.ntmps23
 go_upto_region 1 with fail
 rw [hW2.out]
 clear hW2
 go_wp2_with fail
 go_ret
 exact⟨⟨_,rfl,by rw [ref_5 ho,pre_val hx];simp only [bL_app,List.append_assoc];rfl⟩,hB.out⟩
set_option maxRecDepth 20000 in
set_option maxHeartbeats 4000000 in
theorem l6_7 {w:World}{d:Ins}{va vl:Value}(ha:RdC w va d.args)(hl:RdC w vl d.labels)(hk:InsOk d)(ho:d.op=7)(hx:bL d.dst≠[]):Calls Tryz.prog 23 #[.agg (insV d va vl).toArray] w fun e w'=>(∃s,e=.returned (.string s)∧bL s=refT d)∧Below w.heap.size w w':=by
 obtain⟨aa,ca,rfl,hca,hac⟩:=ha.cells
 obtain⟨al,cl,rfl,hcl,hlc⟩:=hl.cells
 obtain⟨W2,hW2⟩:∃W2,w.alloc (.cells (insV d (.slice aa d.args.length ca) (.slice al d.labels.length cl)).toArray 46)=W2:=⟨_,rfl⟩
 have hb:W2.heap[w.heap.size]?=some (.cells (insV d (.slice aa d.args.length ca) (.slice al d.labels.length cl)).toArray 46 (0,0)):=by rw [←hW2];exact at_newN rfl
 have hB:Below w.heap.size w W2:=by rw [←hW2];exact (Below.refl _ _).alloc (Nat.le_refl _) _
 have hlt:w.heap.size<W2.heap.size:=(Array.getElem?_eq_some_iff.1 hb).1
 have c0:W2.cell? ⟨w.heap.size,0,none⟩=some (.int .u8 d.op):=by rw [blk_cell hb];rfl
 have c1:W2.cell? ⟨w.heap.size,1,none⟩=some (.string d.dst):=by rw [blk_cell hb];rfl
 have c2:W2.cell? ⟨w.heap.size,2,none⟩=some (.string d.a):=by rw [blk_cell hb];rfl
 have c3:W2.cell? ⟨w.heap.size,3,none⟩=some (.string d.b):=by rw [blk_cell hb];rfl
 have c4:W2.cell? ⟨w.heap.size,4,none⟩=some (.int .i64 d.n):=by rw [blk_cell hb];rfl
 have c5:W2.cell? ⟨w.heap.size,5,none⟩=some (.string d.fn):=by rw [blk_cell hb];rfl
 have c6:W2.cell? ⟨w.heap.size,6,none⟩=some (.slice aa d.args.length ca):=by rw [blk_cell hb];rfl
 have c7:W2.cell? ⟨w.heap.size,7,none⟩=some (.slice al d.labels.length cl):=by rw [blk_cell hb];rfl
 rw [ho] at c0
 obtain⟨q,hq⟩:∃q:Nat,(q:Int)=d.n:=⟨d.n.toNat,by have:=hk.n0;omega⟩
 have hq1:q<100:=by have:=hk.n1;omega
 have hqt:d.n.toNat=q:=by omega
 rw [←hq] at c4
 replace hq:=Lib.hid hq
 have hsd:=hk.sd
 have hsa:=hk.sa
 have hsb:=hk.sb
 have hsf:=hk.sf
 have e1:=ne_list hx
 have q0:¬9223372036854775807<d.dst.size+3:=by omega
 have q1:¬9223372036854775807<d.dst.size+3+6:=by omega
 have q2:¬9223372036854775807<d.dst.size+3+6+d.a.size:=by omega
 have q3:¬9223372036854775807<d.dst.size+3+6+d.a.size+1:=by omega
 have hCS:=Lib.hid (fun (W:World) (hw:Below W2.heap.size W2 W)=>(⟨(hw.cell (p:=⟨w.heap.size,2,none⟩) hlt).trans c2,(hw.cell (p:=⟨w.heap.size,4,none⟩) hlt).trans c4⟩:W.cell? ⟨w.heap.size,2,none⟩=some (.string d.a)∧W.cell? ⟨w.heap.size,4,none⟩=some (.int .i64 (q:Int))))
 have hC:=hCS.out W2 (Below.refl _ _)
 clear hb hac hlc
 replace hW2:=Lib.hid hW2
 replace hB:=Lib.hid hB
 replace ha:=Lib.hid ha
 replace hl:=Lib.hid hl
 go_enter Tryz.func23,Tryz.ntmps23
 go_upto_region 1 with fail
 rw [hW2.out]
 clear hW2
 go_upto_region 16 with fail
 refine wp_region_held_drew (S:=(fun w'=>w'.cell? ⟨w.heap.size,2,none⟩=some (.string d.a)∧w'.cell? ⟨w.heap.size,4,none⟩=some (.int .i64 (q:Int)))) (by kernel_rfl) hC (fun hHeld=>?_)
 clear hHeld
 refine wpAnyH_take (i:=0) (oi:=(.mk (some 49) (.move (.tmp 3)) 9 "ref.go:47" #[] none)) (v:=?_) rfl (by kernel_rfl) (by kernel_rfl) (by kernel_rfl) (fun _ _ _ h=>h) (Or.inl ⟨by rfl,?_⟩) hC ?_
 rotate_left
 ·(intro w hSw;(try dsimp only at hSw);go_simp;try with_reducible rfl)
 try simp only [Act.put,List.setIfInBounds_toArray,List.set_cons_zero,List.set_cons_succ]
 refine wpAnyH_take (i:=1) (oi:=(.mk (some 50) (.binOp BinOp.add 9 (.tmp 49) (.const (Value.string (ByteArray.mk #[102,105,101,108,100,32]))) 9) 9 "ref.go:47" #[.mk 0 .data] none)) (v:=?_) rfl (by kernel_rfl) (by kernel_rfl) (by kernel_rfl) (fun _ _ _ h=>h) (Or.inl ⟨by rfl,?_⟩) hC ?_
 rotate_left
 ·(intro w hSw;(try dsimp only at hSw);go_simp;try with_reducible rfl)
 try simp only [Act.put,List.setIfInBounds_toArray,List.set_cons_zero,List.set_cons_succ]
 refine wpAnyH_take (i:=2) (oi:=(.mk (some 51) (.fieldAddr 46 (.tmp 1) 2) 0 "ref.go:47" #[] none)) (v:=?_) rfl (by kernel_rfl) (by kernel_rfl) (by kernel_rfl) (fun _ _ _ h=>h) (Or.inl ⟨by rfl,?_⟩) hC ?_
 rotate_left
 ·(intro w hSw;(try dsimp only at hSw);go_simp;try with_reducible rfl)
 try simp only [Act.put,List.setIfInBounds_toArray,List.set_cons_zero,List.set_cons_succ]
 refine wpAnyH_take (i:=3) (oi:=(.mk (some 52) (.load 9 (.tmp 51)) 9 "ref.go:47" #[.mk 2 .data] none)) (v:=?_) rfl (by kernel_rfl) (by kernel_rfl) (by kernel_rfl) (fun _ _ _ h=>h) (Or.inl ⟨by rfl,?_⟩) hC ?_
 rotate_left
 ·(intro w hSw;(try dsimp only at hSw);go_simp;try with_reducible rfl)
 try simp only [Act.put,List.setIfInBounds_toArray,List.set_cons_zero,List.set_cons_succ]
 refine wpAnyH_take (i:=4) (oi:=(.mk (some 53) (.binOp BinOp.add 9 (.tmp 50) (.tmp 52) 9) 9 "ref.go:47" #[.mk 1 .data,.mk 3 .data] none)) (v:=?_) rfl (by kernel_rfl) (by kernel_rfl) (by kernel_rfl) (fun _ _ _ h=>h) (Or.inl ⟨by rfl,?_⟩) hC ?_
 rotate_left
 ·(intro w hSw;(try dsimp only at hSw);go_simp;try with_reducible rfl)
 try simp only [Act.put,List.setIfInBounds_toArray,List.set_cons_zero,List.set_cons_succ]
 refine wpAnyH_take (i:=5) (oi:=(.mk (some 54) (.binOp BinOp.add 9 (.tmp 53) (.const (Value.string (ByteArray.mk #[32]))) 9) 9 "ref.go:47" #[.mk 4 .data] none)) (v:=?_) rfl (by kernel_rfl) (by kernel_rfl) (by kernel_rfl) (fun _ _ _ h=>h) (Or.inl ⟨by rfl,?_⟩) hC ?_
 rotate_left
 ·(intro w hSw;(try dsimp only at hSw);go_simp;try with_reducible rfl)
 try simp only [Act.put,List.setIfInBounds_toArray,List.set_cons_zero,List.set_cons_succ]
 refine wpAnyH_take (i:=6) (oi:=(.mk (some 55) (.fieldAddr 46 (.tmp 1) 4) 0 "ref.go:47" #[] none)) (v:=?_) rfl (by kernel_rfl) (by kernel_rfl) (by kernel_rfl) (fun _ _ _ h=>h) (Or.inl ⟨by rfl,?_⟩) hC ?_
 rotate_left
 ·(intro w hSw;(try dsimp only at hSw);go_simp;try with_reducible rfl)
 try simp only [Act.put,List.setIfInBounds_toArray,List.set_cons_zero,List.set_cons_succ]
 refine wpAnyH_take (i:=7) (oi:=(.mk (some 56) (.load 3 (.tmp 55)) 3 "ref.go:47" #[.mk 6 .data] none)) (v:=?_) rfl (by kernel_rfl) (by kernel_rfl) (by kernel_rfl) (fun _ _ _ h=>h) (Or.inl ⟨by rfl,?_⟩) hC ?_
 rotate_left
 ·(intro w hSw;(try dsimp only at hSw);go_simp;try with_reducible rfl)
 try simp only [Act.put,List.setIfInBounds_toArray,List.set_cons_zero,List.set_cons_succ]
 refine wpAnyH_ready (rs:=[8]) (by kernel_rfl) (by simp) (AllReadyH.cons (o:=(.mk (some 57) (.call (.mk (.value (.func 61)) #[(.tmp 56)] #[3])) 9 "ref.go:47" #[.mk 7 .data] none)) rfl (fun K hK=>?_) AllReadyH.nil)
 go_simp
 (go_at_call 61;refine Calls.mono (dec6_any hq1 _) ?_;rintro e w3 ⟨⟨s,rfl,hs,hz⟩,hb⟩)
 have hB3:=Lib.hid (show Below W2.heap.size W2 w3 from (Below.drew (Below.refl W2.heap.size W2)).trans hb)
 replace hC:=hCS.out w3 hB3.out
 have q4:¬9223372036854775807<d.dst.size+3+6+d.a.size+1+s.size:=by omega
 replace hs:=Lib.hid hs
 clear hb
 refine hK.out _ _ hC (fun hHeld=>?_)
 clear hK K hHeld
 try simp only [Act.put,List.setIfInBounds_toArray,List.set_cons_zero,List.set_cons_succ]
 refine wpAnyH_take (i:=9) (oi:=(.mk (some 58) (.binOp BinOp.add 9 (.tmp 54) (.tmp 57) 9) 9 "ref.go:47" #[.mk 5 .data,.mk 8 .data] none)) (v:=?_) rfl (by kernel_rfl) (by kernel_rfl) (by kernel_rfl) (fun _ _ _ h=>h) (Or.inl ⟨by rfl,?_⟩) hC ?_
 rotate_left
 ·(intro w hSw;(try dsimp only at hSw);go_simp;try with_reducible rfl)
 try simp only [Act.put,List.setIfInBounds_toArray,List.set_cons_zero,List.set_cons_succ]
 refine wpAnyH_take (i:=10) (oi:=(.mk (some 2) (.assign (.tmp 58)) 9 "ref.go:47" #[.mk 9 .data,.mk 8 .chain,.mk 0 .phase,.mk 1 .phase,.mk 2 .phase,.mk 3 .phase,.mk 4 .phase,.mk 5 .phase,.mk 6 .phase,.mk 7 .phase,.mk 8 .phase,.mk 9 .phase] none)) (v:=?_) rfl (by kernel_rfl) (by kernel_rfl) (by kernel_rfl) (fun _ _ _ h=>h) (Or.inl ⟨by rfl,?_⟩) hC ?_
 rotate_left
 ·(intro w hSw;(try dsimp only at hSw);go_simp;try with_reducible rfl)
 try simp only [Act.put,List.setIfInBounds_toArray,List.set_cons_zero,List.set_cons_succ]
 refine wpAnyH_done (by kernel_rfl) ?_ _
 go_wp2_with fail
 go_ret
 exact⟨⟨_,rfl,by rw [ref_7 ho,pre_val hx];simp only [bL_app,hs.out,hqt,List.append_assoc];rfl⟩,hB.out.trans (hB3.out.mono hB.out.size)⟩
set_option maxRecDepth 20000 in
set_option maxHeartbeats 4000000 in
theorem l6_8 {w:World}{d:Ins}{va vl:Value}(ha:RdC w va d.args)(hl:RdC w vl d.labels)(hk:InsOk d)(ho:d.op=8)(hx:bL d.dst≠[]):Calls Tryz.prog 23 #[.agg (insV d va vl).toArray] w fun e w'=>(∃s,e=.returned (.string s)∧bL s=refT d)∧Below w.heap.size w w':=by
 obtain⟨aa,ca,rfl,hca,hac⟩:=ha.cells
 obtain⟨al,cl,rfl,hcl,hlc⟩:=hl.cells
 obtain⟨W2,hW2⟩:∃W2,w.alloc (.cells (insV d (.slice aa d.args.length ca) (.slice al d.labels.length cl)).toArray 46)=W2:=⟨_,rfl⟩
 have hb:W2.heap[w.heap.size]?=some (.cells (insV d (.slice aa d.args.length ca) (.slice al d.labels.length cl)).toArray 46 (0,0)):=by rw [←hW2];exact at_newN rfl
 have hB:Below w.heap.size w W2:=by rw [←hW2];exact (Below.refl _ _).alloc (Nat.le_refl _) _
 have hlt:w.heap.size<W2.heap.size:=(Array.getElem?_eq_some_iff.1 hb).1
 have c0:W2.cell? ⟨w.heap.size,0,none⟩=some (.int .u8 d.op):=by rw [blk_cell hb];rfl
 have c1:W2.cell? ⟨w.heap.size,1,none⟩=some (.string d.dst):=by rw [blk_cell hb];rfl
 have c2:W2.cell? ⟨w.heap.size,2,none⟩=some (.string d.a):=by rw [blk_cell hb];rfl
 have c3:W2.cell? ⟨w.heap.size,3,none⟩=some (.string d.b):=by rw [blk_cell hb];rfl
 have c4:W2.cell? ⟨w.heap.size,4,none⟩=some (.int .i64 d.n):=by rw [blk_cell hb];rfl
 have c5:W2.cell? ⟨w.heap.size,5,none⟩=some (.string d.fn):=by rw [blk_cell hb];rfl
 have c6:W2.cell? ⟨w.heap.size,6,none⟩=some (.slice aa d.args.length ca):=by rw [blk_cell hb];rfl
 have c7:W2.cell? ⟨w.heap.size,7,none⟩=some (.slice al d.labels.length cl):=by rw [blk_cell hb];rfl
 rw [ho] at c0
 obtain⟨q,hq⟩:∃q:Nat,(q:Int)=d.n:=⟨d.n.toNat,by have:=hk.n0;omega⟩
 have hq1:q<100:=by have:=hk.n1;omega
 have hqt:d.n.toNat=q:=by omega
 rw [←hq] at c4
 replace hq:=Lib.hid hq
 have hsd:=hk.sd
 have hsa:=hk.sa
 have hsb:=hk.sb
 have hsf:=hk.sf
 have e1:=ne_list hx
 have q0:¬9223372036854775807<d.dst.size+3:=by omega
 have q1:¬9223372036854775807<d.dst.size+3+5:=by omega
 have q2:¬9223372036854775807<d.dst.size+3+5+d.a.size:=by omega
 clear hb hac hlc
 replace hW2:=Lib.hid hW2
 replace hB:=Lib.hid hB
 replace ha:=Lib.hid ha
 replace hl:=Lib.hid hl
 go_enter Tryz.func23,Tryz.ntmps23
 go_upto_region 1 with fail
 rw [hW2.out]
 clear hW2
 go_wp2_with fail
 go_ret
 exact⟨⟨_,rfl,by rw [ref_8 ho,pre_val hx];simp only [bL_app,List.append_assoc];rfl⟩,hB.out⟩
set_option maxRecDepth 20000 in
set_option maxHeartbeats 4000000 in
theorem l6_9e {w:World}{d:Ins}{va vl:Value}(ha:RdC w va d.args)(hl:RdC w vl d.labels)(hk:InsOk d)(ho:d.op=9)(hx:bL d.dst=[]):Calls Tryz.prog 23 #[.agg (insV d va vl).toArray] w fun e w'=>(∃s,e=.returned (.string s)∧bL s=refT d)∧Below w.heap.size w w':=by
 obtain⟨aa,ca,rfl,hca,hac⟩:=ha.cells
 obtain⟨al,cl,rfl,hcl,hlc⟩:=hl.cells
 obtain⟨W2,hW2⟩:∃W2,w.alloc (.cells (insV d (.slice aa d.args.length ca) (.slice al d.labels.length cl)).toArray 46)=W2:=⟨_,rfl⟩
 have hb:W2.heap[w.heap.size]?=some (.cells (insV d (.slice aa d.args.length ca) (.slice al d.labels.length cl)).toArray 46 (0,0)):=by rw [←hW2];exact at_newN rfl
 have hB:Below w.heap.size w W2:=by rw [←hW2];exact (Below.refl _ _).alloc (Nat.le_refl _) _
 have hlt:w.heap.size<W2.heap.size:=(Array.getElem?_eq_some_iff.1 hb).1
 have c0:W2.cell? ⟨w.heap.size,0,none⟩=some (.int .u8 d.op):=by rw [blk_cell hb];rfl
 have c1:W2.cell? ⟨w.heap.size,1,none⟩=some (.string d.dst):=by rw [blk_cell hb];rfl
 have c2:W2.cell? ⟨w.heap.size,2,none⟩=some (.string d.a):=by rw [blk_cell hb];rfl
 have c3:W2.cell? ⟨w.heap.size,3,none⟩=some (.string d.b):=by rw [blk_cell hb];rfl
 have c4:W2.cell? ⟨w.heap.size,4,none⟩=some (.int .i64 d.n):=by rw [blk_cell hb];rfl
 have c5:W2.cell? ⟨w.heap.size,5,none⟩=some (.string d.fn):=by rw [blk_cell hb];rfl
 have c6:W2.cell? ⟨w.heap.size,6,none⟩=some (.slice aa d.args.length ca):=by rw [blk_cell hb];rfl
 have c7:W2.cell? ⟨w.heap.size,7,none⟩=some (.slice al d.labels.length cl):=by rw [blk_cell hb];rfl
 rw [ho] at c0
 obtain⟨q,hq⟩:∃q:Nat,(q:Int)=d.n:=⟨d.n.toNat,by have:=hk.n0;omega⟩
 have hq1:q<100:=by have:=hk.n1;omega
 have hqt:d.n.toNat=q:=by omega
 rw [←hq] at c4
 replace hq:=Lib.hid hq
 have hsd:=hk.sd
 have hsa:=hk.sa
 have hsb:=hk.sb
 have hsf:=hk.sf
 have e1:=(empty_iff d.dst).2 hx
 rw [e1] at c1
 have q0:¬9223372036854775807<6+d.a.size:=by omega
 have q1:¬9223372036854775807<6+d.a.size+2:=by omega
 have q2:¬9223372036854775807<6+d.a.size+2+d.b.size:=by omega
 clear hb hac hlc
 replace hW2:=Lib.hid hW2
 replace hB:=Lib.hid hB
 replace ha:=Lib.hid ha
 replace hl:=Lib.hid hl
 go_enter Tryz.func23,Tryz.ntmps23
 go_upto_region 1 with fail
 rw [hW2.out]
 clear hW2
 go_wp2_with fail
 go_ret
 exact⟨⟨_,rfl,by rw [ref_9 ho];simp only [bL_app,List.append_assoc];rfl⟩,hB.out⟩
set_option maxRecDepth 20000 in
set_option maxHeartbeats 4000000 in
theorem l6_10 {w:World}{d:Ins}{va vl:Value}(ha:RdC w va d.args)(hl:RdC w vl d.labels)(hk:InsOk d)(ho:d.op=10)(hx:bL d.dst≠[]):Calls Tryz.prog 23 #[.agg (insV d va vl).toArray] w fun e w'=>(∃s,e=.returned (.string s)∧bL s=refT d)∧Below w.heap.size w w':=by
 obtain⟨aa,ca,rfl,hca,hac⟩:=ha.cells
 obtain⟨al,cl,rfl,hcl,hlc⟩:=hl.cells
 obtain⟨W2,hW2⟩:∃W2,w.alloc (.cells (insV d (.slice aa d.args.length ca) (.slice al d.labels.length cl)).toArray 46)=W2:=⟨_,rfl⟩
 have hb:W2.heap[w.heap.size]?=some (.cells (insV d (.slice aa d.args.length ca) (.slice al d.labels.length cl)).toArray 46 (0,0)):=by rw [←hW2];exact at_newN rfl
 have hB:Below w.heap.size w W2:=by rw [←hW2];exact (Below.refl _ _).alloc (Nat.le_refl _) _
 have hlt:w.heap.size<W2.heap.size:=(Array.getElem?_eq_some_iff.1 hb).1
 have c0:W2.cell? ⟨w.heap.size,0,none⟩=some (.int .u8 d.op):=by rw [blk_cell hb];rfl
 have c1:W2.cell? ⟨w.heap.size,1,none⟩=some (.string d.dst):=by rw [blk_cell hb];rfl
 have c2:W2.cell? ⟨w.heap.size,2,none⟩=some (.string d.a):=by rw [blk_cell hb];rfl
 have c3:W2.cell? ⟨w.heap.size,3,none⟩=some (.string d.b):=by rw [blk_cell hb];rfl
 have c4:W2.cell? ⟨w.heap.size,4,none⟩=some (.int .i64 d.n):=by rw [blk_cell hb];rfl
 have c5:W2.cell? ⟨w.heap.size,5,none⟩=some (.string d.fn):=by rw [blk_cell hb];rfl
 have c6:W2.cell? ⟨w.heap.size,6,none⟩=some (.slice aa d.args.length ca):=by rw [blk_cell hb];rfl
 have c7:W2.cell? ⟨w.heap.size,7,none⟩=some (.slice al d.labels.length cl):=by rw [blk_cell hb];rfl
 rw [ho] at c0
 obtain⟨q,hq⟩:∃q:Nat,(q:Int)=d.n:=⟨d.n.toNat,by have:=hk.n0;omega⟩
 have hq1:q<100:=by have:=hk.n1;omega
 have hqt:d.n.toNat=q:=by omega
 rw [←hq] at c4
 replace hq:=Lib.hid hq
 have hsd:=hk.sd
 have hsa:=hk.sa
 have hsb:=hk.sb
 have hsf:=hk.sf
 have e1:=ne_list hx
 have q0:¬9223372036854775807<d.dst.size+3:=by omega
 have q1:¬9223372036854775807<d.dst.size+3+5:=by omega
 have q2:¬9223372036854775807<d.dst.size+3+5+d.fn.size:=by omega
 have haj:=args_join hk
 have hLs:=Lib.hid (fun (W:World) (hw:Below W2.heap.size W2 W)=>list6_any ((ha.below hB).below hw).1 hk.na hk.ga)
 have hCS:=Lib.hid (fun (W:World) (hw:Below W2.heap.size W2 W)=>(⟨(hw.cell (p:=⟨w.heap.size,5,none⟩) hlt).trans c5,(hw.cell (p:=⟨w.heap.size,6,none⟩) hlt).trans c6⟩:W.cell? ⟨w.heap.size,5,none⟩=some (.string d.fn)∧W.cell? ⟨w.heap.size,6,none⟩=some (.slice aa d.args.length ca)))
 have hC:=hCS.out W2 (Below.refl _ _)
 clear hb hac hlc
 replace hW2:=Lib.hid hW2
 replace hB:=Lib.hid hB
 replace ha:=Lib.hid ha
 replace hl:=Lib.hid hl
 go_enter Tryz.func23,Tryz.ntmps23
 go_upto_region 1 with fail
 rw [hW2.out]
 clear hW2
 go_upto_region 22 with fail
 refine wp_region_held_drew (S:=(fun w'=>w'.cell? ⟨w.heap.size,5,none⟩=some (.string d.fn)∧w'.cell? ⟨w.heap.size,6,none⟩=some (.slice aa d.args.length ca))) (by kernel_rfl) hC (fun hHeld=>?_)
 clear hHeld
 refine wpAnyH_take (i:=0) (oi:=(.mk (some 77) (.move (.tmp 3)) 9 "ref.go:53" #[] none)) (v:=?_) rfl (by kernel_rfl) (by kernel_rfl) (by kernel_rfl) (fun _ _ _ h=>h) (Or.inl ⟨by rfl,?_⟩) hC ?_
 rotate_left
 ·(intro w hSw;(try dsimp only at hSw);go_simp;try with_reducible rfl)
 try simp only [Act.put,List.setIfInBounds_toArray,List.set_cons_zero,List.set_cons_succ]
 refine wpAnyH_take (i:=1) (oi:=(.mk (some 78) (.binOp BinOp.add 9 (.tmp 77) (.const (Value.string (ByteArray.mk #[99,97,108,108,32]))) 9) 9 "ref.go:53" #[.mk 0 .data] none)) (v:=?_) rfl (by kernel_rfl) (by kernel_rfl) (by kernel_rfl) (fun _ _ _ h=>h) (Or.inl ⟨by rfl,?_⟩) hC ?_
 rotate_left
 ·(intro w hSw;(try dsimp only at hSw);go_simp;try with_reducible rfl)
 try simp only [Act.put,List.setIfInBounds_toArray,List.set_cons_zero,List.set_cons_succ]
 refine wpAnyH_take (i:=2) (oi:=(.mk (some 79) (.fieldAddr 46 (.tmp 1) 5) 0 "ref.go:53" #[] none)) (v:=?_) rfl (by kernel_rfl) (by kernel_rfl) (by kernel_rfl) (fun _ _ _ h=>h) (Or.inl ⟨by rfl,?_⟩) hC ?_
 rotate_left
 ·(intro w hSw;(try dsimp only at hSw);go_simp;try with_reducible rfl)
 try simp only [Act.put,List.setIfInBounds_toArray,List.set_cons_zero,List.set_cons_succ]
 refine wpAnyH_take (i:=3) (oi:=(.mk (some 80) (.load 9 (.tmp 79)) 9 "ref.go:53" #[.mk 2 .data] none)) (v:=?_) rfl (by kernel_rfl) (by kernel_rfl) (by kernel_rfl) (fun _ _ _ h=>h) (Or.inl ⟨by rfl,?_⟩) hC ?_
 rotate_left
 ·(intro w hSw;(try dsimp only at hSw);go_simp;try with_reducible rfl)
 try simp only [Act.put,List.setIfInBounds_toArray,List.set_cons_zero,List.set_cons_succ]
 refine wpAnyH_take (i:=4) (oi:=(.mk (some 81) (.binOp BinOp.add 9 (.tmp 78) (.tmp 80) 9) 9 "ref.go:53" #[.mk 1 .data,.mk 3 .data] none)) (v:=?_) rfl (by kernel_rfl) (by kernel_rfl) (by kernel_rfl) (fun _ _ _ h=>h) (Or.inl ⟨by rfl,?_⟩) hC ?_
 rotate_left
 ·(intro w hSw;(try dsimp only at hSw);go_simp;try with_reducible rfl)
 try simp only [Act.put,List.setIfInBounds_toArray,List.set_cons_zero,List.set_cons_succ]
 refine wpAnyH_take (i:=5) (oi:=(.mk (some 82) (.fieldAddr 46 (.tmp 1) 6) 0 "ref.go:53" #[] none)) (v:=?_) rfl (by kernel_rfl) (by kernel_rfl) (by kernel_rfl) (fun _ _ _ h=>h) (Or.inl ⟨by rfl,?_⟩) hC ?_
 rotate_left
 ·(intro w hSw;(try dsimp only at hSw);go_simp;try with_reducible rfl)
 try simp only [Act.put,List.setIfInBounds_toArray,List.set_cons_zero,List.set_cons_succ]
 refine wpAnyH_take (i:=6) (oi:=(.mk (some 83) (.load 37 (.tmp 82)) 37 "ref.go:53" #[.mk 5 .data] none)) (v:=?_) rfl (by kernel_rfl) (by kernel_rfl) (by kernel_rfl) (fun _ _ _ h=>h) (Or.inl ⟨by rfl,?_⟩) hC ?_
 rotate_left
 ·(intro w hSw;(try dsimp only at hSw);go_simp;try with_reducible rfl)
 try simp only [Act.put,List.setIfInBounds_toArray,List.set_cons_zero,List.set_cons_succ]
 refine wpAnyH_ready (rs:=[7]) (by kernel_rfl) (by simp) (AllReadyH.cons (o:=(.mk (some 84) (.call (.mk (.value (.func 22)) #[(.tmp 83)] #[37])) 9 "ref.go:53" #[.mk 6 .data] none)) rfl (fun K hK=>?_) AllReadyH.nil)
 go_simp
 (go_at_call 22;refine Calls.mono (hLs.out _ (Below.drew (Below.refl W2.heap.size W2))) ?_;rintro e w3 ⟨⟨s,rfl,hs⟩,hw3⟩)
 have hB3:=Lib.hid (show Below W2.heap.size W2 w3 from by rw [hw3];exact Below.drew (Below.refl W2.heap.size W2))
 clear hw3
 replace hC:=hCS.out w3 hB3.out
 have hz:s.size≤10000002:=by
  have h9:(bL s).length=s.size:=rfl
  rw [←h9,hs]
  unfold brkT
  rw [List.length_append,List.length_cons,List.length_singleton]
  omega
 have q4:¬9223372036854775807<d.dst.size+3+5+d.fn.size+s.size:=by omega
 replace hs:=Lib.hid hs
 refine hK.out _ _ hC (fun hHeld=>?_)
 clear hK K hHeld
 try simp only [Act.put,List.setIfInBounds_toArray,List.set_cons_zero,List.set_cons_succ]
 refine wpAnyH_take (i:=8) (oi:=(.mk (some 85) (.binOp BinOp.add 9 (.tmp 81) (.tmp 84) 9) 9 "ref.go:53" #[.mk 4 .data,.mk 7 .data] none)) (v:=?_) rfl (by kernel_rfl) (by kernel_rfl) (by kernel_rfl) (fun _ _ _ h=>h) (Or.inl ⟨by rfl,?_⟩) hC ?_
 rotate_left
 ·(intro w hSw;(try dsimp only at hSw);go_simp;try with_reducible rfl)
 try simp only [Act.put,List.setIfInBounds_toArray,List.set_cons_zero,List.set_cons_succ]
 refine wpAnyH_take (i:=9) (oi:=(.mk (some 2) (.assign (.tmp 85)) 9 "ref.go:53" #[.mk 8 .data,.mk 7 .chain,.mk 0 .phase,.mk 1 .phase,.mk 2 .phase,.mk 3 .phase,.mk 4 .phase,.mk 5 .phase,.mk 6 .phase,.mk 7 .phase,.mk 8 .phase] none)) (v:=?_) rfl (by kernel_rfl) (by kernel_rfl) (by kernel_rfl) (fun _ _ _ h=>h) (Or.inl ⟨by rfl,?_⟩) hC ?_
 rotate_left
 ·(intro w hSw;(try dsimp only at hSw);go_simp;try with_reducible rfl)
 try simp only [Act.put,List.setIfInBounds_toArray,List.set_cons_zero,List.set_cons_succ]
 refine wpAnyH_done (by kernel_rfl) ?_ _
 go_wp2_with fail
 go_ret
 exact⟨⟨_,rfl,by rw [ref_10 ho,pre_val hx];simp only [bL_app,hs.out,List.append_assoc];rfl⟩,hB.out.trans (hB3.out.mono hB.out.size)⟩
set_option maxRecDepth 20000 in
set_option maxHeartbeats 4000000 in
theorem l6_10e {w:World}{d:Ins}{va vl:Value}(ha:RdC w va d.args)(hl:RdC w vl d.labels)(hk:InsOk d)(ho:d.op=10)(hx:bL d.dst=[]):Calls Tryz.prog 23 #[.agg (insV d va vl).toArray] w fun e w'=>(∃s,e=.returned (.string s)∧bL s=refT d)∧Below w.heap.size w w':=by
 obtain⟨aa,ca,rfl,hca,hac⟩:=ha.cells
 obtain⟨al,cl,rfl,hcl,hlc⟩:=hl.cells
 obtain⟨W2,hW2⟩:∃W2,w.alloc (.cells (insV d (.slice aa d.args.length ca) (.slice al d.labels.length cl)).toArray 46)=W2:=⟨_,rfl⟩
 have hb:W2.heap[w.heap.size]?=some (.cells (insV d (.slice aa d.args.length ca) (.slice al d.labels.length cl)).toArray 46 (0,0)):=by rw [←hW2];exact at_newN rfl
 have hB:Below w.heap.size w W2:=by rw [←hW2];exact (Below.refl _ _).alloc (Nat.le_refl _) _
 have hlt:w.heap.size<W2.heap.size:=(Array.getElem?_eq_some_iff.1 hb).1
 have c0:W2.cell? ⟨w.heap.size,0,none⟩=some (.int .u8 d.op):=by rw [blk_cell hb];rfl
 have c1:W2.cell? ⟨w.heap.size,1,none⟩=some (.string d.dst):=by rw [blk_cell hb];rfl
 have c2:W2.cell? ⟨w.heap.size,2,none⟩=some (.string d.a):=by rw [blk_cell hb];rfl
 have c3:W2.cell? ⟨w.heap.size,3,none⟩=some (.string d.b):=by rw [blk_cell hb];rfl
 have c4:W2.cell? ⟨w.heap.size,4,none⟩=some (.int .i64 d.n):=by rw [blk_cell hb];rfl
 have c5:W2.cell? ⟨w.heap.size,5,none⟩=some (.string d.fn):=by rw [blk_cell hb];rfl
 have c6:W2.cell? ⟨w.heap.size,6,none⟩=some (.slice aa d.args.length ca):=by rw [blk_cell hb];rfl
 have c7:W2.cell? ⟨w.heap.size,7,none⟩=some (.slice al d.labels.length cl):=by rw [blk_cell hb];rfl
 rw [ho] at c0
 obtain⟨q,hq⟩:∃q:Nat,(q:Int)=d.n:=⟨d.n.toNat,by have:=hk.n0;omega⟩
 have hq1:q<100:=by have:=hk.n1;omega
 have hqt:d.n.toNat=q:=by omega
 rw [←hq] at c4
 replace hq:=Lib.hid hq
 have hsd:=hk.sd
 have hsa:=hk.sa
 have hsb:=hk.sb
 have hsf:=hk.sf
 have e1:=(empty_iff d.dst).2 hx
 rw [e1] at c1
 have q1:¬9223372036854775807<5:=by omega
 have q2:¬9223372036854775807<5+d.fn.size:=by omega
 have haj:=args_join hk
 have hLs:=Lib.hid (fun (W:World) (hw:Below W2.heap.size W2 W)=>list6_any ((ha.below hB).below hw).1 hk.na hk.ga)
 have hCS:=Lib.hid (fun (W:World) (hw:Below W2.heap.size W2 W)=>(⟨(hw.cell (p:=⟨w.heap.size,5,none⟩) hlt).trans c5,(hw.cell (p:=⟨w.heap.size,6,none⟩) hlt).trans c6⟩:W.cell? ⟨w.heap.size,5,none⟩=some (.string d.fn)∧W.cell? ⟨w.heap.size,6,none⟩=some (.slice aa d.args.length ca)))
 have hC:=hCS.out W2 (Below.refl _ _)
 clear hb hac hlc
 replace hW2:=Lib.hid hW2
 replace hB:=Lib.hid hB
 replace ha:=Lib.hid ha
 replace hl:=Lib.hid hl
 go_enter Tryz.func23,Tryz.ntmps23
 go_upto_region 1 with fail
 rw [hW2.out]
 clear hW2
 go_upto_region 22 with fail
 refine wp_region_held_drew (S:=(fun w'=>w'.cell? ⟨w.heap.size,5,none⟩=some (.string d.fn)∧w'.cell? ⟨w.heap.size,6,none⟩=some (.slice aa d.args.length ca))) (by kernel_rfl) hC (fun hHeld=>?_)
 clear hHeld
 refine wpAnyH_take (i:=0) (oi:=(.mk (some 77) (.move (.tmp 3)) 9 "ref.go:53" #[] none)) (v:=?_) rfl (by kernel_rfl) (by kernel_rfl) (by kernel_rfl) (fun _ _ _ h=>h) (Or.inl ⟨by rfl,?_⟩) hC ?_
 rotate_left
 ·(intro w hSw;(try dsimp only at hSw);go_simp;try with_reducible rfl)
 try simp only [Act.put,List.setIfInBounds_toArray,List.set_cons_zero,List.set_cons_succ]
 refine wpAnyH_take (i:=1) (oi:=(.mk (some 78) (.binOp BinOp.add 9 (.tmp 77) (.const (Value.string (ByteArray.mk #[99,97,108,108,32]))) 9) 9 "ref.go:53" #[.mk 0 .data] none)) (v:=?_) rfl (by kernel_rfl) (by kernel_rfl) (by kernel_rfl) (fun _ _ _ h=>h) (Or.inl ⟨by rfl,?_⟩) hC ?_
 rotate_left
 ·(intro w hSw;(try dsimp only at hSw);go_simp;try with_reducible rfl)
 try simp only [Act.put,List.setIfInBounds_toArray,List.set_cons_zero,List.set_cons_succ]
 refine wpAnyH_take (i:=2) (oi:=(.mk (some 79) (.fieldAddr 46 (.tmp 1) 5) 0 "ref.go:53" #[] none)) (v:=?_) rfl (by kernel_rfl) (by kernel_rfl) (by kernel_rfl) (fun _ _ _ h=>h) (Or.inl ⟨by rfl,?_⟩) hC ?_
 rotate_left
 ·(intro w hSw;(try dsimp only at hSw);go_simp;try with_reducible rfl)
 try simp only [Act.put,List.setIfInBounds_toArray,List.set_cons_zero,List.set_cons_succ]
 refine wpAnyH_take (i:=3) (oi:=(.mk (some 80) (.load 9 (.tmp 79)) 9 "ref.go:53" #[.mk 2 .data] none)) (v:=?_) rfl (by kernel_rfl) (by kernel_rfl) (by kernel_rfl) (fun _ _ _ h=>h) (Or.inl ⟨by rfl,?_⟩) hC ?_
 rotate_left
 ·(intro w hSw;(try dsimp only at hSw);go_simp;try with_reducible rfl)
 try simp only [Act.put,List.setIfInBounds_toArray,List.set_cons_zero,List.set_cons_succ]
 refine wpAnyH_take (i:=4) (oi:=(.mk (some 81) (.binOp BinOp.add 9 (.tmp 78) (.tmp 80) 9) 9 "ref.go:53" #[.mk 1 .data,.mk 3 .data] none)) (v:=?_) rfl (by kernel_rfl) (by kernel_rfl) (by kernel_rfl) (fun _ _ _ h=>h) (Or.inl ⟨by rfl,?_⟩) hC ?_
 rotate_left
 ·(intro w hSw;(try dsimp only at hSw);go_simp;try with_reducible rfl)
 try simp only [Act.put,List.setIfInBounds_toArray,List.set_cons_zero,List.set_cons_succ]
 refine wpAnyH_take (i:=5) (oi:=(.mk (some 82) (.fieldAddr 46 (.tmp 1) 6) 0 "ref.go:53" #[] none)) (v:=?_) rfl (by kernel_rfl) (by kernel_rfl) (by kernel_rfl) (fun _ _ _ h=>h) (Or.inl ⟨by rfl,?_⟩) hC ?_
 rotate_left
 ·(intro w hSw;(try dsimp only at hSw);go_simp;try with_reducible rfl)
 try simp only [Act.put,List.setIfInBounds_toArray,List.set_cons_zero,List.set_cons_succ]
 refine wpAnyH_take (i:=6) (oi:=(.mk (some 83) (.load 37 (.tmp 82)) 37 "ref.go:53" #[.mk 5 .data] none)) (v:=?_) rfl (by kernel_rfl) (by kernel_rfl) (by kernel_rfl) (fun _ _ _ h=>h) (Or.inl ⟨by rfl,?_⟩) hC ?_
 rotate_left
 ·(intro w hSw;(try dsimp only at hSw);go_simp;try with_reducible rfl)
 try simp only [Act.put,List.setIfInBounds_toArray,List.set_cons_zero,List.set_cons_succ]
 refine wpAnyH_ready (rs:=[7]) (by kernel_rfl) (by simp) (AllReadyH.cons (o:=(.mk (some 84) (.call (.mk (.value (.func 22)) #[(.tmp 83)] #[37])) 9 "ref.go:53" #[.mk 6 .data] none)) rfl (fun K hK=>?_) AllReadyH.nil)
 go_simp
 (go_at_call 22;refine Calls.mono (hLs.out _ (Below.drew (Below.refl W2.heap.size W2))) ?_;rintro e w3 ⟨⟨s,rfl,hs⟩,hw3⟩)
 have hB3:=Lib.hid (show Below W2.heap.size W2 w3 from by rw [hw3];exact Below.drew (Below.refl W2.heap.size W2))
 clear hw3
 replace hC:=hCS.out w3 hB3.out
 have hz:s.size≤10000002:=by
  have h9:(bL s).length=s.size:=rfl
  rw [←h9,hs]
  unfold brkT
  rw [List.length_append,List.length_cons,List.length_singleton]
  omega
 have q4:¬9223372036854775807<5+d.fn.size+s.size:=by omega
 replace hs:=Lib.hid hs
 refine hK.out _ _ hC (fun hHeld=>?_)
 clear hK K hHeld
 try simp only [Act.put,List.setIfInBounds_toArray,List.set_cons_zero,List.set_cons_succ]
 refine wpAnyH_take (i:=8) (oi:=(.mk (some 85) (.binOp BinOp.add 9 (.tmp 81) (.tmp 84) 9) 9 "ref.go:53" #[.mk 4 .data,.mk 7 .data] none)) (v:=?_) rfl (by kernel_rfl) (by kernel_rfl) (by kernel_rfl) (fun _ _ _ h=>h) (Or.inl ⟨by rfl,?_⟩) hC ?_
 rotate_left
 ·(intro w hSw;(try dsimp only at hSw);go_simp;try with_reducible rfl)
 try simp only [Act.put,List.setIfInBounds_toArray,List.set_cons_zero,List.set_cons_succ]
 refine wpAnyH_take (i:=9) (oi:=(.mk (some 2) (.assign (.tmp 85)) 9 "ref.go:53" #[.mk 8 .data,.mk 7 .chain,.mk 0 .phase,.mk 1 .phase,.mk 2 .phase,.mk 3 .phase,.mk 4 .phase,.mk 5 .phase,.mk 6 .phase,.mk 7 .phase,.mk 8 .phase] none)) (v:=?_) rfl (by kernel_rfl) (by kernel_rfl) (by kernel_rfl) (fun _ _ _ h=>h) (Or.inl ⟨by rfl,?_⟩) hC ?_
 rotate_left
 ·(intro w hSw;(try dsimp only at hSw);go_simp;try with_reducible rfl)
 try simp only [Act.put,List.setIfInBounds_toArray,List.set_cons_zero,List.set_cons_succ]
 refine wpAnyH_done (by kernel_rfl) ?_ _
 go_wp2_with fail
 go_ret
 exact⟨⟨_,rfl,by rw [ref_10 ho,pre_bare hx];simp only [bL_app,hs.out,List.append_assoc];rfl⟩,hB.out.trans (hB3.out.mono hB.out.size)⟩
set_option maxRecDepth 20000 in
set_option maxHeartbeats 4000000 in
theorem l6_11 {w:World}{d:Ins}{va vl:Value}(ha:RdC w va d.args)(hl:RdC w vl d.labels)(hk:InsOk d)(ho:d.op=11)(hx:bL d.dst≠[]):Calls Tryz.prog 23 #[.agg (insV d va vl).toArray] w fun e w'=>(∃s,e=.returned (.string s)∧bL s=refT d)∧Below w.heap.size w w':=by
 obtain⟨aa,ca,rfl,hca,hac⟩:=ha.cells
 obtain⟨al,cl,rfl,hcl,hlc⟩:=hl.cells
 obtain⟨W2,hW2⟩:∃W2,w.alloc (.cells (insV d (.slice aa d.args.length ca) (.slice al d.labels.length cl)).toArray 46)=W2:=⟨_,rfl⟩
 have hb:W2.heap[w.heap.size]?=some (.cells (insV d (.slice aa d.args.length ca) (.slice al d.labels.length cl)).toArray 46 (0,0)):=by rw [←hW2];exact at_newN rfl
 have hB:Below w.heap.size w W2:=by rw [←hW2];exact (Below.refl _ _).alloc (Nat.le_refl _) _
 have hlt:w.heap.size<W2.heap.size:=(Array.getElem?_eq_some_iff.1 hb).1
 have c0:W2.cell? ⟨w.heap.size,0,none⟩=some (.int .u8 d.op):=by rw [blk_cell hb];rfl
 have c1:W2.cell? ⟨w.heap.size,1,none⟩=some (.string d.dst):=by rw [blk_cell hb];rfl
 have c2:W2.cell? ⟨w.heap.size,2,none⟩=some (.string d.a):=by rw [blk_cell hb];rfl
 have c3:W2.cell? ⟨w.heap.size,3,none⟩=some (.string d.b):=by rw [blk_cell hb];rfl
 have c4:W2.cell? ⟨w.heap.size,4,none⟩=some (.int .i64 d.n):=by rw [blk_cell hb];rfl
 have c5:W2.cell? ⟨w.heap.size,5,none⟩=some (.string d.fn):=by rw [blk_cell hb];rfl
 have c6:W2.cell? ⟨w.heap.size,6,none⟩=some (.slice aa d.args.length ca):=by rw [blk_cell hb];rfl
 have c7:W2.cell? ⟨w.heap.size,7,none⟩=some (.slice al d.labels.length cl):=by rw [blk_cell hb];rfl
 rw [ho] at c0
 obtain⟨q,hq⟩:∃q:Nat,(q:Int)=d.n:=⟨d.n.toNat,by have:=hk.n0;omega⟩
 have hq1:q<100:=by have:=hk.n1;omega
 have hqt:d.n.toNat=q:=by omega
 rw [←hq] at c4
 replace hq:=Lib.hid hq
 have hsd:=hk.sd
 have hsa:=hk.sa
 have hsb:=hk.sb
 have hsf:=hk.sf
 have e1:=ne_list hx
 have q0:¬9223372036854775807<d.dst.size+3:=by omega
 have q1:¬9223372036854775807<d.dst.size+3+6:=by omega
 have q2:¬9223372036854775807<d.dst.size+3+6+d.a.size:=by omega
 have haj:=args_join hk
 have hLs:=Lib.hid (fun (W:World) (hw:Below W2.heap.size W2 W)=>list6_any ((ha.below hB).below hw).1 hk.na hk.ga)
 have hCS:=Lib.hid (fun (W:World) (hw:Below W2.heap.size W2 W)=>(⟨(hw.cell (p:=⟨w.heap.size,2,none⟩) hlt).trans c2,(hw.cell (p:=⟨w.heap.size,6,none⟩) hlt).trans c6⟩:W.cell? ⟨w.heap.size,2,none⟩=some (.string d.a)∧W.cell? ⟨w.heap.size,6,none⟩=some (.slice aa d.args.length ca)))
 have hC:=hCS.out W2 (Below.refl _ _)
 clear hb hac hlc
 replace hW2:=Lib.hid hW2
 replace hB:=Lib.hid hB
 replace ha:=Lib.hid ha
 replace hl:=Lib.hid hl
 go_enter Tryz.func23,Tryz.ntmps23
 go_upto_region 1 with fail
 rw [hW2.out]
 clear hW2
 go_upto_region 24 with fail
 refine wp_region_held_drew (S:=(fun w'=>w'.cell? ⟨w.heap.size,2,none⟩=some (.string d.a)∧w'.cell? ⟨w.heap.size,6,none⟩=some (.slice aa d.args.length ca))) (by kernel_rfl) hC (fun hHeld=>?_)
 clear hHeld
 refine wpAnyH_take (i:=0) (oi:=(.mk (some 88) (.move (.tmp 3)) 9 "ref.go:55" #[] none)) (v:=?_) rfl (by kernel_rfl) (by kernel_rfl) (by kernel_rfl) (fun _ _ _ h=>h) (Or.inl ⟨by rfl,?_⟩) hC ?_
 rotate_left
 ·(intro w hSw;(try dsimp only at hSw);go_simp;try with_reducible rfl)
 try simp only [Act.put,List.setIfInBounds_toArray,List.set_cons_zero,List.set_cons_succ]
 refine wpAnyH_take (i:=1) (oi:=(.mk (some 89) (.binOp BinOp.add 9 (.tmp 88) (.const (Value.string (ByteArray.mk #[105,99,97,108,108,32]))) 9) 9 "ref.go:55" #[.mk 0 .data] none)) (v:=?_) rfl (by kernel_rfl) (by kernel_rfl) (by kernel_rfl) (fun _ _ _ h=>h) (Or.inl ⟨by rfl,?_⟩) hC ?_
 rotate_left
 ·(intro w hSw;(try dsimp only at hSw);go_simp;try with_reducible rfl)
 try simp only [Act.put,List.setIfInBounds_toArray,List.set_cons_zero,List.set_cons_succ]
 refine wpAnyH_take (i:=2) (oi:=(.mk (some 90) (.fieldAddr 46 (.tmp 1) 2) 0 "ref.go:55" #[] none)) (v:=?_) rfl (by kernel_rfl) (by kernel_rfl) (by kernel_rfl) (fun _ _ _ h=>h) (Or.inl ⟨by rfl,?_⟩) hC ?_
 rotate_left
 ·(intro w hSw;(try dsimp only at hSw);go_simp;try with_reducible rfl)
 try simp only [Act.put,List.setIfInBounds_toArray,List.set_cons_zero,List.set_cons_succ]
 refine wpAnyH_take (i:=3) (oi:=(.mk (some 91) (.load 9 (.tmp 90)) 9 "ref.go:55" #[.mk 2 .data] none)) (v:=?_) rfl (by kernel_rfl) (by kernel_rfl) (by kernel_rfl) (fun _ _ _ h=>h) (Or.inl ⟨by rfl,?_⟩) hC ?_
 rotate_left
 ·(intro w hSw;(try dsimp only at hSw);go_simp;try with_reducible rfl)
 try simp only [Act.put,List.setIfInBounds_toArray,List.set_cons_zero,List.set_cons_succ]
 refine wpAnyH_take (i:=4) (oi:=(.mk (some 92) (.binOp BinOp.add 9 (.tmp 89) (.tmp 91) 9) 9 "ref.go:55" #[.mk 1 .data,.mk 3 .data] none)) (v:=?_) rfl (by kernel_rfl) (by kernel_rfl) (by kernel_rfl) (fun _ _ _ h=>h) (Or.inl ⟨by rfl,?_⟩) hC ?_
 rotate_left
 ·(intro w hSw;(try dsimp only at hSw);go_simp;try with_reducible rfl)
 try simp only [Act.put,List.setIfInBounds_toArray,List.set_cons_zero,List.set_cons_succ]
 refine wpAnyH_take (i:=5) (oi:=(.mk (some 93) (.fieldAddr 46 (.tmp 1) 6) 0 "ref.go:55" #[] none)) (v:=?_) rfl (by kernel_rfl) (by kernel_rfl) (by kernel_rfl) (fun _ _ _ h=>h) (Or.inl ⟨by rfl,?_⟩) hC ?_
 rotate_left
 ·(intro w hSw;(try dsimp only at hSw);go_simp;try with_reducible rfl)
 try simp only [Act.put,List.setIfInBounds_toArray,List.set_cons_zero,List.set_cons_succ]
 refine wpAnyH_take (i:=6) (oi:=(.mk (some 94) (.load 37 (.tmp 93)) 37 "ref.go:55" #[.mk 5 .data] none)) (v:=?_) rfl (by kernel_rfl) (by kernel_rfl) (by kernel_rfl) (fun _ _ _ h=>h) (Or.inl ⟨by rfl,?_⟩) hC ?_
 rotate_left
 ·(intro w hSw;(try dsimp only at hSw);go_simp;try with_reducible rfl)
 try simp only [Act.put,List.setIfInBounds_toArray,List.set_cons_zero,List.set_cons_succ]
 refine wpAnyH_ready (rs:=[7]) (by kernel_rfl) (by simp) (AllReadyH.cons (o:=(.mk (some 95) (.call (.mk (.value (.func 22)) #[(.tmp 94)] #[37])) 9 "ref.go:55" #[.mk 6 .data] none)) rfl (fun K hK=>?_) AllReadyH.nil)
 go_simp
 (go_at_call 22;refine Calls.mono (hLs.out _ (Below.drew (Below.refl W2.heap.size W2))) ?_;rintro e w3 ⟨⟨s,rfl,hs⟩,hw3⟩)
 have hB3:=Lib.hid (show Below W2.heap.size W2 w3 from by rw [hw3];exact Below.drew (Below.refl W2.heap.size W2))
 clear hw3
 replace hC:=hCS.out w3 hB3.out
 have hz:s.size≤10000002:=by
  have h9:(bL s).length=s.size:=rfl
  rw [←h9,hs]
  unfold brkT
  rw [List.length_append,List.length_cons,List.length_singleton]
  omega
 have q4:¬9223372036854775807<d.dst.size+3+6+d.a.size+s.size:=by omega
 replace hs:=Lib.hid hs
 refine hK.out _ _ hC (fun hHeld=>?_)
 clear hK K hHeld
 try simp only [Act.put,List.setIfInBounds_toArray,List.set_cons_zero,List.set_cons_succ]
 refine wpAnyH_take (i:=8) (oi:=(.mk (some 96) (.binOp BinOp.add 9 (.tmp 92) (.tmp 95) 9) 9 "ref.go:55" #[.mk 4 .data,.mk 7 .data] none)) (v:=?_) rfl (by kernel_rfl) (by kernel_rfl) (by kernel_rfl) (fun _ _ _ h=>h) (Or.inl ⟨by rfl,?_⟩) hC ?_
 rotate_left
 ·(intro w hSw;(try dsimp only at hSw);go_simp;try with_reducible rfl)
 try simp only [Act.put,List.setIfInBounds_toArray,List.set_cons_zero,List.set_cons_succ]
 refine wpAnyH_take (i:=9) (oi:=(.mk (some 2) (.assign (.tmp 96)) 9 "ref.go:55" #[.mk 8 .data,.mk 7 .chain,.mk 0 .phase,.mk 1 .phase,.mk 2 .phase,.mk 3 .phase,.mk 4 .phase,.mk 5 .phase,.mk 6 .phase,.mk 7 .phase,.mk 8 .phase] none)) (v:=?_) rfl (by kernel_rfl) (by kernel_rfl) (by kernel_rfl) (fun _ _ _ h=>h) (Or.inl ⟨by rfl,?_⟩) hC ?_
 rotate_left
 ·(intro w hSw;(try dsimp only at hSw);go_simp;try with_reducible rfl)
 try simp only [Act.put,List.setIfInBounds_toArray,List.set_cons_zero,List.set_cons_succ]
 refine wpAnyH_done (by kernel_rfl) ?_ _
 go_wp2_with fail
 go_ret
 exact⟨⟨_,rfl,by rw [ref_11 ho,pre_val hx];simp only [bL_app,hs.out,List.append_assoc];rfl⟩,hB.out.trans (hB3.out.mono hB.out.size)⟩
set_option maxRecDepth 20000 in
set_option maxHeartbeats 4000000 in
theorem l6_11e {w:World}{d:Ins}{va vl:Value}(ha:RdC w va d.args)(hl:RdC w vl d.labels)(hk:InsOk d)(ho:d.op=11)(hx:bL d.dst=[]):Calls Tryz.prog 23 #[.agg (insV d va vl).toArray] w fun e w'=>(∃s,e=.returned (.string s)∧bL s=refT d)∧Below w.heap.size w w':=by
 obtain⟨aa,ca,rfl,hca,hac⟩:=ha.cells
 obtain⟨al,cl,rfl,hcl,hlc⟩:=hl.cells
 obtain⟨W2,hW2⟩:∃W2,w.alloc (.cells (insV d (.slice aa d.args.length ca) (.slice al d.labels.length cl)).toArray 46)=W2:=⟨_,rfl⟩
 have hb:W2.heap[w.heap.size]?=some (.cells (insV d (.slice aa d.args.length ca) (.slice al d.labels.length cl)).toArray 46 (0,0)):=by rw [←hW2];exact at_newN rfl
 have hB:Below w.heap.size w W2:=by rw [←hW2];exact (Below.refl _ _).alloc (Nat.le_refl _) _
 have hlt:w.heap.size<W2.heap.size:=(Array.getElem?_eq_some_iff.1 hb).1
 have c0:W2.cell? ⟨w.heap.size,0,none⟩=some (.int .u8 d.op):=by rw [blk_cell hb];rfl
 have c1:W2.cell? ⟨w.heap.size,1,none⟩=some (.string d.dst):=by rw [blk_cell hb];rfl
 have c2:W2.cell? ⟨w.heap.size,2,none⟩=some (.string d.a):=by rw [blk_cell hb];rfl
 have c3:W2.cell? ⟨w.heap.size,3,none⟩=some (.string d.b):=by rw [blk_cell hb];rfl
 have c4:W2.cell? ⟨w.heap.size,4,none⟩=some (.int .i64 d.n):=by rw [blk_cell hb];rfl
 have c5:W2.cell? ⟨w.heap.size,5,none⟩=some (.string d.fn):=by rw [blk_cell hb];rfl
 have c6:W2.cell? ⟨w.heap.size,6,none⟩=some (.slice aa d.args.length ca):=by rw [blk_cell hb];rfl
 have c7:W2.cell? ⟨w.heap.size,7,none⟩=some (.slice al d.labels.length cl):=by rw [blk_cell hb];rfl
 rw [ho] at c0
 obtain⟨q,hq⟩:∃q:Nat,(q:Int)=d.n:=⟨d.n.toNat,by have:=hk.n0;omega⟩
 have hq1:q<100:=by have:=hk.n1;omega
 have hqt:d.n.toNat=q:=by omega
 rw [←hq] at c4
 replace hq:=Lib.hid hq
 have hsd:=hk.sd
 have hsa:=hk.sa
 have hsb:=hk.sb
 have hsf:=hk.sf
 have e1:=(empty_iff d.dst).2 hx
 rw [e1] at c1
 have q1:¬9223372036854775807<6:=by omega
 have q2:¬9223372036854775807<6+d.a.size:=by omega
 have haj:=args_join hk
 have hLs:=Lib.hid (fun (W:World) (hw:Below W2.heap.size W2 W)=>list6_any ((ha.below hB).below hw).1 hk.na hk.ga)
 have hCS:=Lib.hid (fun (W:World) (hw:Below W2.heap.size W2 W)=>(⟨(hw.cell (p:=⟨w.heap.size,2,none⟩) hlt).trans c2,(hw.cell (p:=⟨w.heap.size,6,none⟩) hlt).trans c6⟩:W.cell? ⟨w.heap.size,2,none⟩=some (.string d.a)∧W.cell? ⟨w.heap.size,6,none⟩=some (.slice aa d.args.length ca)))
 have hC:=hCS.out W2 (Below.refl _ _)
 clear hb hac hlc
 replace hW2:=Lib.hid hW2
 replace hB:=Lib.hid hB
 replace ha:=Lib.hid ha
 replace hl:=Lib.hid hl
 go_enter Tryz.func23,Tryz.ntmps23
 go_upto_region 1 with fail
 rw [hW2.out]
 clear hW2
 go_upto_region 24 with fail
 refine wp_region_held_drew (S:=(fun w'=>w'.cell? ⟨w.heap.size,2,none⟩=some (.string d.a)∧w'.cell? ⟨w.heap.size,6,none⟩=some (.slice aa d.args.length ca))) (by kernel_rfl) hC (fun hHeld=>?_)
 clear hHeld
 refine wpAnyH_take (i:=0) (oi:=(.mk (some 88) (.move (.tmp 3)) 9 "ref.go:55" #[] none)) (v:=?_) rfl (by kernel_rfl) (by kernel_rfl) (by kernel_rfl) (fun _ _ _ h=>h) (Or.inl ⟨by rfl,?_⟩) hC ?_
 rotate_left
 ·(intro w hSw;(try dsimp only at hSw);go_simp;try with_reducible rfl)
 try simp only [Act.put,List.setIfInBounds_toArray,List.set_cons_zero,List.set_cons_succ]
 refine wpAnyH_take (i:=1) (oi:=(.mk (some 89) (.binOp BinOp.add 9 (.tmp 88) (.const (Value.string (ByteArray.mk #[105,99,97,108,108,32]))) 9) 9 "ref.go:55" #[.mk 0 .data] none)) (v:=?_) rfl (by kernel_rfl) (by kernel_rfl) (by kernel_rfl) (fun _ _ _ h=>h) (Or.inl ⟨by rfl,?_⟩) hC ?_
 rotate_left
 ·(intro w hSw;(try dsimp only at hSw);go_simp;try with_reducible rfl)
 try simp only [Act.put,List.setIfInBounds_toArray,List.set_cons_zero,List.set_cons_succ]
 refine wpAnyH_take (i:=2) (oi:=(.mk (some 90) (.fieldAddr 46 (.tmp 1) 2) 0 "ref.go:55" #[] none)) (v:=?_) rfl (by kernel_rfl) (by kernel_rfl) (by kernel_rfl) (fun _ _ _ h=>h) (Or.inl ⟨by rfl,?_⟩) hC ?_
 rotate_left
 ·(intro w hSw;(try dsimp only at hSw);go_simp;try with_reducible rfl)
 try simp only [Act.put,List.setIfInBounds_toArray,List.set_cons_zero,List.set_cons_succ]
 refine wpAnyH_take (i:=3) (oi:=(.mk (some 91) (.load 9 (.tmp 90)) 9 "ref.go:55" #[.mk 2 .data] none)) (v:=?_) rfl (by kernel_rfl) (by kernel_rfl) (by kernel_rfl) (fun _ _ _ h=>h) (Or.inl ⟨by rfl,?_⟩) hC ?_
 rotate_left
 ·(intro w hSw;(try dsimp only at hSw);go_simp;try with_reducible rfl)
 try simp only [Act.put,List.setIfInBounds_toArray,List.set_cons_zero,List.set_cons_succ]
 refine wpAnyH_take (i:=4) (oi:=(.mk (some 92) (.binOp BinOp.add 9 (.tmp 89) (.tmp 91) 9) 9 "ref.go:55" #[.mk 1 .data,.mk 3 .data] none)) (v:=?_) rfl (by kernel_rfl) (by kernel_rfl) (by kernel_rfl) (fun _ _ _ h=>h) (Or.inl ⟨by rfl,?_⟩) hC ?_
 rotate_left
 ·(intro w hSw;(try dsimp only at hSw);go_simp;try with_reducible rfl)
 try simp only [Act.put,List.setIfInBounds_toArray,List.set_cons_zero,List.set_cons_succ]
 refine wpAnyH_take (i:=5) (oi:=(.mk (some 93) (.fieldAddr 46 (.tmp 1) 6) 0 "ref.go:55" #[] none)) (v:=?_) rfl (by kernel_rfl) (by kernel_rfl) (by kernel_rfl) (fun _ _ _ h=>h) (Or.inl ⟨by rfl,?_⟩) hC ?_
 rotate_left
 ·(intro w hSw;(try dsimp only at hSw);go_simp;try with_reducible rfl)
 try simp only [Act.put,List.setIfInBounds_toArray,List.set_cons_zero,List.set_cons_succ]
 refine wpAnyH_take (i:=6) (oi:=(.mk (some 94) (.load 37 (.tmp 93)) 37 "ref.go:55" #[.mk 5 .data] none)) (v:=?_) rfl (by kernel_rfl) (by kernel_rfl) (by kernel_rfl) (fun _ _ _ h=>h) (Or.inl ⟨by rfl,?_⟩) hC ?_
 rotate_left
 ·(intro w hSw;(try dsimp only at hSw);go_simp;try with_reducible rfl)
 try simp only [Act.put,List.setIfInBounds_toArray,List.set_cons_zero,List.set_cons_succ]
 refine wpAnyH_ready (rs:=[7]) (by kernel_rfl) (by simp) (AllReadyH.cons (o:=(.mk (some 95) (.call (.mk (.value (.func 22)) #[(.tmp 94)] #[37])) 9 "ref.go:55" #[.mk 6 .data] none)) rfl (fun K hK=>?_) AllReadyH.nil)
 go_simp
 (go_at_call 22;refine Calls.mono (hLs.out _ (Below.drew (Below.refl W2.heap.size W2))) ?_;rintro e w3 ⟨⟨s,rfl,hs⟩,hw3⟩)
 have hB3:=Lib.hid (show Below W2.heap.size W2 w3 from by rw [hw3];exact Below.drew (Below.refl W2.heap.size W2))
 clear hw3
 replace hC:=hCS.out w3 hB3.out
 have hz:s.size≤10000002:=by
  have h9:(bL s).length=s.size:=rfl
  rw [←h9,hs]
  unfold brkT
  rw [List.length_append,List.length_cons,List.length_singleton]
  omega
 have q4:¬9223372036854775807<6+d.a.size+s.size:=by omega
 replace hs:=Lib.hid hs
 refine hK.out _ _ hC (fun hHeld=>?_)
 clear hK K hHeld
 try simp only [Act.put,List.setIfInBounds_toArray,List.set_cons_zero,List.set_cons_succ]
 refine wpAnyH_take (i:=8) (oi:=(.mk (some 96) (.binOp BinOp.add 9 (.tmp 92) (.tmp 95) 9) 9 "ref.go:55" #[.mk 4 .data,.mk 7 .data] none)) (v:=?_) rfl (by kernel_rfl) (by kernel_rfl) (by kernel_rfl) (fun _ _ _ h=>h) (Or.inl ⟨by rfl,?_⟩) hC ?_
 rotate_left
 ·(intro w hSw;(try dsimp only at hSw);go_simp;try with_reducible rfl)
 try simp only [Act.put,List.setIfInBounds_toArray,List.set_cons_zero,List.set_cons_succ]
 refine wpAnyH_take (i:=9) (oi:=(.mk (some 2) (.assign (.tmp 96)) 9 "ref.go:55" #[.mk 8 .data,.mk 7 .chain,.mk 0 .phase,.mk 1 .phase,.mk 2 .phase,.mk 3 .phase,.mk 4 .phase,.mk 5 .phase,.mk 6 .phase,.mk 7 .phase,.mk 8 .phase] none)) (v:=?_) rfl (by kernel_rfl) (by kernel_rfl) (by kernel_rfl) (fun _ _ _ h=>h) (Or.inl ⟨by rfl,?_⟩) hC ?_
 rotate_left
 ·(intro w hSw;(try dsimp only at hSw);go_simp;try with_reducible rfl)
 try simp only [Act.put,List.setIfInBounds_toArray,List.set_cons_zero,List.set_cons_succ]
 refine wpAnyH_done (by kernel_rfl) ?_ _
 go_wp2_with fail
 go_ret
 exact⟨⟨_,rfl,by rw [ref_11 ho,pre_bare hx];simp only [bL_app,hs.out,List.append_assoc];rfl⟩,hB.out.trans (hB3.out.mono hB.out.size)⟩
set_option maxRecDepth 20000 in
set_option maxHeartbeats 4000000 in
theorem l6_12e {w:World}{d:Ins}{va vl:Value}(ha:RdC w va d.args)(hl:RdC w vl d.labels)(hk:InsOk d)(ho:d.op=12){x y:ByteArray}(hlb:d.labels=[x,y])(hx:bL d.dst=[]):Calls Tryz.prog 23 #[.agg (insV d va vl).toArray] w fun e w'=>(∃s,e=.returned (.string s)∧bL s=refT d)∧Below w.heap.size w w':=by
 obtain⟨aa,ca,rfl,hca,hac⟩:=ha.cells
 obtain⟨al,cl,rfl,hcl,hlc⟩:=hl.cells
 obtain⟨W2,hW2⟩:∃W2,w.alloc (.cells (insV d (.slice aa d.args.length ca) (.slice al d.labels.length cl)).toArray 46)=W2:=⟨_,rfl⟩
 have hb:W2.heap[w.heap.size]?=some (.cells (insV d (.slice aa d.args.length ca) (.slice al d.labels.length cl)).toArray 46 (0,0)):=by rw [←hW2];exact at_newN rfl
 have hB:Below w.heap.size w W2:=by rw [←hW2];exact (Below.refl _ _).alloc (Nat.le_refl _) _
 have hlt:w.heap.size<W2.heap.size:=(Array.getElem?_eq_some_iff.1 hb).1
 have c0:W2.cell? ⟨w.heap.size,0,none⟩=some (.int .u8 d.op):=by rw [blk_cell hb];rfl
 have c1:W2.cell? ⟨w.heap.size,1,none⟩=some (.string d.dst):=by rw [blk_cell hb];rfl
 have c2:W2.cell? ⟨w.heap.size,2,none⟩=some (.string d.a):=by rw [blk_cell hb];rfl
 have c3:W2.cell? ⟨w.heap.size,3,none⟩=some (.string d.b):=by rw [blk_cell hb];rfl
 have c4:W2.cell? ⟨w.heap.size,4,none⟩=some (.int .i64 d.n):=by rw [blk_cell hb];rfl
 have c5:W2.cell? ⟨w.heap.size,5,none⟩=some (.string d.fn):=by rw [blk_cell hb];rfl
 have c6:W2.cell? ⟨w.heap.size,6,none⟩=some (.slice aa d.args.length ca):=by rw [blk_cell hb];rfl
 have c7:W2.cell? ⟨w.heap.size,7,none⟩=some (.slice al d.labels.length cl):=by rw [blk_cell hb];rfl
 rw [ho] at c0
 obtain⟨q,hq⟩:∃q:Nat,(q:Int)=d.n:=⟨d.n.toNat,by have:=hk.n0;omega⟩
 have hq1:q<100:=by have:=hk.n1;omega
 have hqt:d.n.toNat=q:=by omega
 rw [←hq] at c4
 replace hq:=Lib.hid hq
 have hsd:=hk.sd
 have hsa:=hk.sa
 have hsb:=hk.sb
 have hsf:=hk.sf
 have e1:=(empty_iff d.dst).2 hx
 rw [e1] at c1
 have hl2:d.labels.length=2:=by rw [hlb];rfl
 rw [hl2] at c7 hW2
 obtain⟨b,off,rfl,hbl,hcl⟩:=(hlc.resolve_left (by rw [hlb];simp))
 have hsx:=hk.gl x (by rw [hlb];simp)
 have l0:W2.cell? ⟨b,off,none⟩=some (.string x):=(hB.cell (p:=⟨b,off,none⟩) hbl).trans (by simpa using hcl 0 x (by rw [hlb];rfl))
 have hsy:=hk.gl y (by rw [hlb];simp)
 have l1:W2.cell? ⟨b,off+1,none⟩=some (.string y):=(hB.cell (p:=⟨b,off+1,none⟩) hbl).trans (hcl 1 y (by rw [hlb];rfl))
 have q0:¬9223372036854775807<3+x.size:=by omega
 have q1:¬9223372036854775807<3+x.size+1:=by omega
 have q2:¬9223372036854775807<3+x.size+1+y.size:=by omega
 have hC:=(⟨c7,l0,l1⟩:W2.cell? ⟨w.heap.size,7,none⟩=some (.slice (some ⟨b,off,none⟩) 2 cl)∧W2.cell? ⟨b,off,none⟩=some (.string x)∧W2.cell? ⟨b,off+1,none⟩=some (.string y))
 clear hb hac hlc hl2 hcl
 replace hW2:=Lib.hid hW2
 replace hB:=Lib.hid hB
 replace ha:=Lib.hid ha
 replace hl:=Lib.hid hl
 go_enter Tryz.func23,Tryz.ntmps23
 go_upto_region 1 with fail
 rw [hW2.out]
 clear hW2
 go_upto_region 26 with fail
 refine wp_region_held_drew (S:=(fun w'=>w'.cell? ⟨w.heap.size,7,none⟩=some (.slice (some ⟨b,off,none⟩) 2 cl)∧w'.cell? ⟨b,off,none⟩=some (.string x)∧w'.cell? ⟨b,off+1,none⟩=some (.string y))) (by kernel_rfl) hC (fun hHeld=>?_)
 clear hHeld
 refine wpAnyH_take (i:=0) (oi:=(.mk (some 99) (.fieldAddr 46 (.tmp 1) 7) 0 "ref.go:57" #[] none)) (v:=?_) rfl (by kernel_rfl) (by kernel_rfl) (by kernel_rfl) (fun _ _ _ h=>h) (Or.inl ⟨by rfl,?_⟩) hC ?_
 rotate_left
 ·(intro w hSw;(try dsimp only at hSw);go_simp;try with_reducible rfl)
 try simp only [Act.put,List.setIfInBounds_toArray,List.set_cons_zero,List.set_cons_succ]
 refine wpAnyH_take (i:=1) (oi:=(.mk (some 100) (.load 37 (.tmp 99)) 37 "ref.go:57" #[.mk 0 .data] none)) (v:=?_) rfl (by kernel_rfl) (by kernel_rfl) (by kernel_rfl) (fun _ _ _ h=>h) (Or.inl ⟨by rfl,?_⟩) hC ?_
 rotate_left
 ·(intro w hSw;(try dsimp only at hSw);go_simp;try with_reducible rfl)
 try simp only [Act.put,List.setIfInBounds_toArray,List.set_cons_zero,List.set_cons_succ]
 refine wpAnyH_take (i:=2) (oi:=(.mk (some 101) (.indexAddr 37 (.tmp 100) (.const (Value.int IntKind.i64 0))) 0 "ref.go:57" #[.mk 1 .data] none)) (v:=?_) rfl (by kernel_rfl) (by kernel_rfl) (by kernel_rfl) (fun _ _ _ h=>h) (Or.inl ⟨by rfl,?_⟩) hC ?_
 rotate_left
 ·(intro w hSw;(try dsimp only at hSw);go_simp;try with_reducible rfl)
 try simp only [Act.put,List.setIfInBounds_toArray,List.set_cons_zero,List.set_cons_succ]
 refine wpAnyH_take (i:=3) (oi:=(.mk (some 102) (.load 9 (.tmp 101)) 9 "ref.go:57" #[.mk 2 .data] none)) (v:=?_) rfl (by kernel_rfl) (by kernel_rfl) (by kernel_rfl) (fun _ _ _ h=>h) (Or.inl ⟨by rfl,?_⟩) hC ?_
 rotate_left
 ·(intro w hSw;(try dsimp only at hSw);go_simp;try with_reducible rfl)
 try simp only [Act.put,List.setIfInBounds_toArray,List.set_cons_zero,List.set_cons_succ]
 refine wpAnyH_take (i:=4) (oi:=(.mk (some 103) (.binOp BinOp.add 9 (.const (Value.string (ByteArray.mk #[98,114,32]))) (.tmp 102) 9) 9 "ref.go:57" #[.mk 3 .data] none)) (v:=?_) rfl (by kernel_rfl) (by kernel_rfl) (by kernel_rfl) (fun _ _ _ h=>h) (Or.inl ⟨by rfl,?_⟩) hC ?_
 rotate_left
 ·(intro w hSw;(try dsimp only at hSw);go_simp;try with_reducible rfl)
 try simp only [Act.put,List.setIfInBounds_toArray,List.set_cons_zero,List.set_cons_succ]
 refine wpAnyH_take (i:=5) (oi:=(.mk (some 104) (.binOp BinOp.add 9 (.tmp 103) (.const (Value.string (ByteArray.mk #[32]))) 9) 9 "ref.go:57" #[.mk 4 .data] none)) (v:=?_) rfl (by kernel_rfl) (by kernel_rfl) (by kernel_rfl) (fun _ _ _ h=>h) (Or.inl ⟨by rfl,?_⟩) hC ?_
 rotate_left
 ·(intro w hSw;(try dsimp only at hSw);go_simp;try with_reducible rfl)
 try simp only [Act.put,List.setIfInBounds_toArray,List.set_cons_zero,List.set_cons_succ]
 refine wpAnyH_take (i:=6) (oi:=(.mk (some 105) (.fieldAddr 46 (.tmp 1) 7) 0 "ref.go:57" #[] none)) (v:=?_) rfl (by kernel_rfl) (by kernel_rfl) (by kernel_rfl) (fun _ _ _ h=>h) (Or.inl ⟨by rfl,?_⟩) hC ?_
 rotate_left
 ·(intro w hSw;(try dsimp only at hSw);go_simp;try with_reducible rfl)
 try simp only [Act.put,List.setIfInBounds_toArray,List.set_cons_zero,List.set_cons_succ]
 refine wpAnyH_take (i:=7) (oi:=(.mk (some 106) (.load 37 (.tmp 105)) 37 "ref.go:57" #[.mk 6 .data] none)) (v:=?_) rfl (by kernel_rfl) (by kernel_rfl) (by kernel_rfl) (fun _ _ _ h=>h) (Or.inl ⟨by rfl,?_⟩) hC ?_
 rotate_left
 ·(intro w hSw;(try dsimp only at hSw);go_simp;try with_reducible rfl)
 try simp only [Act.put,List.setIfInBounds_toArray,List.set_cons_zero,List.set_cons_succ]
 refine wpAnyH_take (i:=8) (oi:=(.mk (some 107) (.indexAddr 37 (.tmp 106) (.const (Value.int IntKind.i64 1))) 0 "ref.go:57" #[.mk 7 .data] none)) (v:=?_) rfl (by kernel_rfl) (by kernel_rfl) (by kernel_rfl) (fun _ _ _ h=>h) (Or.inl ⟨by rfl,?_⟩) hC ?_
 rotate_left
 ·(intro w hSw;(try dsimp only at hSw);go_simp;try with_reducible rfl)
 try simp only [Act.put,List.setIfInBounds_toArray,List.set_cons_zero,List.set_cons_succ]
 refine wpAnyH_take (i:=9) (oi:=(.mk (some 108) (.load 9 (.tmp 107)) 9 "ref.go:57" #[.mk 8 .data] none)) (v:=?_) rfl (by kernel_rfl) (by kernel_rfl) (by kernel_rfl) (fun _ _ _ h=>h) (Or.inl ⟨by rfl,?_⟩) hC ?_
 rotate_left
 ·(intro w hSw;(try dsimp only at hSw);go_simp;try with_reducible rfl)
 try simp only [Act.put,List.setIfInBounds_toArray,List.set_cons_zero,List.set_cons_succ]
 refine wpAnyH_take (i:=10) (oi:=(.mk (some 109) (.binOp BinOp.add 9 (.tmp 104) (.tmp 108) 9) 9 "ref.go:57" #[.mk 5 .data,.mk 9 .data] none)) (v:=?_) rfl (by kernel_rfl) (by kernel_rfl) (by kernel_rfl) (fun _ _ _ h=>h) (Or.inl ⟨by rfl,?_⟩) hC ?_
 rotate_left
 ·(intro w hSw;(try dsimp only at hSw);go_simp;try with_reducible rfl)
 try simp only [Act.put,List.setIfInBounds_toArray,List.set_cons_zero,List.set_cons_succ]
 refine wpAnyH_take (i:=11) (oi:=(.mk (some 2) (.assign (.tmp 109)) 9 "ref.go:57" #[.mk 10 .data,.mk 0 .phase,.mk 1 .phase,.mk 2 .phase,.mk 3 .phase,.mk 4 .phase,.mk 5 .phase,.mk 6 .phase,.mk 7 .phase,.mk 8 .phase,.mk 9 .phase,.mk 10 .phase] none)) (v:=?_) rfl (by kernel_rfl) (by kernel_rfl) (by kernel_rfl) (fun _ _ _ h=>h) (Or.inl ⟨by rfl,?_⟩) hC ?_
 rotate_left
 ·(intro w hSw;(try dsimp only at hSw);go_simp;try with_reducible rfl)
 try simp only [Act.put,List.setIfInBounds_toArray,List.set_cons_zero,List.set_cons_succ]
 refine wpAnyH_done (by kernel_rfl) ?_ _
 go_wp2_with fail
 go_ret
 exact⟨⟨_,rfl,by rw [ref_12 ho,hlb];simp only [bL_app,List.append_assoc];rfl⟩,by first | exact hB.out | exact hB.out.drew⟩
set_option maxRecDepth 20000 in
set_option maxHeartbeats 4000000 in
theorem l6_13e {w:World}{d:Ins}{va vl:Value}(ha:RdC w va d.args)(hl:RdC w vl d.labels)(hk:InsOk d)(ho:d.op=13){x:ByteArray}(hlb:d.labels=[x])(hx:bL d.dst=[]):Calls Tryz.prog 23 #[.agg (insV d va vl).toArray] w fun e w'=>(∃s,e=.returned (.string s)∧bL s=refT d)∧Below w.heap.size w w':=by
 obtain⟨aa,ca,rfl,hca,hac⟩:=ha.cells
 obtain⟨al,cl,rfl,hcl,hlc⟩:=hl.cells
 obtain⟨W2,hW2⟩:∃W2,w.alloc (.cells (insV d (.slice aa d.args.length ca) (.slice al d.labels.length cl)).toArray 46)=W2:=⟨_,rfl⟩
 have hb:W2.heap[w.heap.size]?=some (.cells (insV d (.slice aa d.args.length ca) (.slice al d.labels.length cl)).toArray 46 (0,0)):=by rw [←hW2];exact at_newN rfl
 have hB:Below w.heap.size w W2:=by rw [←hW2];exact (Below.refl _ _).alloc (Nat.le_refl _) _
 have hlt:w.heap.size<W2.heap.size:=(Array.getElem?_eq_some_iff.1 hb).1
 have c0:W2.cell? ⟨w.heap.size,0,none⟩=some (.int .u8 d.op):=by rw [blk_cell hb];rfl
 have c1:W2.cell? ⟨w.heap.size,1,none⟩=some (.string d.dst):=by rw [blk_cell hb];rfl
 have c2:W2.cell? ⟨w.heap.size,2,none⟩=some (.string d.a):=by rw [blk_cell hb];rfl
 have c3:W2.cell? ⟨w.heap.size,3,none⟩=some (.string d.b):=by rw [blk_cell hb];rfl
 have c4:W2.cell? ⟨w.heap.size,4,none⟩=some (.int .i64 d.n):=by rw [blk_cell hb];rfl
 have c5:W2.cell? ⟨w.heap.size,5,none⟩=some (.string d.fn):=by rw [blk_cell hb];rfl
 have c6:W2.cell? ⟨w.heap.size,6,none⟩=some (.slice aa d.args.length ca):=by rw [blk_cell hb];rfl
 have c7:W2.cell? ⟨w.heap.size,7,none⟩=some (.slice al d.labels.length cl):=by rw [blk_cell hb];rfl
 rw [ho] at c0
 obtain⟨q,hq⟩:∃q:Nat,(q:Int)=d.n:=⟨d.n.toNat,by have:=hk.n0;omega⟩
 have hq1:q<100:=by have:=hk.n1;omega
 have hqt:d.n.toNat=q:=by omega
 rw [←hq] at c4
 replace hq:=Lib.hid hq
 have hsd:=hk.sd
 have hsa:=hk.sa
 have hsb:=hk.sb
 have hsf:=hk.sf
 have e1:=(empty_iff d.dst).2 hx
 rw [e1] at c1
 have hl2:d.labels.length=1:=by rw [hlb];rfl
 rw [hl2] at c7 hW2
 obtain⟨b,off,rfl,hbl,hcl⟩:=(hlc.resolve_left (by rw [hlb];simp))
 have hsx:=hk.gl x (by rw [hlb];simp)
 have l0:W2.cell? ⟨b,off,none⟩=some (.string x):=(hB.cell (p:=⟨b,off,none⟩) hbl).trans (by simpa using hcl 0 x (by rw [hlb];rfl))
 have q0:¬9223372036854775807<5+x.size:=by omega
 clear hb hac hlc hl2 hcl
 replace hW2:=Lib.hid hW2
 replace hB:=Lib.hid hB
 replace ha:=Lib.hid ha
 replace hl:=Lib.hid hl
 go_enter Tryz.func23,Tryz.ntmps23
 go_upto_region 1 with fail
 rw [hW2.out]
 clear hW2
 go_wp2_with fail
 go_ret
 exact⟨⟨_,rfl,by rw [ref_13 ho,hlb];simp only [bL_app,List.append_assoc];rfl⟩,hB.out⟩
set_option maxRecDepth 20000 in
set_option maxHeartbeats 4000000 in
theorem l6_14e {w:World}{d:Ins}{va vl:Value}(ha:RdC w va d.args)(hl:RdC w vl d.labels)(hk:InsOk d)(ho:d.op=14)(hx:bL d.dst=[]):Calls Tryz.prog 23 #[.agg (insV d va vl).toArray] w fun e w'=>(∃s,e=.returned (.string s)∧bL s=refT d)∧Below w.heap.size w w':=by
 obtain⟨aa,ca,rfl,hca,hac⟩:=ha.cells
 obtain⟨al,cl,rfl,hcl,hlc⟩:=hl.cells
 obtain⟨W2,hW2⟩:∃W2,w.alloc (.cells (insV d (.slice aa d.args.length ca) (.slice al d.labels.length cl)).toArray 46)=W2:=⟨_,rfl⟩
 have hb:W2.heap[w.heap.size]?=some (.cells (insV d (.slice aa d.args.length ca) (.slice al d.labels.length cl)).toArray 46 (0,0)):=by rw [←hW2];exact at_newN rfl
 have hB:Below w.heap.size w W2:=by rw [←hW2];exact (Below.refl _ _).alloc (Nat.le_refl _) _
 have hlt:w.heap.size<W2.heap.size:=(Array.getElem?_eq_some_iff.1 hb).1
 have c0:W2.cell? ⟨w.heap.size,0,none⟩=some (.int .u8 d.op):=by rw [blk_cell hb];rfl
 have c1:W2.cell? ⟨w.heap.size,1,none⟩=some (.string d.dst):=by rw [blk_cell hb];rfl
 have c2:W2.cell? ⟨w.heap.size,2,none⟩=some (.string d.a):=by rw [blk_cell hb];rfl
 have c3:W2.cell? ⟨w.heap.size,3,none⟩=some (.string d.b):=by rw [blk_cell hb];rfl
 have c4:W2.cell? ⟨w.heap.size,4,none⟩=some (.int .i64 d.n):=by rw [blk_cell hb];rfl
 have c5:W2.cell? ⟨w.heap.size,5,none⟩=some (.string d.fn):=by rw [blk_cell hb];rfl
 have c6:W2.cell? ⟨w.heap.size,6,none⟩=some (.slice aa d.args.length ca):=by rw [blk_cell hb];rfl
 have c7:W2.cell? ⟨w.heap.size,7,none⟩=some (.slice al d.labels.length cl):=by rw [blk_cell hb];rfl
 rw [ho] at c0
 obtain⟨q,hq⟩:∃q:Nat,(q:Int)=d.n:=⟨d.n.toNat,by have:=hk.n0;omega⟩
 have hq1:q<100:=by have:=hk.n1;omega
 have hqt:d.n.toNat=q:=by omega
 rw [←hq] at c4
 replace hq:=Lib.hid hq
 have hsd:=hk.sd
 have hsa:=hk.sa
 have hsb:=hk.sb
 have hsf:=hk.sf
 have e1:=(empty_iff d.dst).2 hx
 rw [e1] at c1
 have q0:¬9223372036854775807<4+d.a.size:=by omega
 clear hb hac hlc
 replace hW2:=Lib.hid hW2
 replace hB:=Lib.hid hB
 replace ha:=Lib.hid ha
 replace hl:=Lib.hid hl
 go_enter Tryz.func23,Tryz.ntmps23
 go_upto_region 1 with fail
 rw [hW2.out]
 clear hW2
 by_cases hy:bL d.a=[]
 ·have e2:=(empty_iff d.a).2 hy
  rw [e2] at c2
  go_wp2_with fail
  go_ret
  exact⟨⟨_,rfl,by rw [ref_14 ho,if_pos hy];rfl⟩,hB.out⟩
 ·have e2:=ne_list hy
  go_wp2_with fail
  go_ret
  exact⟨⟨_,rfl,by rw [ref_14 ho,if_neg hy];simp only [bL_app,List.append_assoc];rfl⟩,hB.out⟩
end
end Go.Proofs.YtknkiaedgeejiaaGreatDoor
