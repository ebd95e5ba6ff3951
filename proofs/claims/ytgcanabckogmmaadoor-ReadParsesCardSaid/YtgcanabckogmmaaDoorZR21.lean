/- RdT4, RdT5, RdT6, RdF1, RdG1. -/
import Derived.Test.YtgcanabckogmmaaDoorZR20
import Derived.Deep.RegionHeld3
namespace Go.Proofs.YtgcanabckogmmaaDoor
set_option linter.unusedVariables false
set_option linter.unusedSimpArgs false
section
open Go.RowKit Go.Maps Go.Shelf
attribute [local go_sem] Oper.semAt_some
theorem ins_atS {w:World}{v:Value}{L:List Ins}{k:Nat}{d:Ins}(h:RdE 8 RdIns w v L)(hk:L[k]?=some d):∃g o cap xa ca xl cl,v=.slice (some ⟨g,o,none⟩) L.length cap∧g<w.heap.size∧w.cell? ⟨g,o+k*8,none⟩=some (.int .u8 d.op)∧w.cell? ⟨g,o+k*8+1,none⟩=some (.string d.dst)∧w.cell? ⟨g,o+k*8+2,none⟩=some (.string d.a)∧w.cell? ⟨g,o+k*8+3,none⟩=some (.string d.b)∧w.cell? ⟨g,o+k*8+4,none⟩=some (.int .i64 d.n)∧w.cell? ⟨g,o+k*8+5,none⟩=some (.string d.fn)∧w.cell? ⟨g,o+k*8+6,none⟩=some (.slice xa d.args.length ca)∧w.cell? ⟨g,o+k*8+7,none⟩=some (.slice xl d.labels.length cl)∧RdS w (.slice xa d.args.length ca) d.args∧RdS w (.slice xl d.labels.length cl) d.labels:=by
 obtain⟨g,o,cap,cs,e,hg,⟨va,vl,rfl,ra,rl⟩,-,hc⟩:=h.at hk
 obtain⟨xa,ca,rfl⟩:=ra.form
 obtain⟨xl,cl,rfl⟩:=rl.form
 rw [List.length_map] at ra rl
 have key:=hc
 unfold insV at key
 rw [List.length_map,List.length_map] at key
 exact⟨g,o,cap,xa,ca,xl,cl,e,hg,key 0 _ rfl,key 1 _ rfl,key 2 _ rfl,key 3 _ rfl,key 4 _ rfl,key 5 _ rfl,key 6 _ rfl,key 7 _ rfl,ra,rl⟩
set_option maxRecDepth 20000 in
set_option maxHeartbeats 4000000 in
theorem same4 {c:Code}(hc:Func.blockOf Tryd.f11 4=some c){Q:Exit→Act→World→Prop}{w:World}{y1 y2 n c1 c2:Nat}{xc yc:Option Addr}{L:List Ins}{u0 u1 u2 u3 u4 u5 u6 u7 u8 u12 u13 u14 u15 u16 u17 u18 u19 u20 u21 u22 u23 u24 u25 u26 u27 u28 u29 u30 u31 u32 u33 u34 u35 u36 u37 u38 u39 u40 u41 u42 u43 u44 u45 u46 u47 u48 u49 u50 u51 u52 u53 u54 u55 u56 u57 u58 u59 u60 u61 u62 u63 u64 u65 u66 u67 u68 u69 u70 u71 u72 u73 u74 u75 u76 u77 u78 u79 u80 u81 u82 u83 u84 u85 u86 u87 u88 u89 u90 u91 u92 u93 u94 u95 u96 u97 u98 u99 u100 u101 u102 u103 u104 u105 u106 u107 u108 u109 u110 u111 u112 u113 u114 u115 u116 u117 u118 u119 u120 u121 u122 u123 u124 u125 u126 u127 u128 u129 u130 u131 u132 u133 u134 u135 u136 u137 u138 u139 u140 u141 u142 u143 u144 u145 u146 u147 u148 u149 u150 u151 u152 u153 u154 u155 u156 u157 u158 u159 u160 u161 u162 u163:Value}
  (hy1:w.cell? ⟨y1,1,none⟩=some (.slice xc n c1)) (hy2:w.cell? ⟨y2,1,none⟩=some (.slice yc n c2)) (l1:y1<w.heap.size) (l2:y2<w.heap.size) (hn:n=L.length) (rx:RdE 8 RdIns w (.slice xc n c1) L) (ry:RdE 8 RdIns w (.slice yc n c2) L) (hlim:∀d∈L,d.args.length≤maxLen∧d.labels.length≤maxLen) (hnm:n≤100000000) (hPn:∀{x:List PanicEntry} {a a1:Act} {w:World},Q (.panic x) a w→a.defers=a1.defers→Q (.panic x) a1 w)
  (hQ:Hid (∀{wx:World} {v4 v11 v12 v13 v91 v92 v93 v94 v95 v96 v97 v98 v99 v100 v101 v102 v103 v104 v105 v106 v107 v108 v109 v110 v111 v112 v113 v114 v115 v116 v117 v118 v119 v120 v121 v122 v123 v124 v125 v126 v127 v128 v129 v130 v131 v132 v133 v134 v135 v136 v137 v138 v139 v140 v141 v142 v143 v144 v145 v146 v147 v148 v149 v150 v151 v152 v153 v154 v155 v156 v157 v158 v159 v160 v161 v162 v163:Value},Below w.heap.size w wx→Q .normal {tmps:=#[u0,u1,u2,u3,v4,u5,u6,u7,u8,.pointer (some ⟨y1,0,none⟩),.pointer (some ⟨y2,0,none⟩),v11,v12,v13,u14,u15,u16,u17,u18,u19,u20,u21,u22,u23,u24,u25,u26,u27,u28,u29,u30,u31,u32,u33,u34,u35,u36,u37,u38,u39,u40,u41,u42,u43,u44,u45,u46,u47,u48,u49,u50,u51,u52,u53,u54,u55,u56,u57,u58,u59,u60,u61,u62,u63,u64,u65,u66,u67,u68,u69,u70,u71,u72,u73,u74,u75,u76,u77,u78,u79,u80,u81,u82,u83,u84,u85,u86,u87,u88,u89,u90,v91,v92,v93,v94,v95,v96,v97,v98,v99,v100,v101,v102,v103,v104,v105,v106,v107,v108,v109,v110,v111,v112,v113,v114,v115,v116,v117,v118,v119,v120,v121,v122,v123,v124,v125,v126,v127,v128,v129,v130,v131,v132,v133,v134,v135,v136,v137,v138,v139,v140,v141,v142,v143,v144,v145,v146,v147,v148,v149,v150,v151,v152,v153,v154,v155,v156,v157,v158,v159,v160,v161,v162,v163],defers:=[]} wx)):
  c.wp Tryd.prog Q {tmps:=#[u0,u1,u2,u3,u4,u5,u6,u7,u8,.pointer (some ⟨y1,0,none⟩),.pointer (some ⟨y2,0,none⟩),.int .i64 0,u12,u13,u14,u15,u16,u17,u18,u19,u20,u21,u22,u23,u24,u25,u26,u27,u28,u29,u30,u31,u32,u33,u34,u35,u36,u37,u38,u39,u40,u41,u42,u43,u44,u45,u46,u47,u48,u49,u50,u51,u52,u53,u54,u55,u56,u57,u58,u59,u60,u61,u62,u63,u64,u65,u66,u67,u68,u69,u70,u71,u72,u73,u74,u75,u76,u77,u78,u79,u80,u81,u82,u83,u84,u85,u86,u87,u88,u89,u90,u91,u92,u93,u94,u95,u96,u97,u98,u99,u100,u101,u102,u103,u104,u105,u106,u107,u108,u109,u110,u111,u112,u113,u114,u115,u116,u117,u118,u119,u120,u121,u122,u123,u124,u125,u126,u127,u128,u129,u130,u131,u132,u133,u134,u135,u136,u137,u138,u139,u140,u141,u142,u143,u144,u145,u146,u147,u148,u149,u150,u151,u152,u153,u154,u155,u156,u157,u158,u159,u160,u161,u162,u163],defers:=[]} w:=by
 conv at hc=>lhs;whnf
 simp only [Option.some.injEq] at hc
 subst hc
 replace rx:=Lib.hid rx
 replace ry:=Lib.hid ry
 replace hn:=Lib.hid hn
 replace hlim:=Lib.hid hlim
 go_wp2_with fail
 go_loopw [11] (fun i wr=>∃k:Nat,k≤n∧i=.int .i64 k∧Hid (Below w.heap.size w wr)) (fun i _=>n-(intOf i).toNat)
 case atStart=>exact⟨0,Nat.zero_le _,rfl,Lib.hid (Below.refl _ _)⟩
 case round=>
  obtain⟨k,hk,rfl,hb⟩:=hrel
  have z1:=(hb.out.cell (p:=⟨y1,1,none⟩) l1).trans hy1
  have z2:=(hb.out.cell (p:=⟨y2,1,none⟩) l2).trans hy2
  by_cases hlt:k<n
  ·have i1:(k:Int)<(n:Int):=by omega
   obtain⟨d,hd⟩:∃d,L[k]?=some d:=⟨_,List.getElem?_eq_getElem (by rw [←hn.out];exact hlt)⟩
   obtain⟨g1,o1,cap1,xa,ca,xl,cl,e1,hg1,a0,a1,a2,a3,a4,a5,a6,a7,ra,rl⟩:=ins_atS (RdE.below (fun _ _ h=>h.below hb.out) rx.out hb.out) hd
   obtain⟨g2,o2,cap2,ya,da,yl,dl,e2,hg2,b0,b1,b2,b3,b4,b5,b6,b7,sa,sl⟩:=ins_atS (RdE.below (fun _ _ h=>h.below hb.out) ry.out hb.out) hd
   rw [←hn.out] at e1 e2
   simp only [Value.slice.injEq] at e1 e2
   obtain⟨rfl,-,rfl⟩:=e1
   obtain⟨rfl,-,rfl⟩:=e2
   have hll:=hlim.out d (List.mem_of_getElem? hd)
   replace hd:=Lib.hid hd
   go_upto_block 5 with fail
   refine same5 (by kernel_rfl) (w:=wr) (d:=d) z1 z2 i1 a0 a1 a2 a3 a4 a5 a6 a7 b0 b1 b2 b3 b4 b5 b6 b7 (Nat.lt_of_lt_of_le l1 hb.out.size) (Nat.lt_of_lt_of_le l2 hb.out.size) hg1 hg2 (Lib.hid ra) (Lib.hid rl) (Lib.hid sa) (Lib.hid sl) hll.1 hll.2 (fun {_ _ _ _} h e=>hPn h e) (Lib.hid ?_)
   intros
   rename_i hx
   rename World=>w9
   have hx:=Lib.hid hx
   clear a0 a1 a2 a3 a4 a5 a6 a7 b0 b1 b2 b3 b4 b5 b6 b7
   go_wp2_with fail
   exact⟨⟨k+1,by omega,by go_num,Lib.hid (hb.out.trans (hx.out.mono hb.out.size))⟩,by simp [intOf];omega⟩
  ·have i1:decide ((k:Int)<(n:Int))=false:=by simp;omega
   go_wp2_with fail
   exact hQ.out hb.out
end
section
open Go.RowKit Go.Maps Go.Shelf
attribute [local go_sem] Oper.semAt_some
set_option maxRecDepth 20000 in
set_option maxHeartbeats 4000000 in
theorem same3 {c:Code}(hc:Func.blockOf Tryd.f11 3=some c){Q:Exit→Act→World→Prop}{w:World}{f1 f2 g1 g2 o1 o2 n c1 c2 k cc dc:Nat}{xc yc:Option Addr}{x:Blk}{u0 u1 u2 u3 u4 u5 u9 u10 u11 u12 u13 u14 u15 u16 u17 u18 u19 u20 u21 u22 u23 u24 u25 u26 u27 u28 u29 u30 u31 u32 u33 u34 u35 u36 u37 u38 u39 u40 u41 u42 u43 u44 u45 u46 u47 u48 u49 u50 u51 u52 u53 u54 u55 u56 u57 u58 u59 u60 u61 u62 u63 u64 u65 u66 u67 u68 u69 u70 u71 u72 u73 u74 u75 u76 u77 u78 u79 u80 u81 u82 u83 u84 u85 u86 u87 u88 u89 u90 u91 u92 u93 u94 u95 u96 u97 u98 u99 u100 u101 u102 u103 u104 u105 u106 u107 u108 u109 u110 u111 u112 u113 u114 u115 u116 u117 u118 u119 u120 u121 u122 u123 u124 u125 u126 u127 u128 u129 u130 u131 u132 u133 u134 u135 u136 u137 u138 u139 u140 u141 u142 u143 u144 u145 u146 u147 u148 u149 u150 u151 u152 u153 u154 u155 u156 u157 u158 u159 u160 u161 u162 u163:Value}
  (hf1:w.cell? ⟨f1,2,none⟩=some (.slice (some ⟨g1,o1,none⟩) n c1)) (hf2:w.cell? ⟨f2,2,none⟩=some (.slice (some ⟨g2,o2,none⟩) n c2)) (a0:w.cell? ⟨g1,o1+k*2,none⟩=some (.string x.label)) (a1:w.cell? ⟨g1,o1+k*2+1,none⟩=some (.slice xc x.code.length cc)) (b0:w.cell? ⟨g2,o2+k*2,none⟩=some (.string x.label)) (b1:w.cell? ⟨g2,o2+k*2+1,none⟩=some (.slice yc x.code.length dc)) (hk:(k:Int)<(n:Int)) (l1:f1<w.heap.size) (l2:f2<w.heap.size) (l3:g1<w.heap.size) (l4:g2<w.heap.size) (rx:Hid (RdE 8 RdIns w (.slice xc x.code.length cc) x.code)) (ry:Hid (RdE 8 RdIns w (.slice yc x.code.length dc) x.code)) (hlim:Hid (∀d∈x.code,d.args.length≤maxLen∧d.labels.length≤maxLen)) (hnm:Hid (x.code.length≤100000000)) (hPn:∀{x:List PanicEntry} {a a1:Act} {w:World},Q (.panic x) a w→a.defers=a1.defers→Q (.panic x) a1 w)
  (hQ:Hid (∀{wx:World} {v4 v9 v10 v11 v12 v13 v67 v68 v69 v70 v71 v72 v73 v74 v75 v76 v77 v78 v79 v80 v81 v82 v83 v84 v85 v86 v87 v88 v89 v90 v91 v92 v93 v94 v95 v96 v97 v98 v99 v100 v101 v102 v103 v104 v105 v106 v107 v108 v109 v110 v111 v112 v113 v114 v115 v116 v117 v118 v119 v120 v121 v122 v123 v124 v125 v126 v127 v128 v129 v130 v131 v132 v133 v134 v135 v136 v137 v138 v139 v140 v141 v142 v143 v144 v145 v146 v147 v148 v149 v150 v151 v152 v153 v154 v155 v156 v157 v158 v159 v160 v161 v162 v163:Value},Below w.heap.size w wx→Q .normal {tmps:=#[u0,u1,u2,u3,v4,u5,.pointer (some ⟨f1,0,none⟩),.pointer (some ⟨f2,0,none⟩),.int .i64 k,v9,v10,v11,v12,v13,u14,u15,u16,u17,u18,u19,u20,u21,u22,u23,u24,u25,u26,u27,u28,u29,u30,u31,u32,u33,u34,u35,u36,u37,u38,u39,u40,u41,u42,u43,u44,u45,u46,u47,u48,u49,u50,u51,u52,u53,u54,u55,u56,u57,u58,u59,u60,u61,u62,u63,u64,u65,u66,v67,v68,v69,v70,v71,v72,v73,v74,v75,v76,v77,v78,v79,v80,v81,v82,v83,v84,v85,v86,v87,v88,v89,v90,v91,v92,v93,v94,v95,v96,v97,v98,v99,v100,v101,v102,v103,v104,v105,v106,v107,v108,v109,v110,v111,v112,v113,v114,v115,v116,v117,v118,v119,v120,v121,v122,v123,v124,v125,v126,v127,v128,v129,v130,v131,v132,v133,v134,v135,v136,v137,v138,v139,v140,v141,v142,v143,v144,v145,v146,v147,v148,v149,v150,v151,v152,v153,v154,v155,v156,v157,v158,v159,v160,v161,v162,v163],defers:=[]} wx)):
  c.wp Tryd.prog Q {tmps:=#[u0,u1,u2,u3,u4,u5,.pointer (some ⟨f1,0,none⟩),.pointer (some ⟨f2,0,none⟩),.int .i64 k,u9,u10,u11,u12,u13,u14,u15,u16,u17,u18,u19,u20,u21,u22,u23,u24,u25,u26,u27,u28,u29,u30,u31,u32,u33,u34,u35,u36,u37,u38,u39,u40,u41,u42,u43,u44,u45,u46,u47,u48,u49,u50,u51,u52,u53,u54,u55,u56,u57,u58,u59,u60,u61,u62,u63,u64,u65,u66,u67,u68,u69,u70,u71,u72,u73,u74,u75,u76,u77,u78,u79,u80,u81,u82,u83,u84,u85,u86,u87,u88,u89,u90,u91,u92,u93,u94,u95,u96,u97,u98,u99,u100,u101,u102,u103,u104,u105,u106,u107,u108,u109,u110,u111,u112,u113,u114,u115,u116,u117,u118,u119,u120,u121,u122,u123,u124,u125,u126,u127,u128,u129,u130,u131,u132,u133,u134,u135,u136,u137,u138,u139,u140,u141,u142,u143,u144,u145,u146,u147,u148,u149,u150,u151,u152,u153,u154,u155,u156,u157,u158,u159,u160,u161,u162,u163],defers:=[]} w:=by
 conv at hc=>lhs;whnf
 simp only [Option.some.injEq] at hc
 subst hc
 go_upto_region 12 with fail
 have hS:w.cell? ⟨f1,2,none⟩=some (.slice (some ⟨g1,o1,none⟩) n c1)∧w.cell? ⟨f2,2,none⟩=some (.slice (some ⟨g2,o2,none⟩) n c2)∧w.cell? ⟨g1,o1+k*2,none⟩=some (.string x.label)∧w.cell? ⟨g1,o1+k*2+1,none⟩=some (.slice xc x.code.length cc)∧w.cell? ⟨g2,o2+k*2,none⟩=some (.string x.label)∧w.cell? ⟨g2,o2+k*2+1,none⟩=some (.slice yc x.code.length dc):=⟨hf1,hf2,a0,a1,b0,b1⟩
 refine wp_region_noPanic ?_
 go_region_held3 (fun w'=>w'.cell? ⟨f1,2,none⟩=some (.slice (some ⟨g1,o1,none⟩) n c1)∧w'.cell? ⟨f2,2,none⟩=some (.slice (some ⟨g2,o2,none⟩) n c2)∧w'.cell? ⟨g1,o1+k*2,none⟩=some (.string x.label)∧w'.cell? ⟨g1,o1+k*2+1,none⟩=some (.slice xc x.code.length cc)∧w'.cell? ⟨g2,o2+k*2,none⟩=some (.string x.label)∧w'.cell? ⟨g2,o2+k*2+1,none⟩=some (.slice yc x.code.length dc)) (simp [go_sem, *]) (go_simp)
 all_goals
  refine NoPanic.normal ?_
  rename_i hH
  clear hH hS hf1 hf2 hk a0 a1 b0 b1
  have hbe:∀a b:Array Value,Below w.heap.size w (((w.alloc (.cells a 46)).alloc (.cells b 46)).drew):=fun a b=>(((Below.refl _ _).alloc (Nat.le_refl _) _).alloc (by simp) _).drew
  have q0:∀A B:Obj,(((w.alloc A).alloc B).drew).heap[w.heap.size]?=some A:=fun A B=>at_oldP (at_newP rfl)
  have q1:∀A B:Obj,(((w.alloc A).alloc B).drew).heap[w.heap.size+1]?=some B:=fun A B=>at_newP (by simp)
  replace hbe:=Lib.hid hbe
  replace q0:=Lib.hid q0
  replace q1:=Lib.hid q1
  go_upto_block 4 with fail
  refine same4 (by kernel_rfl) (L:=x.code) (xc:=xc) (yc:=yc) (c1:=cc) (c2:=dc) ?_ ?_ ?_ ?_ rfl (RdE.below (fun _ _ h=>h.below (hbe.out _ _)) rx.out (hbe.out _ _)) (RdE.below (fun _ _ h=>h.below (hbe.out _ _)) ry.out (hbe.out _ _)) hlim.out hnm.out (fun {_ _ _ _} h e=>hPn h e) (Lib.hid ?_)
  ·first | (rw [blk_cell (q0.out _ _)];rfl) | (rw [blk_cell (q1.out _ _)];rfl)
  ·first | (rw [blk_cell (q0.out _ _)];rfl) | (rw [blk_cell (q1.out _ _)];rfl)
  ·first | exact (Array.getElem?_eq_some_iff.1 (q0.out _ _)).1 | exact (Array.getElem?_eq_some_iff.1 (q1.out _ _)).1
  ·first | exact (Array.getElem?_eq_some_iff.1 (q0.out _ _)).1 | exact (Array.getElem?_eq_some_iff.1 (q1.out _ _)).1
  ·intros
   rename_i hx
   rename World=>w9
   have hx:=Lib.hid hx
   go_wp2_with fail
   exact hQ.out ((hbe.out _ _).trans (hx.out.mono (hbe.out _ _).size))
theorem blk_atS {w:World}{v:Value}{L:List Blk}{k:Nat}{x:Blk}(h:RdE 2 RdBlk w v L)(hk:L[k]?=some x):∃g o cap xc cc,v=.slice (some ⟨g,o,none⟩) L.length cap∧g<w.heap.size∧w.cell? ⟨g,o+k*2,none⟩=some (.string x.label)∧w.cell? ⟨g,o+k*2+1,none⟩=some (.slice xc x.code.length cc)∧RdE 8 RdIns w (.slice xc x.code.length cc) x.code:=by
 obtain⟨g,o,cap,cs,e,hg,⟨vc,rfl,rc⟩,-,hc⟩:=h.at hk
 obtain⟨xc,cc,rfl⟩:=rc.form
 exact⟨g,o,cap,xc,cc,e,hg,hc 0 _ rfl,hc 1 _ rfl,rc⟩
set_option maxRecDepth 20000 in
set_option maxHeartbeats 4000000 in
theorem same2 {c:Code}(hc:Func.blockOf Tryd.f11 2=some c){Q:Exit→Act→World→Prop}{w:World}{f1 f2 n c1 c2:Nat}{xc yc:Option Addr}{L:List Blk}{u0 u1 u2 u3 u4 u5 u9 u10 u11 u12 u13 u14 u15 u16 u17 u18 u19 u20 u21 u22 u23 u24 u25 u26 u27 u28 u29 u30 u31 u32 u33 u34 u35 u36 u37 u38 u39 u40 u41 u42 u43 u44 u45 u46 u47 u48 u49 u50 u51 u52 u53 u54 u55 u56 u57 u58 u59 u60 u61 u62 u63 u64 u65 u66 u67 u68 u69 u70 u71 u72 u73 u74 u75 u76 u77 u78 u79 u80 u81 u82 u83 u84 u85 u86 u87 u88 u89 u90 u91 u92 u93 u94 u95 u96 u97 u98 u99 u100 u101 u102 u103 u104 u105 u106 u107 u108 u109 u110 u111 u112 u113 u114 u115 u116 u117 u118 u119 u120 u121 u122 u123 u124 u125 u126 u127 u128 u129 u130 u131 u132 u133 u134 u135 u136 u137 u138 u139 u140 u141 u142 u143 u144 u145 u146 u147 u148 u149 u150 u151 u152 u153 u154 u155 u156 u157 u158 u159 u160 u161 u162 u163:Value}
  (hy1:w.cell? ⟨f1,2,none⟩=some (.slice xc n c1)) (hy2:w.cell? ⟨f2,2,none⟩=some (.slice yc n c2)) (l1:f1<w.heap.size) (l2:f2<w.heap.size) (hn:n=L.length) (rx:RdE 2 RdBlk w (.slice xc n c1) L) (ry:RdE 2 RdBlk w (.slice yc n c2) L) (hlim:(∀x∈L,x.code.length≤100000000∧∀d∈x.code,d.args.length≤maxLen∧d.labels.length≤maxLen)) (hnm:n≤100000000) (hPn:∀{x:List PanicEntry} {a a1:Act} {w:World},Q (.panic x) a w→a.defers=a1.defers→Q (.panic x) a1 w)
  (hQ:Hid (∀{wx:World} {v4 v8 v9 v10 v11 v12 v13 v60 v61 v62 v63 v64 v65 v66 v67 v68 v69 v70 v71 v72 v73 v74 v75 v76 v77 v78 v79 v80 v81 v82 v83 v84 v85 v86 v87 v88 v89 v90 v91 v92 v93 v94 v95 v96 v97 v98 v99 v100 v101 v102 v103 v104 v105 v106 v107 v108 v109 v110 v111 v112 v113 v114 v115 v116 v117 v118 v119 v120 v121 v122 v123 v124 v125 v126 v127 v128 v129 v130 v131 v132 v133 v134 v135 v136 v137 v138 v139 v140 v141 v142 v143 v144 v145 v146 v147 v148 v149 v150 v151 v152 v153 v154 v155 v156 v157 v158 v159 v160 v161 v162 v163:Value},Below w.heap.size w wx→Q .normal {tmps:=#[u0,u1,u2,u3,v4,u5,.pointer (some ⟨f1,0,none⟩),.pointer (some ⟨f2,0,none⟩),v8,v9,v10,v11,v12,v13,u14,u15,u16,u17,u18,u19,u20,u21,u22,u23,u24,u25,u26,u27,u28,u29,u30,u31,u32,u33,u34,u35,u36,u37,u38,u39,u40,u41,u42,u43,u44,u45,u46,u47,u48,u49,u50,u51,u52,u53,u54,u55,u56,u57,u58,u59,v60,v61,v62,v63,v64,v65,v66,v67,v68,v69,v70,v71,v72,v73,v74,v75,v76,v77,v78,v79,v80,v81,v82,v83,v84,v85,v86,v87,v88,v89,v90,v91,v92,v93,v94,v95,v96,v97,v98,v99,v100,v101,v102,v103,v104,v105,v106,v107,v108,v109,v110,v111,v112,v113,v114,v115,v116,v117,v118,v119,v120,v121,v122,v123,v124,v125,v126,v127,v128,v129,v130,v131,v132,v133,v134,v135,v136,v137,v138,v139,v140,v141,v142,v143,v144,v145,v146,v147,v148,v149,v150,v151,v152,v153,v154,v155,v156,v157,v158,v159,v160,v161,v162,v163],defers:=[]} wx)):
  c.wp Tryd.prog Q {tmps:=#[u0,u1,u2,u3,u4,u5,.pointer (some ⟨f1,0,none⟩),.pointer (some ⟨f2,0,none⟩),.int .i64 0,u9,u10,u11,u12,u13,u14,u15,u16,u17,u18,u19,u20,u21,u22,u23,u24,u25,u26,u27,u28,u29,u30,u31,u32,u33,u34,u35,u36,u37,u38,u39,u40,u41,u42,u43,u44,u45,u46,u47,u48,u49,u50,u51,u52,u53,u54,u55,u56,u57,u58,u59,u60,u61,u62,u63,u64,u65,u66,u67,u68,u69,u70,u71,u72,u73,u74,u75,u76,u77,u78,u79,u80,u81,u82,u83,u84,u85,u86,u87,u88,u89,u90,u91,u92,u93,u94,u95,u96,u97,u98,u99,u100,u101,u102,u103,u104,u105,u106,u107,u108,u109,u110,u111,u112,u113,u114,u115,u116,u117,u118,u119,u120,u121,u122,u123,u124,u125,u126,u127,u128,u129,u130,u131,u132,u133,u134,u135,u136,u137,u138,u139,u140,u141,u142,u143,u144,u145,u146,u147,u148,u149,u150,u151,u152,u153,u154,u155,u156,u157,u158,u159,u160,u161,u162,u163],defers:=[]} w:=by
 conv at hc=>lhs;whnf
 simp only [Option.some.injEq] at hc
 subst hc
 replace rx:=Lib.hid rx
 replace ry:=Lib.hid ry
 replace hn:=Lib.hid hn
 replace hlim:=Lib.hid hlim
 go_wp2_with fail
 go_loopw [8] (fun i wr=>∃k:Nat,k≤n∧i=.int .i64 k∧Hid (Below w.heap.size w wr)) (fun i _=>n-(intOf i).toNat)
 case atStart=>exact⟨0,Nat.zero_le _,rfl,Lib.hid (Below.refl _ _)⟩
 case round=>
  obtain⟨k,hk,rfl,hb⟩:=hrel
  have z1:=(hb.out.cell (p:=⟨f1,2,none⟩) l1).trans hy1
  have z2:=(hb.out.cell (p:=⟨f2,2,none⟩) l2).trans hy2
  by_cases hlt:k<n
  ·have i1:(k:Int)<(n:Int):=by omega
   obtain⟨x,hd⟩:∃d,L[k]?=some d:=⟨_,List.getElem?_eq_getElem (by rw [←hn.out];exact hlt)⟩
   obtain⟨g1,o1,cap1,xc,cc,e1,hg1,a0,a1,ra⟩:=blk_atS (RdE.below (fun _ _ h=>h.below hb.out) rx.out hb.out) hd
   obtain⟨g2,o2,cap2,yc,dc,e2,hg2,b0,b1,rb⟩:=blk_atS (RdE.below (fun _ _ h=>h.below hb.out) ry.out hb.out) hd
   rw [←hn.out] at e1 e2
   simp only [Value.slice.injEq] at e1 e2
   obtain⟨rfl,-,rfl⟩:=e1
   obtain⟨rfl,-,rfl⟩:=e2
   have hll:=Lib.hid (hlim.out x (List.mem_of_getElem? hd))
   replace hd:=Lib.hid hd
   go_upto_block 3 with fail
   refine same3 (by kernel_rfl) (w:=wr) (x:=x) z1 z2 a0 a1 b0 b1 i1 (Nat.lt_of_lt_of_le l1 hb.out.size) (Nat.lt_of_lt_of_le l2 hb.out.size) hg1 hg2 (Lib.hid ra) (Lib.hid rb) (Lib.hid hll.out.2) (Lib.hid hll.out.1) (fun {_ _ _ _} h e=>hPn h e) (Lib.hid ?_)
   intros
   rename_i hx
   rename World=>w9
   have hx:=Lib.hid hx
   clear a0 a1 b0 b1
   go_wp2_with fail
   exact⟨⟨k+1,by omega,by go_num,Lib.hid (hb.out.trans (hx.out.mono hb.out.size))⟩,by simp [intOf];omega⟩
  ·have i1:decide ((k:Int)<(n:Int))=false:=by simp;omega
   go_wp2_with fail
   exact hQ.out hb.out
end
section
open Go.RowKit Go.Maps Go.Shelf
attribute [local go_sem] Oper.semAt_some
set_option maxRecDepth 20000 in
set_option maxHeartbeats 4000000 in
theorem same1 {c:Code}(hc:Func.blockOf Tryd.f11 1=some c){Q:Exit→Act→World→Prop}{w:World}{p1 p2 g1 g2 o1 o2 n c1 c2 k cp cb dp db:Nat}{xp xb yp yb:Option Addr}{d:Fun}{u0 u1 u4 u6 u7 u8 u9 u10 u11 u12 u13 u14 u15 u16 u17 u18 u19 u20 u21 u22 u23 u24 u25 u26 u27 u28 u29 u30 u31 u32 u33 u34 u35 u36 u37 u38 u39 u40 u41 u42 u43 u44 u45 u46 u47 u48 u49 u50 u51 u52 u53 u54 u55 u56 u57 u58 u59 u60 u61 u62 u63 u64 u65 u66 u67 u68 u69 u70 u71 u72 u73 u74 u75 u76 u77 u78 u79 u80 u81 u82 u83 u84 u85 u86 u87 u88 u89 u90 u91 u92 u93 u94 u95 u96 u97 u98 u99 u100 u101 u102 u103 u104 u105 u106 u107 u108 u109 u110 u111 u112 u113 u114 u115 u116 u117 u118 u119 u120 u121 u122 u123 u124 u125 u126 u127 u128 u129 u130 u131 u132 u133 u134 u135 u136 u137 u138 u139 u140 u141 u142 u143 u144 u145 u146 u147 u148 u149 u150 u151 u152 u153 u154 u155 u156 u157 u158 u159 u160 u161 u162 u163:Value}
  (hp1:w.cell? ⟨p1,0,none⟩=some (.slice (some ⟨g1,o1,none⟩) n c1)) (hp2:w.cell? ⟨p2,0,none⟩=some (.slice (some ⟨g2,o2,none⟩) n c2)) (a0:w.cell? ⟨g1,o1+k*3,none⟩=some (.string d.name)) (a1:w.cell? ⟨g1,o1+k*3+1,none⟩=some (.slice xp d.params.length cp)) (a2:w.cell? ⟨g1,o1+k*3+2,none⟩=some (.slice xb d.blocks.length cb)) (b0:w.cell? ⟨g2,o2+k*3,none⟩=some (.string d.name)) (b1:w.cell? ⟨g2,o2+k*3+1,none⟩=some (.slice yp d.params.length dp)) (b2:w.cell? ⟨g2,o2+k*3+2,none⟩=some (.slice yb d.blocks.length db)) (hk:(k:Int)<(n:Int)) (l1:p1<w.heap.size) (l2:p2<w.heap.size) (l3:g1<w.heap.size) (l4:g2<w.heap.size) (rp:Hid (RdS w (.slice xp d.params.length cp) d.params)) (sp:Hid (RdS w (.slice yp d.params.length dp) d.params)) (rx:Hid (RdE 2 RdBlk w (.slice xb d.blocks.length cb) d.blocks)) (ry:Hid (RdE 2 RdBlk w (.slice yb d.blocks.length db) d.blocks)) (hlp:Hid (d.params.length≤maxLen)) (hlim:Hid (∀x∈d.blocks,x.code.length≤100000000∧∀d∈x.code,d.args.length≤maxLen∧d.labels.length≤maxLen)) (hnm:Hid (d.blocks.length≤100000000)) (hPn:∀{x:List PanicEntry} {a a1:Act} {w:World},Q (.panic x) a w→a.defers=a1.defers→Q (.panic x) a1 w)
  (hQ:Hid (∀{wx:World} {v4 v6 v7 v8 v9 v10 v11 v12 v13 v28 v29 v30 v31 v32 v33 v34 v35 v36 v37 v38 v39 v40 v41 v42 v43 v44 v45 v46 v47 v48 v49 v50 v51 v52 v53 v54 v55 v56 v57 v58 v59 v60 v61 v62 v63 v64 v65 v66 v67 v68 v69 v70 v71 v72 v73 v74 v75 v76 v77 v78 v79 v80 v81 v82 v83 v84 v85 v86 v87 v88 v89 v90 v91 v92 v93 v94 v95 v96 v97 v98 v99 v100 v101 v102 v103 v104 v105 v106 v107 v108 v109 v110 v111 v112 v113 v114 v115 v116 v117 v118 v119 v120 v121 v122 v123 v124 v125 v126 v127 v128 v129 v130 v131 v132 v133 v134 v135 v136 v137 v138 v139 v140 v141 v142 v143 v144 v145 v146 v147 v148 v149 v150 v151 v152 v153 v154 v155 v156 v157 v158 v159 v160 v161 v162 v163:Value},Below w.heap.size w wx→Q .normal {tmps:=#[u0,u1,.pointer (some ⟨p1,0,none⟩),.pointer (some ⟨p2,0,none⟩),v4,.int .i64 k,v6,v7,v8,v9,v10,v11,v12,v13,u14,u15,u16,u17,u18,u19,u20,u21,u22,u23,u24,u25,u26,u27,v28,v29,v30,v31,v32,v33,v34,v35,v36,v37,v38,v39,v40,v41,v42,v43,v44,v45,v46,v47,v48,v49,v50,v51,v52,v53,v54,v55,v56,v57,v58,v59,v60,v61,v62,v63,v64,v65,v66,v67,v68,v69,v70,v71,v72,v73,v74,v75,v76,v77,v78,v79,v80,v81,v82,v83,v84,v85,v86,v87,v88,v89,v90,v91,v92,v93,v94,v95,v96,v97,v98,v99,v100,v101,v102,v103,v104,v105,v106,v107,v108,v109,v110,v111,v112,v113,v114,v115,v116,v117,v118,v119,v120,v121,v122,v123,v124,v125,v126,v127,v128,v129,v130,v131,v132,v133,v134,v135,v136,v137,v138,v139,v140,v141,v142,v143,v144,v145,v146,v147,v148,v149,v150,v151,v152,v153,v154,v155,v156,v157,v158,v159,v160,v161,v162,v163],defers:=[]} wx)):
  c.wp Tryd.prog Q {tmps:=#[u0,u1,.pointer (some ⟨p1,0,none⟩),.pointer (some ⟨p2,0,none⟩),u4,.int .i64 k,u6,u7,u8,u9,u10,u11,u12,u13,u14,u15,u16,u17,u18,u19,u20,u21,u22,u23,u24,u25,u26,u27,u28,u29,u30,u31,u32,u33,u34,u35,u36,u37,u38,u39,u40,u41,u42,u43,u44,u45,u46,u47,u48,u49,u50,u51,u52,u53,u54,u55,u56,u57,u58,u59,u60,u61,u62,u63,u64,u65,u66,u67,u68,u69,u70,u71,u72,u73,u74,u75,u76,u77,u78,u79,u80,u81,u82,u83,u84,u85,u86,u87,u88,u89,u90,u91,u92,u93,u94,u95,u96,u97,u98,u99,u100,u101,u102,u103,u104,u105,u106,u107,u108,u109,u110,u111,u112,u113,u114,u115,u116,u117,u118,u119,u120,u121,u122,u123,u124,u125,u126,u127,u128,u129,u130,u131,u132,u133,u134,u135,u136,u137,u138,u139,u140,u141,u142,u143,u144,u145,u146,u147,u148,u149,u150,u151,u152,u153,u154,u155,u156,u157,u158,u159,u160,u161,u162,u163],defers:=[]} w:=by
 conv at hc=>lhs;whnf
 simp only [Option.some.injEq] at hc
 subst hc
 go_upto_region 6 with fail
 have hS:w.cell? ⟨p1,0,none⟩=some (.slice (some ⟨g1,o1,none⟩) n c1)∧w.cell? ⟨p2,0,none⟩=some (.slice (some ⟨g2,o2,none⟩) n c2)∧w.cell? ⟨g1,o1+k*3,none⟩=some (.string d.name)∧w.cell? ⟨g1,o1+k*3+1,none⟩=some (.slice xp d.params.length cp)∧w.cell? ⟨g1,o1+k*3+2,none⟩=some (.slice xb d.blocks.length cb)∧w.cell? ⟨g2,o2+k*3,none⟩=some (.string d.name)∧w.cell? ⟨g2,o2+k*3+1,none⟩=some (.slice yp d.params.length dp)∧w.cell? ⟨g2,o2+k*3+2,none⟩=some (.slice yb d.blocks.length db):=⟨hp1,hp2,a0,a1,a2,b0,b1,b2⟩
 refine wp_region_noPanic ?_
 go_region_held3 (fun w'=>w'.cell? ⟨p1,0,none⟩=some (.slice (some ⟨g1,o1,none⟩) n c1)∧w'.cell? ⟨p2,0,none⟩=some (.slice (some ⟨g2,o2,none⟩) n c2)∧w'.cell? ⟨g1,o1+k*3,none⟩=some (.string d.name)∧w'.cell? ⟨g1,o1+k*3+1,none⟩=some (.slice xp d.params.length cp)∧w'.cell? ⟨g1,o1+k*3+2,none⟩=some (.slice xb d.blocks.length cb)∧w'.cell? ⟨g2,o2+k*3,none⟩=some (.string d.name)∧w'.cell? ⟨g2,o2+k*3+1,none⟩=some (.slice yp d.params.length dp)∧w'.cell? ⟨g2,o2+k*3+2,none⟩=some (.slice yb d.blocks.length db)) (simp [go_sem, *]) (go_simp)
 all_goals
  refine NoPanic.normal ?_
  rename_i hH
  clear hH hS hp1 hp2 hk a0 a1 a2 b0 b1 b2
  have hb0:∀a b:Array Value,Below w.heap.size w ((w.alloc (.cells a 43)).alloc (.cells b 43)):=fun a b=>((Below.refl _ _).alloc (Nat.le_refl _) _).alloc (by simp) _
  have hbe:∀a b:Array Value,Below w.heap.size w (((w.alloc (.cells a 43)).alloc (.cells b 43)).drew):=fun a b=>(hb0 a b).drew
  have q0:∀(A B:Obj) (m:Nat),(((w.alloc A).alloc B).drewN m).heap[w.heap.size]?=some A:=fun A B m=>keepB (below_drawn (Below.refl _ _) m) (at_oldP (at_newP rfl))
  have q1:∀(A B:Obj) (m:Nat),(((w.alloc A).alloc B).drewN m).heap[w.heap.size+1]?=some B:=fun A B m=>keepB (below_drawn (Below.refl _ _) m) (at_newP (by simp))
  replace hb0:=Lib.hid hb0
  replace hbe:=Lib.hid hbe
  replace q0:=Lib.hid q0
  replace q1:=Lib.hid q1
  go_wp2_with fail
  refine (textsR_any (Rd.below rp.out (hbe.out _ _)) (Rd.below sp.out (hbe.out _ _)) hlp.out).mono ?_
  rintro e w2 ⟨rfl,m,rfl⟩
  have d1:decide (d.params=d.params)=true:=decide_eq_true rfl
  have hbd:=Lib.hid (fun (a b:Array Value)=>below_drawn (hb0.out a b) (1+m))
  go_upto_block 2 with fail
  refine same2 (by kernel_rfl) (L:=d.blocks) (xc:=xb) (yc:=yb) (c1:=cb) (c2:=db) ?_ ?_ ?_ ?_ rfl (RdE.below (fun _ _ h=>h.below (hbd.out _ _)) rx.out (hbd.out _ _)) (RdE.below (fun _ _ h=>h.below (hbd.out _ _)) ry.out (hbd.out _ _)) hlim.out hnm.out (fun {_ _ _ _} h e=>hPn h e) (Lib.hid ?_)
  ·first | (rw [blk_cell (q0.out _ _ _)];rfl) | (rw [blk_cell (q1.out _ _ _)];rfl)
  ·first | (rw [blk_cell (q0.out _ _ _)];rfl) | (rw [blk_cell (q1.out _ _ _)];rfl)
  ·first | exact (Array.getElem?_eq_some_iff.1 (q0.out _ _ _)).1 | exact (Array.getElem?_eq_some_iff.1 (q1.out _ _ _)).1
  ·first | exact (Array.getElem?_eq_some_iff.1 (q0.out _ _ _)).1 | exact (Array.getElem?_eq_some_iff.1 (q1.out _ _ _)).1
  ·intros
   rename_i hx
   rename World=>w9
   have hx:=Lib.hid hx
   go_wp2_with fail
   exact hQ.out ((hbd.out _ _).trans (hx.out.mono (hbd.out _ _).size))
theorem fun_atS {w:World}{v:Value}{L:List Fun}{k:Nat}{d:Fun}(h:RdE 3 RdFun w v L)(hk:L[k]?=some d):∃g o cap xp cp xb cb,v=.slice (some ⟨g,o,none⟩) L.length cap∧g<w.heap.size∧w.cell? ⟨g,o+k*3,none⟩=some (.string d.name)∧w.cell? ⟨g,o+k*3+1,none⟩=some (.slice xp d.params.length cp)∧w.cell? ⟨g,o+k*3+2,none⟩=some (.slice xb d.blocks.length cb)∧RdS w (.slice xp d.params.length cp) d.params∧RdE 2 RdBlk w (.slice xb d.blocks.length cb) d.blocks:=by
 obtain⟨g,o,cap,cs,e,hg,⟨vp,vb,rfl,rp,rb⟩,-,hc⟩:=h.at hk
 obtain⟨xp,cp,rfl⟩:=rp.form
 obtain⟨xb,cb,rfl⟩:=rb.form
 rw [List.length_map] at rp hc
 exact⟨g,o,cap,xp,cp,xb,cb,e,hg,hc 0 _ rfl,hc 1 _ rfl,hc 2 _ rfl,rp,rb⟩
def FitP (P:List Fun):Prop:=P.length≤100000000∧∀d∈P,d.params.length≤maxLen∧d.blocks.length≤100000000∧∀x∈d.blocks,x.code.length≤100000000∧∀c∈x.code,c.args.length≤maxLen∧c.labels.length≤maxLen
set_option maxRecDepth 20000 in
set_option maxHeartbeats 4000000 in
theorem same_yes {w:World}{va vb:Value}{P:List Fun}(ha:RdE 3 RdFun w va P)(hb:RdE 3 RdFun w vb P)(hf:FitP P):Calls Tryd.prog 11 #[.agg #[va],.agg #[vb]] w fun e w'=>e=.returned (.bool true)∧Below w.heap.size w w':=by
 obtain⟨aa,ca,rfl⟩:=ha.form
 obtain⟨ab,cb,rfl⟩:=hb.form
 obtain⟨n,hn⟩:∃n,n=P.length:=⟨_,rfl⟩
 rw [←hn] at ha hb ⊢
 have hnl:n≤100000000:=by rw [hn];exact hf.1
 have hb0:Below w.heap.size w ((w.alloc (.cells #[.slice aa n ca] 24)).alloc (.cells #[.slice ab n cb] 24)):=((Below.refl _ _).alloc (Nat.le_refl _) _).alloc (by simp) _
 have rx:=Lib.hid (RdE.below (fun _ _ h=>h.below hb0) ha hb0)
 have ry:=Lib.hid (RdE.below (fun _ _ h=>h.below hb0) hb hb0)
 have q1:((w.alloc (.cells #[.slice aa n ca] 24)).alloc (.cells #[.slice ab n cb] 24)).cell? ⟨w.heap.size,0,none⟩=some (.slice aa n ca):=by rw [blk_cell (at_oldP (at_newP rfl))];rfl
 have q2:((w.alloc (.cells #[.slice aa n ca] 24)).alloc (.cells #[.slice ab n cb] 24)).cell? ⟨w.heap.size+1,0,none⟩=some (.slice ab n cb):=by rw [blk_cell (at_newP (by simp))];rfl
 have hz:((w.alloc (.cells #[.slice aa n ca] 24)).alloc (.cells #[.slice ab n cb] 24)).heap.size=w.heap.size+2:=by simp
 replace hb0:=Lib.hid hb0
 replace hn:=Lib.hid hn
 replace hf:=Lib.hid hf
 replace q1:=Lib.hid q1
 replace q2:=Lib.hid q2
 replace hz:=Lib.hid hz
 clear ha hb
 go_enter Tryd.func11,Tryd.ntmps11
 go_upto_block 0 with fail
 generalize ((w.alloc (.cells #[.slice aa n ca] 24)).alloc (.cells #[.slice ab n cb] 24))=w0 at rx ry q1 q2 hb0 hz ⊢
 obtain⟨p1,hp1⟩:∃p1,p1=w.heap.size:=⟨_,rfl⟩
 obtain⟨p2,hp2⟩:∃p2,p2=w.heap.size+1:=⟨_,rfl⟩
 rw [←hp2] at q2 ⊢
 rw [←hp1] at q1 ⊢
 have l1:p1<w0.heap.size:=by have:=hz.out;omega
 have l2:p2<w0.heap.size:=by have:=hz.out;omega
 clear hp1 hp2
 go_wp2_with fail
 go_loopw [5] (fun i wr=>∃k:Nat,k≤n∧i=.int .i64 k∧Hid (Below w0.heap.size w0 wr)) (fun i _=>n-(intOf i).toNat)
 case atStart=>exact⟨0,Nat.zero_le _,rfl,Lib.hid (Below.refl _ _)⟩
 case round=>
  obtain⟨k,hk,rfl,hb⟩:=hrel
  have z1:=(hb.out.cell (p:=⟨p1,0,none⟩) l1).trans q1.out
  have z2:=(hb.out.cell (p:=⟨p2,0,none⟩) l2).trans q2.out
  by_cases hlt:k<n
  ·have i1:(k:Int)<(n:Int):=by omega
   obtain⟨d,hd⟩:∃d,P[k]?=some d:=⟨_,List.getElem?_eq_getElem (by rw [←hn.out];exact hlt)⟩
   obtain⟨g1,o1,cap1,xp,cp,xb,cb1,e1,hg1,a0,a1,a2,rp,ra⟩:=fun_atS (RdE.below (fun _ _ h=>h.below hb.out) rx.out hb.out) hd
   obtain⟨g2,o2,cap2,yp,dp,yb,db1,e2,hg2,b0,b1,b2,sp,rb⟩:=fun_atS (RdE.below (fun _ _ h=>h.below hb.out) ry.out hb.out) hd
   rw [←hn.out] at e1 e2
   simp only [Value.slice.injEq] at e1 e2
   obtain⟨rfl,-,rfl⟩:=e1
   obtain⟨rfl,-,rfl⟩:=e2
   have hll:=Lib.hid (hf.out.2 d (List.mem_of_getElem? hd))
   replace hd:=Lib.hid hd
   go_upto_block 1 with fail
   refine same1 (by kernel_rfl) (w:=wr) (d:=d) z1 z2 a0 a1 a2 b0 b1 b2 i1 (Nat.lt_of_lt_of_le l1 hb.out.size) (Nat.lt_of_lt_of_le l2 hb.out.size) hg1 hg2 (Lib.hid rp) (Lib.hid sp) (Lib.hid ra) (Lib.hid rb) (Lib.hid hll.out.1) (Lib.hid hll.out.2.2) (Lib.hid hll.out.2.1) (fun {_ a a1 _} h e=>by cases a;cases a1;cases e;exact h) (Lib.hid ?_)
   intros
   rename_i hx
   rename World=>w9
   have hx:=Lib.hid hx
   clear a0 a1 a2 b0 b1 b2
   go_wp2_with fail
   exact⟨⟨k+1,by omega,by go_num,Lib.hid (hb.out.trans (hx.out.mono hb.out.size))⟩,by simp [intOf];omega⟩
  ·have i1:decide ((k:Int)<(n:Int))=false:=by simp;omega
   go_wp2_with fail
   go_ret
   exact⟨rfl,hb0.out.trans (hb.out.mono (by have:=hz.out;omega))⟩
end
section
def mI (x:Ins):Nat:=x.args.length+x.labels.length
def LmP (f:Ins→List Tok→Nat→Except Flt (Ins × List Tok)):Prop:=∀x l ln x' l',f x l ln=.ok (x',l')→mI x'+l'.length≤mI x+l.length
theorem list_m {α:Type}(m:α→Nat){one:α→List Tok→Nat→Except Flt (α × List Tok)}{c:UInt8}(hone:∀x l ln x' l',one x l ln=.ok (x',l')→m x'+l'.length≤m x+l.length):∀(n:Nat) (x:α) (l:List Tok) (ln:Nat) (x':α) (l':List Tok),listP one c n x l ln=.ok (x',l')→m x'+l'.length≤m x+l.length
 | 0,_,_,_,_,_,h=>by unfold listP at h;cases h
 | n+1,x,l,ln,x',l',h=>by
  unfold listP at h
  cases ho:one x l ln with
  | error f=>rw [ho] at h;cases h
  | ok r=>
   obtain⟨x1,l1⟩:=r
   rw [ho] at h
   have h1:=hone _ _ _ _ _ ho
   dsimp only at h
   by_cases hq:isB l1 ln c=true
   ·rw [if_pos hq] at h
    cases hs:signP c l1 ln with
    | error f=>rw [hs] at h;cases h
    | ok l2=>
     rw [hs] at h
     injection h with h
     injection h with e1 e2
     have:=sign_le hs
     subst e1
     subst e2
     omega
   ·rw [if_neg hq] at h
    cases hs:signP 44 l1 ln with
    | error f=>rw [hs] at h;cases h
    | ok l2=>
     rw [hs] at h
     have h2:=list_m m hone n x1 l2 ln x' l' h
     have:=sign_le hs
     omega
theorem oneName_m (x:List ByteArray)(l:List Tok)(ln:Nat)(x':List ByteArray)(l':List Tok)(h:oneName x l ln=.ok (x',l')):x'.length+l'.length≤x.length+l.length:=by
 unfold oneName at h
 cases hn:nameP l ln with
 | error e=>rw [hn] at h;cases h
 | ok r=>
  obtain⟨s,l1⟩:=r
  rw [hn] at h
  injection h with h
  injection h with h1 h2
  have:=name_le hn
  subst h1
  subst h2
  simp only [List.length_append,List.length_singleton]
  omega
theorem names_m {l l':List Tok}{ln:Nat}{ss:List ByteArray}(h:namesP l ln=.ok (ss,l')):ss.length+l'.length≤l.length:=by
 unfold namesP at h
 cases hs:signP 40 l ln with
 | error f=>rw [hs] at h;cases h
 | ok l1=>
  rw [hs] at h
  have e0:=sign_le hs
  dsimp only at h
  by_cases hq:isB l1 ln 41=true
  ·rw [if_pos hq] at h
   cases hs2:signP 41 l1 ln with
   | error f=>rw [hs2] at h;cases h
   | ok l2=>
    rw [hs2] at h
    injection h with h
    injection h with h1 h2
    have:=sign_le hs2
    subst h1
    subst h2
    simp only [List.length_nil]
    omega
  ·rw [if_neg hq] at h
   have:=list_m List.length oneName_m _ _ _ _ _ _ h
   simp only [List.length_nil] at this
   omega
theorem thenP_m {f g:Ins→List Tok→Nat→Except Flt (Ins × List Tok)}(hf:LmP f)(hg:LmP g):LmP (thenP f g):=by
 intro x l ln x' l' h
 unfold thenP at h
 cases h1:f x l ln with
 | error e=>rw [h1] at h;cases h
 | ok r=>
  obtain⟨x1,l1⟩:=r
  rw [h1] at h
  exact Nat.le_trans (hg _ _ _ _ _ h) (hf _ _ _ _ _ h1)
theorem skipP_m (c:UInt8):LmP (skipP c):=by
 intro x l ln x' l' h
 unfold skipP at h
 cases h1:signP c l ln with
 | error e=>rw [h1] at h;cases h
 | ok r=>
  rw [h1] at h
  injection h with h
  injection h with a1 a2
  have:=sign_le h1
  subst a1
  subst a2
  omega
theorem byName_m {f:Ins→List Tok→Nat→Except Flt (Ins × List Tok)}(put:Ins→ByteArray→Ins)(hp:∀x s,mI (put x s)≤mI x+1)(hf:∀x l ln,f x l ln=match nameP l ln with | .error e=>.error e | .ok (s,l)=>.ok (put x s,l)):LmP f:=by
 intro x l ln x' l' h
 rw [hf] at h
 cases h1:nameP l ln with
 | error e=>rw [h1] at h;cases h
 | ok r=>
  obtain⟨s,r⟩:=r
  rw [h1] at h
  injection h with h
  injection h with a1 a2
  have:=name_le h1
  have:=hp x s
  subst a1
  subst a2
  omega
theorem operandP_m:LmP operandP:=byName_m (fun x s=>{x with a:=s}) (fun _ _=>Nat.le_succ _) (fun _ _ _=>rfl)
theorem fnP_m:LmP fnP:=byName_m (fun x s=>{x with fn:=s}) (fun _ _=>Nat.le_succ _) (fun _ _ _=>rfl)
theorem valP_m:LmP valP:=byName_m (fun x s=>{x with b:=s}) (fun _ _=>Nat.le_succ _) (fun _ _ _=>rfl)
theorem labelP_m:LmP labelP:=byName_m (fun x s=>{x with labels:=x.labels++[s]}) (fun x _=>by simp [mI];omega) (fun _ _ _=>rfl)
theorem argP_m:LmP argP:=byName_m (fun x s=>{x with args:=x.args++[s]}) (fun x _=>by simp [mI];omega) (fun _ _ _=>rfl)
theorem fieldsP_m:LmP fieldsP:=by
 intro x l ln x' l' h
 unfold fieldsP at h
 cases h1:takeP 2 l ln with
 | error e=>rw [h1] at h;cases h
 | ok r=>
  obtain⟨t,r⟩:=r
  rw [h1] at h
  injection h with h
  injection h with a1 a2
  obtain⟨e,-⟩:=take_len h1
  subst a1
  subst a2
  rw [e]
  simp [mI]
theorem argsP_m:LmP argsP:=by
 intro x l ln x' l' h
 unfold argsP at h
 cases h1:namesP l ln with
 | error e=>rw [h1] at h;cases h
 | ok r=>
  obtain⟨ss,r⟩:=r
  rw [h1] at h
  injection h with h
  injection h with a1 a2
  have:=names_m h1
  subst a1
  subst a2
  simp only [mI]
  omega
theorem phiP_m:LmP phiP:=by
 intro x l ln x' l' h
 unfold phiP at h
 cases h1:signP 91 l ln with
 | error e=>rw [h1] at h;cases h
 | ok r=>
  rw [h1] at h
  have:=sign_le h1
  have h2:=list_m mI (thenP_m labelP_m (thenP_m (skipP_m 58) argP_m)) _ _ _ _ _ _ h
  omega
theorem rest_m (r:Rst):LmP (restP r):=by
 cases r with
 | fields=>exact fieldsP_m
 | nothing=>intro x l ln x' l' h;injection h with h;injection h with a1 a2;subst a1;subst a2;exact Nat.le_refl _
 | fn=>exact fnP_m
 | operand=>exact operandP_m
 | field=>exact thenP_m operandP_m fieldsP_m
 | phi=>exact phiP_m
 | call=>exact thenP_m fnP_m argsP_m
 | icall=>exact thenP_m operandP_m argsP_m
 | store=>exact thenP_m operandP_m (thenP_m (skipP_m 44) valP_m)
 | branch=>exact thenP_m labelP_m labelP_m
 | label=>exact labelP_m
 | result=>
  intro x l ln x' l' h
  have h:(if moreB l ln=true then operandP x l ln else .ok (x,l))=.ok (x',l'):=h
  by_cases hm:moreB l ln=true
  ·rw [if_pos hm] at h
   exact operandP_m _ _ _ _ _ h
  ·rw [if_neg hm] at h
   injection h with h
   injection h with a1 a2
   subst a1
   subst a2
   exact Nat.le_refl _
theorem instr_m {how:Int × Rst}{dst:ByteArray}{l l':List Tok}{ln:Nat}{x:Ins}(h:instrP how dst l ln=.ok (x,l')):mI x+l'.length≤l.length:=by
 have:=rest_m _ _ _ _ _ _ h
 simpa [mI,insOf] using this
def szC (c:List Ins):Nat:=(c.map fun x=>1+mI x).sum
def szB (bs:List Blk):Nat:=(bs.map fun (b:Blk)=>1+szC b.code).sum
def szF (d:Fun):Nat:=d.params.length+szB d.blocks
def szP (P:List Fun):Nat:=(P.map fun (d:Fun)=>1+szF d).sum
theorem addCode_m (x:Ins):∀bs:List Blk,szB (addCode bs x)≤szB bs+(1+mI x)
 | []=>by simp [addCode,szB]
 | [b]=>by simp [addCode,szB,szC];omega
 | b::b2::bs=>by
  have:=addCode_m x (b2::bs)
  simp only [addCode,szB,List.map_cons,List.sum_cons] at this ⊢
  omega
theorem inside_m {l l':List Tok}{ln:Nat}{d d':Fun}(h:insideP d l ln=.ok (d',l')):szF d'+l'.length≤szF d+l.length:=by
 have hA:∀x,szF (addI d x)≤szF d+(1+mI x):=fun x=>by
  have:=addCode_m x d.blocks
  unfold szF addI
  dsimp only
  omega
 unfold insideP at h
 cases hn:nameP l ln with
 | error f=>rw [hn] at h;cases h
 | ok r=>
  obtain⟨s,l1⟩:=r
  rw [hn] at h
  dsimp only at h
  have e1:=name_le hn
  by_cases hc:(d.blocks.isEmpty || isB l1 ln 58)=true
  ·rw [if_pos hc] at h
   cases hs:signP 58 l1 ln with
   | error f=>rw [hs] at h;cases h
   | ok l2=>
    rw [hs] at h
    injection h with h
    injection h with a1 a2
    have e2:=sign_le hs
    subst a1
    subst a2
    have:szF (addB d s)=szF d+1:=by simp [szF,addB,szB,szC];omega
    omega
  ·rw [if_neg hc] at h
   cases hf:(if isB l1 ln 61=true then none else bareF s.data.toList) with
   | some how=>
    rw [hf] at h
    dsimp only at h
    cases hi:instrP how ⟨#[]⟩ l1 ln with
    | error f=>rw [hi] at h;cases h
    | ok r=>
     obtain⟨x,l2⟩:=r
     rw [hi] at h
     injection h with h
     injection h with a1 a2
     have e2:=instr_m hi
     subst a1
     subst a2
     have:=hA x
     omega
   | none=>
    rw [hf] at h
    dsimp only at h
    cases hs:signP 61 l1 ln with
    | error f=>rw [hs] at h;cases h
    | ok l2=>
     rw [hs] at h
     dsimp only at h
     have e2:=sign_le hs
     cases hv:valueF (headT l2) with
     | none=>rw [hv] at h;cases h
     | some how=>
      rw [hv] at h
      dsimp only at h
      cases hn2:nameP l2 ln with
      | error f=>rw [hn2] at h;cases h
      | ok r=>
       obtain⟨s2,l3⟩:=r
       rw [hn2] at h
       dsimp only at h
       have e3:=name_le hn2
       cases hi:instrP how s l3 ln with
       | error f=>rw [hi] at h;cases h
       | ok r=>
        obtain⟨x,l4⟩:=r
        rw [hi] at h
        injection h with h
        injection h with a1 a2
        have e4:=instr_m hi
        subst a1
        subst a2
        have:=hA x
        omega
theorem body_m:∀(n:Nat) {d d':Fun} {l l':List Tok} {ln ln':Nat},bodyP n d l ln=.ok (d',l',ln')→szF d'+l'.length≤szF d+l.length
 | 0,_,_,_,_,_,_,h=>by unfold bodyP at h;cases h
 | n+1,d,d',l,l',ln,ln',h=>by
  unfold bodyP at h
  split at h
  ·cases hs:signP 125 l ln with
   | error e=>rw [hs] at h;cases h
   | ok l1=>
    rw [hs] at h
    injection h with h;injection h with h1 h;injection h with h2 h
    subst h1
    subst h2
    have:=sign_le hs
    omega
  ·cases hi:insideP d l ln with
   | error e=>rw [hi] at h;cases h
   | ok r=>
    obtain⟨d1,l1⟩:=r
    rw [hi] at h
    dsimp only at h
    cases hb:beginP l1 ln with
    | error e=>rw [hb] at h;cases h
    | ok ln1=>
     rw [hb] at h
     dsimp only at h
     have h1:=body_m n h
     have h2:=inside_m hi
     omega
theorem func_m {l l':List Tok}{d:Fun}{ln ln':Nat}(h:funcP l ln=.ok (d,l',ln')):1+szF d+l'.length≤l.length:=by
 unfold funcP at h
 split at h
 ·cases h1:nameP l ln with
  | error e=>rw [h1] at h;cases h
  | ok r=>
   obtain⟨s1,l1⟩:=r
   rw [h1] at h
   dsimp only at h
   cases h2:nameP l1 ln with
   | error e=>rw [h2] at h;cases h
   | ok r=>
    obtain⟨s2,l2⟩:=r
    rw [h2] at h
    dsimp only at h
    cases h3:namesP l2 ln with
    | error e=>rw [h3] at h;cases h
    | ok r=>
     obtain⟨ps,l3⟩:=r
     rw [h3] at h
     dsimp only at h
     cases h4:signP 123 l3 ln with
     | error e=>rw [h4] at h;cases h
     | ok l4=>
      rw [h4] at h
      dsimp only at h
      cases h5:beginP l4 ln with
      | error e=>rw [h5] at h;cases h
      | ok ln5=>
       rw [h5] at h
       dsimp only at h
       have e1:=name_le h1
       have e2:=name_le h2
       have e3:=names_m h3
       have e4:=sign_le h4
       have e5:=body_m _ h
       have e6:szF ⟨s2,ps,[]⟩=ps.length:=by simp [szF,szB]
       omega
 ·cases h
theorem prog_m:∀(n:Nat) {acc P:List Fun} {l:List Tok} {ln:Nat},progP n acc l ln=.ok P→szP P≤szP acc+l.length
 | 0,_,_,_,_,h=>by unfold progP at h;cases h
 | n+1,acc,P,l,ln,h=>by
  unfold progP at h
  split at h
  ·injection h with h
   subst h
   omega
  ·cases hf:funcP l ln with
   | error e=>rw [hf] at h;cases h
   | ok r=>
    obtain⟨d,l1,ln1⟩:=r
    rw [hf] at h
    dsimp only at h
    cases hb:beginP l1 ln1 with
    | error e=>rw [hb] at h;cases h
    | ok ln2=>
     rw [hb] at h
     dsimp only at h
     have h1:=prog_m n h
     have h2:=func_m hf
     have h3:szP (acc++[d])=szP acc+(1+szF d):=by simp [szP]
     omega
theorem le_sumS {α:Type}(m:α→Nat):∀(l:List α) (x:α),x∈l→m x≤(l.map m).sum
 | y::l,x,h=>by
  rw [List.map_cons,List.sum_cons]
  rcases List.mem_cons.1 h with rfl | h
  ·omega
  ·have:=le_sumS m l x h
   omega
theorem len_sumS {α:Type}(m:α→Nat)(hm:∀x,1≤m x):∀(l:List α),l.length≤(l.map m).sum
 | []=>Nat.le_refl _
 | y::l=>by
  rw [List.map_cons,List.sum_cons,List.length_cons]
  have:=len_sumS m hm l
  have:=hm y
  omega
theorem parse_fit {s:List UInt8}{P:List Fun}(h:parseL s=.ok P)(hs:s.length≤1048576):FitP P∧szP P≤1048577:=by
 unfold parseL at h
 cases hl:lex s 1 1 with
 | error e=>rw [hl] at h;cases h
 | ok T=>
  rw [hl] at h
  dsimp only at h
  have hT:=(lexN_ok _ _ _ _ _ hl).1
  unfold parseT at h
  cases hb:beginP T 0 with
  | error e=>rw [hb] at h;cases h
  | ok ln=>
   rw [hb] at h
   dsimp only at h
   have h1:=prog_m _ h
   have h0:szP []=0:=rfl
   have hsz:szP P≤1048577:=by omega
   refine⟨⟨?_,fun d hd=>?_⟩,hsz⟩
   ·have:=len_sumS (fun (d:Fun)=>1+szF d) (fun _=>by omega) P
    unfold szP at hsz
    omega
   ·have e1:1+szF d≤szP P:=le_sumS (fun (d:Fun)=>1+szF d) P d hd
    have e2:d.blocks.length≤szB d.blocks:=len_sumS (fun (b:Blk)=>1+szC b.code) (fun _=>by omega) d.blocks
    have e0:szF d=d.params.length+szB d.blocks:=rfl
    refine⟨by unfold Go.maxLen;omega,by omega,fun x hx=>?_⟩
    have e3:1+szC x.code≤szB d.blocks:=le_sumS (fun (b:Blk)=>1+szC b.code) d.blocks x hx
    have e4:x.code.length≤szC x.code:=len_sumS (fun (c:Ins)=>1+mI c) (fun _=>by omega) x.code
    refine⟨by omega,fun c hc=>?_⟩
    have e5:1+mI c≤szC x.code:=le_sumS (fun (c:Ins)=>1+mI c) x.code c hc
    have e6:mI c=c.args.length+c.labels.length:=rfl
    exact⟨by unfold Go.maxLen;omega,by unfold Go.maxLen;omega⟩
end
section
def downT (k:Nat)(t:Tok):Tok:={t with line:=t.line+k}
end
end Go.Proofs.YtgcanabckogmmaaDoor
