/- names: NamesOnce: params, instructions. -/
import Derived.Test.YtjblhiekccjdcaaRNOne3
namespace Go.Proofs.YtjblhiekccjdcaaR
open Go.RowKit Go.Maps Go.Shelf
attribute [local go_sem] Oper.semAt_some

set_option maxRecDepth 20000 in
set_option maxHeartbeats 8000000 in
theorem once7f {c : Code} (hc : Func.blockOf Try.f4 7 = some c) {Q : Exit → Act → World → Prop} {w : World} {Sd S0 g off k : Nat} {P : List Fun} {d : Fun} {y : Ins} {ap ab a0 aa al : Option Addr} {np cp nb cb p0 c0 nc cc na ca nl cl : Nat} {u0 u2 u3 u4 u5 u6 u7 u8 u9 u10 u12 u15 u16 u17 u18 u19 u20 u21 u22 u23 u24 u25 u26 u27 u28 u29 u30 u31 u32 u33 u34 u35 u36 u37 u38 u39 u40 u41 u42 u43 u44 u45 u46 u47 u48 u49 u50 u51 u52 u53 u54 u55 u56 u57 u58 u59 u60 u61 u62 u63 u64 u65 u66 u67 u68 u69 u70 u71 u72 u73 u74 u75 u76 u77 u78 u79 u80 u81 u82 u83 u84 u85 u86 u87 u88 u89 u90 u91 u92 u93 u94 u95 u96 u97 u98 u99 u100 u101 u102 u103 u104 u105 u106 u107 u108 u109 u110 u111 u112 u113 u114 u115 u116 u117 u118 u119 u120 u121 u122 u123 u124 u125 u126 u127 u128 u129 u130 u131 u132 u133 u134 u135 u136 u137 u138 u139 u140 u141 u142 u143 u144 u145 u146 u147 u148 u149 u150 u151 u152 u153 u154 u155 u156 u157 u158 u159 u160 u161 u162 u163 u164 u165 u166 u167 u168 u169 u170 u171 u172 u173 u174 u175 u176 u177 u178 u179 u180 u181 u182 u183 u184 u185 u186 u187 u188 u189 u190 u191 u192 u193 u194 u195 u196 u197 u198 u199 u200 u201 u202 u203 u204 u205 u206 u207 u208 u209 u210 u211 u212 u213 u214 u215 u216 u217 u218 u219 u220 u221 u222 u223 u224 u225 u226 u227 u228 u229 u230 u231 u232 u233 u234 u235 u236 u237 u238 u239 u240 u241 u242 u243 u244 u245 u246 u247 u248 u249 u250 u251 u252 u253 u254 u255 u256 u257 u258 u259 u260 u261 u262 u263 : Value}
    (hf : FBx w Sd d ap np cp ab nb cb) (hp : PBx w S0 P a0 p0 c0) (hL : LightP P) (hd : LightF d) (hPn : ∀ {x} {a a1 : Act} {w1 : World}, Q (.panic x) a w1 → a.defers = a1.defers → Q (.panic x) a1 w1) (hk : k < nc) (hnc2 : nc ≤ 200) (hcv : ∀ (j : Nat) (v : Value), #[.int .u8 y.op, .string y.dst, .string y.a, .string y.b, .int .i64 y.n, .string y.fn, .slice aa na ca, .slice al nl cl][j]? = some v → w.cell? ⟨g, off + k * 8 + j, none⟩ = some v) (ra : RdS w (.slice aa na ca) y.args) (rl : RdS w (.slice al nl cl) y.labels) (hlI1 : LightI y) (hUa : okU d y.a) (hUb : okU d y.b) (hUs : ∀ s ∈ y.args, okU d s ∧ s.toList.isEmpty = false) (hUl : ∀ s ∈ y.labels, lblC d s = 1) (hcl : (y.op = 10 ∨ y.op = 4 → nameN P y.fn = 1) ∧ (y.op = 10 → lastN P y.fn = y.args.length)) (hod1 : y.dst.toList.isEmpty = false → defN d y.dst = 1) (hen : endsB y.op = decide (k + 1 = nc)) (ho : y.op = 10)
    (hQ : Hid (∀ {wx : World} {v2 v15 v16 v17 v18 v128 v129 v130 v131 v132 v133 v134 v135 v136 v137 v138 v139 v140 v141 v142 v143 v144 v145 v146 v147 v148 v149 v150 v151 v152 v153 v154 v155 v156 v157 v158 v159 v160 v161 v162 v163 v164 v165 v166 v167 v168 v169 v170 v171 v172 v173 v174 v175 v176 v177 v178 v179 v180 v181 v182 v183 v184 v185 v186 v187 v188 v189 v190 v191 v192 v193 v194 v195 v196 v197 v198 v199 v200 v201 v202 v203 v204 v205 v206 v207 v208 v209 v210 v211 v212 v213 v214 v215 v216 v217 v218 v219 v220 v221 v222 v223 v224 v225 v226 v227 v228 v229 v230 v231 v232 v233 v234 v235 v236 v237 v238 v239 v240 v241 v242 v243 : Value}, Below w.heap.size w wx → Q .normal { tmps := #[u0, .pointer (some ⟨S0, 0, none⟩), v2, u3, u4, u5, u6, u7, u8, u9, u10, .pointer (some ⟨Sd, 0, none⟩), u12, .slice (some ⟨g, off, none⟩) nc cc, .int .i64 k, v15, v16, v17, v18, u19, u20, u21, u22, u23, u24, u25, u26, u27, u28, u29, u30, u31, u32, u33, u34, u35, u36, u37, u38, u39, u40, u41, u42, u43, u44, u45, u46, u47, u48, u49, u50, u51, u52, u53, u54, u55, u56, u57, u58, u59, u60, u61, u62, u63, u64, u65, u66, u67, u68, u69, u70, u71, u72, u73, u74, u75, u76, u77, u78, u79, u80, u81, u82, u83, u84, u85, u86, u87, u88, u89, u90, u91, u92, u93, u94, u95, u96, u97, u98, u99, u100, u101, u102, u103, u104, u105, u106, u107, u108, u109, u110, u111, u112, u113, u114, u115, u116, u117, u118, u119, u120, u121, u122, u123, u124, u125, u126, u127, v128, v129, v130, v131, v132, v133, v134, v135, v136, v137, v138, v139, v140, v141, v142, v143, v144, v145, v146, v147, v148, v149, v150, v151, v152, v153, v154, v155, v156, v157, v158, v159, v160, v161, v162, v163, v164, v165, v166, v167, v168, v169, v170, v171, v172, v173, v174, v175, v176, v177, v178, v179, v180, v181, v182, v183, v184, v185, v186, v187, v188, v189, v190, v191, v192, v193, v194, v195, v196, v197, v198, v199, v200, v201, v202, v203, v204, v205, v206, v207, v208, v209, v210, v211, v212, v213, v214, v215, v216, v217, v218, v219, v220, v221, v222, v223, v224, v225, v226, v227, v228, v229, v230, v231, v232, v233, v234, v235, v236, v237, v238, v239, v240, v241, v242, v243, u244, u245, u246, u247, u248, u249, u250, u251, u252, u253, u254, u255, u256, u257, u258, u259, u260, u261, u262, u263], defers := [] } wx)) :
    c.wp Try.prog Q { tmps := #[u0, .pointer (some ⟨S0, 0, none⟩), u2, u3, u4, u5, u6, u7, u8, u9, u10, .pointer (some ⟨Sd, 0, none⟩), u12, .slice (some ⟨g, off, none⟩) nc cc, .int .i64 k, u15, u16, u17, u18, u19, u20, u21, u22, u23, u24, u25, u26, u27, u28, u29, u30, u31, u32, u33, u34, u35, u36, u37, u38, u39, u40, u41, u42, u43, u44, u45, u46, u47, u48, u49, u50, u51, u52, u53, u54, u55, u56, u57, u58, u59, u60, u61, u62, u63, u64, u65, u66, u67, u68, u69, u70, u71, u72, u73, u74, u75, u76, u77, u78, u79, u80, u81, u82, u83, u84, u85, u86, u87, u88, u89, u90, u91, u92, u93, u94, u95, u96, u97, u98, u99, u100, u101, u102, u103, u104, u105, u106, u107, u108, u109, u110, u111, u112, u113, u114, u115, u116, u117, u118, u119, u120, u121, u122, u123, u124, u125, u126, u127, u128, u129, u130, u131, u132, u133, u134, u135, u136, u137, u138, u139, u140, u141, u142, u143, u144, u145, u146, u147, u148, u149, u150, u151, u152, u153, u154, u155, u156, u157, u158, u159, u160, u161, u162, u163, u164, u165, u166, u167, u168, u169, u170, u171, u172, u173, u174, u175, u176, u177, u178, u179, u180, u181, u182, u183, u184, u185, u186, u187, u188, u189, u190, u191, u192, u193, u194, u195, u196, u197, u198, u199, u200, u201, u202, u203, u204, u205, u206, u207, u208, u209, u210, u211, u212, u213, u214, u215, u216, u217, u218, u219, u220, u221, u222, u223, u224, u225, u226, u227, u228, u229, u230, u231, u232, u233, u234, u235, u236, u237, u238, u239, u240, u241, u242, u243, u244, u245, u246, u247, u248, u249, u250, u251, u252, u253, u254, u255, u256, u257, u258, u259, u260, u261, u262, u263], defers := [] } w := by
  conv at hc => lhs; whnf
  simp only [Option.some.injEq] at hc
  subst hc
  have j2 : (k : Int) < (nc : Int) := by omega
  have hna : na = y.args.length := by obtain ⟨a, q, e⟩ := RdS.shape ra; simp only [Value.slice.injEq] at e; exact e.2.1
  have hnl : nl = y.labels.length := by obtain ⟨a, q, e⟩ := RdS.shape rl; simp only [Value.slice.injEq] at e; exact e.2.1
  have i0 : w.cell? ⟨g, off + k * 8, none⟩ = some (.int .u8 y.op) := hcv 0 _ rfl
  have i1 : w.cell? ⟨g, off + k * 8 + 1, none⟩ = some (.string y.dst) := hcv 1 _ rfl
  have i2 : w.cell? ⟨g, off + k * 8 + 2, none⟩ = some (.string y.a) := hcv 2 _ rfl
  have i3 : w.cell? ⟨g, off + k * 8 + 3, none⟩ = some (.string y.b) := hcv 3 _ rfl
  have i4 : w.cell? ⟨g, off + k * 8 + 4, none⟩ = some (.int .i64 y.n) := hcv 4 _ rfl
  have i5 : w.cell? ⟨g, off + k * 8 + 5, none⟩ = some (.string y.fn) := hcv 5 _ rfl
  have i6 : w.cell? ⟨g, off + k * 8 + 6, none⟩ = some (.slice aa na ca) := hcv 6 _ rfl
  have i7 : w.cell? ⟨g, off + k * 8 + 7, none⟩ = some (.slice al nl cl) := hcv 7 _ rfl
  have hna1 : Hid (y.args.length ≤ 1000000) := Lib.hid (by have := hlI1.1; omega)
  have hnl1 : Hid (y.labels.length ≤ 1000000) := Lib.hid (by have := hlI1.2; omega)
  have hna20 : na ≤ 20 := by rw [hna]; exact hlI1.1
  replace hUa := Lib.hid hUa
  replace hUb := Lib.hid hUb
  replace hUs := Lib.hid hUs
  replace hUl := Lib.hid hUl
  replace hcl := Lib.hid hcl
  replace hd := Lib.hid hd
  replace hL := Lib.hid hL
  have hbx0 : Below w.heap.size w (w.alloc (.cells #[.int .u8 y.op, .string y.dst, .string y.a, .string y.b, .int .i64 y.n, .string y.fn, .slice aa na ca, .slice al nl cl] 47)) := box_below _ _
  have hF0 : (w.alloc (.cells #[.int .u8 y.op, .string y.dst, .string y.a, .string y.b, .int .i64 y.n, .string y.fn, .slice aa na ca, .slice al nl cl] 47)).heap[w.heap.size]? = some (.cells #[.int .u8 y.op, .string y.dst, .string y.a, .string y.b, .int .i64 y.n, .string y.fn, .slice aa na ca, .slice al nl cl] 47 (0, 0)) := heap_alloc_new _ _
  replace ra := Lib.hid (Rd.below ra hbx0)
  replace rl := Lib.hid (Rd.below rl hbx0)
  have hbx := Lib.hid hbx0
  replace hna := Lib.hid hna
  replace hnl := Lib.hid hnl
  replace hf := Lib.hid hf
  replace hp := Lib.hid hp
  replace ho := Lib.hid ho
  clear hcv hlI1 hbx0
  go_upto_region 34 with fail
  generalize (w.alloc (.cells #[.int .u8 y.op, .string y.dst, .string y.a, .string y.b, .int .i64 y.n, .string y.fn, .slice aa na ca, .slice al nl cl] 47)) = w1 at hbx hF0 ra rl ⊢
  obtain ⟨Sx, hSx⟩ : ∃ Sx, Sx = w.heap.size := ⟨_, rfl⟩
  rw [← hSx] at hF0 ⊢
  have hX1 : XBx w1 Sx y aa na ca al nl cl := ⟨by rw [blk_cell hF0]; rfl, by rw [blk_cell hF0]; rfl, by rw [blk_cell hF0]; rfl, by rw [blk_cell hF0]; rfl, by rw [blk_cell hF0]; rfl, by rw [blk_cell hF0]; rfl, by rw [blk_cell hF0]; rfl, ra.out, rl.out⟩
  have hfk := Lib.hid (fun w' (hb : Below w1.heap.size w1 w') => ((hf.out.keep hbx.out).keep hb))
  have hpk := Lib.hid (fun w' (hb : Below w1.heap.size w1 w') => ((hp.out.keep hbx.out).keep hb))
  have hxk := Lib.hid (fun w' (hb : Below w1.heap.size w1 w') => hX1.keep hb)
  have hbc : Hid (Below w1.heap.size w1 w1) := Lib.hid (Below.refl _ _)
  obtain ⟨f0, f1, f2, -, -⟩ := hfk.out _ hbc.out
  obtain ⟨x0, x1, x2, x3, x5, x6, x7, -, -⟩ := hxk.out _ hbc.out
  obtain ⟨s0, -⟩ := hpk.out _ hbc.out
  replace hSx := Lib.hid hSx
  replace ho := ho.out
  clear hX1 hF0 ra rl i0 i1 i2 i3 i4 i5 i6 i7
  cases hde : y.dst.toList.isEmpty with
  | true =>
    have hdf := Lib.hid trivial
    clear hod1
    have q12 : (y.op == 12) = false := by rw [beq_eq_false_iff_ne]; omega
    have q13 : (y.op == 13) = false := by rw [beq_eq_false_iff_ne]; omega
    have q14 : (y.op == 14) = false := by rw [beq_eq_false_iff_ne]; omega
    have q10 : (y.op == 10) = true := by rw [beq_iff_eq]; omega
    have q4 : (y.op == 4) = false := by rw [beq_eq_false_iff_ne]; omega
    have hee : endsB y.op = false := by unfold endsB; rw [q12, q13, q14]; rfl
    rw [hee] at hen
    have e150 : ((k : Int) == (nc : Int) - 1) = false := by rw [beq_eq_false_iff_ne]; have := of_decide_eq_false hen.symm; omega
    replace hen := Lib.hid hen
    clear hee
    have hnm1 := Lib.hid (hcl.out.1 (.inl (by simpa using q10)))
    go_upto_block 8 with (first
      | (go_at_call 15; with_reducible refine Calls.mono ((hfk.out _ hbc.out).defs hd.out hdf.out) ?_; rintro e w2 ⟨rfl, hb2⟩; replace hbc := Lib.hid (hbc.out.trans (hb2.mono hbc.out.size)); clear f0 f1 f2 x0 x1 x2 x3 x5 x6 x7 s0; obtain ⟨f0, f1, f2, -, -⟩ := hfk.out _ hbc.out; obtain ⟨x0, x1, x2, x3, x5, x6, x7, -, -⟩ := hxk.out _ hbc.out; obtain ⟨s0, -⟩ := hpk.out _ hbc.out)
      | (go_at_call 16; with_reducible refine Calls.mono ((hfk.out _ hbc.out).used hd.out hUa.out) ?_; rintro e w2 ⟨rfl, hb2⟩; replace hbc := Lib.hid (hbc.out.trans (hb2.mono hbc.out.size)); clear f0 f1 f2 x0 x1 x2 x3 x5 x6 x7 s0; obtain ⟨f0, f1, f2, -, -⟩ := hfk.out _ hbc.out; obtain ⟨x0, x1, x2, x3, x5, x6, x7, -, -⟩ := hxk.out _ hbc.out; obtain ⟨s0, -⟩ := hpk.out _ hbc.out)
      | (go_at_call 16; with_reducible refine Calls.mono ((hfk.out _ hbc.out).used hd.out hUb.out) ?_; rintro e w2 ⟨rfl, hb2⟩; replace hbc := Lib.hid (hbc.out.trans (hb2.mono hbc.out.size)); clear f0 f1 f2 x0 x1 x2 x3 x5 x6 x7 s0; obtain ⟨f0, f1, f2, -, -⟩ := hfk.out _ hbc.out; obtain ⟨x0, x1, x2, x3, x5, x6, x7, -, -⟩ := hxk.out _ hbc.out; obtain ⟨s0, -⟩ := hpk.out _ hbc.out)
      | (go_at_call 13; with_reducible refine Calls.mono ((hpk.out _ hbc.out).funcs hL.out hnm1.out) ?_; rintro e w2 ⟨rfl, hb2⟩; replace hbc := Lib.hid (hbc.out.trans (hb2.mono hbc.out.size)); clear f0 f1 f2 x0 x1 x2 x3 x5 x6 x7 s0; obtain ⟨f0, f1, f2, -, -⟩ := hfk.out _ hbc.out; obtain ⟨x0, x1, x2, x3, x5, x6, x7, -, -⟩ := hxk.out _ hbc.out; obtain ⟨s0, -⟩ := hpk.out _ hbc.out)
      | fail)
    refine once8 (by kernel_rfl) (hfk.out _ hbc.out) (hxk.out _ hbc.out) hd.out (fun h e => hPn h e) hUs.out hna1.out (Lib.hid ?_)
    intros
    rename_i hb2
    replace hbc := Lib.hid (hbc.out.trans (hb2.mono hbc.out.size)); clear f0 f1 f2 x0 x1 x2 x3 x5 x6 x7 s0; obtain ⟨f0, f1, f2, -, -⟩ := hfk.out _ hbc.out; obtain ⟨x0, x1, x2, x3, x5, x6, x7, -, -⟩ := hxk.out _ hbc.out; obtain ⟨s0, -⟩ := hpk.out _ hbc.out
    go_upto_block 10 with fail
    refine once10 (by kernel_rfl) (hfk.out _ hbc.out) (hxk.out _ hbc.out) hd.out (fun h e => hPn h e) hUl.out hnl1.out (Lib.hid ?_)
    intros
    rename_i hb2
    replace hbc := Lib.hid (hbc.out.trans (hb2.mono hbc.out.size)); clear f0 f1 f2 x0 x1 x2 x3 x5 x6 x7 s0; obtain ⟨f0, f1, f2, -, -⟩ := hfk.out _ hbc.out; obtain ⟨x0, x1, x2, x3, x5, x6, x7, -, -⟩ := hxk.out _ hbc.out; obtain ⟨s0, -⟩ := hpk.out _ hbc.out
    go_upto_region 49 with (first
      | (go_at_call 15; with_reducible refine Calls.mono ((hfk.out _ hbc.out).defs hd.out hdf.out) ?_; rintro e w2 ⟨rfl, hb2⟩; replace hbc := Lib.hid (hbc.out.trans (hb2.mono hbc.out.size)); clear f0 f1 f2 x0 x1 x2 x3 x5 x6 x7 s0; obtain ⟨f0, f1, f2, -, -⟩ := hfk.out _ hbc.out; obtain ⟨x0, x1, x2, x3, x5, x6, x7, -, -⟩ := hxk.out _ hbc.out; obtain ⟨s0, -⟩ := hpk.out _ hbc.out)
      | (go_at_call 16; with_reducible refine Calls.mono ((hfk.out _ hbc.out).used hd.out hUa.out) ?_; rintro e w2 ⟨rfl, hb2⟩; replace hbc := Lib.hid (hbc.out.trans (hb2.mono hbc.out.size)); clear f0 f1 f2 x0 x1 x2 x3 x5 x6 x7 s0; obtain ⟨f0, f1, f2, -, -⟩ := hfk.out _ hbc.out; obtain ⟨x0, x1, x2, x3, x5, x6, x7, -, -⟩ := hxk.out _ hbc.out; obtain ⟨s0, -⟩ := hpk.out _ hbc.out)
      | (go_at_call 16; with_reducible refine Calls.mono ((hfk.out _ hbc.out).used hd.out hUb.out) ?_; rintro e w2 ⟨rfl, hb2⟩; replace hbc := Lib.hid (hbc.out.trans (hb2.mono hbc.out.size)); clear f0 f1 f2 x0 x1 x2 x3 x5 x6 x7 s0; obtain ⟨f0, f1, f2, -, -⟩ := hfk.out _ hbc.out; obtain ⟨x0, x1, x2, x3, x5, x6, x7, -, -⟩ := hxk.out _ hbc.out; obtain ⟨s0, -⟩ := hpk.out _ hbc.out)
      | (go_at_call 13; with_reducible refine Calls.mono ((hpk.out _ hbc.out).funcs hL.out hnm1.out) ?_; rintro e w2 ⟨rfl, hb2⟩; replace hbc := Lib.hid (hbc.out.trans (hb2.mono hbc.out.size)); clear f0 f1 f2 x0 x1 x2 x3 x5 x6 x7 s0; obtain ⟨f0, f1, f2, -, -⟩ := hfk.out _ hbc.out; obtain ⟨x0, x1, x2, x3, x5, x6, x7, -, -⟩ := hxk.out _ hbc.out; obtain ⟨s0, -⟩ := hpk.out _ hbc.out)
      | fail)
    rename World => w8
    have hls := Lib.hid (show lastN P y.fn = (na : Int) from by rw [hcl.out.2 (by simpa using q10), hna.out])
    have hC : w8.drew.cell? ⟨Sx, 0, none⟩ = some (.int .u8 y.op) ∧ w8.drew.cell? ⟨Sx, 5, none⟩ = some (.string y.fn) ∧ w8.drew.cell? ⟨Sx, 6, none⟩ = some (.slice aa na ca) ∧ w8.drew.cell? ⟨S0, 0, none⟩ = some (.slice a0 p0 c0) := ⟨x0, x5, x6, s0⟩
    replace hbc := Lib.hid hbc.out.drew
    clear f0 f1 f2 x0 x1 x2 x3 x5 x6 x7 s0
    refine wp_region_held_drew (S := (fun w' => w'.cell? ⟨Sx, 0, none⟩ = some (.int .u8 y.op) ∧ w'.cell? ⟨Sx, 5, none⟩ = some (.string y.fn) ∧ w'.cell? ⟨Sx, 6, none⟩ = some (.slice aa na ca) ∧ w'.cell? ⟨S0, 0, none⟩ = some (.slice a0 p0 c0))) (by kernel_rfl) hC (fun hHeld => ?_)
    clear hHeld
    refine wpAnyH_take (i := 0) (oi := (Oper.mk (some 231) (Op.fieldAddr 47 (Operand.tmp 15) 0) 0 "outright.go:62" #[] none)) (v := ?_) rfl (by kernel_rfl) (by kernel_rfl) (by kernel_rfl) (fun _ _ _ h => hPn h rfl) (Or.inl ⟨by rfl, ?_⟩) hC ?_
    rotate_left
    · (intro w hSw; (try dsimp only at hSw); go_simp; try with_reducible rfl)
    try simp only [Act.put, List.setIfInBounds_toArray, List.set_cons_zero, List.set_cons_succ]
    refine wpAnyH_take (i := 1) (oi := (Oper.mk (some 232) (Op.load 45 (Operand.tmp 231)) 45 "outright.go:62" #[(Edge.mk 0 Ground.data)] none)) (v := ?_) rfl (by kernel_rfl) (by kernel_rfl) (by kernel_rfl) (fun _ _ _ h => hPn h rfl) (Or.inl ⟨by rfl, ?_⟩) hC ?_
    rotate_left
    · (intro w hSw; (try dsimp only at hSw); go_simp; try with_reducible rfl)
    try simp only [Act.put, List.setIfInBounds_toArray, List.set_cons_zero, List.set_cons_succ]
    refine wpAnyH_take (i := 2) (oi := (Oper.mk (some 233) (Op.binOp BinOp.eql 45 (Operand.tmp 232) (Operand.const (Value.int IntKind.u8 10)) 45) 4 "outright.go:62" #[(Edge.mk 1 Ground.data)] none)) (v := ?_) rfl (by kernel_rfl) (by kernel_rfl) (by kernel_rfl) (fun _ _ _ h => hPn h rfl) (Or.inl ⟨by rfl, ?_⟩) hC ?_
    rotate_left
    · (intro w hSw; (try dsimp only at hSw); go_simp; try with_reducible rfl)
    try simp only [Act.put, List.setIfInBounds_toArray, List.set_cons_zero, List.set_cons_succ]
    refine wpAnyH_take (i := 3) (oi := (Oper.mk (some 234) (Op.move (Operand.tmp 233)) 4 "outright.go:62" #[(Edge.mk 2 Ground.data)] none)) (v := ?_) rfl (by kernel_rfl) (by kernel_rfl) (by kernel_rfl) (fun _ _ _ h => hPn h rfl) (Or.inl ⟨by rfl, ?_⟩) hC ?_
    rotate_left
    · (intro w hSw; (try dsimp only at hSw); go_simp; try with_reducible rfl)
    try simp only [Act.put, List.setIfInBounds_toArray, List.set_cons_zero, List.set_cons_succ]
    refine wpAnyH_take (i := 4) (oi := (Oper.mk (some 235) (Op.fieldAddr 47 (Operand.tmp 15) 6) 0 "outright.go:62" #[(Edge.mk 3 Ground.guard)] (some (3, true)))) (v := ?_) rfl (by kernel_rfl) (by kernel_rfl) (by kernel_rfl) (fun _ _ _ h => hPn h rfl) (Or.inl ⟨by rfl, ?_⟩) hC ?_
    rotate_left
    · (intro w hSw; (try dsimp only at hSw); go_simp; try with_reducible rfl)
    try simp only [Act.put, List.setIfInBounds_toArray, List.set_cons_zero, List.set_cons_succ]
    refine wpAnyH_take (i := 5) (oi := (Oper.mk (some 236) (Op.load 36 (Operand.tmp 235)) 36 "outright.go:62" #[(Edge.mk 4 Ground.data), (Edge.mk 3 Ground.guard)] (some (3, true)))) (v := ?_) rfl (by kernel_rfl) (by kernel_rfl) (by kernel_rfl) (fun _ _ _ h => hPn h rfl) (Or.inl ⟨by rfl, ?_⟩) hC ?_
    rotate_left
    · (intro w hSw; (try dsimp only at hSw); go_simp; try with_reducible rfl)
    try simp only [Act.put, List.setIfInBounds_toArray, List.set_cons_zero, List.set_cons_succ]
    refine wpAnyH_take (i := 6) (oi := (Oper.mk (some 237) (Op.call (Call.mk (Callee.builtin Builtin.len) #[(Operand.tmp 236)] #[36])) 3 "outright.go:62" #[(Edge.mk 5 Ground.data), (Edge.mk 3 Ground.guard)] (some (3, true)))) (v := ?_) rfl (by kernel_rfl) (by kernel_rfl) (by kernel_rfl) (fun _ _ _ h => hPn h rfl) (Or.inl ⟨by rfl, ?_⟩) hC ?_
    rotate_left
    · (intro w hSw; (try dsimp only at hSw); go_simp; try with_reducible rfl)
    try simp only [Act.put, List.setIfInBounds_toArray, List.set_cons_zero, List.set_cons_succ]
    refine wpAnyH_take (i := 7) (oi := (Oper.mk (some 238) (Op.load 26 (Operand.tmp 1)) 26 "outright.go:62" #[(Edge.mk 3 Ground.guard)] (some (3, true)))) (v := ?_) rfl (by kernel_rfl) (by kernel_rfl) (by kernel_rfl) (fun _ _ _ h => hPn h rfl) (Or.inl ⟨by rfl, ?_⟩) hC ?_
    rotate_left
    · (intro w hSw; (try dsimp only at hSw); go_simp; try with_reducible rfl)
    try simp only [Act.put, List.setIfInBounds_toArray, List.set_cons_zero, List.set_cons_succ]
    refine wpAnyH_take (i := 8) (oi := (Oper.mk (some 239) (Op.fieldAddr 47 (Operand.tmp 15) 5) 0 "outright.go:62" #[(Edge.mk 3 Ground.guard)] (some (3, true)))) (v := ?_) rfl (by kernel_rfl) (by kernel_rfl) (by kernel_rfl) (fun _ _ _ h => hPn h rfl) (Or.inl ⟨by rfl, ?_⟩) hC ?_
    rotate_left
    · (intro w hSw; (try dsimp only at hSw); go_simp; try with_reducible rfl)
    try simp only [Act.put, List.setIfInBounds_toArray, List.set_cons_zero, List.set_cons_succ]
    refine wpAnyH_take (i := 9) (oi := (Oper.mk (some 240) (Op.load 9 (Operand.tmp 239)) 9 "outright.go:62" #[(Edge.mk 8 Ground.data), (Edge.mk 3 Ground.guard)] (some (3, true)))) (v := ?_) rfl (by kernel_rfl) (by kernel_rfl) (by kernel_rfl) (fun _ _ _ h => hPn h rfl) (Or.inl ⟨by rfl, ?_⟩) hC ?_
    rotate_left
    · (intro w hSw; (try dsimp only at hSw); go_simp; try with_reducible rfl)
    try simp only [Act.put, List.setIfInBounds_toArray, List.set_cons_zero, List.set_cons_succ]
    refine wpAnyH_ready (rs := [10]) (by kernel_rfl) (by simp) (AllReadyH.cons (o := (Oper.mk (some 241) (Op.call (Call.mk (Callee.value (Operand.func 17)) #[(Operand.tmp 238), (Operand.tmp 240)] #[26, 9])) 3 "outright.go:62" #[(Edge.mk 7 Ground.data), (Edge.mk 9 Ground.data), (Edge.mk 3 Ground.chain), (Edge.mk 3 Ground.guard)] (some (3, true)))) rfl (fun K hK => ?_) AllReadyH.nil)
    go_simp
    (go_at_call 17; with_reducible refine Calls.mono ((hpk.out _ hbc.out).params hL.out hls.out) ?_; rintro e w3 ⟨rfl, hb3⟩; replace hC : w3.cell? ⟨Sx, 0, none⟩ = some (.int .u8 y.op) ∧ w3.cell? ⟨Sx, 5, none⟩ = some (.string y.fn) ∧ w3.cell? ⟨Sx, 6, none⟩ = some (.slice aa na ca) ∧ w3.cell? ⟨S0, 0, none⟩ = some (.slice a0 p0 c0) := ⟨keepC hb3 hC.1, keepC hb3 hC.2.1, keepC hb3 hC.2.2.1, keepC hb3 hC.2.2.2⟩; replace hbc := Lib.hid (hbc.out.trans (hb3.mono hbc.out.size)))
    refine hK.out _ _ hC (fun hHeld => ?_)
    clear hK K hHeld
    try simp only [Act.put, List.setIfInBounds_toArray, List.set_cons_zero, List.set_cons_succ]
    refine wpAnyH_take (i := 11) (oi := (Oper.mk (some 242) (Op.binOp BinOp.neq 3 (Operand.tmp 237) (Operand.tmp 241) 3) 4 "outright.go:62" #[(Edge.mk 6 Ground.data), (Edge.mk 10 Ground.data), (Edge.mk 3 Ground.guard)] (some (3, true)))) (v := ?_) rfl (by kernel_rfl) (by kernel_rfl) (by kernel_rfl) (fun _ _ _ h => hPn h rfl) (Or.inl ⟨by rfl, ?_⟩) hC ?_
    rotate_left
    · (intro w hSw; (try dsimp only at hSw); go_simp; try with_reducible rfl)
    try simp only [Act.put, List.setIfInBounds_toArray, List.set_cons_zero, List.set_cons_succ]
    refine wpAnyH_take (i := 12) (oi := (Oper.mk (some 243) (Op.pick (Operand.tmp 234) (Operand.tmp 242) (Operand.const (Value.bool false))) 4 "outright.go:62" #[(Edge.mk 3 Ground.data), (Edge.mk 11 Ground.data)] none)) (v := ?_) rfl (by kernel_rfl) (by kernel_rfl) (by kernel_rfl) (fun _ _ _ h => hPn h rfl) (Or.inl ⟨by rfl, ?_⟩) hC ?_
    rotate_left
    · (intro w hSw; (try dsimp only at hSw); go_simp; try with_reducible rfl)
    try simp only [Act.put, List.setIfInBounds_toArray, List.set_cons_zero, List.set_cons_succ]
    refine wpAnyH_done (by kernel_rfl) ?_ _
    go_wp2_with fail
    exact hQ.out (hbx.out.trans (hbc.out.mono hbx.out.size))
  | false =>
    have hdf := Lib.hid (hod1 hde)
    clear hod1
    have q12 : (y.op == 12) = false := by rw [beq_eq_false_iff_ne]; omega
    have q13 : (y.op == 13) = false := by rw [beq_eq_false_iff_ne]; omega
    have q14 : (y.op == 14) = false := by rw [beq_eq_false_iff_ne]; omega
    have q10 : (y.op == 10) = true := by rw [beq_iff_eq]; omega
    have q4 : (y.op == 4) = false := by rw [beq_eq_false_iff_ne]; omega
    have hee : endsB y.op = false := by unfold endsB; rw [q12, q13, q14]; rfl
    rw [hee] at hen
    have e150 : ((k : Int) == (nc : Int) - 1) = false := by rw [beq_eq_false_iff_ne]; have := of_decide_eq_false hen.symm; omega
    replace hen := Lib.hid hen
    clear hee
    have hnm1 := Lib.hid (hcl.out.1 (.inl (by simpa using q10)))
    go_upto_block 8 with (first
      | (go_at_call 15; with_reducible refine Calls.mono ((hfk.out _ hbc.out).defs hd.out hdf.out) ?_; rintro e w2 ⟨rfl, hb2⟩; replace hbc := Lib.hid (hbc.out.trans (hb2.mono hbc.out.size)); clear f0 f1 f2 x0 x1 x2 x3 x5 x6 x7 s0; obtain ⟨f0, f1, f2, -, -⟩ := hfk.out _ hbc.out; obtain ⟨x0, x1, x2, x3, x5, x6, x7, -, -⟩ := hxk.out _ hbc.out; obtain ⟨s0, -⟩ := hpk.out _ hbc.out)
      | (go_at_call 16; with_reducible refine Calls.mono ((hfk.out _ hbc.out).used hd.out hUa.out) ?_; rintro e w2 ⟨rfl, hb2⟩; replace hbc := Lib.hid (hbc.out.trans (hb2.mono hbc.out.size)); clear f0 f1 f2 x0 x1 x2 x3 x5 x6 x7 s0; obtain ⟨f0, f1, f2, -, -⟩ := hfk.out _ hbc.out; obtain ⟨x0, x1, x2, x3, x5, x6, x7, -, -⟩ := hxk.out _ hbc.out; obtain ⟨s0, -⟩ := hpk.out _ hbc.out)
      | (go_at_call 16; with_reducible refine Calls.mono ((hfk.out _ hbc.out).used hd.out hUb.out) ?_; rintro e w2 ⟨rfl, hb2⟩; replace hbc := Lib.hid (hbc.out.trans (hb2.mono hbc.out.size)); clear f0 f1 f2 x0 x1 x2 x3 x5 x6 x7 s0; obtain ⟨f0, f1, f2, -, -⟩ := hfk.out _ hbc.out; obtain ⟨x0, x1, x2, x3, x5, x6, x7, -, -⟩ := hxk.out _ hbc.out; obtain ⟨s0, -⟩ := hpk.out _ hbc.out)
      | (go_at_call 13; with_reducible refine Calls.mono ((hpk.out _ hbc.out).funcs hL.out hnm1.out) ?_; rintro e w2 ⟨rfl, hb2⟩; replace hbc := Lib.hid (hbc.out.trans (hb2.mono hbc.out.size)); clear f0 f1 f2 x0 x1 x2 x3 x5 x6 x7 s0; obtain ⟨f0, f1, f2, -, -⟩ := hfk.out _ hbc.out; obtain ⟨x0, x1, x2, x3, x5, x6, x7, -, -⟩ := hxk.out _ hbc.out; obtain ⟨s0, -⟩ := hpk.out _ hbc.out)
      | fail)
    refine once8 (by kernel_rfl) (hfk.out _ hbc.out) (hxk.out _ hbc.out) hd.out (fun h e => hPn h e) hUs.out hna1.out (Lib.hid ?_)
    intros
    rename_i hb2
    replace hbc := Lib.hid (hbc.out.trans (hb2.mono hbc.out.size)); clear f0 f1 f2 x0 x1 x2 x3 x5 x6 x7 s0; obtain ⟨f0, f1, f2, -, -⟩ := hfk.out _ hbc.out; obtain ⟨x0, x1, x2, x3, x5, x6, x7, -, -⟩ := hxk.out _ hbc.out; obtain ⟨s0, -⟩ := hpk.out _ hbc.out
    go_upto_block 10 with fail
    refine once10 (by kernel_rfl) (hfk.out _ hbc.out) (hxk.out _ hbc.out) hd.out (fun h e => hPn h e) hUl.out hnl1.out (Lib.hid ?_)
    intros
    rename_i hb2
    replace hbc := Lib.hid (hbc.out.trans (hb2.mono hbc.out.size)); clear f0 f1 f2 x0 x1 x2 x3 x5 x6 x7 s0; obtain ⟨f0, f1, f2, -, -⟩ := hfk.out _ hbc.out; obtain ⟨x0, x1, x2, x3, x5, x6, x7, -, -⟩ := hxk.out _ hbc.out; obtain ⟨s0, -⟩ := hpk.out _ hbc.out
    go_upto_region 49 with (first
      | (go_at_call 15; with_reducible refine Calls.mono ((hfk.out _ hbc.out).defs hd.out hdf.out) ?_; rintro e w2 ⟨rfl, hb2⟩; replace hbc := Lib.hid (hbc.out.trans (hb2.mono hbc.out.size)); clear f0 f1 f2 x0 x1 x2 x3 x5 x6 x7 s0; obtain ⟨f0, f1, f2, -, -⟩ := hfk.out _ hbc.out; obtain ⟨x0, x1, x2, x3, x5, x6, x7, -, -⟩ := hxk.out _ hbc.out; obtain ⟨s0, -⟩ := hpk.out _ hbc.out)
      | (go_at_call 16; with_reducible refine Calls.mono ((hfk.out _ hbc.out).used hd.out hUa.out) ?_; rintro e w2 ⟨rfl, hb2⟩; replace hbc := Lib.hid (hbc.out.trans (hb2.mono hbc.out.size)); clear f0 f1 f2 x0 x1 x2 x3 x5 x6 x7 s0; obtain ⟨f0, f1, f2, -, -⟩ := hfk.out _ hbc.out; obtain ⟨x0, x1, x2, x3, x5, x6, x7, -, -⟩ := hxk.out _ hbc.out; obtain ⟨s0, -⟩ := hpk.out _ hbc.out)
      | (go_at_call 16; with_reducible refine Calls.mono ((hfk.out _ hbc.out).used hd.out hUb.out) ?_; rintro e w2 ⟨rfl, hb2⟩; replace hbc := Lib.hid (hbc.out.trans (hb2.mono hbc.out.size)); clear f0 f1 f2 x0 x1 x2 x3 x5 x6 x7 s0; obtain ⟨f0, f1, f2, -, -⟩ := hfk.out _ hbc.out; obtain ⟨x0, x1, x2, x3, x5, x6, x7, -, -⟩ := hxk.out _ hbc.out; obtain ⟨s0, -⟩ := hpk.out _ hbc.out)
      | (go_at_call 13; with_reducible refine Calls.mono ((hpk.out _ hbc.out).funcs hL.out hnm1.out) ?_; rintro e w2 ⟨rfl, hb2⟩; replace hbc := Lib.hid (hbc.out.trans (hb2.mono hbc.out.size)); clear f0 f1 f2 x0 x1 x2 x3 x5 x6 x7 s0; obtain ⟨f0, f1, f2, -, -⟩ := hfk.out _ hbc.out; obtain ⟨x0, x1, x2, x3, x5, x6, x7, -, -⟩ := hxk.out _ hbc.out; obtain ⟨s0, -⟩ := hpk.out _ hbc.out)
      | fail)
    rename World => w8
    have hls := Lib.hid (show lastN P y.fn = (na : Int) from by rw [hcl.out.2 (by simpa using q10), hna.out])
    have hC : w8.drew.cell? ⟨Sx, 0, none⟩ = some (.int .u8 y.op) ∧ w8.drew.cell? ⟨Sx, 5, none⟩ = some (.string y.fn) ∧ w8.drew.cell? ⟨Sx, 6, none⟩ = some (.slice aa na ca) ∧ w8.drew.cell? ⟨S0, 0, none⟩ = some (.slice a0 p0 c0) := ⟨x0, x5, x6, s0⟩
    replace hbc := Lib.hid hbc.out.drew
    clear f0 f1 f2 x0 x1 x2 x3 x5 x6 x7 s0
    refine wp_region_held_drew (S := (fun w' => w'.cell? ⟨Sx, 0, none⟩ = some (.int .u8 y.op) ∧ w'.cell? ⟨Sx, 5, none⟩ = some (.string y.fn) ∧ w'.cell? ⟨Sx, 6, none⟩ = some (.slice aa na ca) ∧ w'.cell? ⟨S0, 0, none⟩ = some (.slice a0 p0 c0))) (by kernel_rfl) hC (fun hHeld => ?_)
    clear hHeld
    refine wpAnyH_take (i := 0) (oi := (Oper.mk (some 231) (Op.fieldAddr 47 (Operand.tmp 15) 0) 0 "outright.go:62" #[] none)) (v := ?_) rfl (by kernel_rfl) (by kernel_rfl) (by kernel_rfl) (fun _ _ _ h => hPn h rfl) (Or.inl ⟨by rfl, ?_⟩) hC ?_
    rotate_left
    · (intro w hSw; (try dsimp only at hSw); go_simp; try with_reducible rfl)
    try simp only [Act.put, List.setIfInBounds_toArray, List.set_cons_zero, List.set_cons_succ]
    refine wpAnyH_take (i := 1) (oi := (Oper.mk (some 232) (Op.load 45 (Operand.tmp 231)) 45 "outright.go:62" #[(Edge.mk 0 Ground.data)] none)) (v := ?_) rfl (by kernel_rfl) (by kernel_rfl) (by kernel_rfl) (fun _ _ _ h => hPn h rfl) (Or.inl ⟨by rfl, ?_⟩) hC ?_
    rotate_left
    · (intro w hSw; (try dsimp only at hSw); go_simp; try with_reducible rfl)
    try simp only [Act.put, List.setIfInBounds_toArray, List.set_cons_zero, List.set_cons_succ]
    refine wpAnyH_take (i := 2) (oi := (Oper.mk (some 233) (Op.binOp BinOp.eql 45 (Operand.tmp 232) (Operand.const (Value.int IntKind.u8 10)) 45) 4 "outright.go:62" #[(Edge.mk 1 Ground.data)] none)) (v := ?_) rfl (by kernel_rfl) (by kernel_rfl) (by kernel_rfl) (fun _ _ _ h => hPn h rfl) (Or.inl ⟨by rfl, ?_⟩) hC ?_
    rotate_left
    · (intro w hSw; (try dsimp only at hSw); go_simp; try with_reducible rfl)
    try simp only [Act.put, List.setIfInBounds_toArray, List.set_cons_zero, List.set_cons_succ]
    refine wpAnyH_take (i := 3) (oi := (Oper.mk (some 234) (Op.move (Operand.tmp 233)) 4 "outright.go:62" #[(Edge.mk 2 Ground.data)] none)) (v := ?_) rfl (by kernel_rfl) (by kernel_rfl) (by kernel_rfl) (fun _ _ _ h => hPn h rfl) (Or.inl ⟨by rfl, ?_⟩) hC ?_
    rotate_left
    · (intro w hSw; (try dsimp only at hSw); go_simp; try with_reducible rfl)
    try simp only [Act.put, List.setIfInBounds_toArray, List.set_cons_zero, List.set_cons_succ]
    refine wpAnyH_take (i := 4) (oi := (Oper.mk (some 235) (Op.fieldAddr 47 (Operand.tmp 15) 6) 0 "outright.go:62" #[(Edge.mk 3 Ground.guard)] (some (3, true)))) (v := ?_) rfl (by kernel_rfl) (by kernel_rfl) (by kernel_rfl) (fun _ _ _ h => hPn h rfl) (Or.inl ⟨by rfl, ?_⟩) hC ?_
    rotate_left
    · (intro w hSw; (try dsimp only at hSw); go_simp; try with_reducible rfl)
    try simp only [Act.put, List.setIfInBounds_toArray, List.set_cons_zero, List.set_cons_succ]
    refine wpAnyH_take (i := 5) (oi := (Oper.mk (some 236) (Op.load 36 (Operand.tmp 235)) 36 "outright.go:62" #[(Edge.mk 4 Ground.data), (Edge.mk 3 Ground.guard)] (some (3, true)))) (v := ?_) rfl (by kernel_rfl) (by kernel_rfl) (by kernel_rfl) (fun _ _ _ h => hPn h rfl) (Or.inl ⟨by rfl, ?_⟩) hC ?_
    rotate_left
    · (intro w hSw; (try dsimp only at hSw); go_simp; try with_reducible rfl)
    try simp only [Act.put, List.setIfInBounds_toArray, List.set_cons_zero, List.set_cons_succ]
    refine wpAnyH_take (i := 6) (oi := (Oper.mk (some 237) (Op.call (Call.mk (Callee.builtin Builtin.len) #[(Operand.tmp 236)] #[36])) 3 "outright.go:62" #[(Edge.mk 5 Ground.data), (Edge.mk 3 Ground.guard)] (some (3, true)))) (v := ?_) rfl (by kernel_rfl) (by kernel_rfl) (by kernel_rfl) (fun _ _ _ h => hPn h rfl) (Or.inl ⟨by rfl, ?_⟩) hC ?_
    rotate_left
    · (intro w hSw; (try dsimp only at hSw); go_simp; try with_reducible rfl)
    try simp only [Act.put, List.setIfInBounds_toArray, List.set_cons_zero, List.set_cons_succ]
    refine wpAnyH_take (i := 7) (oi := (Oper.mk (some 238) (Op.load 26 (Operand.tmp 1)) 26 "outright.go:62" #[(Edge.mk 3 Ground.guard)] (some (3, true)))) (v := ?_) rfl (by kernel_rfl) (by kernel_rfl) (by kernel_rfl) (fun _ _ _ h => hPn h rfl) (Or.inl ⟨by rfl, ?_⟩) hC ?_
    rotate_left
    · (intro w hSw; (try dsimp only at hSw); go_simp; try with_reducible rfl)
    try simp only [Act.put, List.setIfInBounds_toArray, List.set_cons_zero, List.set_cons_succ]
    refine wpAnyH_take (i := 8) (oi := (Oper.mk (some 239) (Op.fieldAddr 47 (Operand.tmp 15) 5) 0 "outright.go:62" #[(Edge.mk 3 Ground.guard)] (some (3, true)))) (v := ?_) rfl (by kernel_rfl) (by kernel_rfl) (by kernel_rfl) (fun _ _ _ h => hPn h rfl) (Or.inl ⟨by rfl, ?_⟩) hC ?_
    rotate_left
    · (intro w hSw; (try dsimp only at hSw); go_simp; try with_reducible rfl)
    try simp only [Act.put, List.setIfInBounds_toArray, List.set_cons_zero, List.set_cons_succ]
    refine wpAnyH_take (i := 9) (oi := (Oper.mk (some 240) (Op.load 9 (Operand.tmp 239)) 9 "outright.go:62" #[(Edge.mk 8 Ground.data), (Edge.mk 3 Ground.guard)] (some (3, true)))) (v := ?_) rfl (by kernel_rfl) (by kernel_rfl) (by kernel_rfl) (fun _ _ _ h => hPn h rfl) (Or.inl ⟨by rfl, ?_⟩) hC ?_
    rotate_left
    · (intro w hSw; (try dsimp only at hSw); go_simp; try with_reducible rfl)
    try simp only [Act.put, List.setIfInBounds_toArray, List.set_cons_zero, List.set_cons_succ]
    refine wpAnyH_ready (rs := [10]) (by kernel_rfl) (by simp) (AllReadyH.cons (o := (Oper.mk (some 241) (Op.call (Call.mk (Callee.value (Operand.func 17)) #[(Operand.tmp 238), (Operand.tmp 240)] #[26, 9])) 3 "outright.go:62" #[(Edge.mk 7 Ground.data), (Edge.mk 9 Ground.data), (Edge.mk 3 Ground.chain), (Edge.mk 3 Ground.guard)] (some (3, true)))) rfl (fun K hK => ?_) AllReadyH.nil)
    go_simp
    (go_at_call 17; with_reducible refine Calls.mono ((hpk.out _ hbc.out).params hL.out hls.out) ?_; rintro e w3 ⟨rfl, hb3⟩; replace hC : w3.cell? ⟨Sx, 0, none⟩ = some (.int .u8 y.op) ∧ w3.cell? ⟨Sx, 5, none⟩ = some (.string y.fn) ∧ w3.cell? ⟨Sx, 6, none⟩ = some (.slice aa na ca) ∧ w3.cell? ⟨S0, 0, none⟩ = some (.slice a0 p0 c0) := ⟨keepC hb3 hC.1, keepC hb3 hC.2.1, keepC hb3 hC.2.2.1, keepC hb3 hC.2.2.2⟩; replace hbc := Lib.hid (hbc.out.trans (hb3.mono hbc.out.size)))
    refine hK.out _ _ hC (fun hHeld => ?_)
    clear hK K hHeld
    try simp only [Act.put, List.setIfInBounds_toArray, List.set_cons_zero, List.set_cons_succ]
    refine wpAnyH_take (i := 11) (oi := (Oper.mk (some 242) (Op.binOp BinOp.neq 3 (Operand.tmp 237) (Operand.tmp 241) 3) 4 "outright.go:62" #[(Edge.mk 6 Ground.data), (Edge.mk 10 Ground.data), (Edge.mk 3 Ground.guard)] (some (3, true)))) (v := ?_) rfl (by kernel_rfl) (by kernel_rfl) (by kernel_rfl) (fun _ _ _ h => hPn h rfl) (Or.inl ⟨by rfl, ?_⟩) hC ?_
    rotate_left
    · (intro w hSw; (try dsimp only at hSw); go_simp; try with_reducible rfl)
    try simp only [Act.put, List.setIfInBounds_toArray, List.set_cons_zero, List.set_cons_succ]
    refine wpAnyH_take (i := 12) (oi := (Oper.mk (some 243) (Op.pick (Operand.tmp 234) (Operand.tmp 242) (Operand.const (Value.bool false))) 4 "outright.go:62" #[(Edge.mk 3 Ground.data), (Edge.mk 11 Ground.data)] none)) (v := ?_) rfl (by kernel_rfl) (by kernel_rfl) (by kernel_rfl) (fun _ _ _ h => hPn h rfl) (Or.inl ⟨by rfl, ?_⟩) hC ?_
    rotate_left
    · (intro w hSw; (try dsimp only at hSw); go_simp; try with_reducible rfl)
    try simp only [Act.put, List.setIfInBounds_toArray, List.set_cons_zero, List.set_cons_succ]
    refine wpAnyH_done (by kernel_rfl) ?_ _
    go_wp2_with fail
    exact hQ.out (hbx.out.trans (hbc.out.mono hbx.out.size))

end Go.Proofs.YtjblhiekccjdcaaR
namespace Go.Proofs.YtjblhiekccjdcaaR
open Go.RowKit Go.Maps Go.Shelf
attribute [local go_sem] Oper.semAt_some

set_option maxRecDepth 20000 in
set_option maxHeartbeats 8000000 in
theorem once7g {c : Code} (hc : Func.blockOf Try.f4 7 = some c) {Q : Exit → Act → World → Prop} {w : World} {Sd S0 g off k : Nat} {P : List Fun} {d : Fun} {y : Ins} {ap ab a0 aa al : Option Addr} {np cp nb cb p0 c0 nc cc na ca nl cl : Nat} {u0 u2 u3 u4 u5 u6 u7 u8 u9 u10 u12 u15 u16 u17 u18 u19 u20 u21 u22 u23 u24 u25 u26 u27 u28 u29 u30 u31 u32 u33 u34 u35 u36 u37 u38 u39 u40 u41 u42 u43 u44 u45 u46 u47 u48 u49 u50 u51 u52 u53 u54 u55 u56 u57 u58 u59 u60 u61 u62 u63 u64 u65 u66 u67 u68 u69 u70 u71 u72 u73 u74 u75 u76 u77 u78 u79 u80 u81 u82 u83 u84 u85 u86 u87 u88 u89 u90 u91 u92 u93 u94 u95 u96 u97 u98 u99 u100 u101 u102 u103 u104 u105 u106 u107 u108 u109 u110 u111 u112 u113 u114 u115 u116 u117 u118 u119 u120 u121 u122 u123 u124 u125 u126 u127 u128 u129 u130 u131 u132 u133 u134 u135 u136 u137 u138 u139 u140 u141 u142 u143 u144 u145 u146 u147 u148 u149 u150 u151 u152 u153 u154 u155 u156 u157 u158 u159 u160 u161 u162 u163 u164 u165 u166 u167 u168 u169 u170 u171 u172 u173 u174 u175 u176 u177 u178 u179 u180 u181 u182 u183 u184 u185 u186 u187 u188 u189 u190 u191 u192 u193 u194 u195 u196 u197 u198 u199 u200 u201 u202 u203 u204 u205 u206 u207 u208 u209 u210 u211 u212 u213 u214 u215 u216 u217 u218 u219 u220 u221 u222 u223 u224 u225 u226 u227 u228 u229 u230 u231 u232 u233 u234 u235 u236 u237 u238 u239 u240 u241 u242 u243 u244 u245 u246 u247 u248 u249 u250 u251 u252 u253 u254 u255 u256 u257 u258 u259 u260 u261 u262 u263 : Value}
    (hf : FBx w Sd d ap np cp ab nb cb) (hp : PBx w S0 P a0 p0 c0) (hL : LightP P) (hd : LightF d) (hPn : ∀ {x} {a a1 : Act} {w1 : World}, Q (.panic x) a w1 → a.defers = a1.defers → Q (.panic x) a1 w1) (hk : k < nc) (hnc2 : nc ≤ 200) (hcv : ∀ (j : Nat) (v : Value), #[.int .u8 y.op, .string y.dst, .string y.a, .string y.b, .int .i64 y.n, .string y.fn, .slice aa na ca, .slice al nl cl][j]? = some v → w.cell? ⟨g, off + k * 8 + j, none⟩ = some v) (ra : RdS w (.slice aa na ca) y.args) (rl : RdS w (.slice al nl cl) y.labels) (hlI1 : LightI y) (hUa : okU d y.a) (hUb : okU d y.b) (hUs : ∀ s ∈ y.args, okU d s ∧ s.toList.isEmpty = false) (hUl : ∀ s ∈ y.labels, lblC d s = 1) (hcl : (y.op = 10 ∨ y.op = 4 → nameN P y.fn = 1) ∧ (y.op = 10 → lastN P y.fn = y.args.length)) (hod1 : y.dst.toList.isEmpty = false → defN d y.dst = 1) (hen : endsB y.op = decide (k + 1 = nc)) (ho : y.op = 4)
    (hQ : Hid (∀ {wx : World} {v2 v15 v16 v17 v18 v128 v129 v130 v131 v132 v133 v134 v135 v136 v137 v138 v139 v140 v141 v142 v143 v144 v145 v146 v147 v148 v149 v150 v151 v152 v153 v154 v155 v156 v157 v158 v159 v160 v161 v162 v163 v164 v165 v166 v167 v168 v169 v170 v171 v172 v173 v174 v175 v176 v177 v178 v179 v180 v181 v182 v183 v184 v185 v186 v187 v188 v189 v190 v191 v192 v193 v194 v195 v196 v197 v198 v199 v200 v201 v202 v203 v204 v205 v206 v207 v208 v209 v210 v211 v212 v213 v214 v215 v216 v217 v218 v219 v220 v221 v222 v223 v224 v225 v226 v227 v228 v229 v230 v231 v232 v233 v234 v235 v236 v237 v238 v239 v240 v241 v242 v243 : Value}, Below w.heap.size w wx → Q .normal { tmps := #[u0, .pointer (some ⟨S0, 0, none⟩), v2, u3, u4, u5, u6, u7, u8, u9, u10, .pointer (some ⟨Sd, 0, none⟩), u12, .slice (some ⟨g, off, none⟩) nc cc, .int .i64 k, v15, v16, v17, v18, u19, u20, u21, u22, u23, u24, u25, u26, u27, u28, u29, u30, u31, u32, u33, u34, u35, u36, u37, u38, u39, u40, u41, u42, u43, u44, u45, u46, u47, u48, u49, u50, u51, u52, u53, u54, u55, u56, u57, u58, u59, u60, u61, u62, u63, u64, u65, u66, u67, u68, u69, u70, u71, u72, u73, u74, u75, u76, u77, u78, u79, u80, u81, u82, u83, u84, u85, u86, u87, u88, u89, u90, u91, u92, u93, u94, u95, u96, u97, u98, u99, u100, u101, u102, u103, u104, u105, u106, u107, u108, u109, u110, u111, u112, u113, u114, u115, u116, u117, u118, u119, u120, u121, u122, u123, u124, u125, u126, u127, v128, v129, v130, v131, v132, v133, v134, v135, v136, v137, v138, v139, v140, v141, v142, v143, v144, v145, v146, v147, v148, v149, v150, v151, v152, v153, v154, v155, v156, v157, v158, v159, v160, v161, v162, v163, v164, v165, v166, v167, v168, v169, v170, v171, v172, v173, v174, v175, v176, v177, v178, v179, v180, v181, v182, v183, v184, v185, v186, v187, v188, v189, v190, v191, v192, v193, v194, v195, v196, v197, v198, v199, v200, v201, v202, v203, v204, v205, v206, v207, v208, v209, v210, v211, v212, v213, v214, v215, v216, v217, v218, v219, v220, v221, v222, v223, v224, v225, v226, v227, v228, v229, v230, v231, v232, v233, v234, v235, v236, v237, v238, v239, v240, v241, v242, v243, u244, u245, u246, u247, u248, u249, u250, u251, u252, u253, u254, u255, u256, u257, u258, u259, u260, u261, u262, u263], defers := [] } wx)) :
    c.wp Try.prog Q { tmps := #[u0, .pointer (some ⟨S0, 0, none⟩), u2, u3, u4, u5, u6, u7, u8, u9, u10, .pointer (some ⟨Sd, 0, none⟩), u12, .slice (some ⟨g, off, none⟩) nc cc, .int .i64 k, u15, u16, u17, u18, u19, u20, u21, u22, u23, u24, u25, u26, u27, u28, u29, u30, u31, u32, u33, u34, u35, u36, u37, u38, u39, u40, u41, u42, u43, u44, u45, u46, u47, u48, u49, u50, u51, u52, u53, u54, u55, u56, u57, u58, u59, u60, u61, u62, u63, u64, u65, u66, u67, u68, u69, u70, u71, u72, u73, u74, u75, u76, u77, u78, u79, u80, u81, u82, u83, u84, u85, u86, u87, u88, u89, u90, u91, u92, u93, u94, u95, u96, u97, u98, u99, u100, u101, u102, u103, u104, u105, u106, u107, u108, u109, u110, u111, u112, u113, u114, u115, u116, u117, u118, u119, u120, u121, u122, u123, u124, u125, u126, u127, u128, u129, u130, u131, u132, u133, u134, u135, u136, u137, u138, u139, u140, u141, u142, u143, u144, u145, u146, u147, u148, u149, u150, u151, u152, u153, u154, u155, u156, u157, u158, u159, u160, u161, u162, u163, u164, u165, u166, u167, u168, u169, u170, u171, u172, u173, u174, u175, u176, u177, u178, u179, u180, u181, u182, u183, u184, u185, u186, u187, u188, u189, u190, u191, u192, u193, u194, u195, u196, u197, u198, u199, u200, u201, u202, u203, u204, u205, u206, u207, u208, u209, u210, u211, u212, u213, u214, u215, u216, u217, u218, u219, u220, u221, u222, u223, u224, u225, u226, u227, u228, u229, u230, u231, u232, u233, u234, u235, u236, u237, u238, u239, u240, u241, u242, u243, u244, u245, u246, u247, u248, u249, u250, u251, u252, u253, u254, u255, u256, u257, u258, u259, u260, u261, u262, u263], defers := [] } w := by
  conv at hc => lhs; whnf
  simp only [Option.some.injEq] at hc
  subst hc
  have j2 : (k : Int) < (nc : Int) := by omega
  have hna : na = y.args.length := by obtain ⟨a, q, e⟩ := RdS.shape ra; simp only [Value.slice.injEq] at e; exact e.2.1
  have hnl : nl = y.labels.length := by obtain ⟨a, q, e⟩ := RdS.shape rl; simp only [Value.slice.injEq] at e; exact e.2.1
  have i0 : w.cell? ⟨g, off + k * 8, none⟩ = some (.int .u8 y.op) := hcv 0 _ rfl
  have i1 : w.cell? ⟨g, off + k * 8 + 1, none⟩ = some (.string y.dst) := hcv 1 _ rfl
  have i2 : w.cell? ⟨g, off + k * 8 + 2, none⟩ = some (.string y.a) := hcv 2 _ rfl
  have i3 : w.cell? ⟨g, off + k * 8 + 3, none⟩ = some (.string y.b) := hcv 3 _ rfl
  have i4 : w.cell? ⟨g, off + k * 8 + 4, none⟩ = some (.int .i64 y.n) := hcv 4 _ rfl
  have i5 : w.cell? ⟨g, off + k * 8 + 5, none⟩ = some (.string y.fn) := hcv 5 _ rfl
  have i6 : w.cell? ⟨g, off + k * 8 + 6, none⟩ = some (.slice aa na ca) := hcv 6 _ rfl
  have i7 : w.cell? ⟨g, off + k * 8 + 7, none⟩ = some (.slice al nl cl) := hcv 7 _ rfl
  have hna1 : Hid (y.args.length ≤ 1000000) := Lib.hid (by have := hlI1.1; omega)
  have hnl1 : Hid (y.labels.length ≤ 1000000) := Lib.hid (by have := hlI1.2; omega)
  have hna20 : na ≤ 20 := by rw [hna]; exact hlI1.1
  replace hUa := Lib.hid hUa
  replace hUb := Lib.hid hUb
  replace hUs := Lib.hid hUs
  replace hUl := Lib.hid hUl
  replace hcl := Lib.hid hcl
  replace hd := Lib.hid hd
  replace hL := Lib.hid hL
  have hbx0 : Below w.heap.size w (w.alloc (.cells #[.int .u8 y.op, .string y.dst, .string y.a, .string y.b, .int .i64 y.n, .string y.fn, .slice aa na ca, .slice al nl cl] 47)) := box_below _ _
  have hF0 : (w.alloc (.cells #[.int .u8 y.op, .string y.dst, .string y.a, .string y.b, .int .i64 y.n, .string y.fn, .slice aa na ca, .slice al nl cl] 47)).heap[w.heap.size]? = some (.cells #[.int .u8 y.op, .string y.dst, .string y.a, .string y.b, .int .i64 y.n, .string y.fn, .slice aa na ca, .slice al nl cl] 47 (0, 0)) := heap_alloc_new _ _
  replace ra := Lib.hid (Rd.below ra hbx0)
  replace rl := Lib.hid (Rd.below rl hbx0)
  have hbx := Lib.hid hbx0
  replace hna := Lib.hid hna
  replace hnl := Lib.hid hnl
  replace hf := Lib.hid hf
  replace hp := Lib.hid hp
  replace ho := Lib.hid ho
  clear hcv hlI1 hbx0
  go_upto_region 34 with fail
  generalize (w.alloc (.cells #[.int .u8 y.op, .string y.dst, .string y.a, .string y.b, .int .i64 y.n, .string y.fn, .slice aa na ca, .slice al nl cl] 47)) = w1 at hbx hF0 ra rl ⊢
  obtain ⟨Sx, hSx⟩ : ∃ Sx, Sx = w.heap.size := ⟨_, rfl⟩
  rw [← hSx] at hF0 ⊢
  have hX1 : XBx w1 Sx y aa na ca al nl cl := ⟨by rw [blk_cell hF0]; rfl, by rw [blk_cell hF0]; rfl, by rw [blk_cell hF0]; rfl, by rw [blk_cell hF0]; rfl, by rw [blk_cell hF0]; rfl, by rw [blk_cell hF0]; rfl, by rw [blk_cell hF0]; rfl, ra.out, rl.out⟩
  have hfk := Lib.hid (fun w' (hb : Below w1.heap.size w1 w') => ((hf.out.keep hbx.out).keep hb))
  have hpk := Lib.hid (fun w' (hb : Below w1.heap.size w1 w') => ((hp.out.keep hbx.out).keep hb))
  have hxk := Lib.hid (fun w' (hb : Below w1.heap.size w1 w') => hX1.keep hb)
  have hbc : Hid (Below w1.heap.size w1 w1) := Lib.hid (Below.refl _ _)
  obtain ⟨f0, f1, f2, -, -⟩ := hfk.out _ hbc.out
  obtain ⟨x0, x1, x2, x3, x5, x6, x7, -, -⟩ := hxk.out _ hbc.out
  obtain ⟨s0, -⟩ := hpk.out _ hbc.out
  replace hSx := Lib.hid hSx
  replace ho := ho.out
  clear hX1 hF0 ra rl i0 i1 i2 i3 i4 i5 i6 i7
  cases hde : y.dst.toList.isEmpty with
  | true =>
    have hdf := Lib.hid trivial
    clear hod1
    have q12 : (y.op == 12) = false := by rw [beq_eq_false_iff_ne]; omega
    have q13 : (y.op == 13) = false := by rw [beq_eq_false_iff_ne]; omega
    have q14 : (y.op == 14) = false := by rw [beq_eq_false_iff_ne]; omega
    have q10 : (y.op == 10) = false := by rw [beq_eq_false_iff_ne]; omega
    have q4 : (y.op == 4) = true := by rw [beq_iff_eq]; omega
    have hee : endsB y.op = false := by unfold endsB; rw [q12, q13, q14]; rfl
    rw [hee] at hen
    have e150 : ((k : Int) == (nc : Int) - 1) = false := by rw [beq_eq_false_iff_ne]; have := of_decide_eq_false hen.symm; omega
    replace hen := Lib.hid hen
    clear hee
    have hnm1 := Lib.hid (hcl.out.1 (.inr (by simpa using q4)))
    go_upto_block 8 with (first
      | (go_at_call 15; with_reducible refine Calls.mono ((hfk.out _ hbc.out).defs hd.out hdf.out) ?_; rintro e w2 ⟨rfl, hb2⟩; replace hbc := Lib.hid (hbc.out.trans (hb2.mono hbc.out.size)); clear f0 f1 f2 x0 x1 x2 x3 x5 x6 x7 s0; obtain ⟨f0, f1, f2, -, -⟩ := hfk.out _ hbc.out; obtain ⟨x0, x1, x2, x3, x5, x6, x7, -, -⟩ := hxk.out _ hbc.out; obtain ⟨s0, -⟩ := hpk.out _ hbc.out)
      | (go_at_call 16; with_reducible refine Calls.mono ((hfk.out _ hbc.out).used hd.out hUa.out) ?_; rintro e w2 ⟨rfl, hb2⟩; replace hbc := Lib.hid (hbc.out.trans (hb2.mono hbc.out.size)); clear f0 f1 f2 x0 x1 x2 x3 x5 x6 x7 s0; obtain ⟨f0, f1, f2, -, -⟩ := hfk.out _ hbc.out; obtain ⟨x0, x1, x2, x3, x5, x6, x7, -, -⟩ := hxk.out _ hbc.out; obtain ⟨s0, -⟩ := hpk.out _ hbc.out)
      | (go_at_call 16; with_reducible refine Calls.mono ((hfk.out _ hbc.out).used hd.out hUb.out) ?_; rintro e w2 ⟨rfl, hb2⟩; replace hbc := Lib.hid (hbc.out.trans (hb2.mono hbc.out.size)); clear f0 f1 f2 x0 x1 x2 x3 x5 x6 x7 s0; obtain ⟨f0, f1, f2, -, -⟩ := hfk.out _ hbc.out; obtain ⟨x0, x1, x2, x3, x5, x6, x7, -, -⟩ := hxk.out _ hbc.out; obtain ⟨s0, -⟩ := hpk.out _ hbc.out)
      | (go_at_call 13; with_reducible refine Calls.mono ((hpk.out _ hbc.out).funcs hL.out hnm1.out) ?_; rintro e w2 ⟨rfl, hb2⟩; replace hbc := Lib.hid (hbc.out.trans (hb2.mono hbc.out.size)); clear f0 f1 f2 x0 x1 x2 x3 x5 x6 x7 s0; obtain ⟨f0, f1, f2, -, -⟩ := hfk.out _ hbc.out; obtain ⟨x0, x1, x2, x3, x5, x6, x7, -, -⟩ := hxk.out _ hbc.out; obtain ⟨s0, -⟩ := hpk.out _ hbc.out)
      | fail)
    refine once8 (by kernel_rfl) (hfk.out _ hbc.out) (hxk.out _ hbc.out) hd.out (fun h e => hPn h e) hUs.out hna1.out (Lib.hid ?_)
    intros
    rename_i hb2
    replace hbc := Lib.hid (hbc.out.trans (hb2.mono hbc.out.size)); clear f0 f1 f2 x0 x1 x2 x3 x5 x6 x7 s0; obtain ⟨f0, f1, f2, -, -⟩ := hfk.out _ hbc.out; obtain ⟨x0, x1, x2, x3, x5, x6, x7, -, -⟩ := hxk.out _ hbc.out; obtain ⟨s0, -⟩ := hpk.out _ hbc.out
    go_upto_block 10 with fail
    refine once10 (by kernel_rfl) (hfk.out _ hbc.out) (hxk.out _ hbc.out) hd.out (fun h e => hPn h e) hUl.out hnl1.out (Lib.hid ?_)
    intros
    rename_i hb2
    replace hbc := Lib.hid (hbc.out.trans (hb2.mono hbc.out.size)); clear f0 f1 f2 x0 x1 x2 x3 x5 x6 x7 s0; obtain ⟨f0, f1, f2, -, -⟩ := hfk.out _ hbc.out; obtain ⟨x0, x1, x2, x3, x5, x6, x7, -, -⟩ := hxk.out _ hbc.out; obtain ⟨s0, -⟩ := hpk.out _ hbc.out
    go_upto_region 49 with (first
      | (go_at_call 15; with_reducible refine Calls.mono ((hfk.out _ hbc.out).defs hd.out hdf.out) ?_; rintro e w2 ⟨rfl, hb2⟩; replace hbc := Lib.hid (hbc.out.trans (hb2.mono hbc.out.size)); clear f0 f1 f2 x0 x1 x2 x3 x5 x6 x7 s0; obtain ⟨f0, f1, f2, -, -⟩ := hfk.out _ hbc.out; obtain ⟨x0, x1, x2, x3, x5, x6, x7, -, -⟩ := hxk.out _ hbc.out; obtain ⟨s0, -⟩ := hpk.out _ hbc.out)
      | (go_at_call 16; with_reducible refine Calls.mono ((hfk.out _ hbc.out).used hd.out hUa.out) ?_; rintro e w2 ⟨rfl, hb2⟩; replace hbc := Lib.hid (hbc.out.trans (hb2.mono hbc.out.size)); clear f0 f1 f2 x0 x1 x2 x3 x5 x6 x7 s0; obtain ⟨f0, f1, f2, -, -⟩ := hfk.out _ hbc.out; obtain ⟨x0, x1, x2, x3, x5, x6, x7, -, -⟩ := hxk.out _ hbc.out; obtain ⟨s0, -⟩ := hpk.out _ hbc.out)
      | (go_at_call 16; with_reducible refine Calls.mono ((hfk.out _ hbc.out).used hd.out hUb.out) ?_; rintro e w2 ⟨rfl, hb2⟩; replace hbc := Lib.hid (hbc.out.trans (hb2.mono hbc.out.size)); clear f0 f1 f2 x0 x1 x2 x3 x5 x6 x7 s0; obtain ⟨f0, f1, f2, -, -⟩ := hfk.out _ hbc.out; obtain ⟨x0, x1, x2, x3, x5, x6, x7, -, -⟩ := hxk.out _ hbc.out; obtain ⟨s0, -⟩ := hpk.out _ hbc.out)
      | (go_at_call 13; with_reducible refine Calls.mono ((hpk.out _ hbc.out).funcs hL.out hnm1.out) ?_; rintro e w2 ⟨rfl, hb2⟩; replace hbc := Lib.hid (hbc.out.trans (hb2.mono hbc.out.size)); clear f0 f1 f2 x0 x1 x2 x3 x5 x6 x7 s0; obtain ⟨f0, f1, f2, -, -⟩ := hfk.out _ hbc.out; obtain ⟨x0, x1, x2, x3, x5, x6, x7, -, -⟩ := hxk.out _ hbc.out; obtain ⟨s0, -⟩ := hpk.out _ hbc.out)
      | fail)
    rename World => w8
    have hC : w8.drew.cell? ⟨Sx, 0, none⟩ = some (.int .u8 y.op) ∧ w8.drew.cell? ⟨Sx, 5, none⟩ = some (.string y.fn) ∧ w8.drew.cell? ⟨Sx, 6, none⟩ = some (.slice aa na ca) ∧ w8.drew.cell? ⟨S0, 0, none⟩ = some (.slice a0 p0 c0) := ⟨x0, x5, x6, s0⟩
    replace hbc := Lib.hid hbc.out.drew
    clear f0 f1 f2 x0 x1 x2 x3 x5 x6 x7 s0
    refine wp_region_held_drew (S := (fun w' => w'.cell? ⟨Sx, 0, none⟩ = some (.int .u8 y.op) ∧ w'.cell? ⟨Sx, 5, none⟩ = some (.string y.fn) ∧ w'.cell? ⟨Sx, 6, none⟩ = some (.slice aa na ca) ∧ w'.cell? ⟨S0, 0, none⟩ = some (.slice a0 p0 c0))) (by kernel_rfl) hC (fun hHeld => ?_)
    clear hHeld
    refine wpAnyH_take (i := 0) (oi := (Oper.mk (some 231) (Op.fieldAddr 47 (Operand.tmp 15) 0) 0 "outright.go:62" #[] none)) (v := ?_) rfl (by kernel_rfl) (by kernel_rfl) (by kernel_rfl) (fun _ _ _ h => hPn h rfl) (Or.inl ⟨by rfl, ?_⟩) hC ?_
    rotate_left
    · (intro w hSw; (try dsimp only at hSw); go_simp; try with_reducible rfl)
    try simp only [Act.put, List.setIfInBounds_toArray, List.set_cons_zero, List.set_cons_succ]
    refine wpAnyH_take (i := 1) (oi := (Oper.mk (some 232) (Op.load 45 (Operand.tmp 231)) 45 "outright.go:62" #[(Edge.mk 0 Ground.data)] none)) (v := ?_) rfl (by kernel_rfl) (by kernel_rfl) (by kernel_rfl) (fun _ _ _ h => hPn h rfl) (Or.inl ⟨by rfl, ?_⟩) hC ?_
    rotate_left
    · (intro w hSw; (try dsimp only at hSw); go_simp; try with_reducible rfl)
    try simp only [Act.put, List.setIfInBounds_toArray, List.set_cons_zero, List.set_cons_succ]
    refine wpAnyH_take (i := 2) (oi := (Oper.mk (some 233) (Op.binOp BinOp.eql 45 (Operand.tmp 232) (Operand.const (Value.int IntKind.u8 10)) 45) 4 "outright.go:62" #[(Edge.mk 1 Ground.data)] none)) (v := ?_) rfl (by kernel_rfl) (by kernel_rfl) (by kernel_rfl) (fun _ _ _ h => hPn h rfl) (Or.inl ⟨by rfl, ?_⟩) hC ?_
    rotate_left
    · (intro w hSw; (try dsimp only at hSw); go_simp; try with_reducible rfl)
    try simp only [Act.put, List.setIfInBounds_toArray, List.set_cons_zero, List.set_cons_succ]
    refine wpAnyH_take (i := 3) (oi := (Oper.mk (some 234) (Op.move (Operand.tmp 233)) 4 "outright.go:62" #[(Edge.mk 2 Ground.data)] none)) (v := ?_) rfl (by kernel_rfl) (by kernel_rfl) (by kernel_rfl) (fun _ _ _ h => hPn h rfl) (Or.inl ⟨by rfl, ?_⟩) hC ?_
    rotate_left
    · (intro w hSw; (try dsimp only at hSw); go_simp; try with_reducible rfl)
    try simp only [Act.put, List.setIfInBounds_toArray, List.set_cons_zero, List.set_cons_succ]
    refine wpAnyH_take (i := 4) (oi := (Oper.mk (some 235) (Op.fieldAddr 47 (Operand.tmp 15) 6) 0 "outright.go:62" #[(Edge.mk 3 Ground.guard)] (some (3, true)))) (v := undef) rfl (by kernel_rfl) (by kernel_rfl) (by kernel_rfl) (fun _ _ _ h => hPn h rfl) (Or.inr ⟨by rfl, rfl⟩) hC ?_
    try simp only [Act.put, List.setIfInBounds_toArray, List.set_cons_zero, List.set_cons_succ]
    refine wpAnyH_take (i := 5) (oi := (Oper.mk (some 236) (Op.load 36 (Operand.tmp 235)) 36 "outright.go:62" #[(Edge.mk 4 Ground.data), (Edge.mk 3 Ground.guard)] (some (3, true)))) (v := undef) rfl (by kernel_rfl) (by kernel_rfl) (by kernel_rfl) (fun _ _ _ h => hPn h rfl) (Or.inr ⟨by rfl, rfl⟩) hC ?_
    try simp only [Act.put, List.setIfInBounds_toArray, List.set_cons_zero, List.set_cons_succ]
    refine wpAnyH_take (i := 6) (oi := (Oper.mk (some 237) (Op.call (Call.mk (Callee.builtin Builtin.len) #[(Operand.tmp 236)] #[36])) 3 "outright.go:62" #[(Edge.mk 5 Ground.data), (Edge.mk 3 Ground.guard)] (some (3, true)))) (v := undef) rfl (by kernel_rfl) (by kernel_rfl) (by kernel_rfl) (fun _ _ _ h => hPn h rfl) (Or.inr ⟨by rfl, rfl⟩) hC ?_
    try simp only [Act.put, List.setIfInBounds_toArray, List.set_cons_zero, List.set_cons_succ]
    refine wpAnyH_take (i := 7) (oi := (Oper.mk (some 238) (Op.load 26 (Operand.tmp 1)) 26 "outright.go:62" #[(Edge.mk 3 Ground.guard)] (some (3, true)))) (v := undef) rfl (by kernel_rfl) (by kernel_rfl) (by kernel_rfl) (fun _ _ _ h => hPn h rfl) (Or.inr ⟨by rfl, rfl⟩) hC ?_
    try simp only [Act.put, List.setIfInBounds_toArray, List.set_cons_zero, List.set_cons_succ]
    refine wpAnyH_take (i := 8) (oi := (Oper.mk (some 239) (Op.fieldAddr 47 (Operand.tmp 15) 5) 0 "outright.go:62" #[(Edge.mk 3 Ground.guard)] (some (3, true)))) (v := undef) rfl (by kernel_rfl) (by kernel_rfl) (by kernel_rfl) (fun _ _ _ h => hPn h rfl) (Or.inr ⟨by rfl, rfl⟩) hC ?_
    try simp only [Act.put, List.setIfInBounds_toArray, List.set_cons_zero, List.set_cons_succ]
    refine wpAnyH_take (i := 9) (oi := (Oper.mk (some 240) (Op.load 9 (Operand.tmp 239)) 9 "outright.go:62" #[(Edge.mk 8 Ground.data), (Edge.mk 3 Ground.guard)] (some (3, true)))) (v := undef) rfl (by kernel_rfl) (by kernel_rfl) (by kernel_rfl) (fun _ _ _ h => hPn h rfl) (Or.inr ⟨by rfl, rfl⟩) hC ?_
    try simp only [Act.put, List.setIfInBounds_toArray, List.set_cons_zero, List.set_cons_succ]
    refine wpAnyH_take (i := 10) (oi := (Oper.mk (some 241) (Op.call (Call.mk (Callee.value (Operand.func 17)) #[(Operand.tmp 238), (Operand.tmp 240)] #[26, 9])) 3 "outright.go:62" #[(Edge.mk 7 Ground.data), (Edge.mk 9 Ground.data), (Edge.mk 3 Ground.chain), (Edge.mk 3 Ground.guard)] (some (3, true)))) (v := undef) rfl (by kernel_rfl) (by kernel_rfl) (by kernel_rfl) (fun _ _ _ h => hPn h rfl) (Or.inr ⟨by rfl, rfl⟩) hC ?_
    try simp only [Act.put, List.setIfInBounds_toArray, List.set_cons_zero, List.set_cons_succ]
    refine wpAnyH_take (i := 11) (oi := (Oper.mk (some 242) (Op.binOp BinOp.neq 3 (Operand.tmp 237) (Operand.tmp 241) 3) 4 "outright.go:62" #[(Edge.mk 6 Ground.data), (Edge.mk 10 Ground.data), (Edge.mk 3 Ground.guard)] (some (3, true)))) (v := undef) rfl (by kernel_rfl) (by kernel_rfl) (by kernel_rfl) (fun _ _ _ h => hPn h rfl) (Or.inr ⟨by rfl, rfl⟩) hC ?_
    try simp only [Act.put, List.setIfInBounds_toArray, List.set_cons_zero, List.set_cons_succ]
    refine wpAnyH_take (i := 12) (oi := (Oper.mk (some 243) (Op.pick (Operand.tmp 234) (Operand.tmp 242) (Operand.const (Value.bool false))) 4 "outright.go:62" #[(Edge.mk 3 Ground.data), (Edge.mk 11 Ground.data)] none)) (v := ?_) rfl (by kernel_rfl) (by kernel_rfl) (by kernel_rfl) (fun _ _ _ h => hPn h rfl) (Or.inl ⟨by rfl, ?_⟩) hC ?_
    rotate_left
    · (intro w hSw; (try dsimp only at hSw); go_simp; try with_reducible rfl)
    try simp only [Act.put, List.setIfInBounds_toArray, List.set_cons_zero, List.set_cons_succ]
    refine wpAnyH_done (by kernel_rfl) ?_ _
    go_wp2_with fail
    exact hQ.out (hbx.out.trans (hbc.out.mono hbx.out.size))
  | false =>
    have hdf := Lib.hid (hod1 hde)
    clear hod1
    have q12 : (y.op == 12) = false := by rw [beq_eq_false_iff_ne]; omega
    have q13 : (y.op == 13) = false := by rw [beq_eq_false_iff_ne]; omega
    have q14 : (y.op == 14) = false := by rw [beq_eq_false_iff_ne]; omega
    have q10 : (y.op == 10) = false := by rw [beq_eq_false_iff_ne]; omega
    have q4 : (y.op == 4) = true := by rw [beq_iff_eq]; omega
    have hee : endsB y.op = false := by unfold endsB; rw [q12, q13, q14]; rfl
    rw [hee] at hen
    have e150 : ((k : Int) == (nc : Int) - 1) = false := by rw [beq_eq_false_iff_ne]; have := of_decide_eq_false hen.symm; omega
    replace hen := Lib.hid hen
    clear hee
    have hnm1 := Lib.hid (hcl.out.1 (.inr (by simpa using q4)))
    go_upto_block 8 with (first
      | (go_at_call 15; with_reducible refine Calls.mono ((hfk.out _ hbc.out).defs hd.out hdf.out) ?_; rintro e w2 ⟨rfl, hb2⟩; replace hbc := Lib.hid (hbc.out.trans (hb2.mono hbc.out.size)); clear f0 f1 f2 x0 x1 x2 x3 x5 x6 x7 s0; obtain ⟨f0, f1, f2, -, -⟩ := hfk.out _ hbc.out; obtain ⟨x0, x1, x2, x3, x5, x6, x7, -, -⟩ := hxk.out _ hbc.out; obtain ⟨s0, -⟩ := hpk.out _ hbc.out)
      | (go_at_call 16; with_reducible refine Calls.mono ((hfk.out _ hbc.out).used hd.out hUa.out) ?_; rintro e w2 ⟨rfl, hb2⟩; replace hbc := Lib.hid (hbc.out.trans (hb2.mono hbc.out.size)); clear f0 f1 f2 x0 x1 x2 x3 x5 x6 x7 s0; obtain ⟨f0, f1, f2, -, -⟩ := hfk.out _ hbc.out; obtain ⟨x0, x1, x2, x3, x5, x6, x7, -, -⟩ := hxk.out _ hbc.out; obtain ⟨s0, -⟩ := hpk.out _ hbc.out)
      | (go_at_call 16; with_reducible refine Calls.mono ((hfk.out _ hbc.out).used hd.out hUb.out) ?_; rintro e w2 ⟨rfl, hb2⟩; replace hbc := Lib.hid (hbc.out.trans (hb2.mono hbc.out.size)); clear f0 f1 f2 x0 x1 x2 x3 x5 x6 x7 s0; obtain ⟨f0, f1, f2, -, -⟩ := hfk.out _ hbc.out; obtain ⟨x0, x1, x2, x3, x5, x6, x7, -, -⟩ := hxk.out _ hbc.out; obtain ⟨s0, -⟩ := hpk.out _ hbc.out)
      | (go_at_call 13; with_reducible refine Calls.mono ((hpk.out _ hbc.out).funcs hL.out hnm1.out) ?_; rintro e w2 ⟨rfl, hb2⟩; replace hbc := Lib.hid (hbc.out.trans (hb2.mono hbc.out.size)); clear f0 f1 f2 x0 x1 x2 x3 x5 x6 x7 s0; obtain ⟨f0, f1, f2, -, -⟩ := hfk.out _ hbc.out; obtain ⟨x0, x1, x2, x3, x5, x6, x7, -, -⟩ := hxk.out _ hbc.out; obtain ⟨s0, -⟩ := hpk.out _ hbc.out)
      | fail)
    refine once8 (by kernel_rfl) (hfk.out _ hbc.out) (hxk.out _ hbc.out) hd.out (fun h e => hPn h e) hUs.out hna1.out (Lib.hid ?_)
    intros
    rename_i hb2
    replace hbc := Lib.hid (hbc.out.trans (hb2.mono hbc.out.size)); clear f0 f1 f2 x0 x1 x2 x3 x5 x6 x7 s0; obtain ⟨f0, f1, f2, -, -⟩ := hfk.out _ hbc.out; obtain ⟨x0, x1, x2, x3, x5, x6, x7, -, -⟩ := hxk.out _ hbc.out; obtain ⟨s0, -⟩ := hpk.out _ hbc.out
    go_upto_block 10 with fail
    refine once10 (by kernel_rfl) (hfk.out _ hbc.out) (hxk.out _ hbc.out) hd.out (fun h e => hPn h e) hUl.out hnl1.out (Lib.hid ?_)
    intros
    rename_i hb2
    replace hbc := Lib.hid (hbc.out.trans (hb2.mono hbc.out.size)); clear f0 f1 f2 x0 x1 x2 x3 x5 x6 x7 s0; obtain ⟨f0, f1, f2, -, -⟩ := hfk.out _ hbc.out; obtain ⟨x0, x1, x2, x3, x5, x6, x7, -, -⟩ := hxk.out _ hbc.out; obtain ⟨s0, -⟩ := hpk.out _ hbc.out
    go_upto_region 49 with (first
      | (go_at_call 15; with_reducible refine Calls.mono ((hfk.out _ hbc.out).defs hd.out hdf.out) ?_; rintro e w2 ⟨rfl, hb2⟩; replace hbc := Lib.hid (hbc.out.trans (hb2.mono hbc.out.size)); clear f0 f1 f2 x0 x1 x2 x3 x5 x6 x7 s0; obtain ⟨f0, f1, f2, -, -⟩ := hfk.out _ hbc.out; obtain ⟨x0, x1, x2, x3, x5, x6, x7, -, -⟩ := hxk.out _ hbc.out; obtain ⟨s0, -⟩ := hpk.out _ hbc.out)
      | (go_at_call 16; with_reducible refine Calls.mono ((hfk.out _ hbc.out).used hd.out hUa.out) ?_; rintro e w2 ⟨rfl, hb2⟩; replace hbc := Lib.hid (hbc.out.trans (hb2.mono hbc.out.size)); clear f0 f1 f2 x0 x1 x2 x3 x5 x6 x7 s0; obtain ⟨f0, f1, f2, -, -⟩ := hfk.out _ hbc.out; obtain ⟨x0, x1, x2, x3, x5, x6, x7, -, -⟩ := hxk.out _ hbc.out; obtain ⟨s0, -⟩ := hpk.out _ hbc.out)
      | (go_at_call 16; with_reducible refine Calls.mono ((hfk.out _ hbc.out).used hd.out hUb.out) ?_; rintro e w2 ⟨rfl, hb2⟩; replace hbc := Lib.hid (hbc.out.trans (hb2.mono hbc.out.size)); clear f0 f1 f2 x0 x1 x2 x3 x5 x6 x7 s0; obtain ⟨f0, f1, f2, -, -⟩ := hfk.out _ hbc.out; obtain ⟨x0, x1, x2, x3, x5, x6, x7, -, -⟩ := hxk.out _ hbc.out; obtain ⟨s0, -⟩ := hpk.out _ hbc.out)
      | (go_at_call 13; with_reducible refine Calls.mono ((hpk.out _ hbc.out).funcs hL.out hnm1.out) ?_; rintro e w2 ⟨rfl, hb2⟩; replace hbc := Lib.hid (hbc.out.trans (hb2.mono hbc.out.size)); clear f0 f1 f2 x0 x1 x2 x3 x5 x6 x7 s0; obtain ⟨f0, f1, f2, -, -⟩ := hfk.out _ hbc.out; obtain ⟨x0, x1, x2, x3, x5, x6, x7, -, -⟩ := hxk.out _ hbc.out; obtain ⟨s0, -⟩ := hpk.out _ hbc.out)
      | fail)
    rename World => w8
    have hC : w8.drew.cell? ⟨Sx, 0, none⟩ = some (.int .u8 y.op) ∧ w8.drew.cell? ⟨Sx, 5, none⟩ = some (.string y.fn) ∧ w8.drew.cell? ⟨Sx, 6, none⟩ = some (.slice aa na ca) ∧ w8.drew.cell? ⟨S0, 0, none⟩ = some (.slice a0 p0 c0) := ⟨x0, x5, x6, s0⟩
    replace hbc := Lib.hid hbc.out.drew
    clear f0 f1 f2 x0 x1 x2 x3 x5 x6 x7 s0
    refine wp_region_held_drew (S := (fun w' => w'.cell? ⟨Sx, 0, none⟩ = some (.int .u8 y.op) ∧ w'.cell? ⟨Sx, 5, none⟩ = some (.string y.fn) ∧ w'.cell? ⟨Sx, 6, none⟩ = some (.slice aa na ca) ∧ w'.cell? ⟨S0, 0, none⟩ = some (.slice a0 p0 c0))) (by kernel_rfl) hC (fun hHeld => ?_)
    clear hHeld
    refine wpAnyH_take (i := 0) (oi := (Oper.mk (some 231) (Op.fieldAddr 47 (Operand.tmp 15) 0) 0 "outright.go:62" #[] none)) (v := ?_) rfl (by kernel_rfl) (by kernel_rfl) (by kernel_rfl) (fun _ _ _ h => hPn h rfl) (Or.inl ⟨by rfl, ?_⟩) hC ?_
    rotate_left
    · (intro w hSw; (try dsimp only at hSw); go_simp; try with_reducible rfl)
    try simp only [Act.put, List.setIfInBounds_toArray, List.set_cons_zero, List.set_cons_succ]
    refine wpAnyH_take (i := 1) (oi := (Oper.mk (some 232) (Op.load 45 (Operand.tmp 231)) 45 "outright.go:62" #[(Edge.mk 0 Ground.data)] none)) (v := ?_) rfl (by kernel_rfl) (by kernel_rfl) (by kernel_rfl) (fun _ _ _ h => hPn h rfl) (Or.inl ⟨by rfl, ?_⟩) hC ?_
    rotate_left
    · (intro w hSw; (try dsimp only at hSw); go_simp; try with_reducible rfl)
    try simp only [Act.put, List.setIfInBounds_toArray, List.set_cons_zero, List.set_cons_succ]
    refine wpAnyH_take (i := 2) (oi := (Oper.mk (some 233) (Op.binOp BinOp.eql 45 (Operand.tmp 232) (Operand.const (Value.int IntKind.u8 10)) 45) 4 "outright.go:62" #[(Edge.mk 1 Ground.data)] none)) (v := ?_) rfl (by kernel_rfl) (by kernel_rfl) (by kernel_rfl) (fun _ _ _ h => hPn h rfl) (Or.inl ⟨by rfl, ?_⟩) hC ?_
    rotate_left
    · (intro w hSw; (try dsimp only at hSw); go_simp; try with_reducible rfl)
    try simp only [Act.put, List.setIfInBounds_toArray, List.set_cons_zero, List.set_cons_succ]
    refine wpAnyH_take (i := 3) (oi := (Oper.mk (some 234) (Op.move (Operand.tmp 233)) 4 "outright.go:62" #[(Edge.mk 2 Ground.data)] none)) (v := ?_) rfl (by kernel_rfl) (by kernel_rfl) (by kernel_rfl) (fun _ _ _ h => hPn h rfl) (Or.inl ⟨by rfl, ?_⟩) hC ?_
    rotate_left
    · (intro w hSw; (try dsimp only at hSw); go_simp; try with_reducible rfl)
    try simp only [Act.put, List.setIfInBounds_toArray, List.set_cons_zero, List.set_cons_succ]
    refine wpAnyH_take (i := 4) (oi := (Oper.mk (some 235) (Op.fieldAddr 47 (Operand.tmp 15) 6) 0 "outright.go:62" #[(Edge.mk 3 Ground.guard)] (some (3, true)))) (v := undef) rfl (by kernel_rfl) (by kernel_rfl) (by kernel_rfl) (fun _ _ _ h => hPn h rfl) (Or.inr ⟨by rfl, rfl⟩) hC ?_
    try simp only [Act.put, List.setIfInBounds_toArray, List.set_cons_zero, List.set_cons_succ]
    refine wpAnyH_take (i := 5) (oi := (Oper.mk (some 236) (Op.load 36 (Operand.tmp 235)) 36 "outright.go:62" #[(Edge.mk 4 Ground.data), (Edge.mk 3 Ground.guard)] (some (3, true)))) (v := undef) rfl (by kernel_rfl) (by kernel_rfl) (by kernel_rfl) (fun _ _ _ h => hPn h rfl) (Or.inr ⟨by rfl, rfl⟩) hC ?_
    try simp only [Act.put, List.setIfInBounds_toArray, List.set_cons_zero, List.set_cons_succ]
    refine wpAnyH_take (i := 6) (oi := (Oper.mk (some 237) (Op.call (Call.mk (Callee.builtin Builtin.len) #[(Operand.tmp 236)] #[36])) 3 "outright.go:62" #[(Edge.mk 5 Ground.data), (Edge.mk 3 Ground.guard)] (some (3, true)))) (v := undef) rfl (by kernel_rfl) (by kernel_rfl) (by kernel_rfl) (fun _ _ _ h => hPn h rfl) (Or.inr ⟨by rfl, rfl⟩) hC ?_
    try simp only [Act.put, List.setIfInBounds_toArray, List.set_cons_zero, List.set_cons_succ]
    refine wpAnyH_take (i := 7) (oi := (Oper.mk (some 238) (Op.load 26 (Operand.tmp 1)) 26 "outright.go:62" #[(Edge.mk 3 Ground.guard)] (some (3, true)))) (v := undef) rfl (by kernel_rfl) (by kernel_rfl) (by kernel_rfl) (fun _ _ _ h => hPn h rfl) (Or.inr ⟨by rfl, rfl⟩) hC ?_
    try simp only [Act.put, List.setIfInBounds_toArray, List.set_cons_zero, List.set_cons_succ]
    refine wpAnyH_take (i := 8) (oi := (Oper.mk (some 239) (Op.fieldAddr 47 (Operand.tmp 15) 5) 0 "outright.go:62" #[(Edge.mk 3 Ground.guard)] (some (3, true)))) (v := undef) rfl (by kernel_rfl) (by kernel_rfl) (by kernel_rfl) (fun _ _ _ h => hPn h rfl) (Or.inr ⟨by rfl, rfl⟩) hC ?_
    try simp only [Act.put, List.setIfInBounds_toArray, List.set_cons_zero, List.set_cons_succ]
    refine wpAnyH_take (i := 9) (oi := (Oper.mk (some 240) (Op.load 9 (Operand.tmp 239)) 9 "outright.go:62" #[(Edge.mk 8 Ground.data), (Edge.mk 3 Ground.guard)] (some (3, true)))) (v := undef) rfl (by kernel_rfl) (by kernel_rfl) (by kernel_rfl) (fun _ _ _ h => hPn h rfl) (Or.inr ⟨by rfl, rfl⟩) hC ?_
    try simp only [Act.put, List.setIfInBounds_toArray, List.set_cons_zero, List.set_cons_succ]
    refine wpAnyH_take (i := 10) (oi := (Oper.mk (some 241) (Op.call (Call.mk (Callee.value (Operand.func 17)) #[(Operand.tmp 238), (Operand.tmp 240)] #[26, 9])) 3 "outright.go:62" #[(Edge.mk 7 Ground.data), (Edge.mk 9 Ground.data), (Edge.mk 3 Ground.chain), (Edge.mk 3 Ground.guard)] (some (3, true)))) (v := undef) rfl (by kernel_rfl) (by kernel_rfl) (by kernel_rfl) (fun _ _ _ h => hPn h rfl) (Or.inr ⟨by rfl, rfl⟩) hC ?_
    try simp only [Act.put, List.setIfInBounds_toArray, List.set_cons_zero, List.set_cons_succ]
    refine wpAnyH_take (i := 11) (oi := (Oper.mk (some 242) (Op.binOp BinOp.neq 3 (Operand.tmp 237) (Operand.tmp 241) 3) 4 "outright.go:62" #[(Edge.mk 6 Ground.data), (Edge.mk 10 Ground.data), (Edge.mk 3 Ground.guard)] (some (3, true)))) (v := undef) rfl (by kernel_rfl) (by kernel_rfl) (by kernel_rfl) (fun _ _ _ h => hPn h rfl) (Or.inr ⟨by rfl, rfl⟩) hC ?_
    try simp only [Act.put, List.setIfInBounds_toArray, List.set_cons_zero, List.set_cons_succ]
    refine wpAnyH_take (i := 12) (oi := (Oper.mk (some 243) (Op.pick (Operand.tmp 234) (Operand.tmp 242) (Operand.const (Value.bool false))) 4 "outright.go:62" #[(Edge.mk 3 Ground.data), (Edge.mk 11 Ground.data)] none)) (v := ?_) rfl (by kernel_rfl) (by kernel_rfl) (by kernel_rfl) (fun _ _ _ h => hPn h rfl) (Or.inl ⟨by rfl, ?_⟩) hC ?_
    rotate_left
    · (intro w hSw; (try dsimp only at hSw); go_simp; try with_reducible rfl)
    try simp only [Act.put, List.setIfInBounds_toArray, List.set_cons_zero, List.set_cons_succ]
    refine wpAnyH_done (by kernel_rfl) ?_ _
    go_wp2_with fail
    exact hQ.out (hbx.out.trans (hbc.out.mono hbx.out.size))

end Go.Proofs.YtjblhiekccjdcaaR
namespace Go.Proofs.YtjblhiekccjdcaaR
open Go.RowKit Go.Maps Go.Shelf
attribute [local go_sem] Oper.semAt_some

set_option maxRecDepth 20000 in
set_option maxHeartbeats 8000000 in
theorem once7h {c : Code} (hc : Func.blockOf Try.f4 7 = some c) {Q : Exit → Act → World → Prop} {w : World} {Sd S0 g off k : Nat} {P : List Fun} {d : Fun} {y : Ins} {ap ab a0 aa al : Option Addr} {np cp nb cb p0 c0 nc cc na ca nl cl : Nat} {u0 u2 u3 u4 u5 u6 u7 u8 u9 u10 u12 u15 u16 u17 u18 u19 u20 u21 u22 u23 u24 u25 u26 u27 u28 u29 u30 u31 u32 u33 u34 u35 u36 u37 u38 u39 u40 u41 u42 u43 u44 u45 u46 u47 u48 u49 u50 u51 u52 u53 u54 u55 u56 u57 u58 u59 u60 u61 u62 u63 u64 u65 u66 u67 u68 u69 u70 u71 u72 u73 u74 u75 u76 u77 u78 u79 u80 u81 u82 u83 u84 u85 u86 u87 u88 u89 u90 u91 u92 u93 u94 u95 u96 u97 u98 u99 u100 u101 u102 u103 u104 u105 u106 u107 u108 u109 u110 u111 u112 u113 u114 u115 u116 u117 u118 u119 u120 u121 u122 u123 u124 u125 u126 u127 u128 u129 u130 u131 u132 u133 u134 u135 u136 u137 u138 u139 u140 u141 u142 u143 u144 u145 u146 u147 u148 u149 u150 u151 u152 u153 u154 u155 u156 u157 u158 u159 u160 u161 u162 u163 u164 u165 u166 u167 u168 u169 u170 u171 u172 u173 u174 u175 u176 u177 u178 u179 u180 u181 u182 u183 u184 u185 u186 u187 u188 u189 u190 u191 u192 u193 u194 u195 u196 u197 u198 u199 u200 u201 u202 u203 u204 u205 u206 u207 u208 u209 u210 u211 u212 u213 u214 u215 u216 u217 u218 u219 u220 u221 u222 u223 u224 u225 u226 u227 u228 u229 u230 u231 u232 u233 u234 u235 u236 u237 u238 u239 u240 u241 u242 u243 u244 u245 u246 u247 u248 u249 u250 u251 u252 u253 u254 u255 u256 u257 u258 u259 u260 u261 u262 u263 : Value}
    (hf : FBx w Sd d ap np cp ab nb cb) (hp : PBx w S0 P a0 p0 c0) (hL : LightP P) (hd : LightF d) (hPn : ∀ {x} {a a1 : Act} {w1 : World}, Q (.panic x) a w1 → a.defers = a1.defers → Q (.panic x) a1 w1) (hk : k < nc) (hnc2 : nc ≤ 200) (hcv : ∀ (j : Nat) (v : Value), #[.int .u8 y.op, .string y.dst, .string y.a, .string y.b, .int .i64 y.n, .string y.fn, .slice aa na ca, .slice al nl cl][j]? = some v → w.cell? ⟨g, off + k * 8 + j, none⟩ = some v) (ra : RdS w (.slice aa na ca) y.args) (rl : RdS w (.slice al nl cl) y.labels) (hlI1 : LightI y) (hUa : okU d y.a) (hUb : okU d y.b) (hUs : ∀ s ∈ y.args, okU d s ∧ s.toList.isEmpty = false) (hUl : ∀ s ∈ y.labels, lblC d s = 1) (hcl : (y.op = 10 ∨ y.op = 4 → nameN P y.fn = 1) ∧ (y.op = 10 → lastN P y.fn = y.args.length)) (hod1 : y.dst.toList.isEmpty = false → defN d y.dst = 1) (hen : endsB y.op = decide (k + 1 = nc)) (ho : (y.op ≠ 12 ∧ y.op ≠ 13 ∧ y.op ≠ 14 ∧ y.op ≠ 10 ∧ y.op ≠ 4))
    (hQ : Hid (∀ {wx : World} {v2 v15 v16 v17 v18 v128 v129 v130 v131 v132 v133 v134 v135 v136 v137 v138 v139 v140 v141 v142 v143 v144 v145 v146 v147 v148 v149 v150 v151 v152 v153 v154 v155 v156 v157 v158 v159 v160 v161 v162 v163 v164 v165 v166 v167 v168 v169 v170 v171 v172 v173 v174 v175 v176 v177 v178 v179 v180 v181 v182 v183 v184 v185 v186 v187 v188 v189 v190 v191 v192 v193 v194 v195 v196 v197 v198 v199 v200 v201 v202 v203 v204 v205 v206 v207 v208 v209 v210 v211 v212 v213 v214 v215 v216 v217 v218 v219 v220 v221 v222 v223 v224 v225 v226 v227 v228 v229 v230 v231 v232 v233 v234 v235 v236 v237 v238 v239 v240 v241 v242 v243 : Value}, Below w.heap.size w wx → Q .normal { tmps := #[u0, .pointer (some ⟨S0, 0, none⟩), v2, u3, u4, u5, u6, u7, u8, u9, u10, .pointer (some ⟨Sd, 0, none⟩), u12, .slice (some ⟨g, off, none⟩) nc cc, .int .i64 k, v15, v16, v17, v18, u19, u20, u21, u22, u23, u24, u25, u26, u27, u28, u29, u30, u31, u32, u33, u34, u35, u36, u37, u38, u39, u40, u41, u42, u43, u44, u45, u46, u47, u48, u49, u50, u51, u52, u53, u54, u55, u56, u57, u58, u59, u60, u61, u62, u63, u64, u65, u66, u67, u68, u69, u70, u71, u72, u73, u74, u75, u76, u77, u78, u79, u80, u81, u82, u83, u84, u85, u86, u87, u88, u89, u90, u91, u92, u93, u94, u95, u96, u97, u98, u99, u100, u101, u102, u103, u104, u105, u106, u107, u108, u109, u110, u111, u112, u113, u114, u115, u116, u117, u118, u119, u120, u121, u122, u123, u124, u125, u126, u127, v128, v129, v130, v131, v132, v133, v134, v135, v136, v137, v138, v139, v140, v141, v142, v143, v144, v145, v146, v147, v148, v149, v150, v151, v152, v153, v154, v155, v156, v157, v158, v159, v160, v161, v162, v163, v164, v165, v166, v167, v168, v169, v170, v171, v172, v173, v174, v175, v176, v177, v178, v179, v180, v181, v182, v183, v184, v185, v186, v187, v188, v189, v190, v191, v192, v193, v194, v195, v196, v197, v198, v199, v200, v201, v202, v203, v204, v205, v206, v207, v208, v209, v210, v211, v212, v213, v214, v215, v216, v217, v218, v219, v220, v221, v222, v223, v224, v225, v226, v227, v228, v229, v230, v231, v232, v233, v234, v235, v236, v237, v238, v239, v240, v241, v242, v243, u244, u245, u246, u247, u248, u249, u250, u251, u252, u253, u254, u255, u256, u257, u258, u259, u260, u261, u262, u263], defers := [] } wx)) :
    c.wp Try.prog Q { tmps := #[u0, .pointer (some ⟨S0, 0, none⟩), u2, u3, u4, u5, u6, u7, u8, u9, u10, .pointer (some ⟨Sd, 0, none⟩), u12, .slice (some ⟨g, off, none⟩) nc cc, .int .i64 k, u15, u16, u17, u18, u19, u20, u21, u22, u23, u24, u25, u26, u27, u28, u29, u30, u31, u32, u33, u34, u35, u36, u37, u38, u39, u40, u41, u42, u43, u44, u45, u46, u47, u48, u49, u50, u51, u52, u53, u54, u55, u56, u57, u58, u59, u60, u61, u62, u63, u64, u65, u66, u67, u68, u69, u70, u71, u72, u73, u74, u75, u76, u77, u78, u79, u80, u81, u82, u83, u84, u85, u86, u87, u88, u89, u90, u91, u92, u93, u94, u95, u96, u97, u98, u99, u100, u101, u102, u103, u104, u105, u106, u107, u108, u109, u110, u111, u112, u113, u114, u115, u116, u117, u118, u119, u120, u121, u122, u123, u124, u125, u126, u127, u128, u129, u130, u131, u132, u133, u134, u135, u136, u137, u138, u139, u140, u141, u142, u143, u144, u145, u146, u147, u148, u149, u150, u151, u152, u153, u154, u155, u156, u157, u158, u159, u160, u161, u162, u163, u164, u165, u166, u167, u168, u169, u170, u171, u172, u173, u174, u175, u176, u177, u178, u179, u180, u181, u182, u183, u184, u185, u186, u187, u188, u189, u190, u191, u192, u193, u194, u195, u196, u197, u198, u199, u200, u201, u202, u203, u204, u205, u206, u207, u208, u209, u210, u211, u212, u213, u214, u215, u216, u217, u218, u219, u220, u221, u222, u223, u224, u225, u226, u227, u228, u229, u230, u231, u232, u233, u234, u235, u236, u237, u238, u239, u240, u241, u242, u243, u244, u245, u246, u247, u248, u249, u250, u251, u252, u253, u254, u255, u256, u257, u258, u259, u260, u261, u262, u263], defers := [] } w := by
  conv at hc => lhs; whnf
  simp only [Option.some.injEq] at hc
  subst hc
  have j2 : (k : Int) < (nc : Int) := by omega
  have hna : na = y.args.length := by obtain ⟨a, q, e⟩ := RdS.shape ra; simp only [Value.slice.injEq] at e; exact e.2.1
  have hnl : nl = y.labels.length := by obtain ⟨a, q, e⟩ := RdS.shape rl; simp only [Value.slice.injEq] at e; exact e.2.1
  have i0 : w.cell? ⟨g, off + k * 8, none⟩ = some (.int .u8 y.op) := hcv 0 _ rfl
  have i1 : w.cell? ⟨g, off + k * 8 + 1, none⟩ = some (.string y.dst) := hcv 1 _ rfl
  have i2 : w.cell? ⟨g, off + k * 8 + 2, none⟩ = some (.string y.a) := hcv 2 _ rfl
  have i3 : w.cell? ⟨g, off + k * 8 + 3, none⟩ = some (.string y.b) := hcv 3 _ rfl
  have i4 : w.cell? ⟨g, off + k * 8 + 4, none⟩ = some (.int .i64 y.n) := hcv 4 _ rfl
  have i5 : w.cell? ⟨g, off + k * 8 + 5, none⟩ = some (.string y.fn) := hcv 5 _ rfl
  have i6 : w.cell? ⟨g, off + k * 8 + 6, none⟩ = some (.slice aa na ca) := hcv 6 _ rfl
  have i7 : w.cell? ⟨g, off + k * 8 + 7, none⟩ = some (.slice al nl cl) := hcv 7 _ rfl
  have hna1 : Hid (y.args.length ≤ 1000000) := Lib.hid (by have := hlI1.1; omega)
  have hnl1 : Hid (y.labels.length ≤ 1000000) := Lib.hid (by have := hlI1.2; omega)
  have hna20 : na ≤ 20 := by rw [hna]; exact hlI1.1
  replace hUa := Lib.hid hUa
  replace hUb := Lib.hid hUb
  replace hUs := Lib.hid hUs
  replace hUl := Lib.hid hUl
  replace hcl := Lib.hid hcl
  replace hd := Lib.hid hd
  replace hL := Lib.hid hL
  have hbx0 : Below w.heap.size w (w.alloc (.cells #[.int .u8 y.op, .string y.dst, .string y.a, .string y.b, .int .i64 y.n, .string y.fn, .slice aa na ca, .slice al nl cl] 47)) := box_below _ _
  have hF0 : (w.alloc (.cells #[.int .u8 y.op, .string y.dst, .string y.a, .string y.b, .int .i64 y.n, .string y.fn, .slice aa na ca, .slice al nl cl] 47)).heap[w.heap.size]? = some (.cells #[.int .u8 y.op, .string y.dst, .string y.a, .string y.b, .int .i64 y.n, .string y.fn, .slice aa na ca, .slice al nl cl] 47 (0, 0)) := heap_alloc_new _ _
  replace ra := Lib.hid (Rd.below ra hbx0)
  replace rl := Lib.hid (Rd.below rl hbx0)
  have hbx := Lib.hid hbx0
  replace hna := Lib.hid hna
  replace hnl := Lib.hid hnl
  replace hf := Lib.hid hf
  replace hp := Lib.hid hp
  replace ho := Lib.hid ho
  clear hcv hlI1 hbx0
  go_upto_region 34 with fail
  generalize (w.alloc (.cells #[.int .u8 y.op, .string y.dst, .string y.a, .string y.b, .int .i64 y.n, .string y.fn, .slice aa na ca, .slice al nl cl] 47)) = w1 at hbx hF0 ra rl ⊢
  obtain ⟨Sx, hSx⟩ : ∃ Sx, Sx = w.heap.size := ⟨_, rfl⟩
  rw [← hSx] at hF0 ⊢
  have hX1 : XBx w1 Sx y aa na ca al nl cl := ⟨by rw [blk_cell hF0]; rfl, by rw [blk_cell hF0]; rfl, by rw [blk_cell hF0]; rfl, by rw [blk_cell hF0]; rfl, by rw [blk_cell hF0]; rfl, by rw [blk_cell hF0]; rfl, by rw [blk_cell hF0]; rfl, ra.out, rl.out⟩
  have hfk := Lib.hid (fun w' (hb : Below w1.heap.size w1 w') => ((hf.out.keep hbx.out).keep hb))
  have hpk := Lib.hid (fun w' (hb : Below w1.heap.size w1 w') => ((hp.out.keep hbx.out).keep hb))
  have hxk := Lib.hid (fun w' (hb : Below w1.heap.size w1 w') => hX1.keep hb)
  have hbc : Hid (Below w1.heap.size w1 w1) := Lib.hid (Below.refl _ _)
  obtain ⟨f0, f1, f2, -, -⟩ := hfk.out _ hbc.out
  obtain ⟨x0, x1, x2, x3, x5, x6, x7, -, -⟩ := hxk.out _ hbc.out
  obtain ⟨s0, -⟩ := hpk.out _ hbc.out
  replace hSx := Lib.hid hSx
  replace ho := ho.out
  clear hX1 hF0 ra rl i0 i1 i2 i3 i4 i5 i6 i7
  cases hde : y.dst.toList.isEmpty with
  | true =>
    have hdf := Lib.hid trivial
    clear hod1
    have q12 : (y.op == 12) = false := by rw [beq_eq_false_iff_ne]; omega
    have q13 : (y.op == 13) = false := by rw [beq_eq_false_iff_ne]; omega
    have q14 : (y.op == 14) = false := by rw [beq_eq_false_iff_ne]; omega
    have q10 : (y.op == 10) = false := by rw [beq_eq_false_iff_ne]; omega
    have q4 : (y.op == 4) = false := by rw [beq_eq_false_iff_ne]; omega
    have hee : endsB y.op = false := by unfold endsB; rw [q12, q13, q14]; rfl
    rw [hee] at hen
    have e150 : ((k : Int) == (nc : Int) - 1) = false := by rw [beq_eq_false_iff_ne]; have := of_decide_eq_false hen.symm; omega
    replace hen := Lib.hid hen
    clear hee
    have hnm1 := Lib.hid trivial
    go_upto_block 8 with (first
      | (go_at_call 15; with_reducible refine Calls.mono ((hfk.out _ hbc.out).defs hd.out hdf.out) ?_; rintro e w2 ⟨rfl, hb2⟩; replace hbc := Lib.hid (hbc.out.trans (hb2.mono hbc.out.size)); clear f0 f1 f2 x0 x1 x2 x3 x5 x6 x7 s0; obtain ⟨f0, f1, f2, -, -⟩ := hfk.out _ hbc.out; obtain ⟨x0, x1, x2, x3, x5, x6, x7, -, -⟩ := hxk.out _ hbc.out; obtain ⟨s0, -⟩ := hpk.out _ hbc.out)
      | (go_at_call 16; with_reducible refine Calls.mono ((hfk.out _ hbc.out).used hd.out hUa.out) ?_; rintro e w2 ⟨rfl, hb2⟩; replace hbc := Lib.hid (hbc.out.trans (hb2.mono hbc.out.size)); clear f0 f1 f2 x0 x1 x2 x3 x5 x6 x7 s0; obtain ⟨f0, f1, f2, -, -⟩ := hfk.out _ hbc.out; obtain ⟨x0, x1, x2, x3, x5, x6, x7, -, -⟩ := hxk.out _ hbc.out; obtain ⟨s0, -⟩ := hpk.out _ hbc.out)
      | (go_at_call 16; with_reducible refine Calls.mono ((hfk.out _ hbc.out).used hd.out hUb.out) ?_; rintro e w2 ⟨rfl, hb2⟩; replace hbc := Lib.hid (hbc.out.trans (hb2.mono hbc.out.size)); clear f0 f1 f2 x0 x1 x2 x3 x5 x6 x7 s0; obtain ⟨f0, f1, f2, -, -⟩ := hfk.out _ hbc.out; obtain ⟨x0, x1, x2, x3, x5, x6, x7, -, -⟩ := hxk.out _ hbc.out; obtain ⟨s0, -⟩ := hpk.out _ hbc.out)
      | (go_at_call 13; with_reducible refine Calls.mono ((hpk.out _ hbc.out).funcs hL.out hnm1.out) ?_; rintro e w2 ⟨rfl, hb2⟩; replace hbc := Lib.hid (hbc.out.trans (hb2.mono hbc.out.size)); clear f0 f1 f2 x0 x1 x2 x3 x5 x6 x7 s0; obtain ⟨f0, f1, f2, -, -⟩ := hfk.out _ hbc.out; obtain ⟨x0, x1, x2, x3, x5, x6, x7, -, -⟩ := hxk.out _ hbc.out; obtain ⟨s0, -⟩ := hpk.out _ hbc.out)
      | fail)
    refine once8 (by kernel_rfl) (hfk.out _ hbc.out) (hxk.out _ hbc.out) hd.out (fun h e => hPn h e) hUs.out hna1.out (Lib.hid ?_)
    intros
    rename_i hb2
    replace hbc := Lib.hid (hbc.out.trans (hb2.mono hbc.out.size)); clear f0 f1 f2 x0 x1 x2 x3 x5 x6 x7 s0; obtain ⟨f0, f1, f2, -, -⟩ := hfk.out _ hbc.out; obtain ⟨x0, x1, x2, x3, x5, x6, x7, -, -⟩ := hxk.out _ hbc.out; obtain ⟨s0, -⟩ := hpk.out _ hbc.out
    go_upto_block 10 with fail
    refine once10 (by kernel_rfl) (hfk.out _ hbc.out) (hxk.out _ hbc.out) hd.out (fun h e => hPn h e) hUl.out hnl1.out (Lib.hid ?_)
    intros
    rename_i hb2
    replace hbc := Lib.hid (hbc.out.trans (hb2.mono hbc.out.size)); clear f0 f1 f2 x0 x1 x2 x3 x5 x6 x7 s0; obtain ⟨f0, f1, f2, -, -⟩ := hfk.out _ hbc.out; obtain ⟨x0, x1, x2, x3, x5, x6, x7, -, -⟩ := hxk.out _ hbc.out; obtain ⟨s0, -⟩ := hpk.out _ hbc.out
    go_upto_region 49 with (first
      | (go_at_call 15; with_reducible refine Calls.mono ((hfk.out _ hbc.out).defs hd.out hdf.out) ?_; rintro e w2 ⟨rfl, hb2⟩; replace hbc := Lib.hid (hbc.out.trans (hb2.mono hbc.out.size)); clear f0 f1 f2 x0 x1 x2 x3 x5 x6 x7 s0; obtain ⟨f0, f1, f2, -, -⟩ := hfk.out _ hbc.out; obtain ⟨x0, x1, x2, x3, x5, x6, x7, -, -⟩ := hxk.out _ hbc.out; obtain ⟨s0, -⟩ := hpk.out _ hbc.out)
      | (go_at_call 16; with_reducible refine Calls.mono ((hfk.out _ hbc.out).used hd.out hUa.out) ?_; rintro e w2 ⟨rfl, hb2⟩; replace hbc := Lib.hid (hbc.out.trans (hb2.mono hbc.out.size)); clear f0 f1 f2 x0 x1 x2 x3 x5 x6 x7 s0; obtain ⟨f0, f1, f2, -, -⟩ := hfk.out _ hbc.out; obtain ⟨x0, x1, x2, x3, x5, x6, x7, -, -⟩ := hxk.out _ hbc.out; obtain ⟨s0, -⟩ := hpk.out _ hbc.out)
      | (go_at_call 16; with_reducible refine Calls.mono ((hfk.out _ hbc.out).used hd.out hUb.out) ?_; rintro e w2 ⟨rfl, hb2⟩; replace hbc := Lib.hid (hbc.out.trans (hb2.mono hbc.out.size)); clear f0 f1 f2 x0 x1 x2 x3 x5 x6 x7 s0; obtain ⟨f0, f1, f2, -, -⟩ := hfk.out _ hbc.out; obtain ⟨x0, x1, x2, x3, x5, x6, x7, -, -⟩ := hxk.out _ hbc.out; obtain ⟨s0, -⟩ := hpk.out _ hbc.out)
      | (go_at_call 13; with_reducible refine Calls.mono ((hpk.out _ hbc.out).funcs hL.out hnm1.out) ?_; rintro e w2 ⟨rfl, hb2⟩; replace hbc := Lib.hid (hbc.out.trans (hb2.mono hbc.out.size)); clear f0 f1 f2 x0 x1 x2 x3 x5 x6 x7 s0; obtain ⟨f0, f1, f2, -, -⟩ := hfk.out _ hbc.out; obtain ⟨x0, x1, x2, x3, x5, x6, x7, -, -⟩ := hxk.out _ hbc.out; obtain ⟨s0, -⟩ := hpk.out _ hbc.out)
      | fail)
    rename World => w8
    have hC : w8.drew.cell? ⟨Sx, 0, none⟩ = some (.int .u8 y.op) ∧ w8.drew.cell? ⟨Sx, 5, none⟩ = some (.string y.fn) ∧ w8.drew.cell? ⟨Sx, 6, none⟩ = some (.slice aa na ca) ∧ w8.drew.cell? ⟨S0, 0, none⟩ = some (.slice a0 p0 c0) := ⟨x0, x5, x6, s0⟩
    replace hbc := Lib.hid hbc.out.drew
    clear f0 f1 f2 x0 x1 x2 x3 x5 x6 x7 s0
    refine wp_region_held_drew (S := (fun w' => w'.cell? ⟨Sx, 0, none⟩ = some (.int .u8 y.op) ∧ w'.cell? ⟨Sx, 5, none⟩ = some (.string y.fn) ∧ w'.cell? ⟨Sx, 6, none⟩ = some (.slice aa na ca) ∧ w'.cell? ⟨S0, 0, none⟩ = some (.slice a0 p0 c0))) (by kernel_rfl) hC (fun hHeld => ?_)
    clear hHeld
    refine wpAnyH_take (i := 0) (oi := (Oper.mk (some 231) (Op.fieldAddr 47 (Operand.tmp 15) 0) 0 "outright.go:62" #[] none)) (v := ?_) rfl (by kernel_rfl) (by kernel_rfl) (by kernel_rfl) (fun _ _ _ h => hPn h rfl) (Or.inl ⟨by rfl, ?_⟩) hC ?_
    rotate_left
    · (intro w hSw; (try dsimp only at hSw); go_simp; try with_reducible rfl)
    try simp only [Act.put, List.setIfInBounds_toArray, List.set_cons_zero, List.set_cons_succ]
    refine wpAnyH_take (i := 1) (oi := (Oper.mk (some 232) (Op.load 45 (Operand.tmp 231)) 45 "outright.go:62" #[(Edge.mk 0 Ground.data)] none)) (v := ?_) rfl (by kernel_rfl) (by kernel_rfl) (by kernel_rfl) (fun _ _ _ h => hPn h rfl) (Or.inl ⟨by rfl, ?_⟩) hC ?_
    rotate_left
    · (intro w hSw; (try dsimp only at hSw); go_simp; try with_reducible rfl)
    try simp only [Act.put, List.setIfInBounds_toArray, List.set_cons_zero, List.set_cons_succ]
    refine wpAnyH_take (i := 2) (oi := (Oper.mk (some 233) (Op.binOp BinOp.eql 45 (Operand.tmp 232) (Operand.const (Value.int IntKind.u8 10)) 45) 4 "outright.go:62" #[(Edge.mk 1 Ground.data)] none)) (v := ?_) rfl (by kernel_rfl) (by kernel_rfl) (by kernel_rfl) (fun _ _ _ h => hPn h rfl) (Or.inl ⟨by rfl, ?_⟩) hC ?_
    rotate_left
    · (intro w hSw; (try dsimp only at hSw); go_simp; try with_reducible rfl)
    try simp only [Act.put, List.setIfInBounds_toArray, List.set_cons_zero, List.set_cons_succ]
    refine wpAnyH_take (i := 3) (oi := (Oper.mk (some 234) (Op.move (Operand.tmp 233)) 4 "outright.go:62" #[(Edge.mk 2 Ground.data)] none)) (v := ?_) rfl (by kernel_rfl) (by kernel_rfl) (by kernel_rfl) (fun _ _ _ h => hPn h rfl) (Or.inl ⟨by rfl, ?_⟩) hC ?_
    rotate_left
    · (intro w hSw; (try dsimp only at hSw); go_simp; try with_reducible rfl)
    try simp only [Act.put, List.setIfInBounds_toArray, List.set_cons_zero, List.set_cons_succ]
    refine wpAnyH_take (i := 4) (oi := (Oper.mk (some 235) (Op.fieldAddr 47 (Operand.tmp 15) 6) 0 "outright.go:62" #[(Edge.mk 3 Ground.guard)] (some (3, true)))) (v := undef) rfl (by kernel_rfl) (by kernel_rfl) (by kernel_rfl) (fun _ _ _ h => hPn h rfl) (Or.inr ⟨by rfl, rfl⟩) hC ?_
    try simp only [Act.put, List.setIfInBounds_toArray, List.set_cons_zero, List.set_cons_succ]
    refine wpAnyH_take (i := 5) (oi := (Oper.mk (some 236) (Op.load 36 (Operand.tmp 235)) 36 "outright.go:62" #[(Edge.mk 4 Ground.data), (Edge.mk 3 Ground.guard)] (some (3, true)))) (v := undef) rfl (by kernel_rfl) (by kernel_rfl) (by kernel_rfl) (fun _ _ _ h => hPn h rfl) (Or.inr ⟨by rfl, rfl⟩) hC ?_
    try simp only [Act.put, List.setIfInBounds_toArray, List.set_cons_zero, List.set_cons_succ]
    refine wpAnyH_take (i := 6) (oi := (Oper.mk (some 237) (Op.call (Call.mk (Callee.builtin Builtin.len) #[(Operand.tmp 236)] #[36])) 3 "outright.go:62" #[(Edge.mk 5 Ground.data), (Edge.mk 3 Ground.guard)] (some (3, true)))) (v := undef) rfl (by kernel_rfl) (by kernel_rfl) (by kernel_rfl) (fun _ _ _ h => hPn h rfl) (Or.inr ⟨by rfl, rfl⟩) hC ?_
    try simp only [Act.put, List.setIfInBounds_toArray, List.set_cons_zero, List.set_cons_succ]
    refine wpAnyH_take (i := 7) (oi := (Oper.mk (some 238) (Op.load 26 (Operand.tmp 1)) 26 "outright.go:62" #[(Edge.mk 3 Ground.guard)] (some (3, true)))) (v := undef) rfl (by kernel_rfl) (by kernel_rfl) (by kernel_rfl) (fun _ _ _ h => hPn h rfl) (Or.inr ⟨by rfl, rfl⟩) hC ?_
    try simp only [Act.put, List.setIfInBounds_toArray, List.set_cons_zero, List.set_cons_succ]
    refine wpAnyH_take (i := 8) (oi := (Oper.mk (some 239) (Op.fieldAddr 47 (Operand.tmp 15) 5) 0 "outright.go:62" #[(Edge.mk 3 Ground.guard)] (some (3, true)))) (v := undef) rfl (by kernel_rfl) (by kernel_rfl) (by kernel_rfl) (fun _ _ _ h => hPn h rfl) (Or.inr ⟨by rfl, rfl⟩) hC ?_
    try simp only [Act.put, List.setIfInBounds_toArray, List.set_cons_zero, List.set_cons_succ]
    refine wpAnyH_take (i := 9) (oi := (Oper.mk (some 240) (Op.load 9 (Operand.tmp 239)) 9 "outright.go:62" #[(Edge.mk 8 Ground.data), (Edge.mk 3 Ground.guard)] (some (3, true)))) (v := undef) rfl (by kernel_rfl) (by kernel_rfl) (by kernel_rfl) (fun _ _ _ h => hPn h rfl) (Or.inr ⟨by rfl, rfl⟩) hC ?_
    try simp only [Act.put, List.setIfInBounds_toArray, List.set_cons_zero, List.set_cons_succ]
    refine wpAnyH_take (i := 10) (oi := (Oper.mk (some 241) (Op.call (Call.mk (Callee.value (Operand.func 17)) #[(Operand.tmp 238), (Operand.tmp 240)] #[26, 9])) 3 "outright.go:62" #[(Edge.mk 7 Ground.data), (Edge.mk 9 Ground.data), (Edge.mk 3 Ground.chain), (Edge.mk 3 Ground.guard)] (some (3, true)))) (v := undef) rfl (by kernel_rfl) (by kernel_rfl) (by kernel_rfl) (fun _ _ _ h => hPn h rfl) (Or.inr ⟨by rfl, rfl⟩) hC ?_
    try simp only [Act.put, List.setIfInBounds_toArray, List.set_cons_zero, List.set_cons_succ]
    refine wpAnyH_take (i := 11) (oi := (Oper.mk (some 242) (Op.binOp BinOp.neq 3 (Operand.tmp 237) (Operand.tmp 241) 3) 4 "outright.go:62" #[(Edge.mk 6 Ground.data), (Edge.mk 10 Ground.data), (Edge.mk 3 Ground.guard)] (some (3, true)))) (v := undef) rfl (by kernel_rfl) (by kernel_rfl) (by kernel_rfl) (fun _ _ _ h => hPn h rfl) (Or.inr ⟨by rfl, rfl⟩) hC ?_
    try simp only [Act.put, List.setIfInBounds_toArray, List.set_cons_zero, List.set_cons_succ]
    refine wpAnyH_take (i := 12) (oi := (Oper.mk (some 243) (Op.pick (Operand.tmp 234) (Operand.tmp 242) (Operand.const (Value.bool false))) 4 "outright.go:62" #[(Edge.mk 3 Ground.data), (Edge.mk 11 Ground.data)] none)) (v := ?_) rfl (by kernel_rfl) (by kernel_rfl) (by kernel_rfl) (fun _ _ _ h => hPn h rfl) (Or.inl ⟨by rfl, ?_⟩) hC ?_
    rotate_left
    · (intro w hSw; (try dsimp only at hSw); go_simp; try with_reducible rfl)
    try simp only [Act.put, List.setIfInBounds_toArray, List.set_cons_zero, List.set_cons_succ]
    refine wpAnyH_done (by kernel_rfl) ?_ _
    go_wp2_with fail
    exact hQ.out (hbx.out.trans (hbc.out.mono hbx.out.size))
  | false =>
    have hdf := Lib.hid (hod1 hde)
    clear hod1
    have q12 : (y.op == 12) = false := by rw [beq_eq_false_iff_ne]; omega
    have q13 : (y.op == 13) = false := by rw [beq_eq_false_iff_ne]; omega
    have q14 : (y.op == 14) = false := by rw [beq_eq_false_iff_ne]; omega
    have q10 : (y.op == 10) = false := by rw [beq_eq_false_iff_ne]; omega
    have q4 : (y.op == 4) = false := by rw [beq_eq_false_iff_ne]; omega
    have hee : endsB y.op = false := by unfold endsB; rw [q12, q13, q14]; rfl
    rw [hee] at hen
    have e150 : ((k : Int) == (nc : Int) - 1) = false := by rw [beq_eq_false_iff_ne]; have := of_decide_eq_false hen.symm; omega
    replace hen := Lib.hid hen
    clear hee
    have hnm1 := Lib.hid trivial
    go_upto_block 8 with (first
      | (go_at_call 15; with_reducible refine Calls.mono ((hfk.out _ hbc.out).defs hd.out hdf.out) ?_; rintro e w2 ⟨rfl, hb2⟩; replace hbc := Lib.hid (hbc.out.trans (hb2.mono hbc.out.size)); clear f0 f1 f2 x0 x1 x2 x3 x5 x6 x7 s0; obtain ⟨f0, f1, f2, -, -⟩ := hfk.out _ hbc.out; obtain ⟨x0, x1, x2, x3, x5, x6, x7, -, -⟩ := hxk.out _ hbc.out; obtain ⟨s0, -⟩ := hpk.out _ hbc.out)
      | (go_at_call 16; with_reducible refine Calls.mono ((hfk.out _ hbc.out).used hd.out hUa.out) ?_; rintro e w2 ⟨rfl, hb2⟩; replace hbc := Lib.hid (hbc.out.trans (hb2.mono hbc.out.size)); clear f0 f1 f2 x0 x1 x2 x3 x5 x6 x7 s0; obtain ⟨f0, f1, f2, -, -⟩ := hfk.out _ hbc.out; obtain ⟨x0, x1, x2, x3, x5, x6, x7, -, -⟩ := hxk.out _ hbc.out; obtain ⟨s0, -⟩ := hpk.out _ hbc.out)
      | (go_at_call 16; with_reducible refine Calls.mono ((hfk.out _ hbc.out).used hd.out hUb.out) ?_; rintro e w2 ⟨rfl, hb2⟩; replace hbc := Lib.hid (hbc.out.trans (hb2.mono hbc.out.size)); clear f0 f1 f2 x0 x1 x2 x3 x5 x6 x7 s0; obtain ⟨f0, f1, f2, -, -⟩ := hfk.out _ hbc.out; obtain ⟨x0, x1, x2, x3, x5, x6, x7, -, -⟩ := hxk.out _ hbc.out; obtain ⟨s0, -⟩ := hpk.out _ hbc.out)
      | (go_at_call 13; with_reducible refine Calls.mono ((hpk.out _ hbc.out).funcs hL.out hnm1.out) ?_; rintro e w2 ⟨rfl, hb2⟩; replace hbc := Lib.hid (hbc.out.trans (hb2.mono hbc.out.size)); clear f0 f1 f2 x0 x1 x2 x3 x5 x6 x7 s0; obtain ⟨f0, f1, f2, -, -⟩ := hfk.out _ hbc.out; obtain ⟨x0, x1, x2, x3, x5, x6, x7, -, -⟩ := hxk.out _ hbc.out; obtain ⟨s0, -⟩ := hpk.out _ hbc.out)
      | fail)
    refine once8 (by kernel_rfl) (hfk.out _ hbc.out) (hxk.out _ hbc.out) hd.out (fun h e => hPn h e) hUs.out hna1.out (Lib.hid ?_)
    intros
    rename_i hb2
    replace hbc := Lib.hid (hbc.out.trans (hb2.mono hbc.out.size)); clear f0 f1 f2 x0 x1 x2 x3 x5 x6 x7 s0; obtain ⟨f0, f1, f2, -, -⟩ := hfk.out _ hbc.out; obtain ⟨x0, x1, x2, x3, x5, x6, x7, -, -⟩ := hxk.out _ hbc.out; obtain ⟨s0, -⟩ := hpk.out _ hbc.out
    go_upto_block 10 with fail
    refine once10 (by kernel_rfl) (hfk.out _ hbc.out) (hxk.out _ hbc.out) hd.out (fun h e => hPn h e) hUl.out hnl1.out (Lib.hid ?_)
    intros
    rename_i hb2
    replace hbc := Lib.hid (hbc.out.trans (hb2.mono hbc.out.size)); clear f0 f1 f2 x0 x1 x2 x3 x5 x6 x7 s0; obtain ⟨f0, f1, f2, -, -⟩ := hfk.out _ hbc.out; obtain ⟨x0, x1, x2, x3, x5, x6, x7, -, -⟩ := hxk.out _ hbc.out; obtain ⟨s0, -⟩ := hpk.out _ hbc.out
    go_upto_region 49 with (first
      | (go_at_call 15; with_reducible refine Calls.mono ((hfk.out _ hbc.out).defs hd.out hdf.out) ?_; rintro e w2 ⟨rfl, hb2⟩; replace hbc := Lib.hid (hbc.out.trans (hb2.mono hbc.out.size)); clear f0 f1 f2 x0 x1 x2 x3 x5 x6 x7 s0; obtain ⟨f0, f1, f2, -, -⟩ := hfk.out _ hbc.out; obtain ⟨x0, x1, x2, x3, x5, x6, x7, -, -⟩ := hxk.out _ hbc.out; obtain ⟨s0, -⟩ := hpk.out _ hbc.out)
      | (go_at_call 16; with_reducible refine Calls.mono ((hfk.out _ hbc.out).used hd.out hUa.out) ?_; rintro e w2 ⟨rfl, hb2⟩; replace hbc := Lib.hid (hbc.out.trans (hb2.mono hbc.out.size)); clear f0 f1 f2 x0 x1 x2 x3 x5 x6 x7 s0; obtain ⟨f0, f1, f2, -, -⟩ := hfk.out _ hbc.out; obtain ⟨x0, x1, x2, x3, x5, x6, x7, -, -⟩ := hxk.out _ hbc.out; obtain ⟨s0, -⟩ := hpk.out _ hbc.out)
      | (go_at_call 16; with_reducible refine Calls.mono ((hfk.out _ hbc.out).used hd.out hUb.out) ?_; rintro e w2 ⟨rfl, hb2⟩; replace hbc := Lib.hid (hbc.out.trans (hb2.mono hbc.out.size)); clear f0 f1 f2 x0 x1 x2 x3 x5 x6 x7 s0; obtain ⟨f0, f1, f2, -, -⟩ := hfk.out _ hbc.out; obtain ⟨x0, x1, x2, x3, x5, x6, x7, -, -⟩ := hxk.out _ hbc.out; obtain ⟨s0, -⟩ := hpk.out _ hbc.out)
      | (go_at_call 13; with_reducible refine Calls.mono ((hpk.out _ hbc.out).funcs hL.out hnm1.out) ?_; rintro e w2 ⟨rfl, hb2⟩; replace hbc := Lib.hid (hbc.out.trans (hb2.mono hbc.out.size)); clear f0 f1 f2 x0 x1 x2 x3 x5 x6 x7 s0; obtain ⟨f0, f1, f2, -, -⟩ := hfk.out _ hbc.out; obtain ⟨x0, x1, x2, x3, x5, x6, x7, -, -⟩ := hxk.out _ hbc.out; obtain ⟨s0, -⟩ := hpk.out _ hbc.out)
      | fail)
    rename World => w8
    have hC : w8.drew.cell? ⟨Sx, 0, none⟩ = some (.int .u8 y.op) ∧ w8.drew.cell? ⟨Sx, 5, none⟩ = some (.string y.fn) ∧ w8.drew.cell? ⟨Sx, 6, none⟩ = some (.slice aa na ca) ∧ w8.drew.cell? ⟨S0, 0, none⟩ = some (.slice a0 p0 c0) := ⟨x0, x5, x6, s0⟩
    replace hbc := Lib.hid hbc.out.drew
    clear f0 f1 f2 x0 x1 x2 x3 x5 x6 x7 s0
    refine wp_region_held_drew (S := (fun w' => w'.cell? ⟨Sx, 0, none⟩ = some (.int .u8 y.op) ∧ w'.cell? ⟨Sx, 5, none⟩ = some (.string y.fn) ∧ w'.cell? ⟨Sx, 6, none⟩ = some (.slice aa na ca) ∧ w'.cell? ⟨S0, 0, none⟩ = some (.slice a0 p0 c0))) (by kernel_rfl) hC (fun hHeld => ?_)
    clear hHeld
    refine wpAnyH_take (i := 0) (oi := (Oper.mk (some 231) (Op.fieldAddr 47 (Operand.tmp 15) 0) 0 "outright.go:62" #[] none)) (v := ?_) rfl (by kernel_rfl) (by kernel_rfl) (by kernel_rfl) (fun _ _ _ h => hPn h rfl) (Or.inl ⟨by rfl, ?_⟩) hC ?_
    rotate_left
    · (intro w hSw; (try dsimp only at hSw); go_simp; try with_reducible rfl)
    try simp only [Act.put, List.setIfInBounds_toArray, List.set_cons_zero, List.set_cons_succ]
    refine wpAnyH_take (i := 1) (oi := (Oper.mk (some 232) (Op.load 45 (Operand.tmp 231)) 45 "outright.go:62" #[(Edge.mk 0 Ground.data)] none)) (v := ?_) rfl (by kernel_rfl) (by kernel_rfl) (by kernel_rfl) (fun _ _ _ h => hPn h rfl) (Or.inl ⟨by rfl, ?_⟩) hC ?_
    rotate_left
    · (intro w hSw; (try dsimp only at hSw); go_simp; try with_reducible rfl)
    try simp only [Act.put, List.setIfInBounds_toArray, List.set_cons_zero, List.set_cons_succ]
    refine wpAnyH_take (i := 2) (oi := (Oper.mk (some 233) (Op.binOp BinOp.eql 45 (Operand.tmp 232) (Operand.const (Value.int IntKind.u8 10)) 45) 4 "outright.go:62" #[(Edge.mk 1 Ground.data)] none)) (v := ?_) rfl (by kernel_rfl) (by kernel_rfl) (by kernel_rfl) (fun _ _ _ h => hPn h rfl) (Or.inl ⟨by rfl, ?_⟩) hC ?_
    rotate_left
    · (intro w hSw; (try dsimp only at hSw); go_simp; try with_reducible rfl)
    try simp only [Act.put, List.setIfInBounds_toArray, List.set_cons_zero, List.set_cons_succ]
    refine wpAnyH_take (i := 3) (oi := (Oper.mk (some 234) (Op.move (Operand.tmp 233)) 4 "outright.go:62" #[(Edge.mk 2 Ground.data)] none)) (v := ?_) rfl (by kernel_rfl) (by kernel_rfl) (by kernel_rfl) (fun _ _ _ h => hPn h rfl) (Or.inl ⟨by rfl, ?_⟩) hC ?_
    rotate_left
    · (intro w hSw; (try dsimp only at hSw); go_simp; try with_reducible rfl)
    try simp only [Act.put, List.setIfInBounds_toArray, List.set_cons_zero, List.set_cons_succ]
    refine wpAnyH_take (i := 4) (oi := (Oper.mk (some 235) (Op.fieldAddr 47 (Operand.tmp 15) 6) 0 "outright.go:62" #[(Edge.mk 3 Ground.guard)] (some (3, true)))) (v := undef) rfl (by kernel_rfl) (by kernel_rfl) (by kernel_rfl) (fun _ _ _ h => hPn h rfl) (Or.inr ⟨by rfl, rfl⟩) hC ?_
    try simp only [Act.put, List.setIfInBounds_toArray, List.set_cons_zero, List.set_cons_succ]
    refine wpAnyH_take (i := 5) (oi := (Oper.mk (some 236) (Op.load 36 (Operand.tmp 235)) 36 "outright.go:62" #[(Edge.mk 4 Ground.data), (Edge.mk 3 Ground.guard)] (some (3, true)))) (v := undef) rfl (by kernel_rfl) (by kernel_rfl) (by kernel_rfl) (fun _ _ _ h => hPn h rfl) (Or.inr ⟨by rfl, rfl⟩) hC ?_
    try simp only [Act.put, List.setIfInBounds_toArray, List.set_cons_zero, List.set_cons_succ]
    refine wpAnyH_take (i := 6) (oi := (Oper.mk (some 237) (Op.call (Call.mk (Callee.builtin Builtin.len) #[(Operand.tmp 236)] #[36])) 3 "outright.go:62" #[(Edge.mk 5 Ground.data), (Edge.mk 3 Ground.guard)] (some (3, true)))) (v := undef) rfl (by kernel_rfl) (by kernel_rfl) (by kernel_rfl) (fun _ _ _ h => hPn h rfl) (Or.inr ⟨by rfl, rfl⟩) hC ?_
    try simp only [Act.put, List.setIfInBounds_toArray, List.set_cons_zero, List.set_cons_succ]
    refine wpAnyH_take (i := 7) (oi := (Oper.mk (some 238) (Op.load 26 (Operand.tmp 1)) 26 "outright.go:62" #[(Edge.mk 3 Ground.guard)] (some (3, true)))) (v := undef) rfl (by kernel_rfl) (by kernel_rfl) (by kernel_rfl) (fun _ _ _ h => hPn h rfl) (Or.inr ⟨by rfl, rfl⟩) hC ?_
    try simp only [Act.put, List.setIfInBounds_toArray, List.set_cons_zero, List.set_cons_succ]
    refine wpAnyH_take (i := 8) (oi := (Oper.mk (some 239) (Op.fieldAddr 47 (Operand.tmp 15) 5) 0 "outright.go:62" #[(Edge.mk 3 Ground.guard)] (some (3, true)))) (v := undef) rfl (by kernel_rfl) (by kernel_rfl) (by kernel_rfl) (fun _ _ _ h => hPn h rfl) (Or.inr ⟨by rfl, rfl⟩) hC ?_
    try simp only [Act.put, List.setIfInBounds_toArray, List.set_cons_zero, List.set_cons_succ]
    refine wpAnyH_take (i := 9) (oi := (Oper.mk (some 240) (Op.load 9 (Operand.tmp 239)) 9 "outright.go:62" #[(Edge.mk 8 Ground.data), (Edge.mk 3 Ground.guard)] (some (3, true)))) (v := undef) rfl (by kernel_rfl) (by kernel_rfl) (by kernel_rfl) (fun _ _ _ h => hPn h rfl) (Or.inr ⟨by rfl, rfl⟩) hC ?_
    try simp only [Act.put, List.setIfInBounds_toArray, List.set_cons_zero, List.set_cons_succ]
    refine wpAnyH_take (i := 10) (oi := (Oper.mk (some 241) (Op.call (Call.mk (Callee.value (Operand.func 17)) #[(Operand.tmp 238), (Operand.tmp 240)] #[26, 9])) 3 "outright.go:62" #[(Edge.mk 7 Ground.data), (Edge.mk 9 Ground.data), (Edge.mk 3 Ground.chain), (Edge.mk 3 Ground.guard)] (some (3, true)))) (v := undef) rfl (by kernel_rfl) (by kernel_rfl) (by kernel_rfl) (fun _ _ _ h => hPn h rfl) (Or.inr ⟨by rfl, rfl⟩) hC ?_
    try simp only [Act.put, List.setIfInBounds_toArray, List.set_cons_zero, List.set_cons_succ]
    refine wpAnyH_take (i := 11) (oi := (Oper.mk (some 242) (Op.binOp BinOp.neq 3 (Operand.tmp 237) (Operand.tmp 241) 3) 4 "outright.go:62" #[(Edge.mk 6 Ground.data), (Edge.mk 10 Ground.data), (Edge.mk 3 Ground.guard)] (some (3, true)))) (v := undef) rfl (by kernel_rfl) (by kernel_rfl) (by kernel_rfl) (fun _ _ _ h => hPn h rfl) (Or.inr ⟨by rfl, rfl⟩) hC ?_
    try simp only [Act.put, List.setIfInBounds_toArray, List.set_cons_zero, List.set_cons_succ]
    refine wpAnyH_take (i := 12) (oi := (Oper.mk (some 243) (Op.pick (Operand.tmp 234) (Operand.tmp 242) (Operand.const (Value.bool false))) 4 "outright.go:62" #[(Edge.mk 3 Ground.data), (Edge.mk 11 Ground.data)] none)) (v := ?_) rfl (by kernel_rfl) (by kernel_rfl) (by kernel_rfl) (fun _ _ _ h => hPn h rfl) (Or.inl ⟨by rfl, ?_⟩) hC ?_
    rotate_left
    · (intro w hSw; (try dsimp only at hSw); go_simp; try with_reducible rfl)
    try simp only [Act.put, List.setIfInBounds_toArray, List.set_cons_zero, List.set_cons_succ]
    refine wpAnyH_done (by kernel_rfl) ?_ _
    go_wp2_with fail
    exact hQ.out (hbx.out.trans (hbc.out.mono hbx.out.size))

end Go.Proofs.YtjblhiekccjdcaaR
