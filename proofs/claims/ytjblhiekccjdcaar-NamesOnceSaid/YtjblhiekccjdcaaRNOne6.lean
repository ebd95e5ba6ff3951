/- names: NamesOnce: params, instructions. -/
import Derived.Test.YtjblhiekccjdcaaRNOne4
import Derived.Test.YtjblhiekccjdcaaRNOne5
namespace Go.Proofs.YtjblhiekccjdcaaR
open Go.RowKit Go.Maps Go.Shelf
attribute [local go_sem] Oper.semAt_some

set_option maxRecDepth 20000 in
set_option maxHeartbeats 4000000 in
theorem once6 {c : Code} (hc : Func.blockOf Try.f4 6 = some c) {Q : Exit → Act → World → Prop} {w : World} {Sd S0 : Nat} {P : List Fun} {d : Fun} {x : Blk} {ap ab a0 ac : Option Addr} {np cp nb cb p0 c0 nc cc : Nat} {u0 u2 u3 u4 u5 u6 u7 u8 u9 u10 u12 u15 u16 u17 u18 u19 u20 u21 u22 u23 u24 u25 u26 u27 u28 u29 u30 u31 u32 u33 u34 u35 u36 u37 u38 u39 u40 u41 u42 u43 u44 u45 u46 u47 u48 u49 u50 u51 u52 u53 u54 u55 u56 u57 u58 u59 u60 u61 u62 u63 u64 u65 u66 u67 u68 u69 u70 u71 u72 u73 u74 u75 u76 u77 u78 u79 u80 u81 u82 u83 u84 u85 u86 u87 u88 u89 u90 u91 u92 u93 u94 u95 u96 u97 u98 u99 u100 u101 u102 u103 u104 u105 u106 u107 u108 u109 u110 u111 u112 u113 u114 u115 u116 u117 u118 u119 u120 u121 u122 u123 u124 u125 u126 u127 u128 u129 u130 u131 u132 u133 u134 u135 u136 u137 u138 u139 u140 u141 u142 u143 u144 u145 u146 u147 u148 u149 u150 u151 u152 u153 u154 u155 u156 u157 u158 u159 u160 u161 u162 u163 u164 u165 u166 u167 u168 u169 u170 u171 u172 u173 u174 u175 u176 u177 u178 u179 u180 u181 u182 u183 u184 u185 u186 u187 u188 u189 u190 u191 u192 u193 u194 u195 u196 u197 u198 u199 u200 u201 u202 u203 u204 u205 u206 u207 u208 u209 u210 u211 u212 u213 u214 u215 u216 u217 u218 u219 u220 u221 u222 u223 u224 u225 u226 u227 u228 u229 u230 u231 u232 u233 u234 u235 u236 u237 u238 u239 u240 u241 u242 u243 u244 u245 u246 u247 u248 u249 u250 u251 u252 u253 u254 u255 u256 u257 u258 u259 u260 u261 u262 u263 : Value}
    (hf : FBx w Sd d ap np cp ab nb cb) (hp : PBx w S0 P a0 p0 c0) (hL : LightP P) (hO : OnceP P) (hdP : d ∈ P) (hxd : x ∈ d.blocks) (hcode : RdE 8 RdIns w (.slice ac nc cc) x.code) (hd : LightF d) (hPn : ∀ {x} {a a1 : Act} {w1 : World}, Q (.panic x) a w1 → a.defers = a1.defers → Q (.panic x) a1 w1)
    (hQ : Hid (∀ {wx : World} {v2 v14 v15 v16 v17 v18 v122 v123 v124 v125 v126 v127 v128 v129 v130 v131 v132 v133 v134 v135 v136 v137 v138 v139 v140 v141 v142 v143 v144 v145 v146 v147 v148 v149 v150 v151 v152 v153 v154 v155 v156 v157 v158 v159 v160 v161 v162 v163 v164 v165 v166 v167 v168 v169 v170 v171 v172 v173 v174 v175 v176 v177 v178 v179 v180 v181 v182 v183 v184 v185 v186 v187 v188 v189 v190 v191 v192 v193 v194 v195 v196 v197 v198 v199 v200 v201 v202 v203 v204 v205 v206 v207 v208 v209 v210 v211 v212 v213 v214 v215 v216 v217 v218 v219 v220 v221 v222 v223 v224 v225 v226 v227 v228 v229 v230 v231 v232 v233 v234 v235 v236 v237 v238 v239 v240 v241 v242 v243 : Value}, Below w.heap.size w wx → Q .normal { tmps := #[u0, .pointer (some ⟨S0, 0, none⟩), v2, u3, u4, u5, u6, u7, u8, u9, u10, .pointer (some ⟨Sd, 0, none⟩), u12, .slice ac nc cc, v14, v15, v16, v17, v18, u19, u20, u21, u22, u23, u24, u25, u26, u27, u28, u29, u30, u31, u32, u33, u34, u35, u36, u37, u38, u39, u40, u41, u42, u43, u44, u45, u46, u47, u48, u49, u50, u51, u52, u53, u54, u55, u56, u57, u58, u59, u60, u61, u62, u63, u64, u65, u66, u67, u68, u69, u70, u71, u72, u73, u74, u75, u76, u77, u78, u79, u80, u81, u82, u83, u84, u85, u86, u87, u88, u89, u90, u91, u92, u93, u94, u95, u96, u97, u98, u99, u100, u101, u102, u103, u104, u105, u106, u107, u108, u109, u110, u111, u112, u113, u114, u115, u116, u117, u118, u119, u120, u121, v122, v123, v124, v125, v126, v127, v128, v129, v130, v131, v132, v133, v134, v135, v136, v137, v138, v139, v140, v141, v142, v143, v144, v145, v146, v147, v148, v149, v150, v151, v152, v153, v154, v155, v156, v157, v158, v159, v160, v161, v162, v163, v164, v165, v166, v167, v168, v169, v170, v171, v172, v173, v174, v175, v176, v177, v178, v179, v180, v181, v182, v183, v184, v185, v186, v187, v188, v189, v190, v191, v192, v193, v194, v195, v196, v197, v198, v199, v200, v201, v202, v203, v204, v205, v206, v207, v208, v209, v210, v211, v212, v213, v214, v215, v216, v217, v218, v219, v220, v221, v222, v223, v224, v225, v226, v227, v228, v229, v230, v231, v232, v233, v234, v235, v236, v237, v238, v239, v240, v241, v242, v243, u244, u245, u246, u247, u248, u249, u250, u251, u252, u253, u254, u255, u256, u257, u258, u259, u260, u261, u262, u263], defers := [] } wx)) :
    c.wp Try.prog Q { tmps := #[u0, .pointer (some ⟨S0, 0, none⟩), u2, u3, u4, u5, u6, u7, u8, u9, u10, .pointer (some ⟨Sd, 0, none⟩), u12, .slice ac nc cc, .int .i64 0, u15, u16, u17, u18, u19, u20, u21, u22, u23, u24, u25, u26, u27, u28, u29, u30, u31, u32, u33, u34, u35, u36, u37, u38, u39, u40, u41, u42, u43, u44, u45, u46, u47, u48, u49, u50, u51, u52, u53, u54, u55, u56, u57, u58, u59, u60, u61, u62, u63, u64, u65, u66, u67, u68, u69, u70, u71, u72, u73, u74, u75, u76, u77, u78, u79, u80, u81, u82, u83, u84, u85, u86, u87, u88, u89, u90, u91, u92, u93, u94, u95, u96, u97, u98, u99, u100, u101, u102, u103, u104, u105, u106, u107, u108, u109, u110, u111, u112, u113, u114, u115, u116, u117, u118, u119, u120, u121, u122, u123, u124, u125, u126, u127, u128, u129, u130, u131, u132, u133, u134, u135, u136, u137, u138, u139, u140, u141, u142, u143, u144, u145, u146, u147, u148, u149, u150, u151, u152, u153, u154, u155, u156, u157, u158, u159, u160, u161, u162, u163, u164, u165, u166, u167, u168, u169, u170, u171, u172, u173, u174, u175, u176, u177, u178, u179, u180, u181, u182, u183, u184, u185, u186, u187, u188, u189, u190, u191, u192, u193, u194, u195, u196, u197, u198, u199, u200, u201, u202, u203, u204, u205, u206, u207, u208, u209, u210, u211, u212, u213, u214, u215, u216, u217, u218, u219, u220, u221, u222, u223, u224, u225, u226, u227, u228, u229, u230, u231, u232, u233, u234, u235, u236, u237, u238, u239, u240, u241, u242, u243, u244, u245, u246, u247, u248, u249, u250, u251, u252, u253, u254, u255, u256, u257, u258, u259, u260, u261, u262, u263], defers := [] } w := by
  conv at hc => lhs; whnf
  simp only [Option.some.injEq] at hc
  subst hc
  have hnc : Hid (nc = x.code.length) := Lib.hid (by obtain ⟨a, k, e⟩ := hcode.form; simp only [Value.slice.injEq] at e; exact e.2.1)
  have hlx := (hd.2.2 x hxd).1
  rw [← hnc.out] at hlx
  have hlI := Lib.hid (fun y (hy : y ∈ x.code) => (hd.2.2 x hxd).2 y hy)
  have hoi := Lib.hid (fun y (hy : y ∈ x.code) => hO.use d hdP x hxd y hy)
  have hoe := Lib.hid (fun i y (hy : x.code[i]? = some y) => hO.ends d hdP x hxd i y hy)
  have hod := Lib.hid (fun y (hy : y ∈ x.code) => hO.dst d hdP x hxd y hy)
  have hol := Lib.hid (fun y (hy : y ∈ x.code) => hO.lbl d hdP x hxd y hy)
  have hoc := Lib.hid (fun y (hy : y ∈ x.code) => hO.call d hdP x hxd y hy)
  replace hf := Lib.hid hf
  replace hp := Lib.hid hp
  replace hcode := Lib.hid hcode
  replace hd := Lib.hid hd
  replace hL := Lib.hid hL
  clear hO hdP hxd
  go_wp2_with fail
  go_loopw [14] (fun i wr => ∃ k : Nat, k ≤ nc ∧ i = .int .i64 k ∧ Hid (Below w.heap.size w wr)) (fun i _ => nc - (intOf i).toNat)
  case atStart => exact ⟨0, Nat.zero_le _, rfl, Lib.hid (Below.refl _ _)⟩
  case round =>
    obtain ⟨k, hk, rfl, hB⟩ := hrel
    by_cases hlt : k < nc
    · have j1 : decide ((k : Int) < (nc : Int)) = true := by simpa using hlt
      have j2 : (k : Int) < (nc : Int) := by omega
      obtain ⟨y, hy⟩ : ∃ y, x.code[k]? = some y := ⟨_, List.getElem?_eq_getElem (by rw [← hnc.out]; exact hlt)⟩
      obtain ⟨g, off, cap, cs, e, hgl, ⟨va, vl, rfl, ra, rl⟩, -, hcell⟩ := (RdE.below (fun _ _ h => h.below hB.out) hcode.out hB.out).at hy
      rw [← hnc.out] at e
      simp only [Value.slice.injEq] at e
      obtain ⟨rfl, -, rfl⟩ := e
      obtain ⟨aa, ca, rfl⟩ := ra.shape
      obtain ⟨al, cl, rfl⟩ := rl.shape
      have hym := List.mem_of_getElem? hy
      have hlI1 := Lib.hid (hlI.out y hym)
      have hUa := Lib.hid (hoi.out y hym).1
      have hUb := Lib.hid (hoi.out y hym).2.1
      have hUs := Lib.hid (hoi.out y hym).2.2
      have hUl := Lib.hid (hol.out y hym)
      have hcl := Lib.hid (hoc.out y hym)
      have hod1 := Lib.hid (hod.out y hym)
      have hen := hoe.out k y hy
      rw [← hnc.out] at hen
      replace hen := Lib.hid hen
      replace hcell := Lib.hid hcell
      replace ra := Lib.hid ra
      replace rl := Lib.hid rl
      have hop : Hid (y.op = 12 ∨ y.op = 13 ∨ y.op = 14 ∨ y.op = 10 ∨ y.op = 4 ∨ (y.op ≠ 12 ∧ y.op ≠ 13 ∧ y.op ≠ 14 ∧ y.op ≠ 10 ∧ y.op ≠ 4)) := Lib.hid (by omega)
      clear hy hym
      go_upto_block 7 with fail
      rcases hop.out with ho | ho | ho | ho | ho | ho
      · refine once7a (by kernel_rfl) (hf.out.keep hB.out) (hp.out.keep hB.out) hL.out hd.out (fun h e => hPn h e) hlt hlx (fun j v hv => hcell.out j v (by simpa [insV] using hv)) ra.out rl.out hlI1.out hUa.out hUb.out hUs.out hUl.out hcl.out hod1.out hen.out ho (Lib.hid ?_)
        intros
        rename_i hb2
        have hB2 := Lib.hid (hB.out.trans (hb2.mono hB.out.size))
        clear hb2 ra rl hcell
        go_wp2_with fail
        go_round
        case rel => exact ⟨k + 1, by omega, by go_num, hB2⟩
        case measure => simp [intOf]; omega
      · refine once7b (by kernel_rfl) (hf.out.keep hB.out) (hp.out.keep hB.out) hL.out hd.out (fun h e => hPn h e) hlt hlx (fun j v hv => hcell.out j v (by simpa [insV] using hv)) ra.out rl.out hlI1.out hUa.out hUb.out hUs.out hUl.out hcl.out hod1.out hen.out ho (Lib.hid ?_)
        intros
        rename_i hb2
        have hB2 := Lib.hid (hB.out.trans (hb2.mono hB.out.size))
        clear hb2 ra rl hcell
        go_wp2_with fail
        go_round
        case rel => exact ⟨k + 1, by omega, by go_num, hB2⟩
        case measure => simp [intOf]; omega
      · refine once7e (by kernel_rfl) (hf.out.keep hB.out) (hp.out.keep hB.out) hL.out hd.out (fun h e => hPn h e) hlt hlx (fun j v hv => hcell.out j v (by simpa [insV] using hv)) ra.out rl.out hlI1.out hUa.out hUb.out hUs.out hUl.out hcl.out hod1.out hen.out ho (Lib.hid ?_)
        intros
        rename_i hb2
        have hB2 := Lib.hid (hB.out.trans (hb2.mono hB.out.size))
        clear hb2 ra rl hcell
        go_wp2_with fail
        go_round
        case rel => exact ⟨k + 1, by omega, by go_num, hB2⟩
        case measure => simp [intOf]; omega
      · refine once7f (by kernel_rfl) (hf.out.keep hB.out) (hp.out.keep hB.out) hL.out hd.out (fun h e => hPn h e) hlt hlx (fun j v hv => hcell.out j v (by simpa [insV] using hv)) ra.out rl.out hlI1.out hUa.out hUb.out hUs.out hUl.out hcl.out hod1.out hen.out ho (Lib.hid ?_)
        intros
        rename_i hb2
        have hB2 := Lib.hid (hB.out.trans (hb2.mono hB.out.size))
        clear hb2 ra rl hcell
        go_wp2_with fail
        go_round
        case rel => exact ⟨k + 1, by omega, by go_num, hB2⟩
        case measure => simp [intOf]; omega
      · refine once7g (by kernel_rfl) (hf.out.keep hB.out) (hp.out.keep hB.out) hL.out hd.out (fun h e => hPn h e) hlt hlx (fun j v hv => hcell.out j v (by simpa [insV] using hv)) ra.out rl.out hlI1.out hUa.out hUb.out hUs.out hUl.out hcl.out hod1.out hen.out ho (Lib.hid ?_)
        intros
        rename_i hb2
        have hB2 := Lib.hid (hB.out.trans (hb2.mono hB.out.size))
        clear hb2 ra rl hcell
        go_wp2_with fail
        go_round
        case rel => exact ⟨k + 1, by omega, by go_num, hB2⟩
        case measure => simp [intOf]; omega
      · refine once7h (by kernel_rfl) (hf.out.keep hB.out) (hp.out.keep hB.out) hL.out hd.out (fun h e => hPn h e) hlt hlx (fun j v hv => hcell.out j v (by simpa [insV] using hv)) ra.out rl.out hlI1.out hUa.out hUb.out hUs.out hUl.out hcl.out hod1.out hen.out ho (Lib.hid ?_)
        intros
        rename_i hb2
        have hB2 := Lib.hid (hB.out.trans (hb2.mono hB.out.size))
        clear hb2 ra rl hcell
        go_wp2_with fail
        go_round
        case rel => exact ⟨k + 1, by omega, by go_num, hB2⟩
        case measure => simp [intOf]; omega
    · obtain rfl : k = nc := by omega
      have j1 : decide ((k : Int) < (k : Int)) = false := by simp
      go_wp2_with fail
      exact hQ.out hB.out

end Go.Proofs.YtjblhiekccjdcaaR
namespace Go.Proofs.YtjblhiekccjdcaaR
open Go.RowKit Go.Maps Go.Shelf
attribute [local go_sem] Oper.semAt_some

set_option maxRecDepth 20000 in
set_option maxHeartbeats 4000000 in
theorem once4 {c : Code} (hc : Func.blockOf Try.f4 4 = some c) {Q : Exit → Act → World → Prop} {w : World} {Sd S0 : Nat} {P : List Fun} {d : Fun} {ap ab a0 : Option Addr} {np cp nb cb p0 c0 : Nat} {u0 u2 u3 u4 u5 u6 u7 u8 u9 u10 u13 u14 u15 u16 u17 u18 u19 u20 u21 u22 u23 u24 u25 u26 u27 u28 u29 u30 u31 u32 u33 u34 u35 u36 u37 u38 u39 u40 u41 u42 u43 u44 u45 u46 u47 u48 u49 u50 u51 u52 u53 u54 u55 u56 u57 u58 u59 u60 u61 u62 u63 u64 u65 u66 u67 u68 u69 u70 u71 u72 u73 u74 u75 u76 u77 u78 u79 u80 u81 u82 u83 u84 u85 u86 u87 u88 u89 u90 u91 u92 u93 u94 u95 u96 u97 u98 u99 u100 u101 u102 u103 u104 u105 u106 u107 u108 u109 u110 u111 u112 u113 u114 u115 u116 u117 u118 u119 u120 u121 u122 u123 u124 u125 u126 u127 u128 u129 u130 u131 u132 u133 u134 u135 u136 u137 u138 u139 u140 u141 u142 u143 u144 u145 u146 u147 u148 u149 u150 u151 u152 u153 u154 u155 u156 u157 u158 u159 u160 u161 u162 u163 u164 u165 u166 u167 u168 u169 u170 u171 u172 u173 u174 u175 u176 u177 u178 u179 u180 u181 u182 u183 u184 u185 u186 u187 u188 u189 u190 u191 u192 u193 u194 u195 u196 u197 u198 u199 u200 u201 u202 u203 u204 u205 u206 u207 u208 u209 u210 u211 u212 u213 u214 u215 u216 u217 u218 u219 u220 u221 u222 u223 u224 u225 u226 u227 u228 u229 u230 u231 u232 u233 u234 u235 u236 u237 u238 u239 u240 u241 u242 u243 u244 u245 u246 u247 u248 u249 u250 u251 u252 u253 u254 u255 u256 u257 u258 u259 u260 u261 u262 u263 : Value}
    (hf : FBx w Sd d ap np cp ab nb cb) (hp : PBx w S0 P a0 p0 c0) (hL : LightP P) (hO : OnceP P) (hdP : d ∈ P) (hd : LightF d) (hPn : ∀ {x} {a a1 : Act} {w1 : World}, Q (.panic x) a w1 → a.defers = a1.defers → Q (.panic x) a1 w1)
    (hQ : Hid (∀ {wx : World} {v2 v12 v13 v14 v15 v16 v17 v18 v95 v96 v97 v98 v99 v100 v101 v102 v103 v104 v105 v106 v107 v108 v109 v110 v111 v112 v113 v114 v115 v116 v117 v118 v119 v120 v121 v122 v123 v124 v125 v126 v127 v128 v129 v130 v131 v132 v133 v134 v135 v136 v137 v138 v139 v140 v141 v142 v143 v144 v145 v146 v147 v148 v149 v150 v151 v152 v153 v154 v155 v156 v157 v158 v159 v160 v161 v162 v163 v164 v165 v166 v167 v168 v169 v170 v171 v172 v173 v174 v175 v176 v177 v178 v179 v180 v181 v182 v183 v184 v185 v186 v187 v188 v189 v190 v191 v192 v193 v194 v195 v196 v197 v198 v199 v200 v201 v202 v203 v204 v205 v206 v207 v208 v209 v210 v211 v212 v213 v214 v215 v216 v217 v218 v219 v220 v221 v222 v223 v224 v225 v226 v227 v228 v229 v230 v231 v232 v233 v234 v235 v236 v237 v238 v239 v240 v241 v242 v243 : Value}, Below w.heap.size w wx → Q .normal { tmps := #[u0, .pointer (some ⟨S0, 0, none⟩), v2, u3, u4, u5, u6, u7, u8, u9, u10, .pointer (some ⟨Sd, 0, none⟩), v12, v13, v14, v15, v16, v17, v18, u19, u20, u21, u22, u23, u24, u25, u26, u27, u28, u29, u30, u31, u32, u33, u34, u35, u36, u37, u38, u39, u40, u41, u42, u43, u44, u45, u46, u47, u48, u49, u50, u51, u52, u53, u54, u55, u56, u57, u58, u59, u60, u61, u62, u63, u64, u65, u66, u67, u68, u69, u70, u71, u72, u73, u74, u75, u76, u77, u78, u79, u80, u81, u82, u83, u84, u85, u86, u87, u88, u89, u90, u91, u92, u93, u94, v95, v96, v97, v98, v99, v100, v101, v102, v103, v104, v105, v106, v107, v108, v109, v110, v111, v112, v113, v114, v115, v116, v117, v118, v119, v120, v121, v122, v123, v124, v125, v126, v127, v128, v129, v130, v131, v132, v133, v134, v135, v136, v137, v138, v139, v140, v141, v142, v143, v144, v145, v146, v147, v148, v149, v150, v151, v152, v153, v154, v155, v156, v157, v158, v159, v160, v161, v162, v163, v164, v165, v166, v167, v168, v169, v170, v171, v172, v173, v174, v175, v176, v177, v178, v179, v180, v181, v182, v183, v184, v185, v186, v187, v188, v189, v190, v191, v192, v193, v194, v195, v196, v197, v198, v199, v200, v201, v202, v203, v204, v205, v206, v207, v208, v209, v210, v211, v212, v213, v214, v215, v216, v217, v218, v219, v220, v221, v222, v223, v224, v225, v226, v227, v228, v229, v230, v231, v232, v233, v234, v235, v236, v237, v238, v239, v240, v241, v242, v243, u244, u245, u246, u247, u248, u249, u250, u251, u252, u253, u254, u255, u256, u257, u258, u259, u260, u261, u262, u263], defers := [] } wx)) :
    c.wp Try.prog Q { tmps := #[u0, .pointer (some ⟨S0, 0, none⟩), u2, u3, u4, u5, u6, u7, u8, u9, u10, .pointer (some ⟨Sd, 0, none⟩), .int .i64 0, u13, u14, u15, u16, u17, u18, u19, u20, u21, u22, u23, u24, u25, u26, u27, u28, u29, u30, u31, u32, u33, u34, u35, u36, u37, u38, u39, u40, u41, u42, u43, u44, u45, u46, u47, u48, u49, u50, u51, u52, u53, u54, u55, u56, u57, u58, u59, u60, u61, u62, u63, u64, u65, u66, u67, u68, u69, u70, u71, u72, u73, u74, u75, u76, u77, u78, u79, u80, u81, u82, u83, u84, u85, u86, u87, u88, u89, u90, u91, u92, u93, u94, u95, u96, u97, u98, u99, u100, u101, u102, u103, u104, u105, u106, u107, u108, u109, u110, u111, u112, u113, u114, u115, u116, u117, u118, u119, u120, u121, u122, u123, u124, u125, u126, u127, u128, u129, u130, u131, u132, u133, u134, u135, u136, u137, u138, u139, u140, u141, u142, u143, u144, u145, u146, u147, u148, u149, u150, u151, u152, u153, u154, u155, u156, u157, u158, u159, u160, u161, u162, u163, u164, u165, u166, u167, u168, u169, u170, u171, u172, u173, u174, u175, u176, u177, u178, u179, u180, u181, u182, u183, u184, u185, u186, u187, u188, u189, u190, u191, u192, u193, u194, u195, u196, u197, u198, u199, u200, u201, u202, u203, u204, u205, u206, u207, u208, u209, u210, u211, u212, u213, u214, u215, u216, u217, u218, u219, u220, u221, u222, u223, u224, u225, u226, u227, u228, u229, u230, u231, u232, u233, u234, u235, u236, u237, u238, u239, u240, u241, u242, u243, u244, u245, u246, u247, u248, u249, u250, u251, u252, u253, u254, u255, u256, u257, u258, u259, u260, u261, u262, u263], defers := [] } w := by
  conv at hc => lhs; whnf
  simp only [Option.some.injEq] at hc
  subst hc
  have hnb : Hid (nb = d.blocks.length) := Lib.hid hf.nb
  have hnm : nb ≤ 70 := by rw [hf.nb]; exact hd.2.1
  have hoB := Lib.hid (fun x (hx : x ∈ d.blocks) => hO.blk d hdP x hx)
  replace hO := Lib.hid hO
  replace hdP := Lib.hid hdP
  replace hf := Lib.hid hf
  replace hp := Lib.hid hp
  replace hd := Lib.hid hd
  replace hL := Lib.hid hL
  go_wp2_with fail
  go_loopw [12] (fun i wr => ∃ k : Nat, k ≤ nb ∧ i = .int .i64 k ∧ Hid (Below w.heap.size w wr)) (fun i _ => nb - (intOf i).toNat)
  case atStart => exact ⟨0, Nat.zero_le _, rfl, Lib.hid (Below.refl _ _)⟩
  case round =>
    obtain ⟨k, hk, rfl, hB⟩ := hrel
    have hf2 := hf.out.keep hB.out
    have x6 := hf2.f2
    by_cases hlt : k < nb
    · have j1 : decide ((k : Int) < (nb : Int)) = true := by simpa using hlt
      have j2 : (k : Int) < (nb : Int) := by omega
      obtain ⟨x, hx⟩ : ∃ x, d.blocks[k]? = some x := ⟨_, List.getElem?_eq_getElem (by rw [← hnb.out]; exact hlt)⟩
      obtain ⟨ga, oa, cap, cs, e, hgl, ⟨vc, rfl, rc⟩, -, hcell⟩ := hf2.hb.at hx
      rw [← hnb.out] at e
      simp only [Value.slice.injEq] at e
      obtain ⟨rfl, -, rfl⟩ := e
      obtain ⟨ac, cc, rfl⟩ := rc.form
      obtain ⟨nc, hnc⟩ : ∃ n, n = x.code.length := ⟨_, rfl⟩
      rw [← hnc] at rc hcell
      have i0 : wr.cell? ⟨ga, oa + k * 2, none⟩ = some (.string x.label) := hcell 0 _ rfl
      have i1 : wr.cell? ⟨ga, oa + k * 2 + 1, none⟩ = some (.slice ac nc cc) := hcell 1 _ rfl
      have hxm := Lib.hid (List.mem_of_getElem? hx)
      obtain ⟨hb1, hb2⟩ := hoB.out x hxm.out
      have hz : ((nc : Int) == 0) = false := by rw [beq_eq_false_iff_ne, hnc]; omega
      have hz2 : nc ≠ 0 := by omega
      have hrk := Lib.hid (fun w' (hb : Below wr.heap.size wr w') => RdE.below (fun _ _ h => h.below hb) rc hb)
      have hud := Lib.hid (fun w' (hb : Below wr.heap.size wr w') => (hf2.keep hb).blocks hd.out hb2)
      have hC : wr.drew.cell? ⟨Sd, 0, none⟩ = some (.string d.name) ∧ wr.drew.cell? ⟨Sd, 1, none⟩ = some (.slice ap np cp) ∧ wr.drew.cell? ⟨Sd, 2, none⟩ = some (.slice (some ⟨ga, oa, none⟩) nb cb) ∧ wr.drew.cell? ⟨ga, oa + k * 2, none⟩ = some (.string x.label) := ⟨hf2.f0, hf2.f1, x6, i0⟩
      have hb0 : Hid (Below wr.heap.size wr wr.drew) := Lib.hid (Below.refl _ _).drew
      have hB0 := hB
      replace hB := Lib.hid (hb0.out)
      replace hnc := Lib.hid hnc
      clear hf2 hx hcell rc hb1 hb2
      go_upto_region 28 with fail
      clear x6 i0 i1
      refine wp_region_held_drew (S := (fun w' => w'.cell? ⟨Sd, 0, none⟩ = some (.string d.name) ∧ w'.cell? ⟨Sd, 1, none⟩ = some (.slice ap np cp) ∧ w'.cell? ⟨Sd, 2, none⟩ = some (.slice (some ⟨ga, oa, none⟩) nb cb) ∧ w'.cell? ⟨ga, oa + k * 2, none⟩ = some (.string x.label))) (by kernel_rfl) hC (fun hHeld => ?_)
      clear hHeld
      refine wpAnyH_take (i := 0) (oi := (Oper.mk (some 108) (Op.move (Operand.tmp 13)) 41 "outright.go:40" #[] none)) (v := ?_) rfl (by kernel_rfl) (by kernel_rfl) (by kernel_rfl) (fun _ _ _ h => hPn h rfl) (Or.inl ⟨by rfl, ?_⟩) hC ?_
      rotate_left
      · (intro w hSw; (try dsimp only at hSw); go_simp; try with_reducible rfl)
      try simp only [Act.put, List.setIfInBounds_toArray, List.set_cons_zero, List.set_cons_succ]
      refine wpAnyH_take (i := 1) (oi := (Oper.mk (some 109) (Op.call (Call.mk (Callee.builtin Builtin.len) #[(Operand.tmp 108)] #[41])) 3 "outright.go:40" #[(Edge.mk 0 Ground.data)] none)) (v := ?_) rfl (by kernel_rfl) (by kernel_rfl) (by kernel_rfl) (fun _ _ _ h => hPn h rfl) (Or.inl ⟨by rfl, ?_⟩) hC ?_
      rotate_left
      · (intro w hSw; (try dsimp only at hSw); go_simp; try with_reducible rfl)
      try simp only [Act.put, List.setIfInBounds_toArray, List.set_cons_zero, List.set_cons_succ]
      refine wpAnyH_take (i := 2) (oi := (Oper.mk (some 110) (Op.binOp BinOp.eql 3 (Operand.tmp 109) (Operand.const (Value.int IntKind.i64 0)) 3) 4 "outright.go:40" #[(Edge.mk 1 Ground.data)] none)) (v := ?_) rfl (by kernel_rfl) (by kernel_rfl) (by kernel_rfl) (fun _ _ _ h => hPn h rfl) (Or.inl ⟨by rfl, ?_⟩) hC ?_
      rotate_left
      · (intro w hSw; (try dsimp only at hSw); go_simp; try with_reducible rfl)
      try simp only [Act.put, List.setIfInBounds_toArray, List.set_cons_zero, List.set_cons_succ]
      refine wpAnyH_take (i := 3) (oi := (Oper.mk (some 111) (Op.move (Operand.tmp 110)) 4 "outright.go:40" #[(Edge.mk 2 Ground.data)] none)) (v := ?_) rfl (by kernel_rfl) (by kernel_rfl) (by kernel_rfl) (fun _ _ _ h => hPn h rfl) (Or.inl ⟨by rfl, ?_⟩) hC ?_
      rotate_left
      · (intro w hSw; (try dsimp only at hSw); go_simp; try with_reducible rfl)
      try simp only [Act.put, List.setIfInBounds_toArray, List.set_cons_zero, List.set_cons_succ]
      refine wpAnyH_take (i := 4) (oi := (Oper.mk (some 112) (Op.load 39 (Operand.tmp 11)) 39 "outright.go:40" #[(Edge.mk 3 Ground.guard)] (some (3, false)))) (v := ?_) rfl (by kernel_rfl) (by kernel_rfl) (by kernel_rfl) (fun _ _ _ h => hPn h rfl) (Or.inl ⟨by rfl, ?_⟩) hC ?_
      rotate_left
      · (intro w hSw; (try dsimp only at hSw); go_simp; try with_reducible rfl)
      try simp only [Act.put, List.setIfInBounds_toArray, List.set_cons_zero, List.set_cons_succ]
      refine wpAnyH_take (i := 5) (oi := (Oper.mk (some 113) (Op.fieldAddr 39 (Operand.tmp 11) 2) 0 "outright.go:40" #[(Edge.mk 3 Ground.guard)] (some (3, false)))) (v := ?_) rfl (by kernel_rfl) (by kernel_rfl) (by kernel_rfl) (fun _ _ _ h => hPn h rfl) (Or.inl ⟨by rfl, ?_⟩) hC ?_
      rotate_left
      · (intro w hSw; (try dsimp only at hSw); go_simp; try with_reducible rfl)
      try simp only [Act.put, List.setIfInBounds_toArray, List.set_cons_zero, List.set_cons_succ]
      refine wpAnyH_take (i := 6) (oi := (Oper.mk (some 114) (Op.load 37 (Operand.tmp 113)) 37 "outright.go:40" #[(Edge.mk 5 Ground.data), (Edge.mk 3 Ground.guard)] (some (3, false)))) (v := ?_) rfl (by kernel_rfl) (by kernel_rfl) (by kernel_rfl) (fun _ _ _ h => hPn h rfl) (Or.inl ⟨by rfl, ?_⟩) hC ?_
      rotate_left
      · (intro w hSw; (try dsimp only at hSw); go_simp; try with_reducible rfl)
      try simp only [Act.put, List.setIfInBounds_toArray, List.set_cons_zero, List.set_cons_succ]
      refine wpAnyH_take (i := 7) (oi := (Oper.mk (some 115) (Op.move (Operand.tmp 12)) 3 "outright.go:40" #[(Edge.mk 3 Ground.guard)] (some (3, false)))) (v := ?_) rfl (by kernel_rfl) (by kernel_rfl) (by kernel_rfl) (fun _ _ _ h => hPn h rfl) (Or.inl ⟨by rfl, ?_⟩) hC ?_
      rotate_left
      · (intro w hSw; (try dsimp only at hSw); go_simp; try with_reducible rfl)
      try simp only [Act.put, List.setIfInBounds_toArray, List.set_cons_zero, List.set_cons_succ]
      refine wpAnyH_take (i := 8) (oi := (Oper.mk (some 116) (Op.indexAddr 37 (Operand.tmp 114) (Operand.tmp 115)) 0 "outright.go:40" #[(Edge.mk 6 Ground.data), (Edge.mk 7 Ground.data), (Edge.mk 3 Ground.guard)] (some (3, false)))) (v := ?_) rfl (by kernel_rfl) (by kernel_rfl) (by kernel_rfl) (fun _ _ _ h => hPn h rfl) (Or.inl ⟨by rfl, ?_⟩) hC ?_
      rotate_left
      · (intro w hSw; (try dsimp only at hSw); go_simp; try with_reducible rfl)
      try simp only [Act.put, List.setIfInBounds_toArray, List.set_cons_zero, List.set_cons_succ]
      refine wpAnyH_take (i := 9) (oi := (Oper.mk (some 117) (Op.fieldAddr 43 (Operand.tmp 116) 0) 0 "outright.go:40" #[(Edge.mk 8 Ground.data), (Edge.mk 3 Ground.guard)] (some (3, false)))) (v := ?_) rfl (by kernel_rfl) (by kernel_rfl) (by kernel_rfl) (fun _ _ _ h => hPn h rfl) (Or.inl ⟨by rfl, ?_⟩) hC ?_
      rotate_left
      · (intro w hSw; (try dsimp only at hSw); go_simp; try with_reducible rfl)
      try simp only [Act.put, List.setIfInBounds_toArray, List.set_cons_zero, List.set_cons_succ]
      refine wpAnyH_take (i := 10) (oi := (Oper.mk (some 118) (Op.load 9 (Operand.tmp 117)) 9 "outright.go:40" #[(Edge.mk 9 Ground.data), (Edge.mk 3 Ground.guard)] (some (3, false)))) (v := ?_) rfl (by kernel_rfl) (by kernel_rfl) (by kernel_rfl) (fun _ _ _ h => hPn h rfl) (Or.inl ⟨by rfl, ?_⟩) hC ?_
      rotate_left
      · (intro w hSw; (try dsimp only at hSw); go_simp; try with_reducible rfl)
      try simp only [Act.put, List.setIfInBounds_toArray, List.set_cons_zero, List.set_cons_succ]
      refine wpAnyH_ready (rs := [11]) (by kernel_rfl) (by simp) (AllReadyH.cons (o := (Oper.mk (some 119) (Op.call (Call.mk (Callee.value (Operand.func 14)) #[(Operand.tmp 112), (Operand.tmp 118)] #[39, 9])) 3 "outright.go:40" #[(Edge.mk 4 Ground.data), (Edge.mk 10 Ground.data), (Edge.mk 3 Ground.chain), (Edge.mk 3 Ground.guard)] (some (3, false)))) rfl (fun K hK => ?_) AllReadyH.nil)
      go_simp
      (go_at_call 14; refine (hud.out _ hb0.out).mono ?_; rintro e w3 ⟨rfl, hb3⟩; replace hC : w3.cell? ⟨Sd, 0, none⟩ = some (.string d.name) ∧ w3.cell? ⟨Sd, 1, none⟩ = some (.slice ap np cp) ∧ w3.cell? ⟨Sd, 2, none⟩ = some (.slice (some ⟨ga, oa, none⟩) nb cb) ∧ w3.cell? ⟨ga, oa + k * 2, none⟩ = some (.string x.label) := ⟨keepC hb3 hC.1, keepC hb3 hC.2.1, keepC hb3 hC.2.2.1, keepC hb3 hC.2.2.2⟩; replace hB := Lib.hid (hB.out.trans (hb3.mono hB.out.size)))
      refine hK.out _ _ hC (fun hHeld => ?_)
      clear hK K hHeld
      try simp only [Act.put, List.setIfInBounds_toArray, List.set_cons_zero, List.set_cons_succ]
      refine wpAnyH_take (i := 12) (oi := (Oper.mk (some 120) (Op.binOp BinOp.neq 3 (Operand.tmp 119) (Operand.const (Value.int IntKind.i64 1)) 3) 4 "outright.go:40" #[(Edge.mk 11 Ground.data), (Edge.mk 3 Ground.guard)] (some (3, false)))) (v := ?_) rfl (by kernel_rfl) (by kernel_rfl) (by kernel_rfl) (fun _ _ _ h => hPn h rfl) (Or.inl ⟨by rfl, ?_⟩) hC ?_
      rotate_left
      · (intro w hSw; (try dsimp only at hSw); go_simp; try with_reducible rfl)
      try simp only [Act.put, List.setIfInBounds_toArray, List.set_cons_zero, List.set_cons_succ]
      refine wpAnyH_take (i := 13) (oi := (Oper.mk (some 121) (Op.pick (Operand.tmp 111) (Operand.const (Value.bool true)) (Operand.tmp 120)) 4 "outright.go:40" #[(Edge.mk 3 Ground.data), (Edge.mk 12 Ground.data)] none)) (v := ?_) rfl (by kernel_rfl) (by kernel_rfl) (by kernel_rfl) (fun _ _ _ h => hPn h rfl) (Or.inl ⟨by rfl, ?_⟩) hC ?_
      rotate_left
      · (intro w hSw; (try dsimp only at hSw); go_simp; try with_reducible rfl)
      try simp only [Act.put, List.setIfInBounds_toArray, List.set_cons_zero, List.set_cons_succ]
      refine wpAnyH_done (by kernel_rfl) ?_ _
      go_upto_block 6 with fail
      refine once6 (by kernel_rfl) (hf.out.keep (hB0.out.trans (hB.out.mono hB0.out.size))) (hp.out.keep (hB0.out.trans (hB.out.mono hB0.out.size))) hL.out hO.out hdP.out hxm.out (hrk.out _ hB.out) hd.out (fun h e => hPn h e) (Lib.hid ?_)
      intros
      rename_i hb5
      have hB2 := Lib.hid (hB0.out.trans ((hB.out.trans (hb5.mono hB.out.size)).mono hB0.out.size))
      clear hb5 hC hrk hud
      go_wp2_with fail
      go_round
      case rel => exact ⟨k + 1, by omega, by go_num, hB2⟩
      case measure => simp [intOf]; omega
    · obtain rfl : k = nb := by omega
      have j1 : decide ((k : Int) < (k : Int)) = false := by simp
      clear hf2
      go_wp2_with fail
      exact hQ.out hB.out

end Go.Proofs.YtjblhiekccjdcaaR
