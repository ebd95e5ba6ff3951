/- BitsPlays: the switch, way 2. -/
import Derived.Test.YtdpbbgfceagofaaDoorPlaysX
namespace Go.Proofs.YtdpbbgfceagofaaDoor
open Go.RowKit Go.Maps

set_option maxRecDepth 20000 in
set_option maxHeartbeats 8000000 in
theorem act2_any {c : Code} (hc : Func.blockOf Tryd.f3 2 = some c) {Q : Exit → Act → World → Prop} {w wy : World} {ps ws xb a b sa sb j n0 c0 cv : Nat} {a0 av : Option Addr} {d A B n : Int} {L : List (Nat × List Nat)} {vs : List Value} {rss : List (List Nat)} {V la lb ra rb : List Nat} {vb : Value}
    {u1 u2 u5 u11 u12 u13 u14 u15 u16 u17 u18 u19 u20 u21 u22 u23 u24 u25 u26 u27 u28 u29 u30 u31 u32 u33 u34 u35 u36 u37 u38 u39 u40 u41 u42 u44 u45 u46 u47 u48 u49 u50 u51 u52 u53 u54 u55 u56 u57 u58 u59 u60 u61 u62 u63 u64 u65 u66 u67 u68 u69 u70 u71 u72 u73 u74 u75 u76 u77 u78 u79 u80 u81 u82 u83 u84 u85 u86 u87 u88 u89 u90 u91 u92 u93 u94 u95 u96 u97 u98 u99 u100 u101 u102 u103 u104 u105 u106 u107 u108 u109 u110 u111 u112 u113 u114 u115 u116 u117 u118 u119 u120 u121 u122 u123 u124 u125 u126 u127 u128 u129 u130 u131 u132 u133 u134 u135 u136 u137 u138 u139 u140 u141 u142 u143 u144 u145 u146 u147 u148 u149 u150 u151 u152 u153 u154 u155 u156 u157 u158 u159 u160 u161 u162 u163 u164 u165 u166 u167 u168 u169 u170 u171 u172 u173 u174 u175 u176 u177 u178 u179 u180 u181 u182 u183 u184 u185 u186 u187 u188 u189 u190 u191 u192 u193 u194 u195 u196 u197 u198 u199 u200 u201 u202 u203 u204 u205 u206 u207 u208 u209 u210 u211 u212 u213 u214 u215 u216 u217 u218 u219 u220 u221 u222 u223 u224 u225 u226 u227 u228 u229 u230 u231 u232 u233 u234 u235 u236 u237 u238 u239 u240 u241 u242 u243 u244 u245 u246 u247 u248 u249 u250 u251 u252 u253 u254 u255 u256 u257 u258 u259 u260 u261 u262 u263 u264 u265 u266 u267 u268 u269 u270 u271 u272 u273 u274 u275 u276 u277 u278 u279 u280 u281 u282 u283 u284 u285 u286 u287 u288 u289 u290 : Value}
    (PX : Play w wy ps ws L vs rss [(xb, (.cells #[.int .i64 2, .int .i64 A, .int .i64 B, .int .i64 n] 29))] V) (ha4 : a < 4) (hb4 : b < 4) (hx2 : Hid (InI B)) (hx3 : Hid (InI n)) (M : Hid (Match L rss)) (hV : Hid (V.length ≤ 4 * j)) (hVl : Hid (V.length ≤ 1000))
    (hLa : Hid (L[a]? = some (sa, la))) (hLb : Hid (L[b]? = some (sb, lb))) (hva : Hid (vs[a]? = some (.slice av ra.length cv))) (hvb : Hid (vs[b]? = some vb)) (hra : Hid (rss[a]? = some ra)) (hrb : Hid (rss[b]? = some rb))
    (hQ' : Hid (∀ {w' : World} {v22 v23 v24 v25 v26 v27 v28 v29 v30 v31 v32 v33 v34 v35 v36 v37 v38 v39 v40 v41 v42 v43 v44 v45 v46 v47 v48 v49 v50 v51 v52 v53 v54 v55 v56 v57 v58 v59 v60 v61 v62 v63 v64 v65 v66 v67 v68 v69 v70 v71 v72 v73 v74 v75 v76 v77 v78 v79 v80 v81 v82 v83 v84 v85 v86 v87 v88 v89 v90 v91 v92 v93 v94 v95 v96 v97 v98 v99 v100 v101 v102 v103 v104 v105 v106 v107 v108 v109 v110 v111 v112 v113 v114 v115 v116 v117 v118 v119 v120 v121 v122 v123 v124 v125 v126 v127 v128 v129 v130 v131 v132 v133 v134 v135 v136 v137 v138 v139 v140 v141 v142 v143 v144 v145 v146 v147 v148 v149 v150 v151 v152 v153 v154 v155 v156 v157 v158 v159 v160 v161 v162 v163 v164 v165 v166 v167 v168 v169 v170 v171 v172 v173 v174 v175 v176 v177 v178 v179 v180 v181 v182 v183 v184 v185 v186 v187 v188 v189 v190 v191 v192 v193 v194 v195 v196 v197 v198 v199 v200 v201 v202 v203 v204 v205 v206 v207 v208 v209 v210 v211 v212 v213 v214 v215 v216 v217 v218 v219 v220 v221 v222 v223 v224 v225 v226 v227 v228 v229 v230 v231 v232 v233 v234 v235 v236 v237 v238 v239 v240 v241 v242 v243 v244 v245 v246 v247 v248 v249 v250 v251 v252 v253 v254 v255 v256 v257 v258 v259 v260 v261 v262 v263 v264 v265 v266 v267 v268 v269 v270 v271 v272 v273 v274 v275 v276 v277 v278 v279 v280 v281 v282 v283 v284 v285 v286 v287 v288 v289 : Value}, Turned w w' ps ws xb 2 A B n (4 * (j + 1)) → Q .normal { tmps := #[.slice a0 n0 c0, u1, u2, .slice (some ⟨ps, 0, none⟩) 4 4, .slice (some ⟨ws, 0, none⟩) 4 4, u5, .pointer (some ⟨xb, 0, none⟩), .int .i64 a, .int .i64 b, .slice av ra.length cv, .bool true, u11, u12, u13, u14, u15, u16, u17, u18, u19, u20, u21, v22, v23, v24, v25, v26, v27, v28, v29, v30, v31, v32, v33, v34, v35, v36, v37, v38, v39, v40, v41, v42, v43, v44, v45, v46, v47, v48, v49, v50, v51, v52, v53, v54, v55, v56, v57, v58, v59, v60, v61, v62, v63, v64, v65, v66, v67, v68, v69, v70, v71, v72, v73, v74, v75, v76, v77, v78, v79, v80, v81, v82, v83, v84, v85, v86, v87, v88, v89, v90, v91, v92, v93, v94, v95, v96, v97, v98, v99, v100, v101, v102, v103, v104, v105, v106, v107, v108, v109, v110, v111, v112, v113, v114, v115, v116, v117, v118, v119, v120, v121, v122, v123, v124, v125, v126, v127, v128, v129, v130, v131, v132, v133, v134, v135, v136, v137, v138, v139, v140, v141, v142, v143, v144, v145, v146, v147, v148, v149, v150, v151, v152, v153, v154, v155, v156, v157, v158, v159, v160, v161, v162, v163, v164, v165, v166, v167, v168, v169, v170, v171, v172, v173, v174, v175, v176, v177, v178, v179, v180, v181, v182, v183, v184, v185, v186, v187, v188, v189, v190, v191, v192, v193, v194, v195, v196, v197, v198, v199, v200, v201, v202, v203, v204, v205, v206, v207, v208, v209, v210, v211, v212, v213, v214, v215, v216, v217, v218, v219, v220, v221, v222, v223, v224, v225, v226, v227, v228, v229, v230, v231, v232, v233, v234, v235, v236, v237, v238, v239, v240, v241, v242, v243, v244, v245, v246, v247, v248, v249, v250, v251, v252, v253, v254, v255, v256, v257, v258, v259, v260, v261, v262, v263, v264, v265, v266, v267, v268, v269, v270, v271, v272, v273, v274, v275, v276, v277, v278, v279, v280, v281, v282, v283, v284, v285, v286, v287, v288, v289, u290], defers := [] } w')) :
    c.wp Tryd.prog Q { tmps := #[.slice a0 n0 c0, u1, u2, .slice (some ⟨ps, 0, none⟩) 4 4, .slice (some ⟨ws, 0, none⟩) 4 4, u5, .pointer (some ⟨xb, 0, none⟩), .int .i64 a, .int .i64 b, .slice av ra.length cv, .bool true, u11, u12, u13, u14, u15, u16, u17, u18, u19, u20, u21, u22, u23, u24, u25, u26, u27, u28, u29, u30, u31, u32, u33, u34, u35, u36, u37, u38, u39, u40, u41, u42, .int .i64 2, u44, u45, u46, u47, u48, u49, u50, u51, u52, u53, u54, u55, u56, u57, u58, u59, u60, u61, u62, u63, u64, u65, u66, u67, u68, u69, u70, u71, u72, u73, u74, u75, u76, u77, u78, u79, u80, u81, u82, u83, u84, u85, u86, u87, u88, u89, u90, u91, u92, u93, u94, u95, u96, u97, u98, u99, u100, u101, u102, u103, u104, u105, u106, u107, u108, u109, u110, u111, u112, u113, u114, u115, u116, u117, u118, u119, u120, u121, u122, u123, u124, u125, u126, u127, u128, u129, u130, u131, u132, u133, u134, u135, u136, u137, u138, u139, u140, u141, u142, u143, u144, u145, u146, u147, u148, u149, u150, u151, u152, u153, u154, u155, u156, u157, u158, u159, u160, u161, u162, u163, u164, u165, u166, u167, u168, u169, u170, u171, u172, u173, u174, u175, u176, u177, u178, u179, u180, u181, u182, u183, u184, u185, u186, u187, u188, u189, u190, u191, u192, u193, u194, u195, u196, u197, u198, u199, u200, u201, u202, u203, u204, u205, u206, u207, u208, u209, u210, u211, u212, u213, u214, u215, u216, u217, u218, u219, u220, u221, u222, u223, u224, u225, u226, u227, u228, u229, u230, u231, u232, u233, u234, u235, u236, u237, u238, u239, u240, u241, u242, u243, u244, u245, u246, u247, u248, u249, u250, u251, u252, u253, u254, u255, u256, u257, u258, u259, u260, u261, u262, u263, u264, u265, u266, u267, u268, u269, u270, u271, u272, u273, u274, u275, u276, u277, u278, u279, u280, u281, u282, u283, u284, u285, u286, u287, u288, u289, u290], defers := [] } wy := by
  conv at hc => lhs; whnf
  simp only [Option.some.injEq] at hc
  subst hc
  have cwa : wy.cell? ⟨ws, a, none⟩ = some (.slice av ra.length cv) := PX.cellW hva.out
  have y0 : wy.cell? ⟨xb, 0, none⟩ = some (.int .i64 2) := PX.cellX (List.Mem.head _) 0
  have y1 : wy.cell? ⟨xb, 1, none⟩ = some (.int .i64 A) := PX.cellX (List.Mem.head _) 1
  have y2 : wy.cell? ⟨xb, 2, none⟩ = some (.int .i64 B) := PX.cellX (List.Mem.head _) 2
  have y3 : wy.cell? ⟨xb, 3, none⟩ = some (.int .i64 n) := PX.cellX (List.Mem.head _) 3
  have ha4i : (a : Int) < 4 := by omega
  have hb4i : (b : Int) < 4 := by omega
  have cwb : wy.cell? ⟨ws, b, none⟩ = some vb := PX.cellW hvb.out
  go_wp2_with fail
  go_cut [10] from 131 to 142 (fun ok wx' => ok = .bool true ∧ ∃ av' cv' rs', uniL (ints ra) (ints rb) = ints rs' ∧ (∀ m : Nat, m ∈ rs' ↔ (m : Int) ∈ uniL (ints ra) (ints rb)) ∧ rs'.Pairwise (· < ·) ∧ Play w wx' ps ws L (vs.set a (.slice av' rs'.length cv')) (rss.set a rs') [(xb, (.cells #[.int .i64 2, .int .i64 A, .int .i64 B, .int .i64 n] 29))] V)
  case first =>
    go_wp2_with fail
    refine wp_region_noPanic ?_
    go_region_with (go_at_call 17; refine (play_runion PX.drew ha4 hva.out hra.out hvb.out hrb.out hVl.out).mono ?_; rintro e w1 ⟨av', cv', rs', rfl, hxs, hm', hr', P1, P2⟩; have c1 := P1.cellW hva.out; have f1 := P1.frW a; go_simp)
    all_goals (refine NoPanic.normal ?_; go_wp2_with fail; go_meet; exact ⟨rfl, av', cv', rs', hxs, hm', hr', P2⟩)
  case rest =>
    obtain ⟨rfl, av', cv', rs', hxs, hm', hr', P2⟩ := hcut
    clear cwa y0 y1 y2 y3
    have s2 := P2.cellS hLa.out
    have v2 := P2.cellW (set_self hva.out)
    have x2 : _ = some (Value.int .i64 n) := P2.cellX (List.Mem.head _) 3
    clear cwb x2
    have t2 := P2.cellS hLb.out
    obtain ⟨l3, hLb3⟩ := set_other (l' := uni la lb) hLa.out hLb.out
    replace hLb3 := Lib.hid hLb3
    obtain ⟨q, hq⟩ : ∃ q, q = decide (la.length < (uni la lb).length) := ⟨_, rfl⟩
    have hc := Lib.hid (play_union P2.drew hLa.out hLb.out hVl.out)
    rw [← hq] at hc
    have g2 : decide (ra.length < rs'.length) = q := (union_len (union_mem hm' (M.out a sa la ra hLa.out hra.out) (M.out b sb lb rb hLb.out hrb.out)) (M.out a sa la ra hLa.out hra.out) hr' (PX.rows a _ ra hva.out hra.out).2.1 (PX.hall.nodup hLa.out) (PX.hall.nodup hLb.out)).trans hq.symm
    have g1 : decide ((rs'.length : Int) > (ra.length : Int)) = q := by rw [← g2, decide_eq_decide]; omega
    replace hq := Lib.hid hq
    go_wp2_with fail
    refine wp_region_noPanic ?_
    go_region_held3 (fun w' => w'.cell? ⟨ps, a, none⟩ = some (ptr sa) ∧ w'.cell? ⟨ws, a, none⟩ = some (.slice av' rs'.length cv') ∧ w'.cell? ⟨ps, b, none⟩ = some (ptr sb)) (first | exact ⟨s2, v2, t2⟩ | exact ⟨s3, v3, t3⟩)
      (first | (go_at_call 18; with_reducible refine Calls.mono hc.out ?_; rintro e w3 ⟨rfl, P3⟩; have s3 := P3.cellS (set_self hLa.out); have v3 := P3.cellW (set_self hva.out); have x3 : w3.cell? ⟨xb, 3, none⟩ = some (.int .i64 n) := P3.cellX (List.Mem.head _) 3; have t3 := P3.cellS hLb3.out; go_simp))
    refine NoPanic.normal ?_
    go_wp2_with fail
    exact hQ'.out ⟨_, _, _, _, P3, M.out.set (union_mem hm' (M.out a sa la ra hLa.out hra.out) (M.out b sb lb rb hLb.out hrb.out)), by have := hV.out; omega⟩
end Go.Proofs.YtdpbbgfceagofaaDoor
