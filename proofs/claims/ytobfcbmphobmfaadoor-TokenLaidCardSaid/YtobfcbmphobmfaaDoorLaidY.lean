/- TokenLaid: a round. -/
import Derived.Test.YtobfcbmphobmfaaDoorLaidX
namespace Go.Proofs.YtobfcbmphobmfaaDoor
open Go.RowKit Go.Shelf

set_option maxRecDepth 20000 in
set_option maxHeartbeats 12000000 in
theorem laid_round {c : Code} (hc : Func.blockOf Tryd.f5 1 = some c) {Q : Exit → Act → World → Prop} {w wr : World} {n cap k b off sl sc : Nat} {x : Wd} {tx : ByteArray} {ts : List Tok} {s : Bool} {u1 u2 u3 u4 u7 u12 u13 u14 u15 u16 u17 u18 u19 u20 u21 u22 u23 u24 u25 u26 u27 u28 u29 u30 u31 u32 u33 u34 u35 u36 u37 u38 u39 u40 u41 u42 u43 u44 u45 u46 u47 u48 u49 u50 u51 u52 u53 u54 u55 u56 u57 u58 u59 u60 u61 u62 u63 u64 u65 u66 u67 u68 u69 u70 u71 u72 u73 u74 u75 u76 u77 u78 u79 u80 u81 u82 u83 u84 u85 u86 u87 u88 u89 u90 u91 u92 u93 u94 u95 u96 u97 u98 u99 u100 u101 u102 u103 u104 u105 u106 u107 u108 u109 u110 u111 u112 u113 u114 u115 u116 u117 u118 u119 u120 u121 u122 u123 u124 u125 u126 u127 u128 u129 u130 u131 u132 u133 u134 u135 u136 u137 u138 u139 u140 u141 u142 u143 u144 u145 u146 u147 u148 u149 u150 u151 u152 u153 u154 u155 u156 u157 u158 u159 u160 u161 u162 u163 u164 u165 u166 u167 u168 u169 u170 u171 u172 u173 u174 u175 u176 u177 u178 u179 u180 u181 u182 u183 u184 u185 u186 u187 u188 u189 u190 u191 u192 u193 u194 u195 u196 u197 u198 u199 u200 u201 u202 u203 u204 u205 u206 u207 u208 u209 u210 u211 u212 u213 u214 u215 u216 u217 u218 u219 u220 u221 u222 u223 u224 u225 u226 u227 u228 u229 u230 u231 u232 u233 u234 u235 u236 u237 u238 u239 u240 u241 u242 u243 u244 u245 u246 u247 u248 u249 u250 u251 u252 u253 u254 u255 u256 u257 u258 u259 u260 u261 u262 u263 u264 u265 u266 u267 u268 u269 u270 u271 u272 u273 u274 u275 u276 u277 u278 u279 u280 u281 u282 : Value}
    (hsl : Hid (spotOf tx.data.toList = (sl, sc))) (i1 : (k : Int) < (n : Int)) (hn100 : n ≤ 100) (hb : b < w.heap.size) (c0 : wr.cell? ⟨b, off + k * 3, none⟩ = some (.int .u8 x.kind)) (c1 : wr.cell? ⟨b, off + k * 3 + 1, none⟩ = some (.string x.text)) (c2 : wr.cell? ⟨b, off + k * 3 + 2, none⟩ = some (.int .u8 x.ahead))
    (hk1 : x.kind < 256) (ha1 : x.ahead < 256) (hs1 : x.text.size ≤ maxLen) (hl : Hid (Laid tx.data.toList ts s)) (htx : tx.size ≤ 60 * k) (hts : Hid (ts.length = k)) (hrow : wr.ownsRow (w.heap.size + 1) 34 5 u7 ts.length (ts.flatMap cellsT)) (hbw : Below (w.heap.size + 1) (w.alloc (.cells gapsV 9)) wr)
    (hQ : Hid (∀ {wx : World} {v6 v7 v8 v9 v10 v12 v13 v14 v15 v16 v17 v18 v19 v20 v29 v30 v31 v32 v33 v34 v35 v36 v37 v38 v39 v40 v41 v42 v43 v44 v45 v46 v47 v48 v49 v50 v51 v52 v53 v54 v55 v56 v57 v58 v59 v60 v61 v62 v63 v64 v65 v66 v67 v68 v69 v70 v71 v72 v73 v74 v75 v76 v77 v78 v79 v80 v81 v82 v83 v84 v85 v86 v87 v88 v89 v90 v91 v92 v93 v94 v95 v96 v97 v98 v99 v100 v101 v102 v103 v104 v105 v106 v107 v108 v109 v110 v111 v112 v113 v114 v115 v116 v117 v118 v119 v120 v121 v122 v123 v124 v125 v126 v127 v128 v129 v130 v131 v132 v133 v134 v135 v136 v137 v138 v139 v140 v141 v142 v143 v144 v145 v146 v147 v148 v149 v150 v151 v152 v153 v154 v155 v156 v157 v158 v159 v160 v161 v162 v163 v164 v165 v166 v167 v168 v169 v170 v171 v172 v173 v174 v175 v176 v177 v178 v179 v180 v181 v182 v183 v184 v185 v186 v187 v188 v189 v190 v191 v192 v193 v194 v195 v196 v197 v198 v199 v200 v201 v202 v203 v204 v205 v206 v207 v208 v209 v210 v211 v212 v213 v214 v215 v216 v217 v218 v219 v220 v221 v222 v223 v224 v225 v226 v227 v228 v229 v230 v231 v232 : Value}, LaidRel w wx n v6 v7 v8 v9 v10 (.int .i64 ((k : Int) + 1)) → Q .normal { tmps := #[.slice (some ⟨b, off, none⟩) n cap, u1, u2, u3, u4, .slice (some ⟨w.heap.size, 0, none⟩) 7 7, v6, v7, v8, v9, v10, .int .i64 k, v12, v13, v14, v15, v16, v17, v18, v19, v20, u21, u22, u23, u24, u25, u26, u27, u28, v29, v30, v31, v32, v33, v34, v35, v36, v37, v38, v39, v40, v41, v42, v43, v44, v45, v46, v47, v48, v49, v50, v51, v52, v53, v54, v55, v56, v57, v58, v59, v60, v61, v62, v63, v64, v65, v66, v67, v68, v69, v70, v71, v72, v73, v74, v75, v76, v77, v78, v79, v80, v81, v82, v83, v84, v85, v86, v87, v88, v89, v90, v91, v92, v93, v94, v95, v96, v97, v98, v99, v100, v101, v102, v103, v104, v105, v106, v107, v108, v109, v110, v111, v112, v113, v114, v115, v116, v117, v118, v119, v120, v121, v122, v123, v124, v125, v126, v127, v128, v129, v130, v131, v132, v133, v134, v135, v136, v137, v138, v139, v140, v141, v142, v143, v144, v145, v146, v147, v148, v149, v150, v151, v152, v153, v154, v155, v156, v157, v158, v159, v160, v161, v162, v163, v164, v165, v166, v167, v168, v169, v170, v171, v172, v173, v174, v175, v176, v177, v178, v179, v180, v181, v182, v183, v184, v185, v186, v187, v188, v189, v190, v191, v192, v193, v194, v195, v196, v197, v198, v199, v200, v201, v202, v203, v204, v205, v206, v207, v208, v209, v210, v211, v212, v213, v214, v215, v216, v217, v218, v219, v220, v221, v222, v223, v224, v225, v226, v227, v228, v229, v230, v231, v232, u233, u234, u235, u236, u237, u238, u239, u240, u241, u242, u243, u244, u245, u246, u247, u248, u249, u250, u251, u252, u253, u254, u255, u256, u257, u258, u259, u260, u261, u262, u263, u264, u265, u266, u267, u268, u269, u270, u271, u272, u273, u274, u275, u276, u277, u278, u279, u280, u281, u282], defers := [] } wx)) :
    c.wp Tryd.prog Q { tmps := #[.slice (some ⟨b, off, none⟩) n cap, u1, u2, u3, u4, .slice (some ⟨w.heap.size, 0, none⟩) 7 7, .string tx, u7, .int .i64 sl, .int .i64 sc, .bool s, .int .i64 k, u12, u13, u14, u15, u16, u17, u18, u19, u20, u21, u22, u23, u24, u25, u26, u27, u28, u29, u30, u31, u32, u33, u34, u35, u36, u37, u38, u39, u40, u41, u42, u43, u44, u45, u46, u47, u48, u49, u50, u51, u52, u53, u54, u55, u56, u57, u58, u59, u60, u61, u62, u63, u64, u65, u66, u67, u68, u69, u70, u71, u72, u73, u74, u75, u76, u77, u78, u79, u80, u81, u82, u83, u84, u85, u86, u87, u88, u89, u90, u91, u92, u93, u94, u95, u96, u97, u98, u99, u100, u101, u102, u103, u104, u105, u106, u107, u108, u109, u110, u111, u112, u113, u114, u115, u116, u117, u118, u119, u120, u121, u122, u123, u124, u125, u126, u127, u128, u129, u130, u131, u132, u133, u134, u135, u136, u137, u138, u139, u140, u141, u142, u143, u144, u145, u146, u147, u148, u149, u150, u151, u152, u153, u154, u155, u156, u157, u158, u159, u160, u161, u162, u163, u164, u165, u166, u167, u168, u169, u170, u171, u172, u173, u174, u175, u176, u177, u178, u179, u180, u181, u182, u183, u184, u185, u186, u187, u188, u189, u190, u191, u192, u193, u194, u195, u196, u197, u198, u199, u200, u201, u202, u203, u204, u205, u206, u207, u208, u209, u210, u211, u212, u213, u214, u215, u216, u217, u218, u219, u220, u221, u222, u223, u224, u225, u226, u227, u228, u229, u230, u231, u232, u233, u234, u235, u236, u237, u238, u239, u240, u241, u242, u243, u244, u245, u246, u247, u248, u249, u250, u251, u252, u253, u254, u255, u256, u257, u258, u259, u260, u261, u262, u263, u264, u265, u266, u267, u268, u269, u270, u271, u272, u273, u274, u275, u276, u277, u278, u279, u280, u281, u282], defers := [] } wr := by
  conv at hc => lhs; whnf
  simp only [Option.some.injEq] at hc
  subst hc
  have hlt : k < n := by omega
  go_upto_block 2 with fail
  rw [show ((x.kind : Int) % 3) = ((x.kind % 3 : Nat) : Int) from by omega]
  obtain ⟨k3, hk3, hk3l⟩ : ∃ k3, Hid (x.kind % 3 = k3) ∧ k3 < 3 := ⟨_, Lib.hid rfl, by omega⟩
  rw [hk3.out]
  go_cut [12, 13, 15, 16, 17, 18] from 29 to 232 (fun wv nv _ _ _ _ wx => CutRel wr wx k3 wv nv)
  case first =>
    refine laid_word (by kernel_rfl) c1 hs1 hk3l i1 (Lib.hid (fun h => ?_))
    replace h := Lib.hid h
    go_wp2_with fail
    go_meet
    exact h.out
  case rest =>
    obtain ⟨tw, num, rfl, rfl, hform, htw, hbc⟩ := hcut
    have hgw : w.heap.size < wr.heap.size := by have := hbw.size; simp at this; omega
    have c2' := (hbc.cell (p := ⟨b, off + k * 3 + 2, none⟩) (by show b < _; omega)).trans c2
    obtain ⟨a2, ha2, ha2l⟩ : ∃ a2, Hid (x.ahead % 2 = a2) ∧ a2 < 2 := ⟨_, Lib.hid rfl, by omega⟩
    obtain ⟨r7, hr7, hr7l⟩ : ∃ r7, Hid (x.ahead / 2 % 7 = r7) ∧ r7 < 7 := ⟨_, Lib.hid rfl, by omega⟩
    have q1 : ((x.ahead : Int) % 2) = (a2 : Int) := by have := ha2.out; omega
    have q2 : ((x.ahead : Int) / 2 % 7) = (r7 : Int) := by have := hr7.out; omega
    obtain ⟨g7, hg7, hg7m, hg7s⟩ := gap_at r7 hr7l
    have cg : wc.cell? ⟨w.heap.size, r7, none⟩ = some (.string g7) := by
      rw [hbc.cell (p := ⟨w.heap.size, r7, none⟩) hgw, hbw.cell (p := ⟨w.heap.size, r7, none⟩) (Nat.lt_succ_self _), blk_cell (heap_alloc_new w _)]
      exact hg7
    replace hform := Lib.hid hform
    replace hg7 := Lib.hid hg7
    replace hg7m := Lib.hid hg7m
    obtain ⟨b1, hb1⟩ : ∃ b1, Hid (decide (a2 = 1) = b1) := ⟨_, Lib.hid rfl⟩
    obtain ⟨b2, hb2⟩ : ∃ b2, Hid (decide (k3 = 2) = b2) := ⟨_, Lib.hid rfl⟩
    obtain ⟨q, hq⟩ : ∃ q, Hid (((!s && !b2) || b1) = q) := ⟨_, Lib.hid rfl⟩
    clear c0 c1 c2
    go_upto_region 35 with fail
    go_cut [185] from 29 to 232 (fun tb wx => tb = .bool q ∧ wx = wc)
    case first =>
      have e1 : ((a2 : Int) == 1) = b1 := by rw [← hb1.out, Bool.eq_iff_iff]; simp; omega
      have e2 : ((k3 : Int) != 2) = !b2 := by rw [← hb2.out, Bool.eq_iff_iff]; simp; omega
      cases s <;> cases b1 <;> cases b2
      all_goals
        go_wp2_with fail
        go_meet
        exact ⟨by rw [← hq.out]; rfl, rfl⟩
    case rest =>
      obtain ⟨rfl, hwx⟩ := hcut
      subst hwx
      have hsb := spotL_le (1, 1) tx.data.toList
      rw [show spotL (1, 1) tx.data.toList = (sl, sc) from hsl.out, size_list] at hsb
      simp only at hsb
      obtain ⟨hsb1, hsb2⟩ := hsb
      cases q with
      | false =>
        go_upto_block 7 with fail
        obtain ⟨g, hgd, hgs, hgl, hgn⟩ : ∃ g : ByteArray, (⟨#[]⟩ : ByteArray) = g ∧ g.size ≤ 10 ∧ Hid (g.data.toList = [] ∨ g.data.toList ∈ gapsL) ∧ Hid (s = false → k3 + 1 ≠ 3 → g.data.toList ≠ []) := by
          refine ⟨_, rfl, by decide, Lib.hid (.inl rfl), Lib.hid (fun h1 h2 => ?_)⟩
          have := hq.out
          rw [h1, ← hb2.out] at this
          simp at this
          omega
        rw [hgd]
        clear hgd
        clear cg hg7 hg7m c2' q1 q2 hr7 ha2 hq hb1 hb2
        have hrow' := ownsRow_touch hrow (Touch.of_below hbc (fun _ => False)) (fun _ _ h => h)
        have hbw' := hbw.trans (hbc.mono (by have := hbw.size; simp at this; omega))
        go_wp2_with fail
        go_loop [8, 9, 20] (fun ln cl i => GapL g (sl, sc) ln cl i) (fun _ _ i => g.size - (intOf i).toNat)
        case atStart => exact ⟨0, Nat.zero_le _, rfl, rfl, rfl⟩
        case round =>
          obtain ⟨m, hmg, rfl, rfl, rfl⟩ := hrel
          have hle := spotL_le (sl, sc) (g.data.toList.take m)
          obtain ⟨p1, p2, hp⟩ : ∃ p1 p2, Hid (spotL (sl, sc) (g.data.toList.take m) = (p1, p2)) := ⟨_, _, Lib.hid rfl⟩
          rw [hp.out, List.length_take, size_list] at hle
          simp only at hle
          obtain ⟨hle1, hle2⟩ := hle
          rw [hp.out]
          simp only
          by_cases h1 : m < g.size
          · have ht := Lib.hid (take_snoc (l := g.data.toList) (j := m) (x := g[m]) (by rw [List.getElem?_eq_getElem (by simpa using h1)]; rfl))
            have j1 : (m : Int) < (g.size : Int) := by omega
            by_cases h10 : g[m] = 10
            · have e1 : ((g[m].toNat : Int) == 10) = true := by rw [h10]; rfl
              replace h10 := Lib.hid h10
              go_wp2_with fail
              refine ⟨⟨m + 1, h1, by go_num, ?_, ?_⟩, by simp [intOf]; omega⟩
              · rw [ht.out, spotL_snoc, hp.out]; unfold spotStep; rw [if_pos h10.out]; go_num
              · rw [ht.out, spotL_snoc, hp.out]; unfold spotStep; rw [if_pos h10.out]; go_num
            · have e1 : ((g[m].toNat : Int) == 10) = false := by rw [show ((g[m].toNat : Int) == 10) = (g[m] == 10) from eqB g[m] 10]; simpa using h10
              replace h10 := Lib.hid h10
              go_wp2_with fail
              refine ⟨⟨m + 1, h1, by go_num, ?_, ?_⟩, by simp [intOf]; omega⟩
              · rw [ht.out, spotL_snoc, hp.out]; unfold spotStep; rw [if_neg h10.out]
              · rw [ht.out, spotL_snoc, hp.out]; unfold spotStep; rw [if_neg h10.out]; go_num
          · obtain rfl : m = g.size := by omega
            have hp' : Hid (spotL (spotOf tx.data.toList) g.data.toList = (p1, p2)) := by
              have := hp.out
              rw [List.take_of_length_le (by rw [size_list]; exact Nat.le_refl _)] at this
              rw [hsl.out]
              exact Lib.hid this
            have j1 : decide ((g.size : Int) < (g.size : Int)) = false := by simp
            have htsl : ts.length ≤ 100 := by rw [hts.out]; omega
            obtain ⟨i0, hi0, hz0, hz1, hz2⟩ := info_parts infoTok
            go_wp2_with (at_builtin; refine wpList_append_own_at _ rfl _ _ 22 rfl (w.heap.size + 1) 34 i0 _ 5 48 Tryd.underlying22 hi0 hz0 hz1 hz2 rfl (by decide) _ _ _ rfl (hrow'.alloc _) ⟨wc.heap.size, 0, none⟩ 1 1 [.int .u8 ((k3 : Int) + 1), .string tw, .int .i64 num, .int .i64 p1, .int .i64 p2] rfl rfl (World.news_of_block (cs := #[.int .u8 ((k3 : Int) + 1), .string tw, .int .i64 num, .int .i64 p1, .int .i64 p2]) (t := 34) (fr := (0, 0)) (heap_alloc_new wc _)) (by simp [Value.oneCell']) (by unfold maxLen; omega) (by omega) (by have := hbw'.size; simp at this ⊢; omega) ?_)
            intro v' w2 hown2 hgrow hnil hat
            have hb2 : Below (w.heap.size + 1) (w.alloc (.cells gapsV 9)) w2 := (hbw'.alloc (by have := hbw'.size; simp at this; omega) _).grown hgrow (by have := hbw'.size; simp at this ⊢; omega) (fun b hb => (hrow'.lt b hb).1)
            have hsp : Hid (spotOf (tx ++ g ++ tw).data.toList = (p1, p2 + tw.size)) := by
              rw [show (tx ++ g ++ tw).data.toList = tx.data.toList ++ g.data.toList ++ tw.data.toList from by simp, spotOf_app, spotOf_app, hp'.out]
              unfold spotL
              rw [fold_flat _ _ (form_flat hform.out), size_list]
              exact Lib.hid rfl
            have hlaid : Hid (Laid (tx ++ g ++ tw).data.toList (ts ++ [⟨k3 + 1, tw.data.toList, num, p1, p2⟩]) (decide (k3 = 2))) := by
              have := Laid.snoc hl.out hform.out hgl.out hgn.out
              rw [show decide (k3 + 1 = 3) = decide (k3 = 2) from by simp] at this
              rw [spotOf_app, hp'.out] at this
              rw [show (tx ++ g ++ tw).data.toList = tx.data.toList ++ g.data.toList ++ tw.data.toList from by simp]
              exact Lib.hid this
            have hown3 : Hid (w2.ownsRow (w.heap.size + 1) 34 5 v' (ts ++ [(⟨k3 + 1, tw.data.toList, num, p1, p2⟩ : Tok)]).length ((ts ++ [(⟨k3 + 1, tw.data.toList, num, p1, p2⟩ : Tok)]).flatMap cellsT)) := by
              rw [List.length_append, List.length_singleton, List.flatMap_append]
              refine Lib.hid ?_
              have e : List.flatMap cellsT [(⟨k3 + 1, tw.data.toList, num, p1, p2⟩ : Tok)] = [.int .u8 ((k3 : Int) + 1), .string tw, .int .i64 num, .int .i64 p1, .int .i64 p2] := by simp [cellsT]
              rw [e]
              exact hown2
            have e3 : ((k3 : Int) == 2) = decide (k3 = 2) := by rw [Bool.eq_iff_iff]; simp; omega
            have hzz : (tx ++ g ++ tw).size = tx.size + g.size + tw.size := by simp
            clear hown2 hgrow hnil hat hrow' hbw' hp' hp
            go_wp2_with fail
            refine hQ.out ⟨k + 1, tx ++ g ++ tw, _, _, by omega, by go_num, rfl, hlaid.out, rfl, ?_, ?_, by omega, ?_, hown3.out, hb2⟩
            · rw [hsp.out]
            · rw [hsp.out]; go_num
            · rw [List.length_append, hts.out]; rfl
      | true =>
        go_upto_block 7 with fail
        obtain ⟨g, hgd, hgs, hgl, hgn⟩ : ∃ g : ByteArray, g7 = g ∧ g.size ≤ 10 ∧ Hid (g.data.toList = [] ∨ g.data.toList ∈ gapsL) ∧ Hid (s = false → k3 + 1 ≠ 3 → g.data.toList ≠ []) := by
          refine ⟨_, rfl, hg7s, Lib.hid (.inr hg7m.out), Lib.hid (fun _ _ h2 => ?_)⟩
          have := hg7m.out
          rw [h2] at this
          exact absurd this (by decide)
        rw [hgd]
        clear hgd
        clear cg hg7 hg7m c2' q1 q2 hr7 ha2 hq hb1 hb2
        have hrow' := ownsRow_touch hrow (Touch.of_below hbc (fun _ => False)) (fun _ _ h => h)
        have hbw' := hbw.trans (hbc.mono (by have := hbw.size; simp at this; omega))
        go_wp2_with fail
        go_loop [8, 9, 20] (fun ln cl i => GapL g (sl, sc) ln cl i) (fun _ _ i => g.size - (intOf i).toNat)
        case atStart => exact ⟨0, Nat.zero_le _, rfl, rfl, rfl⟩
        case round =>
          obtain ⟨m, hmg, rfl, rfl, rfl⟩ := hrel
          have hle := spotL_le (sl, sc) (g.data.toList.take m)
          obtain ⟨p1, p2, hp⟩ : ∃ p1 p2, Hid (spotL (sl, sc) (g.data.toList.take m) = (p1, p2)) := ⟨_, _, Lib.hid rfl⟩
          rw [hp.out, List.length_take, size_list] at hle
          simp only at hle
          obtain ⟨hle1, hle2⟩ := hle
          rw [hp.out]
          simp only
          by_cases h1 : m < g.size
          · have ht := Lib.hid (take_snoc (l := g.data.toList) (j := m) (x := g[m]) (by rw [List.getElem?_eq_getElem (by simpa using h1)]; rfl))
            have j1 : (m : Int) < (g.size : Int) := by omega
            by_cases h10 : g[m] = 10
            · have e1 : ((g[m].toNat : Int) == 10) = true := by rw [h10]; rfl
              replace h10 := Lib.hid h10
              go_wp2_with fail
              refine ⟨⟨m + 1, h1, by go_num, ?_, ?_⟩, by simp [intOf]; omega⟩
              · rw [ht.out, spotL_snoc, hp.out]; unfold spotStep; rw [if_pos h10.out]; go_num
              · rw [ht.out, spotL_snoc, hp.out]; unfold spotStep; rw [if_pos h10.out]; go_num
            · have e1 : ((g[m].toNat : Int) == 10) = false := by rw [show ((g[m].toNat : Int) == 10) = (g[m] == 10) from eqB g[m] 10]; simpa using h10
              replace h10 := Lib.hid h10
              go_wp2_with fail
              refine ⟨⟨m + 1, h1, by go_num, ?_, ?_⟩, by simp [intOf]; omega⟩
              · rw [ht.out, spotL_snoc, hp.out]; unfold spotStep; rw [if_neg h10.out]
              · rw [ht.out, spotL_snoc, hp.out]; unfold spotStep; rw [if_neg h10.out]; go_num
          · obtain rfl : m = g.size := by omega
            have hp' : Hid (spotL (spotOf tx.data.toList) g.data.toList = (p1, p2)) := by
              have := hp.out
              rw [List.take_of_length_le (by rw [size_list]; exact Nat.le_refl _)] at this
              rw [hsl.out]
              exact Lib.hid this
            have j1 : decide ((g.size : Int) < (g.size : Int)) = false := by simp
            have htsl : ts.length ≤ 100 := by rw [hts.out]; omega
            obtain ⟨i0, hi0, hz0, hz1, hz2⟩ := info_parts infoTok
            go_wp2_with (at_builtin; refine wpList_append_own_at _ rfl _ _ 22 rfl (w.heap.size + 1) 34 i0 _ 5 48 Tryd.underlying22 hi0 hz0 hz1 hz2 rfl (by decide) _ _ _ rfl (hrow'.alloc _) ⟨wc.heap.size, 0, none⟩ 1 1 [.int .u8 ((k3 : Int) + 1), .string tw, .int .i64 num, .int .i64 p1, .int .i64 p2] rfl rfl (World.news_of_block (cs := #[.int .u8 ((k3 : Int) + 1), .string tw, .int .i64 num, .int .i64 p1, .int .i64 p2]) (t := 34) (fr := (0, 0)) (heap_alloc_new wc _)) (by simp [Value.oneCell']) (by unfold maxLen; omega) (by omega) (by have := hbw'.size; simp at this ⊢; omega) ?_)
            intro v' w2 hown2 hgrow hnil hat
            have hb2 : Below (w.heap.size + 1) (w.alloc (.cells gapsV 9)) w2 := (hbw'.alloc (by have := hbw'.size; simp at this; omega) _).grown hgrow (by have := hbw'.size; simp at this ⊢; omega) (fun b hb => (hrow'.lt b hb).1)
            have hsp : Hid (spotOf (tx ++ g ++ tw).data.toList = (p1, p2 + tw.size)) := by
              rw [show (tx ++ g ++ tw).data.toList = tx.data.toList ++ g.data.toList ++ tw.data.toList from by simp, spotOf_app, spotOf_app, hp'.out]
              unfold spotL
              rw [fold_flat _ _ (form_flat hform.out), size_list]
              exact Lib.hid rfl
            have hlaid : Hid (Laid (tx ++ g ++ tw).data.toList (ts ++ [⟨k3 + 1, tw.data.toList, num, p1, p2⟩]) (decide (k3 = 2))) := by
              have := Laid.snoc hl.out hform.out hgl.out hgn.out
              rw [show decide (k3 + 1 = 3) = decide (k3 = 2) from by simp] at this
              rw [spotOf_app, hp'.out] at this
              rw [show (tx ++ g ++ tw).data.toList = tx.data.toList ++ g.data.toList ++ tw.data.toList from by simp]
              exact Lib.hid this
            have hown3 : Hid (w2.ownsRow (w.heap.size + 1) 34 5 v' (ts ++ [(⟨k3 + 1, tw.data.toList, num, p1, p2⟩ : Tok)]).length ((ts ++ [(⟨k3 + 1, tw.data.toList, num, p1, p2⟩ : Tok)]).flatMap cellsT)) := by
              rw [List.length_append, List.length_singleton, List.flatMap_append]
              refine Lib.hid ?_
              have e : List.flatMap cellsT [(⟨k3 + 1, tw.data.toList, num, p1, p2⟩ : Tok)] = [.int .u8 ((k3 : Int) + 1), .string tw, .int .i64 num, .int .i64 p1, .int .i64 p2] := by simp [cellsT]
              rw [e]
              exact hown2
            have e3 : ((k3 : Int) == 2) = decide (k3 = 2) := by rw [Bool.eq_iff_iff]; simp; omega
            have hzz : (tx ++ g ++ tw).size = tx.size + g.size + tw.size := by simp
            clear hown2 hgrow hnil hat hrow' hbw' hp' hp
            go_wp2_with fail
            refine hQ.out ⟨k + 1, tx ++ g ++ tw, _, _, by omega, by go_num, rfl, hlaid.out, rfl, ?_, ?_, by omega, ?_, hown3.out, hb2⟩
            · rw [hsp.out]
            · rw [hsp.out]; go_num
            · rw [List.length_append, hts.out]; rfl
end Go.Proofs.YtobfcbmphobmfaaDoor
