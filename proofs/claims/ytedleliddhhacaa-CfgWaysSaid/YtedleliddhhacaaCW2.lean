/- CfgWays: its blocks. -/
import Derived.Test.YtedleliddhhacaaCW4
import Derived.Deep.CutRange
import Derived.Deep.CutBlock
namespace Go.Proofs.Ytedleliddhhacaa
open Go.RowKit Go.Maps

set_option maxRecDepth 20000 in
set_option maxHeartbeats 8000000 in
theorem cw2 {c : Code} (hc : Func.blockOf Try.f4 2 = some c) {Q : Exit → Act → World → Prop} {w : World} {S F G1 G2 n cb I i p cl : Nat} {ab al : Option Addr} {d : Fun} {N B : List (List Int)} {x : Ins} {r r2 : List Int} {u0 u2 u4 u5 u8 u11 u12 u13 u14 u15 u16 u17 u18 u19 u20 u21 u22 u23 u24 u25 u26 u27 u28 u29 u30 u31 u32 u33 u34 u35 u36 u37 u38 u39 u40 u41 u42 u43 u44 u45 u46 u47 u48 u49 u50 u51 u52 u53 u54 u55 u56 u57 u58 u59 u60 u61 u62 u63 u64 u65 u66 u67 u68 u69 u70 u71 u72 u73 u74 u75 u76 u77 u78 u79 u80 u81 u82 u83 u84 u85 u86 u87 u88 u89 u90 u91 u92 u93 u94 u95 u96 u97 u98 u99 u100 u101 u102 u103 u104 u105 u106 u107 u108 u109 u110 u111 u112 u113 u114 u115 u116 u117 u118 u119 u120 u121 u122 u123 u124 u125 u126 u127 u128 u129 u130 u131 u132 u133 u134 u135 u136 u137 u138 u139 u140 u141 u142 u143 u144 u145 u146 u147 u148 u149 u150 u151 u152 u153 u154 u155 u156 u157 u158 u159 u160 u161 u162 u163 u164 u165 u166 u167 u168 u169 u170 u171 u172 u173 u174 u175 u176 u177 u178 u179 u180 u181 u182 u183 u184 u185 u186 u187 u188 u189 u190 u191 u192 u193 u194 u195 u196 u197 u198 u199 u200 u201 u202 u203 u204 u205 u206 u207 u208 u209 u210 u211 u212 u213 u214 u215 u216 u217 u218 u219 u220 u221 u222 u223 u224 u225 u226 u227 u228 u229 u230 u231 u232 u233 u234 u235 u236 u237 u238 u239 u240 u241 u242 u243 u244 u245 u246 u247 u248 u249 u250 u251 u252 u253 u254 u255 u256 u257 u258 u259 u260 u261 u262 u263 u264 u265 u266 u267 u268 u269 u270 u271 u272 u273 u274 u275 u276 u277 u278 u279 u280 u281 u282 u283 u284 u285 u286 u287 u288 u289 u290 u291 u292 u293 u294 u295 u296 u297 u298 u299 u300 u301 u302 u303 u304 u305 u306 u307 : Value}
    (K : WW w S F G1 G2 n ab cb d N B) (hi : i < n) (hI0 : w.cell? ⟨I, 0, none⟩ = some (.int .u8 x.op)) (hI7 : w.cell? ⟨I, 7, none⟩ = some (.slice al p cl)) (hlab : RdS w (.slice al p cl) x.labels) (hp : p = x.labels.length) (hp20 : p ≤ 20)
    (hr : N[i]? = some r) (hr2 : B[i]? = some r2) (hin : ∀ t : Nat, (t : Int) ∈ r → ∃ (q : Nat) (s : ByteArray), x.labels[q]? = some s ∧ d.labels[t]? = some s) (hout : x.op ≠ 14 → ∀ (q : Nat) (s : ByteArray), x.labels[q]? = some s → ∃ (k : Nat) (t : Nat), r[k]? = some (t : Int) ∧ d.labels[t]? = some s) (hop : r ≠ [] → x.op ≠ 14)
    (hQ : Hid (∀ {wx : World} {v2 v10 v11 v12 v13 v84 v85 v86 v87 v88 v89 v90 v91 v92 v93 v94 v95 v96 v97 v98 v99 v100 v101 v102 v103 v104 v105 v106 v107 v108 v109 v110 v111 v112 v113 v114 v115 v116 v117 v118 v119 v120 v121 v122 v123 v124 v125 v126 v127 v128 v129 v130 v131 v132 v133 v134 v135 v136 v137 v138 v139 v140 v141 v142 v143 v144 v145 v146 v147 v148 v149 v150 v151 v152 v153 v154 v155 v156 v157 v158 v159 v160 v161 v162 v163 v164 : Value}, (∃ m, wx = w.drewN m) → Q .normal { tmps := #[u0, .pointer (some ⟨S, 0, none⟩), v2, .pointer (some ⟨F, 0, none⟩), u4, u5, .int .i64 n, .int .i64 i, u8, .pointer (some ⟨I, 0, none⟩), v10, v11, v12, v13, u14, u15, u16, u17, u18, u19, u20, u21, u22, u23, u24, u25, u26, u27, u28, u29, u30, u31, u32, u33, u34, u35, u36, u37, u38, u39, u40, u41, u42, u43, u44, u45, u46, u47, u48, u49, u50, u51, u52, u53, u54, u55, u56, u57, u58, u59, u60, u61, u62, u63, u64, u65, u66, u67, u68, u69, u70, u71, u72, u73, u74, u75, u76, u77, u78, u79, u80, u81, u82, u83, v84, v85, v86, v87, v88, v89, v90, v91, v92, v93, v94, v95, v96, v97, v98, v99, v100, v101, v102, v103, v104, v105, v106, v107, v108, v109, v110, v111, v112, v113, v114, v115, v116, v117, v118, v119, v120, v121, v122, v123, v124, v125, v126, v127, v128, v129, v130, v131, v132, v133, v134, v135, v136, v137, v138, v139, v140, v141, v142, v143, v144, v145, v146, v147, v148, v149, v150, v151, v152, v153, v154, v155, v156, v157, v158, v159, v160, v161, v162, v163, v164, u165, u166, u167, u168, u169, u170, u171, u172, u173, u174, u175, u176, u177, u178, u179, u180, u181, u182, u183, u184, u185, u186, u187, u188, u189, u190, u191, u192, u193, u194, u195, u196, u197, u198, u199, u200, u201, u202, u203, u204, u205, u206, u207, u208, u209, u210, u211, u212, u213, u214, u215, u216, u217, u218, u219, u220, u221, u222, u223, u224, u225, u226, u227, u228, u229, u230, u231, u232, u233, u234, u235, u236, u237, u238, u239, u240, u241, u242, u243, u244, u245, u246, u247, u248, u249, u250, u251, u252, u253, u254, u255, u256, u257, u258, u259, u260, u261, u262, u263, u264, u265, u266, u267, u268, u269, u270, u271, u272, u273, u274, u275, u276, u277, u278, u279, u280, u281, u282, u283, u284, u285, u286, u287, u288, u289, u290, u291, u292, u293, u294, u295, u296, u297, u298, u299, u300, u301, u302, u303, u304, u305, u306, u307], defers := [] } wx)) :
    c.wp Try.prog Q { tmps := #[u0, .pointer (some ⟨S, 0, none⟩), u2, .pointer (some ⟨F, 0, none⟩), u4, u5, .int .i64 n, .int .i64 i, u8, .pointer (some ⟨I, 0, none⟩), .int .i64 0, u11, u12, u13, u14, u15, u16, u17, u18, u19, u20, u21, u22, u23, u24, u25, u26, u27, u28, u29, u30, u31, u32, u33, u34, u35, u36, u37, u38, u39, u40, u41, u42, u43, u44, u45, u46, u47, u48, u49, u50, u51, u52, u53, u54, u55, u56, u57, u58, u59, u60, u61, u62, u63, u64, u65, u66, u67, u68, u69, u70, u71, u72, u73, u74, u75, u76, u77, u78, u79, u80, u81, u82, u83, u84, u85, u86, u87, u88, u89, u90, u91, u92, u93, u94, u95, u96, u97, u98, u99, u100, u101, u102, u103, u104, u105, u106, u107, u108, u109, u110, u111, u112, u113, u114, u115, u116, u117, u118, u119, u120, u121, u122, u123, u124, u125, u126, u127, u128, u129, u130, u131, u132, u133, u134, u135, u136, u137, u138, u139, u140, u141, u142, u143, u144, u145, u146, u147, u148, u149, u150, u151, u152, u153, u154, u155, u156, u157, u158, u159, u160, u161, u162, u163, u164, u165, u166, u167, u168, u169, u170, u171, u172, u173, u174, u175, u176, u177, u178, u179, u180, u181, u182, u183, u184, u185, u186, u187, u188, u189, u190, u191, u192, u193, u194, u195, u196, u197, u198, u199, u200, u201, u202, u203, u204, u205, u206, u207, u208, u209, u210, u211, u212, u213, u214, u215, u216, u217, u218, u219, u220, u221, u222, u223, u224, u225, u226, u227, u228, u229, u230, u231, u232, u233, u234, u235, u236, u237, u238, u239, u240, u241, u242, u243, u244, u245, u246, u247, u248, u249, u250, u251, u252, u253, u254, u255, u256, u257, u258, u259, u260, u261, u262, u263, u264, u265, u266, u267, u268, u269, u270, u271, u272, u273, u274, u275, u276, u277, u278, u279, u280, u281, u282, u283, u284, u285, u286, u287, u288, u289, u290, u291, u292, u293, u294, u295, u296, u297, u298, u299, u300, u301, u302, u303, u304, u305, u306, u307], defers := [] } w := by
  conv at hc => lhs; whnf
  simp only [Option.some.injEq] at hc
  subst hc
  obtain ⟨hfunc, hf0, hf1, hblk, hgN, hgB, hd, hN, hB, hn40, hformN, hformB, hback⟩ := K
  obtain ⟨bN, oN, cN, uN, eN, hbN, hcN, hrN⟩ := hgN.at hr
  obtain ⟨bB, oB, cB, uB, eB, hbB, hcB, hrB⟩ := hgB.at hr2
  rw [hN] at eN
  rw [hB] at eB
  simp only [Value.slice.injEq, Option.some.injEq, Addr.mk.injEq] at eN eB
  obtain ⟨⟨rfl, rfl, -⟩, -, rfl⟩ := eN
  obtain ⟨⟨rfl, rfl, -⟩, -, rfl⟩ := eB
  rw [Nat.zero_add] at hcN hcB
  obtain ⟨aN, kN, rfl⟩ := hrN.shape
  obtain ⟨aB, kB, rfl⟩ := hrB.shape
  have hfr := hformN r (List.mem_of_getElem? hr)
  have hfr2 := hformB r2 (List.mem_of_getElem? hr2)
  have hrl : r.length ≤ n := rise_lenN hfr.1 hfr.2
  have hrl2 : r2.length ≤ n := rise_lenN hfr2.1 hfr2.2
  have i0 : (i : Int) < (n : Int) := by omega
  have hrr := Lib.hid hr
  have hrr2 := Lib.hid hr2
  replace hfr := Lib.hid hfr
  replace hfr2 := Lib.hid hfr2
  replace hblk := Lib.hid hblk
  replace hgN := Lib.hid hgN
  replace hgB := Lib.hid hgB
  replace hd := Lib.hid hd
  replace hN := Lib.hid hN
  replace hB := Lib.hid hB
  replace hback := Lib.hid hback
  replace hin := Lib.hid hin
  replace hout := Lib.hid hout
  replace hop := Lib.hid hop
  replace hlab := Lib.hid hlab
  replace hp := Lib.hid hp
  replace hrN := Lib.hid hrN
  replace hrB := Lib.hid hrB
  replace hformN := Lib.hid hformN
  replace hformB := Lib.hid hformB
  clear hr hr2
  obtain ⟨lN, hlN⟩ : ∃ l, l = r.length := ⟨_, rfl⟩
  obtain ⟨lB, hlB⟩ : ∃ l, l = r2.length := ⟨_, rfl⟩
  rw [← hlN] at hcN hrN hrl
  rw [← hlB] at hcB hrB hrl2
  replace hlN := Lib.hid hlN
  replace hlB := Lib.hid hlB
  go_wp2_with fail
  go_loopw [10, 11, 12, 13] (fun i _ _ _ wx => ∃ k m : Nat, k ≤ lN ∧ i = .int .i64 k ∧ wx = w.drewN m) (fun i _ _ _ _ => lN - (intOf i).toNat)
  case atStart => exact ⟨0, 0, Nat.zero_le _, rfl, rfl⟩
  case round =>
    obtain ⟨k, m, hk, rfl, rfl⟩ := hrel
    by_cases hlt : k < lN
    · obtain ⟨z, hz⟩ : ∃ z, r[k]? = some z := ⟨_, List.getElem?_eq_getElem (by rw [← hlN.out]; exact hlt)⟩
      have hzr := hfr.out.2 z (List.mem_of_getElem? hz)
      obtain ⟨t, rfl⟩ : ∃ t : Nat, z = t := ⟨z.toNat, by omega⟩
      obtain ⟨b1, o1, c1, e1, hc1⟩ := RdI.cell hrN.out hz
      rw [← hlN.out] at e1
      simp only [Value.slice.injEq] at e1
      obtain ⟨rfl, -, rfl⟩ := e1
      have htn : t < n := by omega
      have i1 : (k : Int) < (lN : Int) := by omega
      have i2 : decide ((t : Int) < 0) = false := decide_eq_false (by omega)
      have i3 : decide ((t : Int) ≥ (n : Int)) = false := decide_eq_false (by omega)
      have i4 : (t : Int) < (n : Int) := by omega
      -- the row of B at t
      obtain ⟨rt, hrt⟩ : ∃ rt, B[t]? = some rt := ⟨_, List.getElem?_eq_getElem (by rw [hB.out]; exact htn)⟩
      have hmem : (i : Int) ∈ rt := by
        have he : Edge N i t := ⟨by rw [hN.out]; exact htn, r, hrr.out, List.mem_of_getElem? hz⟩
        obtain ⟨-, r', h1, h2⟩ := (hback.out t i).2 he
        rw [hrt] at h1
        obtain rfl := Option.some.inj h1
        exact h2
      obtain ⟨b3, o3, c3, u3, e3, hb3, hc3, hr3⟩ := hgB.out.at hrt
      rw [hB.out] at e3
      simp only [Value.slice.injEq, Option.some.injEq, Addr.mk.injEq] at e3
      obtain ⟨⟨rfl, rfl, -⟩, -, rfl⟩ := e3
      rw [Nat.zero_add] at hc3
      obtain ⟨a3, k3, rfl⟩ := hr3.shape
      have hrtl : rt.length ≤ n := rise_lenN (hformB.out rt (List.mem_of_getElem? hrt)).1 (hformB.out rt (List.mem_of_getElem? hrt)).2
      have ham := Lib.hid (fun m => among_any (y := (i : Int)) (Rd.below hr3 (below_drawn (Below.refl w.heap.size w) m)) (by omega))
      rw [decide_eq_true hmem] at ham
      -- the label of block t
      obtain ⟨y, hy⟩ : ∃ y, d.blocks[t]? = some y := ⟨_, List.getElem?_eq_getElem (by rw [← hd.out]; exact htn)⟩
      obtain ⟨b4, o4, c4, cs4, e4, hb4, ⟨vc4, rfl, hcode4⟩, -, hcell4⟩ := hblk.out.at hy
      rw [← hd.out] at e4
      simp only [Value.slice.injEq] at e4
      obtain ⟨rfl, -, rfl⟩ := e4
      have hl0 : w.cell? ⟨b4, o4 + t * 2, none⟩ = some (.string y.label) := hcell4 0 _ rfl
      have hdl : d.labels[t]? = some y.label := by simp [Fun.labels, hy]
      obtain ⟨q0, s0, hq0, hs0⟩ := hin.out t (List.mem_of_getElem? hz)
      rw [hdl] at hs0
      obtain rfl := Option.some.inj hs0
      have h14 : (x.op == 14) = false := by
        have := hop.out (fun e => by rw [e] at hz; simp at hz)
        simpa using this
      have hlast : Hid (∀ k', k' + 1 = k → ∃ z', r[k']? = some z' ∧ z' < t) := Lib.hid (fun k' hk' => by
        obtain ⟨z', hz'⟩ : ∃ z', r[k']? = some z' := ⟨_, List.getElem?_eq_getElem (by rw [← hlN.out]; omega)⟩
        refine ⟨z', hz', ?_⟩
        have h1 := List.pairwise_iff_getElem.1 hfr.out.1 k' k (by rw [← hlN.out]; omega) (by rw [← hlN.out]; exact hlt) (by omega)
        rw [(List.getElem?_eq_some_iff.1 hz').2, (List.getElem?_eq_some_iff.1 hz).2] at h1
        exact h1)
      have hq0 := Lib.hid hq0
      clear hz hrt hmem hcell4 hy hcode4 hdl hr3 hzr
      rcases Nat.eq_zero_or_pos k with hk0 | hk0
      · subst hk0
        rw [Nat.add_zero] at hc1
        go_upto_block 4 with (go_at_call 15; refine (ham.out _).mono ?_; rintro e w' ⟨rfl, hw⟩; obtain rfl := hw.symm)
        refine cw4 (by kernel_rfl) (w := w.drewN m) hfunc hI7 (Rd.below hlab.out (below_drawn (Below.refl _ _) m)) hp.out hp20 htn hl0 ⟨q0, hq0.out⟩ (Lib.hid ?_)
        intros
        rename_i hx
        obtain ⟨m2, rfl⟩ := hx
        go_wp2_with fail
        exact ⟨⟨0 + 1, m + m2, by omega, by go_num, by first | rfl | exact World.drewN_drewN _ _ _⟩, by simp [intOf]; omega⟩
      · obtain ⟨k', rfl⟩ : ∃ k', k = k' + 1 := ⟨k - 1, by omega⟩
        obtain ⟨z', hz', hzt⟩ := hlast.out k' rfl
        obtain ⟨b5, o5, c5, e5, hc5⟩ := RdI.cell hrN.out hz'
        rw [← hlN.out] at e5
        simp only [Value.slice.injEq, Option.some.injEq, Addr.mk.injEq] at e5
        obtain ⟨⟨rfl, rfl, -⟩, -, rfl⟩ := e5
        have j1 : decide (((k' + 1 : Nat) : Int) > 0) = true := decide_eq_true (by omega)
        have j2 : ((k' + 1 : Nat) : Int) - 1 = (k' : Int) := by omega
        have j3 : (k' : Int) < (lN : Int) := by omega
        have j4 : decide (z' ≥ (t : Int)) = false := decide_eq_false (by omega)
        have j5 : ((k' : Int) + 1) - 1 = (k' : Int) := by omega
        have j6 : decide ((k' : Int) + 1 > 0) = true := decide_eq_true (by omega)
        clear hz'
        go_upto_block 4 with (go_at_call 15; refine (ham.out _).mono ?_; rintro e w' ⟨rfl, hw⟩; obtain rfl := hw.symm)
        refine cw4 (by kernel_rfl) (w := w.drewN m) hfunc hI7 (Rd.below hlab.out (below_drawn (Below.refl _ _) m)) hp.out hp20 htn hl0 ⟨q0, hq0.out⟩ (Lib.hid ?_)
        intros
        rename_i hx
        obtain ⟨m2, rfl⟩ := hx
        go_wp2_with fail
        exact ⟨⟨k' + 1 + 1, m + m2, by omega, by go_num, by first | rfl | exact World.drewN_drewN _ _ _⟩, by simp [intOf]; omega⟩
    · obtain rfl : k = lN := by omega
      have i1 : decide ((k : Int) < (k : Int)) = false := by simp
      go_wp2_with fail
      exact hQ.out ⟨m, rfl⟩

end Go.Proofs.Ytedleliddhhacaa
