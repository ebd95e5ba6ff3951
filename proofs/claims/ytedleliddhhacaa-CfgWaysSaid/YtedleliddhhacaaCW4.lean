/- CfgWays: its blocks. -/
import Derived.Test.YtedleliddhhacaaCWMath
import Derived.Deep.CutRange
import Derived.Deep.CutBlock
namespace Go.Proofs.Ytedleliddhhacaa
open Go.RowKit Go.Maps

set_option maxRecDepth 20000 in
set_option maxHeartbeats 8000000 in
theorem cw4 {c : Code} (hc : Func.blockOf Try.f4 4 = some c) {Q : Exit → Act → World → Prop} {w : World} {S n cb I p cl t bb ob : Nat} {al : Option Addr} {x : Ins} {lab : ByteArray} {u0 u2 u3 u4 u5 u6 u7 u8 u10 u14 u15 u16 u17 u18 u19 u20 u21 u22 u23 u24 u25 u26 u27 u28 u29 u30 u31 u32 u33 u34 u35 u36 u37 u38 u39 u40 u41 u42 u43 u44 u45 u46 u47 u48 u49 u50 u51 u52 u53 u54 u55 u56 u57 u58 u59 u60 u61 u62 u63 u64 u65 u66 u67 u68 u69 u70 u71 u72 u73 u74 u75 u76 u77 u78 u79 u80 u81 u82 u83 u84 u85 u86 u87 u88 u89 u90 u91 u92 u93 u94 u95 u96 u97 u98 u99 u100 u101 u102 u103 u104 u105 u106 u107 u108 u109 u110 u111 u112 u113 u114 u115 u116 u117 u118 u119 u120 u121 u122 u123 u124 u125 u126 u127 u128 u129 u130 u131 u132 u133 u134 u135 u136 u137 u138 u139 u140 u141 u142 u143 u144 u145 u146 u147 u148 u149 u150 u151 u152 u153 u154 u155 u156 u157 u158 u159 u160 u161 u162 u163 u164 u165 u166 u167 u168 u169 u170 u171 u172 u173 u174 u175 u176 u177 u178 u179 u180 u181 u182 u183 u184 u185 u186 u187 u188 u189 u190 u191 u192 u193 u194 u195 u196 u197 u198 u199 u200 u201 u202 u203 u204 u205 u206 u207 u208 u209 u210 u211 u212 u213 u214 u215 u216 u217 u218 u219 u220 u221 u222 u223 u224 u225 u226 u227 u228 u229 u230 u231 u232 u233 u234 u235 u236 u237 u238 u239 u240 u241 u242 u243 u244 u245 u246 u247 u248 u249 u250 u251 u252 u253 u254 u255 u256 u257 u258 u259 u260 u261 u262 u263 u264 u265 u266 u267 u268 u269 u270 u271 u272 u273 u274 u275 u276 u277 u278 u279 u280 u281 u282 u283 u284 u285 u286 u287 u288 u289 u290 u291 u292 u293 u294 u295 u296 u297 u298 u299 u300 u301 u302 u303 u304 u305 u306 u307 : Value}
    (hfunc : w.cell? ⟨S, 2, none⟩ = some (.slice (some ⟨bb, ob, none⟩) n cb)) (hI7 : w.cell? ⟨I, 7, none⟩ = some (.slice al p cl)) (hlab : RdS w (.slice al p cl) x.labels) (hp : p = x.labels.length) (hp20 : p ≤ 20) (htn : t < n)
    (hl0 : w.cell? ⟨bb, ob + t * 2, none⟩ = some (.string lab)) (hq0 : ∃ q : Nat, x.labels[q]? = some lab)
    (hQ : Hid (∀ {wx : World} {v13 v136 v137 v138 v139 v140 v141 v142 v143 v144 v145 v146 v147 v148 v149 v150 v151 v152 v153 v154 v155 v156 v157 : Value}, (∃ m, wx = w.drewN m) → Q .normal { tmps := #[u0, .pointer (some ⟨S, 0, none⟩), u2, u3, u4, u5, u6, u7, u8, .pointer (some ⟨I, 0, none⟩), u10, .int .i64 t, .bool true, v13, u14, u15, u16, u17, u18, u19, u20, u21, u22, u23, u24, u25, u26, u27, u28, u29, u30, u31, u32, u33, u34, u35, u36, u37, u38, u39, u40, u41, u42, u43, u44, u45, u46, u47, u48, u49, u50, u51, u52, u53, u54, u55, u56, u57, u58, u59, u60, u61, u62, u63, u64, u65, u66, u67, u68, u69, u70, u71, u72, u73, u74, u75, u76, u77, u78, u79, u80, u81, u82, u83, u84, u85, u86, u87, u88, u89, u90, u91, u92, u93, u94, u95, u96, u97, u98, u99, u100, u101, u102, u103, u104, u105, u106, u107, u108, u109, u110, u111, u112, u113, u114, u115, u116, u117, u118, u119, u120, u121, u122, u123, u124, u125, u126, u127, u128, u129, u130, u131, u132, u133, u134, u135, v136, v137, v138, v139, v140, v141, v142, v143, v144, v145, v146, v147, v148, v149, v150, v151, v152, v153, v154, v155, v156, v157, u158, u159, u160, u161, u162, u163, u164, u165, u166, u167, u168, u169, u170, u171, u172, u173, u174, u175, u176, u177, u178, u179, u180, u181, u182, u183, u184, u185, u186, u187, u188, u189, u190, u191, u192, u193, u194, u195, u196, u197, u198, u199, u200, u201, u202, u203, u204, u205, u206, u207, u208, u209, u210, u211, u212, u213, u214, u215, u216, u217, u218, u219, u220, u221, u222, u223, u224, u225, u226, u227, u228, u229, u230, u231, u232, u233, u234, u235, u236, u237, u238, u239, u240, u241, u242, u243, u244, u245, u246, u247, u248, u249, u250, u251, u252, u253, u254, u255, u256, u257, u258, u259, u260, u261, u262, u263, u264, u265, u266, u267, u268, u269, u270, u271, u272, u273, u274, u275, u276, u277, u278, u279, u280, u281, u282, u283, u284, u285, u286, u287, u288, u289, u290, u291, u292, u293, u294, u295, u296, u297, u298, u299, u300, u301, u302, u303, u304, u305, u306, u307], defers := [] } wx)) :
    c.wp Try.prog Q { tmps := #[u0, .pointer (some ⟨S, 0, none⟩), u2, u3, u4, u5, u6, u7, u8, .pointer (some ⟨I, 0, none⟩), u10, .int .i64 t, .bool false, .int .i64 0, u14, u15, u16, u17, u18, u19, u20, u21, u22, u23, u24, u25, u26, u27, u28, u29, u30, u31, u32, u33, u34, u35, u36, u37, u38, u39, u40, u41, u42, u43, u44, u45, u46, u47, u48, u49, u50, u51, u52, u53, u54, u55, u56, u57, u58, u59, u60, u61, u62, u63, u64, u65, u66, u67, u68, u69, u70, u71, u72, u73, u74, u75, u76, u77, u78, u79, u80, u81, u82, u83, u84, u85, u86, u87, u88, u89, u90, u91, u92, u93, u94, u95, u96, u97, u98, u99, u100, u101, u102, u103, u104, u105, u106, u107, u108, u109, u110, u111, u112, u113, u114, u115, u116, u117, u118, u119, u120, u121, u122, u123, u124, u125, u126, u127, u128, u129, u130, u131, u132, u133, u134, u135, u136, u137, u138, u139, u140, u141, u142, u143, u144, u145, u146, u147, u148, u149, u150, u151, u152, u153, u154, u155, u156, u157, u158, u159, u160, u161, u162, u163, u164, u165, u166, u167, u168, u169, u170, u171, u172, u173, u174, u175, u176, u177, u178, u179, u180, u181, u182, u183, u184, u185, u186, u187, u188, u189, u190, u191, u192, u193, u194, u195, u196, u197, u198, u199, u200, u201, u202, u203, u204, u205, u206, u207, u208, u209, u210, u211, u212, u213, u214, u215, u216, u217, u218, u219, u220, u221, u222, u223, u224, u225, u226, u227, u228, u229, u230, u231, u232, u233, u234, u235, u236, u237, u238, u239, u240, u241, u242, u243, u244, u245, u246, u247, u248, u249, u250, u251, u252, u253, u254, u255, u256, u257, u258, u259, u260, u261, u262, u263, u264, u265, u266, u267, u268, u269, u270, u271, u272, u273, u274, u275, u276, u277, u278, u279, u280, u281, u282, u283, u284, u285, u286, u287, u288, u289, u290, u291, u292, u293, u294, u295, u296, u297, u298, u299, u300, u301, u302, u303, u304, u305, u306, u307], defers := [] } w := by
  conv at hc => lhs; whnf
  simp only [Option.some.injEq] at hc
  subst hc
  replace hlab := Lib.hid hlab
  replace hp := Lib.hid hp
  obtain ⟨q0, hq0⟩ := hq0
  replace hq0 := Lib.hid hq0
  have i0 : (t : Int) < (n : Int) := by omega
  go_wp2_with fail
  go_loopw [12, 13] (fun nm j wx => ∃ (q m : Nat) (g : Bool), q ≤ p ∧ j = .int .i64 q ∧ wx = w.drewN m ∧ nm = .bool g ∧ Hid (q0 < q → g = true)) (fun _ j _ => p - (intOf j).toNat)
  case atStart => exact ⟨0, 0, false, Nat.zero_le _, rfl, rfl, rfl, Lib.hid (fun h => absurd h (by omega))⟩
  case round =>
    obtain ⟨q, m, g, hq, rfl, rfl, rfl, hg⟩ := hrel
    by_cases hlt : q < p
    · obtain ⟨s, hs⟩ : ∃ s, x.labels[q]? = some s := ⟨_, List.getElem?_eq_getElem (by rw [← hp.out]; exact hlt)⟩
      obtain ⟨b3, off3, cap3, e3, hbl3, hc3⟩ := Rd.at hlab.out (i := q) (u := .string s) (by simp [hs])
      simp only [Value.slice.injEq] at e3
      obtain ⟨rfl, -, rfl⟩ := e3
      have i3 : (q : Int) < (p : Int) := by omega
      have hsl : Hid (q0 = q → (s.toList == lab.toList) = true) := Lib.hid (fun e => by
        have := hq0.out
        rw [e, hs] at this
        rw [Option.some.inj this]; simp)
      clear hs
      rcases g with _ | _
      · have hn : Hid (∀ g : Bool, g = (s.toList == lab.toList) → q0 < q + 1 → g = true) := Lib.hid (fun g e h => by
          rw [e]
          refine hsl.out ?_
          rcases Nat.lt_or_ge q0 q with h1 | h1
          · have := hg.out h1; cases this
          · omega)
        go_wp2_with fail
        go_quiet (fail)
        go_wp2_with fail
        exact ⟨⟨q + 1, m + nq, _, by omega, by go_num, by first | rfl | exact World.drewN_drewN _ _ _, rfl, Lib.hid (hn.out _ rfl)⟩, by simp [intOf]; omega⟩
      · go_wp2_with fail
        go_quiet (fail)
        go_wp2_with fail
        exact ⟨⟨q + 1, m + nq, true, by omega, by go_num, by first | rfl | exact World.drewN_drewN _ _ _, rfl, Lib.hid (fun _ => rfl)⟩, by simp [intOf]; omega⟩
    · obtain rfl : q = p := by omega
      have i3 : decide ((q : Int) < (q : Int)) = false := by simp
      obtain rfl : g = true := hg.out (by
        have := (List.getElem?_eq_some_iff.1 hq0.out).1
        rw [hp.out]; exact this)
      go_wp2_with fail
      exact hQ.out ⟨m, rfl⟩

end Go.Proofs.Ytedleliddhhacaa
