/- CfgWays: its blocks. -/
import Derived.Test.YtedleliddhhacaaCW4
import Derived.Deep.CutRange
import Derived.Deep.CutBlock
namespace Go.Proofs.Ytedleliddhhacaa
open Go.RowKit Go.Maps

set_option maxRecDepth 20000 in
set_option maxHeartbeats 8000000 in
theorem cw10 {c : Code} (hc : Func.blockOf Try.f4 10 = some c) {Q : Exit → Act → World → Prop} {w : World} {S F G1 n cb I i j lN kN p cl bb ob b3 o3 : Nat} {aN : Option Addr} {d : Fun} {r : List Int} {s : ByteArray} {u0 u2 u4 u5 u6 u8 u10 u11 u12 u13 u14 u18 u19 u20 u21 u22 u23 u24 u25 u26 u27 u28 u29 u30 u31 u32 u33 u34 u35 u36 u37 u38 u39 u40 u41 u42 u43 u44 u45 u46 u47 u48 u49 u50 u51 u52 u53 u54 u55 u56 u57 u58 u59 u60 u61 u62 u63 u64 u65 u66 u67 u68 u69 u70 u71 u72 u73 u74 u75 u76 u77 u78 u79 u80 u81 u82 u83 u84 u85 u86 u87 u88 u89 u90 u91 u92 u93 u94 u95 u96 u97 u98 u99 u100 u101 u102 u103 u104 u105 u106 u107 u108 u109 u110 u111 u112 u113 u114 u115 u116 u117 u118 u119 u120 u121 u122 u123 u124 u125 u126 u127 u128 u129 u130 u131 u132 u133 u134 u135 u136 u137 u138 u139 u140 u141 u142 u143 u144 u145 u146 u147 u148 u149 u150 u151 u152 u153 u154 u155 u156 u157 u158 u159 u160 u161 u162 u163 u164 u165 u166 u167 u168 u169 u170 u171 u172 u173 u174 u175 u176 u177 u178 u179 u180 u181 u182 u183 u184 u185 u186 u187 u188 u189 u190 u191 u192 u193 u194 u195 u196 u197 u198 u199 u200 u201 u202 u203 u204 u205 u206 u207 u208 u209 u210 u211 u212 u213 u214 u215 u216 u217 u218 u219 u220 u221 u222 u223 u224 u225 u226 u227 u228 u229 u230 u231 u232 u233 u234 u235 u236 u237 u238 u239 u240 u241 u242 u243 u244 u245 u246 u247 u248 u249 u250 u251 u252 u253 u254 u255 u256 u257 u258 u259 u260 u261 u262 u263 u264 u265 u266 u267 u268 u269 u270 u271 u272 u273 u274 u275 u276 u277 u278 u279 u280 u281 u282 u283 u284 u285 u286 u287 u288 u289 u290 u291 u292 u293 u294 u295 u296 u297 u298 u299 u300 u301 u302 u303 u304 u305 u306 u307 : Value}
    (hfunc : w.cell? ⟨S, 2, none⟩ = some (.slice (some ⟨bb, ob, none⟩) n cb)) (hf0 : w.cell? ⟨F, 0, none⟩ = some (.slice (some ⟨G1, 0, none⟩) n n)) (hcN : w.cell? ⟨G1, i, none⟩ = some (.slice aN lN kN)) (hrN : RdI w (.slice aN lN kN) r) (hlN : lN = r.length) (hlN40 : lN ≤ 1000)
    (hI7 : w.cell? ⟨I, 7, none⟩ = some (.slice (some ⟨b3, o3, none⟩) p cl)) (hj : j < p) (hp20 : p ≤ 20) (hi : i < n) (hs : w.cell? ⟨b3, o3 + j, none⟩ = some (.string s))
    (hlb : ∀ t : Nat, (t : Int) ∈ r → t < n ∧ ∃ l, w.cell? ⟨bb, ob + t * 2, none⟩ = some (.string l) ∧ d.labels[t]? = some l) (hr0 : ∀ z ∈ r, 0 ≤ z) (hk0 : ∃ (k : Nat) (t : Nat), r[k]? = some (t : Int) ∧ d.labels[t]? = some s)
    (hQ : Hid (∀ {wx : World} {v17 v226 v227 v228 v229 v230 v231 v232 v233 v234 v235 v236 v237 v238 v239 v240 v241 v242 v243 v244 v245 v246 v247 v248 v249 v250 v251 v252 v253 v254 v255 v256 v257 : Value}, (∃ m, wx = w.drewN m) → Q .normal { tmps := #[u0, .pointer (some ⟨S, 0, none⟩), u2, .pointer (some ⟨F, 0, none⟩), u4, u5, u6, .int .i64 i, u8, .pointer (some ⟨I, 0, none⟩), u10, u11, u12, u13, u14, .int .i64 j, .bool true, v17, u18, u19, u20, u21, u22, u23, u24, u25, u26, u27, u28, u29, u30, u31, u32, u33, u34, u35, u36, u37, u38, u39, u40, u41, u42, u43, u44, u45, u46, u47, u48, u49, u50, u51, u52, u53, u54, u55, u56, u57, u58, u59, u60, u61, u62, u63, u64, u65, u66, u67, u68, u69, u70, u71, u72, u73, u74, u75, u76, u77, u78, u79, u80, u81, u82, u83, u84, u85, u86, u87, u88, u89, u90, u91, u92, u93, u94, u95, u96, u97, u98, u99, u100, u101, u102, u103, u104, u105, u106, u107, u108, u109, u110, u111, u112, u113, u114, u115, u116, u117, u118, u119, u120, u121, u122, u123, u124, u125, u126, u127, u128, u129, u130, u131, u132, u133, u134, u135, u136, u137, u138, u139, u140, u141, u142, u143, u144, u145, u146, u147, u148, u149, u150, u151, u152, u153, u154, u155, u156, u157, u158, u159, u160, u161, u162, u163, u164, u165, u166, u167, u168, u169, u170, u171, u172, u173, u174, u175, u176, u177, u178, u179, u180, u181, u182, u183, u184, u185, u186, u187, u188, u189, u190, u191, u192, u193, u194, u195, u196, u197, u198, u199, u200, u201, u202, u203, u204, u205, u206, u207, u208, u209, u210, u211, u212, u213, u214, u215, u216, u217, u218, u219, u220, u221, u222, u223, u224, u225, v226, v227, v228, v229, v230, v231, v232, v233, v234, v235, v236, v237, v238, v239, v240, v241, v242, v243, v244, v245, v246, v247, v248, v249, v250, v251, v252, v253, v254, v255, v256, v257, u258, u259, u260, u261, u262, u263, u264, u265, u266, u267, u268, u269, u270, u271, u272, u273, u274, u275, u276, u277, u278, u279, u280, u281, u282, u283, u284, u285, u286, u287, u288, u289, u290, u291, u292, u293, u294, u295, u296, u297, u298, u299, u300, u301, u302, u303, u304, u305, u306, u307], defers := [] } wx)) :
    c.wp Try.prog Q { tmps := #[u0, .pointer (some ⟨S, 0, none⟩), u2, .pointer (some ⟨F, 0, none⟩), u4, u5, u6, .int .i64 i, u8, .pointer (some ⟨I, 0, none⟩), u10, u11, u12, u13, u14, .int .i64 j, .bool false, .int .i64 0, u18, u19, u20, u21, u22, u23, u24, u25, u26, u27, u28, u29, u30, u31, u32, u33, u34, u35, u36, u37, u38, u39, u40, u41, u42, u43, u44, u45, u46, u47, u48, u49, u50, u51, u52, u53, u54, u55, u56, u57, u58, u59, u60, u61, u62, u63, u64, u65, u66, u67, u68, u69, u70, u71, u72, u73, u74, u75, u76, u77, u78, u79, u80, u81, u82, u83, u84, u85, u86, u87, u88, u89, u90, u91, u92, u93, u94, u95, u96, u97, u98, u99, u100, u101, u102, u103, u104, u105, u106, u107, u108, u109, u110, u111, u112, u113, u114, u115, u116, u117, u118, u119, u120, u121, u122, u123, u124, u125, u126, u127, u128, u129, u130, u131, u132, u133, u134, u135, u136, u137, u138, u139, u140, u141, u142, u143, u144, u145, u146, u147, u148, u149, u150, u151, u152, u153, u154, u155, u156, u157, u158, u159, u160, u161, u162, u163, u164, u165, u166, u167, u168, u169, u170, u171, u172, u173, u174, u175, u176, u177, u178, u179, u180, u181, u182, u183, u184, u185, u186, u187, u188, u189, u190, u191, u192, u193, u194, u195, u196, u197, u198, u199, u200, u201, u202, u203, u204, u205, u206, u207, u208, u209, u210, u211, u212, u213, u214, u215, u216, u217, u218, u219, u220, u221, u222, u223, u224, u225, u226, u227, u228, u229, u230, u231, u232, u233, u234, u235, u236, u237, u238, u239, u240, u241, u242, u243, u244, u245, u246, u247, u248, u249, u250, u251, u252, u253, u254, u255, u256, u257, u258, u259, u260, u261, u262, u263, u264, u265, u266, u267, u268, u269, u270, u271, u272, u273, u274, u275, u276, u277, u278, u279, u280, u281, u282, u283, u284, u285, u286, u287, u288, u289, u290, u291, u292, u293, u294, u295, u296, u297, u298, u299, u300, u301, u302, u303, u304, u305, u306, u307], defers := [] } w := by
  conv at hc => lhs; whnf
  simp only [Option.some.injEq] at hc
  subst hc
  replace hlN := Lib.hid hlN
  replace hlb := Lib.hid hlb
  replace hr0 := Lib.hid hr0
  replace hrN := Lib.hid hrN
  obtain ⟨k0, t0, hk0, ht0⟩ := hk0
  replace hk0 := Lib.hid hk0
  replace ht0 := Lib.hid ht0
  have i0 : (i : Int) < (n : Int) := by omega
  have i1 : (j : Int) < (p : Int) := by omega
  go_wp2_with fail
  go_loopw [16, 17] (fun tl kk wx => ∃ (k m : Nat) (g : Bool), k ≤ lN ∧ kk = .int .i64 k ∧ wx = w.drewN m ∧ tl = .bool g ∧ Hid (k0 < k → g = true)) (fun _ kk _ => lN - (intOf kk).toNat)
  case atStart => exact ⟨0, 0, false, Nat.zero_le _, rfl, rfl, rfl, Lib.hid (fun h => absurd h (by omega))⟩
  case round =>
    obtain ⟨k, m, g, hk, rfl, rfl, rfl, hg⟩ := hrel
    by_cases hlt : k < lN
    · obtain ⟨z, hz⟩ : ∃ z, r[k]? = some z := ⟨_, List.getElem?_eq_getElem (by rw [← hlN.out]; exact hlt)⟩
      have hz0 := hr0.out z (List.mem_of_getElem? hz)
      obtain ⟨t, rfl⟩ : ∃ t : Nat, z = t := ⟨z.toNat, by omega⟩
      obtain ⟨htn, l, hl0, hdl⟩ := hlb.out t (List.mem_of_getElem? hz)
      obtain ⟨b1, o1, c1, e1, hc1⟩ := RdI.cell hrN.out hz
      rw [← hlN.out] at e1
      simp only [Value.slice.injEq] at e1
      obtain ⟨rfl, -, rfl⟩ := e1
      have i3 : (k : Int) < (lN : Int) := by omega
      have i4 : (t : Int) < (n : Int) := by omega
      have hsl : Hid (k0 = k → (l.toList == s.toList) = true) := Lib.hid (fun e => by
        have h1 := hk0.out
        rw [e, hz] at h1
        have h2 : t = t0 := by have := Option.some.inj h1; omega
        have h3 := ht0.out
        rw [← h2, hdl] at h3
        rw [Option.some.inj h3]; simp)
      clear hz hz0 hdl
      rcases g with _ | _
      · have hn : Hid (∀ g : Bool, g = (l.toList == s.toList) → k0 < k + 1 → g = true) := Lib.hid (fun g e h => by
          rw [e]
          refine hsl.out ?_
          rcases Nat.lt_or_ge k0 k with h1 | h1
          · have := hg.out h1; cases this
          · omega)
        go_wp2_with fail
        go_quiet (fail)
        go_wp2_with fail
        exact ⟨⟨k + 1, m + nq, _, by omega, by go_num, by first | rfl | exact World.drewN_drewN _ _ _, rfl, Lib.hid (hn.out _ rfl)⟩, by simp [intOf]; omega⟩
      · go_wp2_with fail
        go_quiet (fail)
        go_wp2_with fail
        exact ⟨⟨k + 1, m + nq, true, by omega, by go_num, by first | rfl | exact World.drewN_drewN _ _ _, rfl, Lib.hid (fun _ => rfl)⟩, by simp [intOf]; omega⟩
    · obtain rfl : k = lN := by omega
      have i3 : decide ((k : Int) < (k : Int)) = false := by simp
      obtain rfl : g = true := hg.out (by
        have := (List.getElem?_eq_some_iff.1 hk0.out).1
        rw [hlN.out]; exact this)
      go_wp2_with fail
      exact hQ.out ⟨m, rfl⟩

end Go.Proofs.Ytedleliddhhacaa
