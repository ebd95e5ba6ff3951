/- CfgWays: its blocks. -/
import Derived.Test.YtedleliddhhacaaCW10
import Derived.Deep.CutRange
import Derived.Deep.CutBlock
namespace Go.Proofs.Ytedleliddhhacaa
open Go.RowKit Go.Maps

set_option maxRecDepth 20000 in
set_option maxHeartbeats 8000000 in
theorem cw8 {c : Code} (hc : Func.blockOf Try.f4 8 = some c) {Q : Exit → Act → World → Prop} {w : World} {S F G1 G2 n cb I i p cl : Nat} {ab al : Option Addr} {d : Fun} {N B : List (List Int)} {x : Ins} {r r2 : List Int} {u0 u2 u4 u5 u8 u10 u11 u12 u13 u14 u16 u17 u18 u19 u20 u21 u22 u23 u24 u25 u26 u27 u28 u29 u30 u31 u32 u33 u34 u35 u36 u37 u38 u39 u40 u41 u42 u43 u44 u45 u46 u47 u48 u49 u50 u51 u52 u53 u54 u55 u56 u57 u58 u59 u60 u61 u62 u63 u64 u65 u66 u67 u68 u69 u70 u71 u72 u73 u74 u75 u76 u77 u78 u79 u80 u81 u82 u83 u84 u85 u86 u87 u88 u89 u90 u91 u92 u93 u94 u95 u96 u97 u98 u99 u100 u101 u102 u103 u104 u105 u106 u107 u108 u109 u110 u111 u112 u113 u114 u115 u116 u117 u118 u119 u120 u121 u122 u123 u124 u125 u126 u127 u128 u129 u130 u131 u132 u133 u134 u135 u136 u137 u138 u139 u140 u141 u142 u143 u144 u145 u146 u147 u148 u149 u150 u151 u152 u153 u154 u155 u156 u157 u158 u159 u160 u161 u162 u163 u164 u165 u166 u167 u168 u169 u170 u171 u172 u173 u174 u175 u176 u177 u178 u179 u180 u181 u182 u183 u184 u185 u186 u187 u188 u189 u190 u191 u192 u193 u194 u195 u196 u197 u198 u199 u200 u201 u202 u203 u204 u205 u206 u207 u208 u209 u210 u211 u212 u213 u214 u215 u216 u217 u218 u219 u220 u221 u222 u223 u224 u225 u226 u227 u228 u229 u230 u231 u232 u233 u234 u235 u236 u237 u238 u239 u240 u241 u242 u243 u244 u245 u246 u247 u248 u249 u250 u251 u252 u253 u254 u255 u256 u257 u258 u259 u260 u261 u262 u263 u264 u265 u266 u267 u268 u269 u270 u271 u272 u273 u274 u275 u276 u277 u278 u279 u280 u281 u282 u283 u284 u285 u286 u287 u288 u289 u290 u291 u292 u293 u294 u295 u296 u297 u298 u299 u300 u301 u302 u303 u304 u305 u306 u307 : Value}
    (K : WW w S F G1 G2 n ab cb d N B) (hi : i < n) (hI0 : w.cell? ⟨I, 0, none⟩ = some (.int .u8 x.op)) (hI7 : w.cell? ⟨I, 7, none⟩ = some (.slice al p cl)) (hlab : RdS w (.slice al p cl) x.labels) (hp : p = x.labels.length) (hp20 : p ≤ 20)
    (hr : N[i]? = some r) (hr2 : B[i]? = some r2) (hin : ∀ t : Nat, (t : Int) ∈ r → ∃ (q : Nat) (s : ByteArray), x.labels[q]? = some s ∧ d.labels[t]? = some s) (hout : x.op ≠ 14 → ∀ (q : Nat) (s : ByteArray), x.labels[q]? = some s → ∃ (k : Nat) (t : Nat), r[k]? = some (t : Int) ∧ d.labels[t]? = some s) (hop : r ≠ [] → x.op ≠ 14)
    (hQ : Hid (∀ {wx : World} {v2 v15 v16 v17 v214 v215 v216 v217 v218 v219 v220 v221 v222 v223 v224 v225 v226 v227 v228 v229 v230 v231 v232 v233 v234 v235 v236 v237 v238 v239 v240 v241 v242 v243 v244 v245 v246 v247 v248 v249 v250 v251 v252 v253 v254 v255 v256 v257 v258 v259 : Value}, (∃ m, wx = w.drewN m) → Q .normal { tmps := #[u0, .pointer (some ⟨S, 0, none⟩), v2, .pointer (some ⟨F, 0, none⟩), u4, u5, .int .i64 n, .int .i64 i, u8, .pointer (some ⟨I, 0, none⟩), u10, u11, u12, u13, u14, v15, v16, v17, u18, u19, u20, u21, u22, u23, u24, u25, u26, u27, u28, u29, u30, u31, u32, u33, u34, u35, u36, u37, u38, u39, u40, u41, u42, u43, u44, u45, u46, u47, u48, u49, u50, u51, u52, u53, u54, u55, u56, u57, u58, u59, u60, u61, u62, u63, u64, u65, u66, u67, u68, u69, u70, u71, u72, u73, u74, u75, u76, u77, u78, u79, u80, u81, u82, u83, u84, u85, u86, u87, u88, u89, u90, u91, u92, u93, u94, u95, u96, u97, u98, u99, u100, u101, u102, u103, u104, u105, u106, u107, u108, u109, u110, u111, u112, u113, u114, u115, u116, u117, u118, u119, u120, u121, u122, u123, u124, u125, u126, u127, u128, u129, u130, u131, u132, u133, u134, u135, u136, u137, u138, u139, u140, u141, u142, u143, u144, u145, u146, u147, u148, u149, u150, u151, u152, u153, u154, u155, u156, u157, u158, u159, u160, u161, u162, u163, u164, u165, u166, u167, u168, u169, u170, u171, u172, u173, u174, u175, u176, u177, u178, u179, u180, u181, u182, u183, u184, u185, u186, u187, u188, u189, u190, u191, u192, u193, u194, u195, u196, u197, u198, u199, u200, u201, u202, u203, u204, u205, u206, u207, u208, u209, u210, u211, u212, u213, v214, v215, v216, v217, v218, v219, v220, v221, v222, v223, v224, v225, v226, v227, v228, v229, v230, v231, v232, v233, v234, v235, v236, v237, v238, v239, v240, v241, v242, v243, v244, v245, v246, v247, v248, v249, v250, v251, v252, v253, v254, v255, v256, v257, v258, v259, u260, u261, u262, u263, u264, u265, u266, u267, u268, u269, u270, u271, u272, u273, u274, u275, u276, u277, u278, u279, u280, u281, u282, u283, u284, u285, u286, u287, u288, u289, u290, u291, u292, u293, u294, u295, u296, u297, u298, u299, u300, u301, u302, u303, u304, u305, u306, u307], defers := [] } wx)) :
    c.wp Try.prog Q { tmps := #[u0, .pointer (some ⟨S, 0, none⟩), u2, .pointer (some ⟨F, 0, none⟩), u4, u5, .int .i64 n, .int .i64 i, u8, .pointer (some ⟨I, 0, none⟩), u10, u11, u12, u13, u14, .int .i64 0, u16, u17, u18, u19, u20, u21, u22, u23, u24, u25, u26, u27, u28, u29, u30, u31, u32, u33, u34, u35, u36, u37, u38, u39, u40, u41, u42, u43, u44, u45, u46, u47, u48, u49, u50, u51, u52, u53, u54, u55, u56, u57, u58, u59, u60, u61, u62, u63, u64, u65, u66, u67, u68, u69, u70, u71, u72, u73, u74, u75, u76, u77, u78, u79, u80, u81, u82, u83, u84, u85, u86, u87, u88, u89, u90, u91, u92, u93, u94, u95, u96, u97, u98, u99, u100, u101, u102, u103, u104, u105, u106, u107, u108, u109, u110, u111, u112, u113, u114, u115, u116, u117, u118, u119, u120, u121, u122, u123, u124, u125, u126, u127, u128, u129, u130, u131, u132, u133, u134, u135, u136, u137, u138, u139, u140, u141, u142, u143, u144, u145, u146, u147, u148, u149, u150, u151, u152, u153, u154, u155, u156, u157, u158, u159, u160, u161, u162, u163, u164, u165, u166, u167, u168, u169, u170, u171, u172, u173, u174, u175, u176, u177, u178, u179, u180, u181, u182, u183, u184, u185, u186, u187, u188, u189, u190, u191, u192, u193, u194, u195, u196, u197, u198, u199, u200, u201, u202, u203, u204, u205, u206, u207, u208, u209, u210, u211, u212, u213, u214, u215, u216, u217, u218, u219, u220, u221, u222, u223, u224, u225, u226, u227, u228, u229, u230, u231, u232, u233, u234, u235, u236, u237, u238, u239, u240, u241, u242, u243, u244, u245, u246, u247, u248, u249, u250, u251, u252, u253, u254, u255, u256, u257, u258, u259, u260, u261, u262, u263, u264, u265, u266, u267, u268, u269, u270, u271, u272, u273, u274, u275, u276, u277, u278, u279, u280, u281, u282, u283, u284, u285, u286, u287, u288, u289, u290, u291, u292, u293, u294, u295, u296, u297, u298, u299, u300, u301, u302, u303, u304, u305, u306, u307], defers := [] } w := by
  conv at hc => lhs; whnf
  simp only [Option.some.injEq] at hc
  subst hc
  obtain ⟨hfunc, hf0, hf1, hblk, hgN, hgB, hd, hN, hB, hn40, hformN, hformB, hback⟩ := K
  obtain ⟨bN, oN, cN, uN, eN, hbN, hcN, hrN⟩ := hgN.at hr
  obtain ⟨bB, oB, cB, uB, eB, hbB, hcB, hrB⟩ := hgB.at hr2
  rw [hN] at eN
  rw [hB] at eB
  simp only [Value.slice.injEq, Option.some.injEq, Addr.mk.injEq] at eN eB
  obtain ⟨⟨rfl, rfl, -⟩, -, rfl⟩ := eN
  obtain ⟨⟨rfl, rfl, -⟩, -, rfl⟩ := eB
  rw [Nat.zero_add] at hcN hcB
  obtain ⟨aN, kN, rfl⟩ := hrN.shape
  obtain ⟨aB, kB, rfl⟩ := hrB.shape
  have hfr := hformN r (List.mem_of_getElem? hr)
  have hfr2 := hformB r2 (List.mem_of_getElem? hr2)
  have hrl : r.length ≤ n := rise_lenN hfr.1 hfr.2
  have hrl2 : r2.length ≤ n := rise_lenN hfr2.1 hfr2.2
  have i0 : (i : Int) < (n : Int) := by omega
  have hrr := Lib.hid hr
  have hrr2 := Lib.hid hr2
  replace hfr := Lib.hid hfr
  replace hfr2 := Lib.hid hfr2
  replace hblk := Lib.hid hblk
  replace hgN := Lib.hid hgN
  replace hgB := Lib.hid hgB
  replace hd := Lib.hid hd
  replace hN := Lib.hid hN
  replace hB := Lib.hid hB
  replace hback := Lib.hid hback
  replace hin := Lib.hid hin
  replace hout := Lib.hid hout
  replace hop := Lib.hid hop
  replace hlab := Lib.hid hlab
  replace hp := Lib.hid hp
  replace hrN := Lib.hid hrN
  replace hrB := Lib.hid hrB
  replace hformN := Lib.hid hformN
  replace hformB := Lib.hid hformB
  clear hr hr2
  obtain ⟨lN, hlN⟩ : ∃ l, l = r.length := ⟨_, rfl⟩
  obtain ⟨lB, hlB⟩ : ∃ l, l = r2.length := ⟨_, rfl⟩
  rw [← hlN] at hcN hrN hrl
  rw [← hlB] at hcB hrB hrl2
  replace hlN := Lib.hid hlN
  replace hlB := Lib.hid hlB
  obtain ⟨bb, ob, cb', csb, eb, hbb, ⟨vcb, rfl, hcb⟩, -, hcellb⟩ := hblk.out.at (i := i) (d := d.blocks[i]'(by rw [← hd.out]; exact hi)) (List.getElem?_eq_getElem _)
  rw [← hd.out] at eb
  simp only [Value.slice.injEq] at eb
  obtain ⟨rfl, -, rfl⟩ := eb
  clear hcb hcellb
  by_cases h14 : x.op = 14
  · have d14 : (x.op != 14) = false := by simp [h14]
    rcases Nat.eq_zero_or_pos p with hp0 | hp0
    · subst hp0
      go_wp2_with fail
      go_loopw [15, 16, 17] (fun jj _ _ wx => jj = .int .i64 0 ∧ wx = w) (fun _ _ _ _ => 0)
      case atStart => exact ⟨rfl, rfl⟩
      case round =>
        obtain ⟨rfl, rfl⟩ := hrel
        go_wp2_with fail
        exact hQ.out ⟨0, rfl⟩
    · have i1 : decide ((0 : Int) < (p : Int)) = true := decide_eq_true (by omega)
      have i2 : (0 : Int) < (p : Int) := by omega
      go_wp2_with fail
      go_loopw [15, 16, 17] (fun jj _ _ wx => jj = .int .i64 0 ∧ wx = w) (fun _ _ _ _ => 0)
      case atStart => exact ⟨rfl, rfl⟩
      case round =>
        obtain ⟨rfl, rfl⟩ := hrel
        go_wp2_with fail
        exact hQ.out ⟨0, rfl⟩
  · have d14 : (x.op != 14) = true := by simpa using h14
    have hlb : Hid (∀ t : Nat, (t : Int) ∈ r → t < n ∧ ∃ l, w.cell? ⟨bb, ob + t * 2, none⟩ = some (.string l) ∧ d.labels[t]? = some l) := Lib.hid (fun t ht => by
      have htn : t < n := by have := hfr.out.2 _ ht; omega
      obtain ⟨y, hy⟩ : ∃ y, d.blocks[t]? = some y := ⟨_, List.getElem?_eq_getElem (by rw [← hd.out]; exact htn)⟩
      obtain ⟨b4, o4, c4, cs4, e4, hb4, ⟨vc4, rfl, hcode4⟩, -, hcell4⟩ := hblk.out.at hy
      rw [← hd.out] at e4
      simp only [Value.slice.injEq, Option.some.injEq, Addr.mk.injEq] at e4
      obtain ⟨⟨rfl, rfl, -⟩, -, rfl⟩ := e4
      exact ⟨htn, y.label, hcell4 0 _ rfl, by simp [Fun.labels, hy]⟩)
    go_wp2_with fail
    go_loopw [15, 16, 17] (fun jj _ _ wx => ∃ j m : Nat, j ≤ p ∧ jj = .int .i64 j ∧ wx = w.drewN m) (fun jj _ _ _ => p - (intOf jj).toNat)
    case atStart => exact ⟨0, 0, Nat.zero_le _, rfl, rfl⟩
    case round =>
      obtain ⟨j, m, hj, rfl, rfl⟩ := hrel
      by_cases hlt : j < p
      · obtain ⟨s, hs⟩ : ∃ s, x.labels[j]? = some s := ⟨_, List.getElem?_eq_getElem (by rw [← hp.out]; exact hlt)⟩
        obtain ⟨b3, o3, cap3, e3, hbl3, hc3⟩ := Rd.at hlab.out (i := j) (u := .string s) (by simp [hs])
        simp only [Value.slice.injEq] at e3
        obtain ⟨rfl, -, rfl⟩ := e3
        have i3 : (j : Int) < (p : Int) := by omega
        have hk0 := Lib.hid (hout.out h14 j s hs)
        clear hs
        go_upto_block 10 with fail
        refine cw10 (by kernel_rfl) (w := w.drewN m) (d := d) hfunc hf0 hcN (Rd.below hrN.out (below_drawn (Below.refl _ _) m)) hlN.out (by omega) hI7 hlt hp20 hi hc3 hlb.out (fun z hz => (hfr.out.2 z hz).1) hk0.out (Lib.hid ?_)
        intros
        rename_i hx
        obtain ⟨m2, rfl⟩ := hx
        go_wp2_with fail
        exact ⟨⟨j + 1, m + m2, by omega, by go_num, by first | rfl | exact World.drewN_drewN _ _ _⟩, by simp [intOf]; omega⟩
      · obtain rfl : j = p := by omega
        have i3 : decide ((j : Int) < (j : Int)) = false := by simp
        go_wp2_with fail
        exact hQ.out ⟨m, rfl⟩

end Go.Proofs.Ytedleliddhhacaa
