/- DomFronts: what must lie in a frontier, and what does. -/
import Derived.Test.YteipncggndefmaaDLaw
namespace Go.Proofs.Yteipncggndefmaa
open Go.RowKit Go.Maps Go.Shelf

theorem eqN (a b : Nat) : ((a : Int) == (b : Int)) = decide (a = b) := by
  by_cases e : a = b
  · simp [e]
  · have : (a : Int) ≠ b := by omega
    simp [e, this]
def memT (r : List Int) (k : Nat) (y : Nat) : Bool := decide ((y : Int) ∈ r.take k)
theorem memT_succ {r : List Int} {k y : Nat} {z : Int} (hz : r[k]? = some z) : memT r (k + 1) y = (memT r k y || (z == (y : Int))) := by
  have ht : r.take (k + 1) = r.take k ++ [z] := take_snoc hz
  unfold memT
  rw [ht, Bool.eq_iff_iff]
  simp only [decide_eq_true_eq, List.mem_append, List.mem_singleton, Bool.or_eq_true, beq_iff_eq]
  constructor
  · rintro (h | h)
    · exact .inl h
    · exact .inr h.symm
  · rintro (h | h)
    · exact .inl h
    · exact .inr h.symm
theorem memT_zero (r : List Int) (y : Nat) : memT r 0 y = false := by simp [memT]
set_option maxRecDepth 20000 in
set_option maxHeartbeats 8000000 in
theorem dfr6 {c : Code} (hc : Func.blockOf Try.f7 6 = some c) {Q : Exit → Act → World → Prop} {w : World} {n a y x bN oN cn cr ct : Nat} {at_ ar : Option Addr} {t r : List Int} {p0 : Bool} {u0 u1 u2 u3 u4 u5 u6 u8 u15 u16 u17 u18 u19 u20 u21 u22 u23 u24 u25 u26 u27 u28 u29 u30 u31 u32 u33 u34 u35 u36 u37 u38 u39 u40 u41 u42 u43 u44 u45 u46 u47 u48 u49 u50 u51 u52 u53 u54 u55 u56 u57 u58 u59 u60 u61 u62 u63 u64 u65 u66 u67 u68 u69 u70 u71 u72 u73 u74 u75 u76 u77 u78 u79 u80 u81 u82 u83 u84 u85 u86 u87 u88 u89 u90 u91 u92 u93 u94 u95 u96 u97 u98 u99 u100 u101 u102 u103 u104 u105 u106 u107 u108 u109 u110 u111 u112 u113 u114 u115 u116 u117 u118 u119 u120 u121 u122 u123 u124 u125 u126 u127 u128 u129 u130 u131 u132 u133 u134 u135 u136 u137 u138 u139 u140 u141 u142 u143 u144 u145 u146 u147 u148 u149 u150 u151 u152 u153 u154 u155 u156 u157 u158 u159 u160 u161 u162 u163 u164 u165 u166 u167 u168 u169 u170 u171 u172 u173 u174 u175 u176 u177 u178 u179 u180 u181 u182 u183 u184 u185 u186 u187 u188 u189 u190 u191 u192 u193 u194 u195 u196 u197 u198 u199 u200 u201 u202 u203 u204 u205 u206 u207 u208 u209 u210 u211 u212 u213 u214 u215 u216 u217 u218 u219 u220 u221 u222 u223 u224 u225 u226 u227 u228 u229 u230 u231 u232 u233 u234 u235 u236 u237 u238 u239 u240 u241 u242 u243 u244 u245 u246 u247 u248 u249 u250 u251 u252 u253 : Value}
    (hI : RdI w (.slice at_ n ct) t) (htl : t.length = n) (htl2 : t.length ≤ 1000000) (hx : x < n) (hce : w.cell? ⟨bN, oN + x, none⟩ = some (.slice ar r.length cr)) (hrd : RdI w (.slice ar r.length cr) r) (hrr : r.length ≤ 100000)
    (hQ : Hid (∀ {wx : World} {v12 v14 v66 v67 v68 v69 v70 v71 v72 v73 v74 v75 v76 v77 v78 v79 v80 v81 v82 v83 v84 v85 v86 v87 v88 v89 v90 v91 v92 v93 v94 v95 v96 v97 v98 v99 v100 v101 v102 v103 v104 : Value}, (v12 = .bool (p0 || (decide ((y : Int) ∈ r) && (domL n t a x && (decide (a = y) || !domL n t a y)))) ∧ wx = w) → Q .normal { tmps := #[u0, u1, u2, u3, u4, u5, u6, .slice at_ n ct, u8, .slice (some ⟨bN, oN, none⟩) n cn, .int .i64 a, .int .i64 y, v12, .int .i64 x, v14, u15, u16, u17, u18, u19, u20, u21, u22, u23, u24, u25, u26, u27, u28, u29, u30, u31, u32, u33, u34, u35, u36, u37, u38, u39, u40, u41, u42, u43, u44, u45, u46, u47, u48, u49, u50, u51, u52, u53, u54, u55, u56, u57, u58, u59, u60, u61, u62, u63, u64, u65, v66, v67, v68, v69, v70, v71, v72, v73, v74, v75, v76, v77, v78, v79, v80, v81, v82, v83, v84, v85, v86, v87, v88, v89, v90, v91, v92, v93, v94, v95, v96, v97, v98, v99, v100, v101, v102, v103, v104, u105, u106, u107, u108, u109, u110, u111, u112, u113, u114, u115, u116, u117, u118, u119, u120, u121, u122, u123, u124, u125, u126, u127, u128, u129, u130, u131, u132, u133, u134, u135, u136, u137, u138, u139, u140, u141, u142, u143, u144, u145, u146, u147, u148, u149, u150, u151, u152, u153, u154, u155, u156, u157, u158, u159, u160, u161, u162, u163, u164, u165, u166, u167, u168, u169, u170, u171, u172, u173, u174, u175, u176, u177, u178, u179, u180, u181, u182, u183, u184, u185, u186, u187, u188, u189, u190, u191, u192, u193, u194, u195, u196, u197, u198, u199, u200, u201, u202, u203, u204, u205, u206, u207, u208, u209, u210, u211, u212, u213, u214, u215, u216, u217, u218, u219, u220, u221, u222, u223, u224, u225, u226, u227, u228, u229, u230, u231, u232, u233, u234, u235, u236, u237, u238, u239, u240, u241, u242, u243, u244, u245, u246, u247, u248, u249, u250, u251, u252, u253], defers := [] } wx)) :
    c.wp Try.prog Q { tmps := #[u0, u1, u2, u3, u4, u5, u6, .slice at_ n ct, u8, .slice (some ⟨bN, oN, none⟩) n cn, .int .i64 a, .int .i64 y, .bool p0, .int .i64 x, .int .i64 0, u15, u16, u17, u18, u19, u20, u21, u22, u23, u24, u25, u26, u27, u28, u29, u30, u31, u32, u33, u34, u35, u36, u37, u38, u39, u40, u41, u42, u43, u44, u45, u46, u47, u48, u49, u50, u51, u52, u53, u54, u55, u56, u57, u58, u59, u60, u61, u62, u63, u64, u65, u66, u67, u68, u69, u70, u71, u72, u73, u74, u75, u76, u77, u78, u79, u80, u81, u82, u83, u84, u85, u86, u87, u88, u89, u90, u91, u92, u93, u94, u95, u96, u97, u98, u99, u100, u101, u102, u103, u104, u105, u106, u107, u108, u109, u110, u111, u112, u113, u114, u115, u116, u117, u118, u119, u120, u121, u122, u123, u124, u125, u126, u127, u128, u129, u130, u131, u132, u133, u134, u135, u136, u137, u138, u139, u140, u141, u142, u143, u144, u145, u146, u147, u148, u149, u150, u151, u152, u153, u154, u155, u156, u157, u158, u159, u160, u161, u162, u163, u164, u165, u166, u167, u168, u169, u170, u171, u172, u173, u174, u175, u176, u177, u178, u179, u180, u181, u182, u183, u184, u185, u186, u187, u188, u189, u190, u191, u192, u193, u194, u195, u196, u197, u198, u199, u200, u201, u202, u203, u204, u205, u206, u207, u208, u209, u210, u211, u212, u213, u214, u215, u216, u217, u218, u219, u220, u221, u222, u223, u224, u225, u226, u227, u228, u229, u230, u231, u232, u233, u234, u235, u236, u237, u238, u239, u240, u241, u242, u243, u244, u245, u246, u247, u248, u249, u250, u251, u252, u253], defers := [] } w := by
  conv at hc => lhs; whnf
  simp only [Option.some.injEq] at hc
  subst hc
  obtain ⟨rl, hrl⟩ : ∃ rl, rl = r.length := ⟨_, rfl⟩
  have hrn : rl ≤ 100000 := by omega
  rw [← hrl] at hce hrd
  have ix : (x : Int) < (n : Int) := by omega
  have k1 := dom_any (a := (a : Int)) (b := (x : Int)) hI htl2
  have k2 := dom_any (a := (a : Int)) (b := (y : Int)) hI htl2
  rw [htl] at k1 k2
  have j5 := eqN a y
  generalize domL n t (a : Int) (x : Int) = d1 at k1 hQ
  generalize domL n t (a : Int) (y : Int) = d2 at k2 hQ
  generalize decide (a = y) = d3 at j5 hQ
  replace k1 := Lib.hid k1
  replace k2 := Lib.hid k2
  replace hrl := Lib.hid hrl
  replace hrd := Lib.hid hrd
  replace htl := Lib.hid htl
  clear hI htl2 hrr
  go_wp2_with fail
  go_loopw [12, 14] (fun v i wr => ∃ k : Nat, k ≤ rl ∧ i = .int .i64 k ∧ v = .bool (p0 || (memT r k y && (d1 && (d3 || !d2)))) ∧ wr = w) (fun _ i _ => rl - (intOf i).toNat)
  case atStart => exact ⟨0, Nat.zero_le _, rfl, by rw [memT_zero]; simp, rfl⟩
  case round =>
    obtain ⟨k, hk, rfl, rfl, rfl⟩ := hrel
    by_cases hlt : k < rl
    · obtain ⟨z, hz⟩ : ∃ z, r[k]? = some z := ⟨_, List.getElem?_eq_getElem (by rw [← hrl.out]; exact hlt)⟩
      obtain ⟨b2, off2, cap2, e2, hc2⟩ := RdI.cell hrd.out hz
      rw [← hrl.out] at e2
      simp only [Value.slice.injEq] at e2
      obtain ⟨rfl, -, rfl⟩ := e2
      have j1 : decide ((k : Int) < (rl : Int)) = true := by simpa using hlt
      have j2 : (k : Int) < (rl : Int) := by omega
      have hs := Lib.hid (memT_succ (y := y) hz)
      clear hz
      generalize hm : memT r k y = m at hs ⊢
      generalize hzz : (z == (y : Int)) = e at hs
      replace hm := Lib.hid hm
      cases p0 <;> cases m <;> cases e <;> cases d1 <;> cases d2 <;> cases d3 <;> (
        go_wp2_with (go_at_call 13; first
          | (with_reducible refine Calls.mono k1.out ?_; rintro e w' ⟨rfl, rfl⟩)
          | (with_reducible refine Calls.mono k2.out ?_; rintro e w' ⟨rfl, rfl⟩))
        exact ⟨⟨k + 1, by omega, by go_num, by rw [hs.out]; rfl, by first | rfl | trivial⟩, by simp [intOf]; omega⟩)
    · obtain rfl : k = rl := by omega
      have j1 : decide ((k : Int) < (k : Int)) = false := by simp
      go_wp2_with fail
      refine hQ.out ⟨?_, rfl⟩
      rw [hrl.out]
      unfold memT
      rw [List.take_length]

set_option maxRecDepth 20000 in
set_option maxHeartbeats 4000000 in
theorem dfr8 {c : Code} (hc : Func.blockOf Try.f7 8 = some c) {Q : Exit → Act → World → Prop} {w : World} {n a y bF oF cf cr : Nat} {ar : Option Addr} {r : List Int} {u0 u1 u2 u3 u4 u5 u6 u7 u9 u12 u13 u14 u17 u18 u19 u20 u21 u22 u23 u24 u25 u26 u27 u28 u29 u30 u31 u32 u33 u34 u35 u36 u37 u38 u39 u40 u41 u42 u43 u44 u45 u46 u47 u48 u49 u50 u51 u52 u53 u54 u55 u56 u57 u58 u59 u60 u61 u62 u63 u64 u65 u66 u67 u68 u69 u70 u71 u72 u73 u74 u75 u76 u77 u78 u79 u80 u81 u82 u83 u84 u85 u86 u87 u88 u89 u90 u91 u92 u93 u94 u95 u96 u97 u98 u99 u100 u101 u102 u103 u104 u105 u106 u107 u108 u109 u110 u111 u112 u113 u114 u115 u116 u117 u118 u119 u120 u121 u122 u123 u124 u125 u126 u127 u128 u129 u130 u131 u132 u133 u134 u135 u136 u137 u138 u139 u140 u141 u142 u143 u144 u145 u146 u147 u148 u149 u150 u151 u152 u153 u154 u155 u156 u157 u158 u159 u160 u161 u162 u163 u164 u165 u166 u167 u168 u169 u170 u171 u172 u173 u174 u175 u176 u177 u178 u179 u180 u181 u182 u183 u184 u185 u186 u187 u188 u189 u190 u191 u192 u193 u194 u195 u196 u197 u198 u199 u200 u201 u202 u203 u204 u205 u206 u207 u208 u209 u210 u211 u212 u213 u214 u215 u216 u217 u218 u219 u220 u221 u222 u223 u224 u225 u226 u227 u228 u229 u230 u231 u232 u233 u234 u235 u236 u237 u238 u239 u240 u241 u242 u243 u244 u245 u246 u247 u248 u249 u250 u251 u252 u253 : Value}
    (ha : a < n) (hce : w.cell? ⟨bF, oF + a, none⟩ = some (.slice ar r.length cr)) (hrd : RdI w (.slice ar r.length cr) r) (hrr : r.length ≤ 100000)
    (hQ : Hid (∀ {wx : World} {v15 v16 v105 v106 v107 v108 v109 v110 v111 v112 v113 v114 v115 v116 v117 v118 v119 v120 v121 v122 v123 v124 v125 : Value}, (v15 = .bool (decide ((y : Int) ∈ r)) ∧ wx = w) → Q .normal { tmps := #[u0, u1, u2, u3, u4, u5, u6, u7, .slice (some ⟨bF, oF, none⟩) n cf, u9, .int .i64 a, .int .i64 y, u12, u13, u14, v15, v16, u17, u18, u19, u20, u21, u22, u23, u24, u25, u26, u27, u28, u29, u30, u31, u32, u33, u34, u35, u36, u37, u38, u39, u40, u41, u42, u43, u44, u45, u46, u47, u48, u49, u50, u51, u52, u53, u54, u55, u56, u57, u58, u59, u60, u61, u62, u63, u64, u65, u66, u67, u68, u69, u70, u71, u72, u73, u74, u75, u76, u77, u78, u79, u80, u81, u82, u83, u84, u85, u86, u87, u88, u89, u90, u91, u92, u93, u94, u95, u96, u97, u98, u99, u100, u101, u102, u103, u104, v105, v106, v107, v108, v109, v110, v111, v112, v113, v114, v115, v116, v117, v118, v119, v120, v121, v122, v123, v124, v125, u126, u127, u128, u129, u130, u131, u132, u133, u134, u135, u136, u137, u138, u139, u140, u141, u142, u143, u144, u145, u146, u147, u148, u149, u150, u151, u152, u153, u154, u155, u156, u157, u158, u159, u160, u161, u162, u163, u164, u165, u166, u167, u168, u169, u170, u171, u172, u173, u174, u175, u176, u177, u178, u179, u180, u181, u182, u183, u184, u185, u186, u187, u188, u189, u190, u191, u192, u193, u194, u195, u196, u197, u198, u199, u200, u201, u202, u203, u204, u205, u206, u207, u208, u209, u210, u211, u212, u213, u214, u215, u216, u217, u218, u219, u220, u221, u222, u223, u224, u225, u226, u227, u228, u229, u230, u231, u232, u233, u234, u235, u236, u237, u238, u239, u240, u241, u242, u243, u244, u245, u246, u247, u248, u249, u250, u251, u252, u253], defers := [] } wx)) :
    c.wp Try.prog Q { tmps := #[u0, u1, u2, u3, u4, u5, u6, u7, .slice (some ⟨bF, oF, none⟩) n cf, u9, .int .i64 a, .int .i64 y, u12, u13, u14, .bool false, .int .i64 0, u17, u18, u19, u20, u21, u22, u23, u24, u25, u26, u27, u28, u29, u30, u31, u32, u33, u34, u35, u36, u37, u38, u39, u40, u41, u42, u43, u44, u45, u46, u47, u48, u49, u50, u51, u52, u53, u54, u55, u56, u57, u58, u59, u60, u61, u62, u63, u64, u65, u66, u67, u68, u69, u70, u71, u72, u73, u74, u75, u76, u77, u78, u79, u80, u81, u82, u83, u84, u85, u86, u87, u88, u89, u90, u91, u92, u93, u94, u95, u96, u97, u98, u99, u100, u101, u102, u103, u104, u105, u106, u107, u108, u109, u110, u111, u112, u113, u114, u115, u116, u117, u118, u119, u120, u121, u122, u123, u124, u125, u126, u127, u128, u129, u130, u131, u132, u133, u134, u135, u136, u137, u138, u139, u140, u141, u142, u143, u144, u145, u146, u147, u148, u149, u150, u151, u152, u153, u154, u155, u156, u157, u158, u159, u160, u161, u162, u163, u164, u165, u166, u167, u168, u169, u170, u171, u172, u173, u174, u175, u176, u177, u178, u179, u180, u181, u182, u183, u184, u185, u186, u187, u188, u189, u190, u191, u192, u193, u194, u195, u196, u197, u198, u199, u200, u201, u202, u203, u204, u205, u206, u207, u208, u209, u210, u211, u212, u213, u214, u215, u216, u217, u218, u219, u220, u221, u222, u223, u224, u225, u226, u227, u228, u229, u230, u231, u232, u233, u234, u235, u236, u237, u238, u239, u240, u241, u242, u243, u244, u245, u246, u247, u248, u249, u250, u251, u252, u253], defers := [] } w := by
  conv at hc => lhs; whnf
  simp only [Option.some.injEq] at hc
  subst hc
  obtain ⟨rl, hrl⟩ : ∃ rl, rl = r.length := ⟨_, rfl⟩
  have hrn : rl ≤ 100000 := by omega
  rw [← hrl] at hce hrd
  have ix : (a : Int) < (n : Int) := by omega
  replace hrl := Lib.hid hrl
  replace hrd := Lib.hid hrd
  clear hrr
  go_wp2_with fail
  go_loopw [15, 16] (fun v i wr => ∃ k : Nat, k ≤ rl ∧ i = .int .i64 k ∧ v = .bool (memT r k y) ∧ wr = w) (fun _ i _ => rl - (intOf i).toNat)
  case atStart => exact ⟨0, Nat.zero_le _, rfl, by rw [memT_zero], rfl⟩
  case round =>
    obtain ⟨k, hk, rfl, rfl, rfl⟩ := hrel
    by_cases hlt : k < rl
    · obtain ⟨z, hz⟩ : ∃ z, r[k]? = some z := ⟨_, List.getElem?_eq_getElem (by rw [← hrl.out]; exact hlt)⟩
      obtain ⟨b2, off2, cap2, e2, hc2⟩ := RdI.cell hrd.out hz
      rw [← hrl.out] at e2
      simp only [Value.slice.injEq] at e2
      obtain ⟨rfl, -, rfl⟩ := e2
      have j1 : decide ((k : Int) < (rl : Int)) = true := by simpa using hlt
      have j2 : (k : Int) < (rl : Int) := by omega
      have hs := Lib.hid (memT_succ (y := y) hz)
      clear hz
      generalize hm : memT r k y = m at hs ⊢
      generalize hzz : (z == (y : Int)) = e at hs
      replace hm := Lib.hid hm
      cases m <;> cases e <;> (
        go_wp2_with fail
        exact ⟨⟨k + 1, by omega, by go_num, by rw [hs.out]; rfl, by first | rfl | trivial⟩, by simp [intOf]; omega⟩)
    · obtain rfl : k = rl := by omega
      have j1 : decide ((k : Int) < (k : Int)) = false := by simp
      go_wp2_with fail
      refine hQ.out ⟨?_, rfl⟩
      rw [hrl.out]
      unfold memT
      rw [List.take_length]

end Go.Proofs.Yteipncggndefmaa
