/- DomFronts: a round of marking; the two marks held together. -/
import Derived.Test.YteipncggndefmaaDFsD
namespace Go.Proofs.Yteipncggndefmaa
open Go.RowKit Go.Maps Go.Shelf

set_option maxRecDepth 20000 in
set_option maxHeartbeats 4000000 in
theorem dfr14 {c : Code} (hc : Func.blockOf Try.f7 14 = some c) {Q : Exit → Act → World → Prop} {w : World} {n S bF oF cf cg cl p : Nat} {ag al : Option Addr} {l : List Int} {s : List Nat} {B : List (List Int)} {u1 u3 u4 u5 u6 u7 u9 u10 u11 u12 u13 u14 u15 u16 u17 u18 u19 u23 u24 u25 u26 u27 u28 u29 u30 u31 u32 u33 u34 u35 u36 u37 u38 u39 u40 u41 u42 u43 u44 u45 u46 u47 u48 u49 u50 u51 u52 u53 u54 u55 u56 u57 u58 u59 u60 u61 u62 u63 u64 u65 u66 u67 u68 u69 u70 u71 u72 u73 u74 u75 u76 u77 u78 u79 u80 u81 u82 u83 u84 u85 u86 u87 u88 u89 u90 u91 u92 u93 u94 u95 u96 u97 u98 u99 u100 u101 u102 u103 u104 u105 u106 u107 u108 u109 u110 u111 u112 u113 u114 u115 u116 u117 u118 u119 u120 u121 u122 u123 u124 u125 u126 u127 u128 u129 u130 u131 u132 u133 u134 u135 u136 u137 u138 u139 u140 u141 u142 u143 u144 u145 u146 u147 u148 u149 u150 u151 u152 u153 u154 u155 u156 u157 u158 u159 u160 u161 u162 u163 u164 u165 u166 u167 u168 u169 u170 u171 u172 u173 u174 u175 u176 u177 u178 u179 u180 u181 u182 u183 u184 u185 u186 u187 u188 u189 u190 u191 u192 u193 u194 u195 u196 u197 u198 u199 u200 u201 u202 u203 u204 u205 u206 u207 u208 u209 u210 u211 u212 u213 u214 u215 u216 u217 u218 u219 u220 u221 u222 u223 u224 u225 u226 u227 u228 u229 u230 u231 u232 u233 u234 u235 u236 u237 u238 u239 u240 u241 u242 u243 u244 u245 u246 u247 u248 u249 u250 u251 u252 u253 : Value}
    (hS : w.heap[S]? = some (.cells (seenA n s) 4 (0, 0))) (hF : RdX (fun b => b = S) w (.slice (some ⟨bF, oF, none⟩) n cf) B) (hBl : B.length = n) (hbr : ∀ r ∈ B, r.length ≤ 100000) (hbv : ∀ r ∈ B, ∀ z ∈ r, 0 ≤ z ∧ z < n) (hp : p = l.length) (hlx : ∀ wr, Touch w wr (fun b => b = S) → RdI wr (.slice al p cl) l) (hll : p ≤ 100000) (hn2 : n ≤ 100000) (hsd : ∀ y ∈ s, ItR B l y)
    (hQ : Hid (∀ {wx : World} {v21 v22 v23 v24 v25 v181 v182 v183 v184 v185 v186 v187 v188 v189 v190 v191 v192 v193 v194 v195 v196 v197 v198 v199 v200 v201 v202 v203 v204 v205 v206 v207 v208 v209 v210 v211 v212 v213 v214 v215 v216 v217 v218 v219 v220 v221 v222 v223 v224 v225 v226 v227 v228 v229 v230 v231 v232 v233 v234 v235 v236 v237 : Value}, (∃ s2 mr, v21 = .bool mr ∧ wx.heap[S]? = some (.cells (seenA n s2) 4 (0, 0)) ∧ Touch w wx (fun b => b = S) ∧ Mak n B l s n s2 mr) → Q .normal { tmps := #[.slice ag n cg, u1, .slice al p cl, u3, u4, u5, u6, u7, .slice (some ⟨bF, oF, none⟩) n cf, u9, u10, u11, u12, u13, u14, u15, u16, u17, u18, u19, .slice (some ⟨S, 0, none⟩) n n, v21, v22, v23, v24, v25, u26, u27, u28, u29, u30, u31, u32, u33, u34, u35, u36, u37, u38, u39, u40, u41, u42, u43, u44, u45, u46, u47, u48, u49, u50, u51, u52, u53, u54, u55, u56, u57, u58, u59, u60, u61, u62, u63, u64, u65, u66, u67, u68, u69, u70, u71, u72, u73, u74, u75, u76, u77, u78, u79, u80, u81, u82, u83, u84, u85, u86, u87, u88, u89, u90, u91, u92, u93, u94, u95, u96, u97, u98, u99, u100, u101, u102, u103, u104, u105, u106, u107, u108, u109, u110, u111, u112, u113, u114, u115, u116, u117, u118, u119, u120, u121, u122, u123, u124, u125, u126, u127, u128, u129, u130, u131, u132, u133, u134, u135, u136, u137, u138, u139, u140, u141, u142, u143, u144, u145, u146, u147, u148, u149, u150, u151, u152, u153, u154, u155, u156, u157, u158, u159, u160, u161, u162, u163, u164, u165, u166, u167, u168, u169, u170, u171, u172, u173, u174, u175, u176, u177, u178, u179, u180, v181, v182, v183, v184, v185, v186, v187, v188, v189, v190, v191, v192, v193, v194, v195, v196, v197, v198, v199, v200, v201, v202, v203, v204, v205, v206, v207, v208, v209, v210, v211, v212, v213, v214, v215, v216, v217, v218, v219, v220, v221, v222, v223, v224, v225, v226, v227, v228, v229, v230, v231, v232, v233, v234, v235, v236, v237, u238, u239, u240, u241, u242, u243, u244, u245, u246, u247, u248, u249, u250, u251, u252, u253], defers := [] } wx)) :
    c.wp Try.prog Q { tmps := #[.slice ag n cg, u1, .slice al p cl, u3, u4, u5, u6, u7, .slice (some ⟨bF, oF, none⟩) n cf, u9, u10, u11, u12, u13, u14, u15, u16, u17, u18, u19, .slice (some ⟨S, 0, none⟩) n n, .bool false, .int .i64 0, u23, u24, u25, u26, u27, u28, u29, u30, u31, u32, u33, u34, u35, u36, u37, u38, u39, u40, u41, u42, u43, u44, u45, u46, u47, u48, u49, u50, u51, u52, u53, u54, u55, u56, u57, u58, u59, u60, u61, u62, u63, u64, u65, u66, u67, u68, u69, u70, u71, u72, u73, u74, u75, u76, u77, u78, u79, u80, u81, u82, u83, u84, u85, u86, u87, u88, u89, u90, u91, u92, u93, u94, u95, u96, u97, u98, u99, u100, u101, u102, u103, u104, u105, u106, u107, u108, u109, u110, u111, u112, u113, u114, u115, u116, u117, u118, u119, u120, u121, u122, u123, u124, u125, u126, u127, u128, u129, u130, u131, u132, u133, u134, u135, u136, u137, u138, u139, u140, u141, u142, u143, u144, u145, u146, u147, u148, u149, u150, u151, u152, u153, u154, u155, u156, u157, u158, u159, u160, u161, u162, u163, u164, u165, u166, u167, u168, u169, u170, u171, u172, u173, u174, u175, u176, u177, u178, u179, u180, u181, u182, u183, u184, u185, u186, u187, u188, u189, u190, u191, u192, u193, u194, u195, u196, u197, u198, u199, u200, u201, u202, u203, u204, u205, u206, u207, u208, u209, u210, u211, u212, u213, u214, u215, u216, u217, u218, u219, u220, u221, u222, u223, u224, u225, u226, u227, u228, u229, u230, u231, u232, u233, u234, u235, u236, u237, u238, u239, u240, u241, u242, u243, u244, u245, u246, u247, u248, u249, u250, u251, u252, u253], defers := [] } w := by
  conv at hc => lhs; whnf
  simp only [Option.some.injEq] at hc
  subst hc
  have hF' := Lib.hid hF
  have hBl' := Lib.hid hBl
  replace hS := Lib.hid hS
  replace hsd := Lib.hid hsd
  replace hbr := Lib.hid hbr
  replace hbv := Lib.hid hbv
  replace hlx := Lib.hid hlx
  replace hp := Lib.hid hp
  clear hF hBl
  go_wp2_with fail
  go_loopw [21, 22, 23, 24, 25] (fun v i _ _ _ wr => ∃ (k : Nat) (s2 : List Nat) (mr : Bool), k ≤ n ∧ i = .int .i64 k ∧ v = .bool mr ∧ Hid (wr.heap[S]? = some (.cells (seenA n s2) 4 (0, 0))) ∧ Hid (Touch w wr (fun b => b = S)) ∧ Hid (Mak n B l s k s2 mr)) (fun _ i _ _ _ _ => n - (intOf i).toNat)
  case atStart => exact ⟨0, s, false, Nat.zero_le _, rfl, rfl, hS, Lib.hid (Touch.refl _ _), Lib.hid (Mak.begin hsd.out)⟩
  case round =>
    clear hS
    obtain ⟨k, s2, mr, hk, rfl, rfl, hS, hT, hM⟩ := hrel
    by_cases hlt : k < n
    · have j1 : decide ((k : Int) < (n : Int)) = true := by simpa using hlt
      have j2 : (k : Int) < (n : Int) := by omega
      obtain ⟨r, hr⟩ : ∃ r, B[k]? = some r := ⟨_, List.getElem?_eq_getElem (by have := hBl'.out; omega)⟩
      obtain ⟨b, off, cap, u, e, hblk, hbG, hce, hrd, hoff⟩ := hF'.out.at hr
      rw [hBl'.out] at e
      simp only [Value.slice.injEq, Option.some.injEq, Addr.mk.injEq] at e
      obtain ⟨⟨rfl, rfl, -⟩, -, rfl⟩ := e
      obtain ⟨ar, cr, rfl⟩ := hrd.shape
      have c3 : wr.cell? ⟨S, k, none⟩ = some (.bool (decide (k ∈ s2))) := by rw [blk_cell hS.out]; exact seenA_at hlt
      have hrow : Hid (∀ wx, Touch wr wx (fun b => b = S) → wx.cell? ⟨bF, oF + k, none⟩ = some (.slice ar r.length cr) ∧ RdI wx (.slice ar r.length cr) r) := Lib.hid (fun wx hT2 => by
        have hT3 := hT.out.trans hT2
        exact ⟨(cell_off hT3 hblk hbG).trans hce, Rd.off hrd hT3 (by rw [List.length_map]; exact hoff)⟩)
      have hrl := hbr.out r (List.mem_of_getElem? hr)
      have hrv := Lib.hid (hbv.out r (List.mem_of_getElem? hr))
      have hlw := Lib.hid (hlx.out wr hT.out)
      have hst := Lib.hid (fun s3 m3 hm => hM.out.step (r := r) (s2 := s3) (m2 := m3) hr (fun z hz => by have h := hrv.out z hz; rw [← hBl'.out] at h; exact h) hm)
      obtain ⟨p0, hp0⟩ : ∃ p0, p0 = decide (k ∈ s2) := ⟨_, rfl⟩
      rw [← hp0] at c3
      replace hp0 := Lib.hid hp0
      clear hr hce hrd hoff hM
      go_upto_block 16 with fail
      refine dfr16 (by kernel_rfl) (w := wr) (l := l) (p0 := p0) hp.out hlw.out hll (Lib.hid ?_)
      intros
      rename_i hx1
      obtain ⟨e23, rfl⟩ := hx1
      subst e23
      obtain ⟨g, hg⟩ : ∃ g, g = (p0 || decide ((k : Int) ∈ l)) := ⟨_, rfl⟩
      rw [← hg]
      have hgg : Hid (g = true ↔ ((k : Int) ∈ l ∨ k ∈ s2)) := Lib.hid (by
        rw [hg, hp0.out]
        simp only [Bool.or_eq_true, decide_eq_true_eq]
        exact or_comm)
      replace hg := Lib.hid hg
      go_upto_block 18 with fail
      refine dfr18 (by kernel_rfl) (r := r) (s := s2) (m0 := mr) (g := g) hS.out hrow.out hrl hrv.out hlt (Lib.hid ?_)
      intros
      rename_i hx2
      obtain ⟨s3, m3, e21, hS3, hT3, hM3⟩ := hx2
      subst e21
      have hM4 := Lib.hid (hst.out s3 m3 ⟨fun z => by
        rw [hM3.mem]
        exact or_congr Iff.rfl (and_congr hgg.out Iff.rfl), hM3.le, hM3.lt, hM3.eq⟩)
      have hT4 := Lib.hid (hT.out.trans hT3)
      replace hS3 := Lib.hid hS3
      clear hM3 hT3 hS hT hrow hlw hst
      go_wp2_with fail
      exact ⟨⟨k + 1, s3, m3, by omega, by go_num, rfl, hS3, hT4, hM4⟩, by simp [intOf]; omega⟩
    · obtain rfl : k = n := by omega
      have j1 : decide ((k : Int) < (k : Int)) = false := by simp
      go_wp2_with fail
      exact hQ.out ⟨s2, mr, rfl, hS.out, hT.out, hM.out⟩

set_option maxRecDepth 20000 in
set_option maxHeartbeats 4000000 in
theorem dfr20 {c : Code} (hc : Func.blockOf Try.f7 20 = some c) {Q : Exit → Act → World → Prop} {w : World} {n A D cg : Nat} {ag : Option Addr} {s1 s2 : List Nat} {u1 u2 u3 u4 u5 u6 u7 u8 u9 u10 u11 u12 u13 u14 u15 u16 u17 u19 u21 u22 u23 u24 u25 u27 u28 u29 u30 u31 u32 u33 u34 u35 u36 u37 u38 u39 u40 u41 u42 u43 u44 u45 u46 u47 u48 u49 u50 u51 u52 u53 u54 u55 u56 u57 u58 u59 u60 u61 u62 u63 u64 u65 u66 u67 u68 u69 u70 u71 u72 u73 u74 u75 u76 u77 u78 u79 u80 u81 u82 u83 u84 u85 u86 u87 u88 u89 u90 u91 u92 u93 u94 u95 u96 u97 u98 u99 u100 u101 u102 u103 u104 u105 u106 u107 u108 u109 u110 u111 u112 u113 u114 u115 u116 u117 u118 u119 u120 u121 u122 u123 u124 u125 u126 u127 u128 u129 u130 u131 u132 u133 u134 u135 u136 u137 u138 u139 u140 u141 u142 u143 u144 u145 u146 u147 u148 u149 u150 u151 u152 u153 u154 u155 u156 u157 u158 u159 u160 u161 u162 u163 u164 u165 u166 u167 u168 u169 u170 u171 u172 u173 u174 u175 u176 u177 u178 u179 u180 u181 u182 u183 u184 u185 u186 u187 u188 u189 u190 u191 u192 u193 u194 u195 u196 u197 u198 u199 u200 u201 u202 u203 u204 u205 u206 u207 u208 u209 u210 u211 u212 u213 u214 u215 u216 u217 u218 u219 u220 u221 u222 u223 u224 u225 u226 u227 u228 u229 u230 u231 u232 u233 u234 u235 u236 u237 u238 u239 u240 u241 u242 u243 u244 u245 u246 u247 u248 u249 u250 u251 u252 u253 : Value}
    (hA : w.heap[A]? = some (.cells (seenA n s1) 4 (0, 0))) (hB : w.heap[D]? = some (.cells (seenA n s2) 4 (0, 0))) (hs : ∀ x, x ∈ s1 ↔ x ∈ s2) (hn2 : n ≤ 100000)
    (hQ : Hid (∀ {wx : World} {v6 v26 v238 v239 v240 v241 v242 v243 v244 v245 v246 v247 v248 v249 v250 v251 v252 : Value}, (∃ q, wx = w.drewN q) → Q .normal { tmps := #[.slice ag n cg, u1, u2, u3, u4, u5, v6, u7, u8, u9, u10, u11, u12, u13, u14, u15, u16, u17, .slice (some ⟨A, 0, none⟩) n n, u19, .slice (some ⟨D, 0, none⟩) n n, u21, u22, u23, u24, u25, v26, u27, u28, u29, u30, u31, u32, u33, u34, u35, u36, u37, u38, u39, u40, u41, u42, u43, u44, u45, u46, u47, u48, u49, u50, u51, u52, u53, u54, u55, u56, u57, u58, u59, u60, u61, u62, u63, u64, u65, u66, u67, u68, u69, u70, u71, u72, u73, u74, u75, u76, u77, u78, u79, u80, u81, u82, u83, u84, u85, u86, u87, u88, u89, u90, u91, u92, u93, u94, u95, u96, u97, u98, u99, u100, u101, u102, u103, u104, u105, u106, u107, u108, u109, u110, u111, u112, u113, u114, u115, u116, u117, u118, u119, u120, u121, u122, u123, u124, u125, u126, u127, u128, u129, u130, u131, u132, u133, u134, u135, u136, u137, u138, u139, u140, u141, u142, u143, u144, u145, u146, u147, u148, u149, u150, u151, u152, u153, u154, u155, u156, u157, u158, u159, u160, u161, u162, u163, u164, u165, u166, u167, u168, u169, u170, u171, u172, u173, u174, u175, u176, u177, u178, u179, u180, u181, u182, u183, u184, u185, u186, u187, u188, u189, u190, u191, u192, u193, u194, u195, u196, u197, u198, u199, u200, u201, u202, u203, u204, u205, u206, u207, u208, u209, u210, u211, u212, u213, u214, u215, u216, u217, u218, u219, u220, u221, u222, u223, u224, u225, u226, u227, u228, u229, u230, u231, u232, u233, u234, u235, u236, u237, v238, v239, v240, v241, v242, v243, v244, v245, v246, v247, v248, v249, v250, v251, v252, u253], defers := [] } wx)) :
    c.wp Try.prog Q { tmps := #[.slice ag n cg, u1, u2, u3, u4, u5, u6, u7, u8, u9, u10, u11, u12, u13, u14, u15, u16, u17, .slice (some ⟨A, 0, none⟩) n n, u19, .slice (some ⟨D, 0, none⟩) n n, u21, u22, u23, u24, u25, .int .i64 0, u27, u28, u29, u30, u31, u32, u33, u34, u35, u36, u37, u38, u39, u40, u41, u42, u43, u44, u45, u46, u47, u48, u49, u50, u51, u52, u53, u54, u55, u56, u57, u58, u59, u60, u61, u62, u63, u64, u65, u66, u67, u68, u69, u70, u71, u72, u73, u74, u75, u76, u77, u78, u79, u80, u81, u82, u83, u84, u85, u86, u87, u88, u89, u90, u91, u92, u93, u94, u95, u96, u97, u98, u99, u100, u101, u102, u103, u104, u105, u106, u107, u108, u109, u110, u111, u112, u113, u114, u115, u116, u117, u118, u119, u120, u121, u122, u123, u124, u125, u126, u127, u128, u129, u130, u131, u132, u133, u134, u135, u136, u137, u138, u139, u140, u141, u142, u143, u144, u145, u146, u147, u148, u149, u150, u151, u152, u153, u154, u155, u156, u157, u158, u159, u160, u161, u162, u163, u164, u165, u166, u167, u168, u169, u170, u171, u172, u173, u174, u175, u176, u177, u178, u179, u180, u181, u182, u183, u184, u185, u186, u187, u188, u189, u190, u191, u192, u193, u194, u195, u196, u197, u198, u199, u200, u201, u202, u203, u204, u205, u206, u207, u208, u209, u210, u211, u212, u213, u214, u215, u216, u217, u218, u219, u220, u221, u222, u223, u224, u225, u226, u227, u228, u229, u230, u231, u232, u233, u234, u235, u236, u237, u238, u239, u240, u241, u242, u243, u244, u245, u246, u247, u248, u249, u250, u251, u252, u253], defers := [] } w := by
  conv at hc => lhs; whnf
  simp only [Option.some.injEq] at hc
  subst hc
  replace hA := Lib.hid hA
  replace hB := Lib.hid hB
  replace hs := Lib.hid hs
  go_wp2_with fail
  go_loopw [26] (fun i wr => ∃ k q : Nat, k ≤ n ∧ i = .int .i64 k ∧ wr = w.drewN q) (fun i _ => n - (intOf i).toNat)
  case atStart => exact ⟨0, 0, Nat.zero_le _, rfl, rfl⟩
  case round =>
    obtain ⟨k, q, hk, rfl, rfl⟩ := hrel
    by_cases hlt : k < n
    · have j1 : decide ((k : Int) < (n : Int)) = true := by simpa using hlt
      have j2 : (k : Int) < (n : Int) := by omega
      have c1 : w.cell? ⟨A, k, none⟩ = some (.bool (decide (k ∈ s1))) := by rw [blk_cell hA.out]; exact seenA_at hlt
      have c2 : w.cell? ⟨D, k, none⟩ = some (.bool (decide (k ∈ s1))) := by rw [blk_cell hB.out, decide_eq_decide.2 (hs.out k)]; exact seenA_at hlt
      generalize decide (k ∈ s1) = p at c1 c2
      have hpp : (p != p) = false := by cases p <;> rfl
      cases p <;> (
        go_upto_region 58 with fail
        go_quiet (fail)
        go_wp2_with fail
        exact ⟨⟨k + 1, q + nq, by omega, by go_num, by first | rfl | exact World.drewN_drewN _ _ _⟩, by simp [intOf]; omega⟩)
    · obtain rfl : k = n := by omega
      have j1 : decide ((k : Int) < (k : Int)) = false := by simp
      go_wp2_with fail
      exact hQ.out ⟨q, rfl⟩

end Go.Proofs.Yteipncggndefmaa
