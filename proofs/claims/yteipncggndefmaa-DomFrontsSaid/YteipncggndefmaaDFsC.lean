/- DomFronts: what Iterate told, marked; the least such set; that they are one. -/
import Derived.Test.YteipncggndefmaaDFsA
namespace Go.Proofs.Yteipncggndefmaa
open Go.RowKit Go.Maps Go.Shelf

def natsOf (l : List Int) (k : Nat) : List Nat := (l.take k).map Int.toNat
set_option maxRecDepth 20000 in
set_option maxHeartbeats 4000000 in
theorem dfr10 {c : Code} (hc : Func.blockOf Try.f7 10 = some c) {Q : Exit → Act → World → Prop} {w : World} {n S cg : Nat} {ag ao : Option Addr} {co : Nat} {out : List Int} {u1 u2 u3 u4 u5 u6 u7 u8 u9 u10 u11 u12 u13 u14 u15 u16 u20 u21 u22 u23 u24 u25 u26 u27 u28 u29 u30 u31 u32 u33 u34 u35 u36 u37 u38 u39 u40 u41 u42 u43 u44 u45 u46 u47 u48 u49 u50 u51 u52 u53 u54 u55 u56 u57 u58 u59 u60 u61 u62 u63 u64 u65 u66 u67 u68 u69 u70 u71 u72 u73 u74 u75 u76 u77 u78 u79 u80 u81 u82 u83 u84 u85 u86 u87 u88 u89 u90 u91 u92 u93 u94 u95 u96 u97 u98 u99 u100 u101 u102 u103 u104 u105 u106 u107 u108 u109 u110 u111 u112 u113 u114 u115 u116 u117 u118 u119 u120 u121 u122 u123 u124 u125 u126 u127 u128 u129 u130 u131 u132 u133 u134 u135 u136 u137 u138 u139 u140 u141 u142 u143 u144 u145 u146 u147 u148 u149 u150 u151 u152 u153 u154 u155 u156 u157 u158 u159 u160 u161 u162 u163 u164 u165 u166 u167 u168 u169 u170 u171 u172 u173 u174 u175 u176 u177 u178 u179 u180 u181 u182 u183 u184 u185 u186 u187 u188 u189 u190 u191 u192 u193 u194 u195 u196 u197 u198 u199 u200 u201 u202 u203 u204 u205 u206 u207 u208 u209 u210 u211 u212 u213 u214 u215 u216 u217 u218 u219 u220 u221 u222 u223 u224 u225 u226 u227 u228 u229 u230 u231 u232 u233 u234 u235 u236 u237 u238 u239 u240 u241 u242 u243 u244 u245 u246 u247 u248 u249 u250 u251 u252 u253 : Value}
    (hS : w.heap[S]? = some (.cells (seenA n []) 4 (0, 0))) (hO : RdI w (.slice ao out.length co) out) (hOff : ∀ b, (Value.slice ao out.length co).ownBlock = some b → b ≠ S) (hn2 : n ≤ 100000) (hml : out.length ≤ 100000) (hrise : out.Pairwise (· < ·)) (hrng : ∀ z ∈ out, 0 ≤ z ∧ z < n)
    (hQ : Hid (∀ {wx : World} {v6 v19 v135 v136 v137 v138 v139 v140 v141 v142 v143 v144 v145 v146 v147 v148 v149 v150 v151 v152 v153 v154 v155 v156 v157 v158 v159 v160 v161 v162 v163 v164 v165 v166 v167 v168 v169 v170 v171 v172 v173 v174 v175 v176 : Value}, (wx.heap[S]? = some (.cells (seenA n (natsOf out out.length)) 4 (0, 0)) ∧ Touch w wx (fun b => b = S)) → Q .normal { tmps := #[.slice ag n cg, u1, u2, u3, u4, u5, v6, u7, u8, u9, u10, u11, u12, u13, u14, u15, u16, .slice ao out.length co, .slice (some ⟨S, 0, none⟩) n n, v19, u20, u21, u22, u23, u24, u25, u26, u27, u28, u29, u30, u31, u32, u33, u34, u35, u36, u37, u38, u39, u40, u41, u42, u43, u44, u45, u46, u47, u48, u49, u50, u51, u52, u53, u54, u55, u56, u57, u58, u59, u60, u61, u62, u63, u64, u65, u66, u67, u68, u69, u70, u71, u72, u73, u74, u75, u76, u77, u78, u79, u80, u81, u82, u83, u84, u85, u86, u87, u88, u89, u90, u91, u92, u93, u94, u95, u96, u97, u98, u99, u100, u101, u102, u103, u104, u105, u106, u107, u108, u109, u110, u111, u112, u113, u114, u115, u116, u117, u118, u119, u120, u121, u122, u123, u124, u125, u126, u127, u128, u129, u130, u131, u132, u133, u134, v135, v136, v137, v138, v139, v140, v141, v142, v143, v144, v145, v146, v147, v148, v149, v150, v151, v152, v153, v154, v155, v156, v157, v158, v159, v160, v161, v162, v163, v164, v165, v166, v167, v168, v169, v170, v171, v172, v173, v174, v175, v176, u177, u178, u179, u180, u181, u182, u183, u184, u185, u186, u187, u188, u189, u190, u191, u192, u193, u194, u195, u196, u197, u198, u199, u200, u201, u202, u203, u204, u205, u206, u207, u208, u209, u210, u211, u212, u213, u214, u215, u216, u217, u218, u219, u220, u221, u222, u223, u224, u225, u226, u227, u228, u229, u230, u231, u232, u233, u234, u235, u236, u237, u238, u239, u240, u241, u242, u243, u244, u245, u246, u247, u248, u249, u250, u251, u252, u253], defers := [] } wx)) :
    c.wp Try.prog Q { tmps := #[.slice ag n cg, u1, u2, u3, u4, u5, u6, u7, u8, u9, u10, u11, u12, u13, u14, u15, u16, .slice ao out.length co, .slice (some ⟨S, 0, none⟩) n n, .int .i64 0, u20, u21, u22, u23, u24, u25, u26, u27, u28, u29, u30, u31, u32, u33, u34, u35, u36, u37, u38, u39, u40, u41, u42, u43, u44, u45, u46, u47, u48, u49, u50, u51, u52, u53, u54, u55, u56, u57, u58, u59, u60, u61, u62, u63, u64, u65, u66, u67, u68, u69, u70, u71, u72, u73, u74, u75, u76, u77, u78, u79, u80, u81, u82, u83, u84, u85, u86, u87, u88, u89, u90, u91, u92, u93, u94, u95, u96, u97, u98, u99, u100, u101, u102, u103, u104, u105, u106, u107, u108, u109, u110, u111, u112, u113, u114, u115, u116, u117, u118, u119, u120, u121, u122, u123, u124, u125, u126, u127, u128, u129, u130, u131, u132, u133, u134, u135, u136, u137, u138, u139, u140, u141, u142, u143, u144, u145, u146, u147, u148, u149, u150, u151, u152, u153, u154, u155, u156, u157, u158, u159, u160, u161, u162, u163, u164, u165, u166, u167, u168, u169, u170, u171, u172, u173, u174, u175, u176, u177, u178, u179, u180, u181, u182, u183, u184, u185, u186, u187, u188, u189, u190, u191, u192, u193, u194, u195, u196, u197, u198, u199, u200, u201, u202, u203, u204, u205, u206, u207, u208, u209, u210, u211, u212, u213, u214, u215, u216, u217, u218, u219, u220, u221, u222, u223, u224, u225, u226, u227, u228, u229, u230, u231, u232, u233, u234, u235, u236, u237, u238, u239, u240, u241, u242, u243, u244, u245, u246, u247, u248, u249, u250, u251, u252, u253], defers := [] } w := by
  conv at hc => lhs; whnf
  simp only [Option.some.injEq] at hc
  subst hc
  obtain ⟨m, hm⟩ : ∃ m, m = out.length := ⟨_, rfl⟩
  rw [← hm] at hO hml hOff
  simp only [← hm] at hQ ⊢
  have hlow := Lib.hid (fun k z (hz : out[k]? = some z) => hrng z (List.mem_of_getElem? hz))
  have hri : Hid (∀ (i j : Nat) (x z : Int), out[i]? = some x → out[j]? = some z → i < j → x < z) := Lib.hid (fun i j x z hi hj hij => by
    obtain ⟨p1, rfl⟩ := List.getElem?_eq_some_iff.1 hi
    obtain ⟨p2, rfl⟩ := List.getElem?_eq_some_iff.1 hj
    exact List.pairwise_iff_getElem.1 hrise i j p1 p2 hij)
  replace hO := Lib.hid hO
  replace hm := Lib.hid hm
  replace hS := Lib.hid hS
  clear hrng hrise
  go_wp2_with fail
  go_loopw [19] (fun i wr => ∃ k : Nat, k ≤ m ∧ i = .int .i64 k ∧ Hid (wr.heap[S]? = some (.cells (seenA n (natsOf out k)) 4 (0, 0))) ∧ Hid (Touch w wr (fun b => b = S))) (fun i _ => m - (intOf i).toNat)
  case atStart => exact ⟨0, Nat.zero_le _, rfl, hS, Lib.hid (Touch.refl _ _)⟩
  case round =>
    clear hS
    obtain ⟨k, hk, rfl, hS, hT⟩ := hrel
    have hOw := Rd.touch hO.out hT.out hOff
    by_cases hlt : k < m
    · obtain ⟨z, hz⟩ : ∃ z, out[k]? = some z := ⟨_, List.getElem?_eq_getElem (by rw [← hm.out]; exact hlt)⟩
      obtain ⟨b2, off2, cap2, e2, hc2⟩ := RdI.cell hOw hz
      rw [← hm.out] at e2
      simp only [Value.slice.injEq] at e2
      obtain ⟨rfl, -, rfl⟩ := e2
      obtain ⟨z0, zn⟩ := hlow.out k z hz
      obtain ⟨y, rfl⟩ : ∃ y : Nat, z = y := ⟨z.toNat, by omega⟩
      have j1 : decide ((k : Int) < (m : Int)) = true := by simpa using hlt
      have j2 : (k : Int) < (m : Int) := by omega
      have j3 : decide ((y : Int) < 0) = false := by simp
      have j4 : decide ((y : Int) ≥ (n : Int)) = false := by simp; omega
      have hyn : y < n := by omega
      have j4n : decide (n ≤ y) = false := by simpa using hyn
      have jy : (y : Int) < (n : Int) := by omega
      have f1 : wr.frozen? ⟨S, y, none⟩ = false := by simp [World.frozen?, hS.out]
      have c1 : ∃ u, wr.cell? ⟨S, y, none⟩ = some u := ⟨_, by rw [blk_cell hS.out]; exact seenA_at hyn⟩
      obtain ⟨u1, c1⟩ := c1
      have hna : Hid (natsOf out (k + 1) = natsOf out k ++ [y]) := Lib.hid (by unfold natsOf; rw [take_snoc hz]; simp)
      have hS2 : Hid (∀ q, ((wr.drewN q).setCell ⟨S, y, none⟩ (.bool true)).heap[S]? = some (.cells (seenA n (natsOf out (k + 1))) 4 (0, 0))) := Lib.hid (fun q => by
        rw [blk_set (w := wr.drewN q) _ (show (wr.drewN q).heap[S]? = _ from hS.out), seenA_set hyn, hna.out]
        congr 2
        unfold seenA
        congr 2
        funext x
        congr 1
        simp only [List.mem_cons, List.mem_append, List.mem_singleton, List.not_mem_nil, or_false]
        exact decide_eq_decide.2 (by rw [or_comm]))
      have hT2 : Hid (∀ q, Touch w ((wr.drewN q).setCell ⟨S, y, none⟩ (.bool true)) (fun b => b = S)) := Lib.hid (fun q => Touch.trans hT.out ((Touch.drewN wr q (fun b => b = S)).setCell (a := ⟨S, y, none⟩) (fun _ => rfl) _))
      by_cases hk0 : k = 0
      · have j5 : decide ((k : Int) > 0) = false := by simp; omega
        have j5n : decide (0 < k) = false := by simp; omega
        replace hk0 := Lib.hid hk0
        clear hS hT hOw hz
        go_upto_region 34 with fail
        go_big_quiet (fail)
        go_wp2_with fail
        exact ⟨⟨k + 1, by omega, by go_num, Lib.hid (hS2.out _), Lib.hid (hT2.out _)⟩, by simp [intOf]; omega⟩
      · obtain ⟨k', rfl⟩ : ∃ k', k = k' + 1 := ⟨k - 1, by omega⟩
        obtain ⟨z2, hz2⟩ : ∃ z, out[k']? = some z := ⟨_, List.getElem?_eq_getElem (by rw [← hm.out]; omega)⟩
        have hlt2 := hri.out k' (k' + 1) z2 _ hz2 hz (by omega)
        obtain ⟨b3, off3, cap3, e3, hc3⟩ := RdI.cell hOw hz2
        rw [← hm.out] at e3
        simp only [Value.slice.injEq, Option.some.injEq, Addr.mk.injEq] at e3
        obtain ⟨⟨rfl, rfl, -⟩, -, rfl⟩ := e3
        have j5 : decide (((k' + 1 : Nat) : Int) > 0) = true := by simp
        obtain ⟨w0, w1⟩ := hlow.out k' z2 hz2
        obtain ⟨y2, rfl⟩ : ∃ y2 : Nat, z2 = y2 := ⟨z2.toNat, by omega⟩
        have hlt3 : y2 < y := by omega
        have j6 : decide ((y : Int) ≤ (y2 : Int)) = false := by simp; omega
        have j6n : decide (y ≤ y2) = false := by simpa using hlt3
        have j7 : (k' : Int) < (m : Int) := by omega
        have j8 : (k' : Int) + 1 < (m : Int) := by omega
        clear hS hT hOw hz hz2 hlt2
        go_upto_region 34 with fail
        go_big_quiet (fail)
        go_wp2_with fail
        exact ⟨⟨k' + 1 + 1, by omega, by go_num, Lib.hid (hS2.out _), Lib.hid (hT2.out _)⟩, by simp [intOf]; omega⟩
    · obtain rfl : k = m := by omega
      have j1 : decide ((k : Int) < (k : Int)) = false := by simp
      go_wp2_with fail
      exact hQ.out ⟨hS.out, hT.out⟩

end Go.Proofs.Yteipncggndefmaa
