/- DomFronts: two nodes. -/
import Derived.Test.YteipncggndefmaaDFsA
namespace Go.Proofs.Yteipncggndefmaa
open Go.RowKit Go.Maps Go.Shelf

def wantB (N : List (List Int)) (t : List Int) (n a y k : Nat) : Bool := (List.range k).any fun x => decide ((y : Int) ∈ N[x]?.getD []) && (domL n t (a : Int) (x : Int) && (decide (a = y) || !domL n t (a : Int) (y : Int)))
theorem wantB_succ {N : List (List Int)} {t : List Int} {n a y k : Nat} {r : List Int} (hr : N[k]? = some r) : wantB N t n a y (k + 1) = (wantB N t n a y k || (decide ((y : Int) ∈ r) && (domL n t (a : Int) (k : Int) && (decide (a = y) || !domL n t (a : Int) (y : Int))))) := by
  unfold wantB
  rw [List.range_succ, List.any_append]
  simp [hr]
set_option maxRecDepth 20000 in
set_option maxHeartbeats 4000000 in
theorem dfr4 {c : Code} (hc : Func.blockOf Try.f7 4 = some c) {Q : Exit → Act → World → Prop} {w : World} {n a y bN oN cg cn ct : Nat} {ag at_ : Option Addr} {t : List Int} {N : List (List Int)} {u1 u2 u3 u4 u5 u6 u8 u14 u15 u16 u17 u18 u19 u20 u21 u22 u23 u24 u25 u26 u27 u28 u29 u30 u31 u32 u33 u34 u35 u36 u37 u38 u39 u40 u41 u42 u43 u44 u45 u46 u47 u48 u49 u50 u51 u52 u53 u54 u55 u56 u57 u58 u59 u60 u61 u62 u63 u64 u65 u66 u67 u68 u69 u70 u71 u72 u73 u74 u75 u76 u77 u78 u79 u80 u81 u82 u83 u84 u85 u86 u87 u88 u89 u90 u91 u92 u93 u94 u95 u96 u97 u98 u99 u100 u101 u102 u103 u104 u105 u106 u107 u108 u109 u110 u111 u112 u113 u114 u115 u116 u117 u118 u119 u120 u121 u122 u123 u124 u125 u126 u127 u128 u129 u130 u131 u132 u133 u134 u135 u136 u137 u138 u139 u140 u141 u142 u143 u144 u145 u146 u147 u148 u149 u150 u151 u152 u153 u154 u155 u156 u157 u158 u159 u160 u161 u162 u163 u164 u165 u166 u167 u168 u169 u170 u171 u172 u173 u174 u175 u176 u177 u178 u179 u180 u181 u182 u183 u184 u185 u186 u187 u188 u189 u190 u191 u192 u193 u194 u195 u196 u197 u198 u199 u200 u201 u202 u203 u204 u205 u206 u207 u208 u209 u210 u211 u212 u213 u214 u215 u216 u217 u218 u219 u220 u221 u222 u223 u224 u225 u226 u227 u228 u229 u230 u231 u232 u233 u234 u235 u236 u237 u238 u239 u240 u241 u242 u243 u244 u245 u246 u247 u248 u249 u250 u251 u252 u253 : Value}
    (hI : RdI w (.slice at_ n ct) t) (htl : t.length = n) (hn2 : n ≤ 100000) (hN : RdG w (.slice (some ⟨bN, oN, none⟩) n cn) N) (hNl : N.length = n) (hrr : ∀ r ∈ N, r.length ≤ 100000)
    (hQ : Hid (∀ {wx : World} {v12 v13 v14 v60 v61 v62 v63 v64 v65 v66 v67 v68 v69 v70 v71 v72 v73 v74 v75 v76 v77 v78 v79 v80 v81 v82 v83 v84 v85 v86 v87 v88 v89 v90 v91 v92 v93 v94 v95 v96 v97 v98 v99 v100 v101 v102 v103 v104 : Value}, (v12 = .bool (wantB N t n a y n) ∧ wx = w) → Q .normal { tmps := #[.slice ag n cg, u1, u2, u3, u4, u5, u6, .slice at_ n ct, u8, .slice (some ⟨bN, oN, none⟩) n cn, .int .i64 a, .int .i64 y, v12, v13, v14, u15, u16, u17, u18, u19, u20, u21, u22, u23, u24, u25, u26, u27, u28, u29, u30, u31, u32, u33, u34, u35, u36, u37, u38, u39, u40, u41, u42, u43, u44, u45, u46, u47, u48, u49, u50, u51, u52, u53, u54, u55, u56, u57, u58, u59, v60, v61, v62, v63, v64, v65, v66, v67, v68, v69, v70, v71, v72, v73, v74, v75, v76, v77, v78, v79, v80, v81, v82, v83, v84, v85, v86, v87, v88, v89, v90, v91, v92, v93, v94, v95, v96, v97, v98, v99, v100, v101, v102, v103, v104, u105, u106, u107, u108, u109, u110, u111, u112, u113, u114, u115, u116, u117, u118, u119, u120, u121, u122, u123, u124, u125, u126, u127, u128, u129, u130, u131, u132, u133, u134, u135, u136, u137, u138, u139, u140, u141, u142, u143, u144, u145, u146, u147, u148, u149, u150, u151, u152, u153, u154, u155, u156, u157, u158, u159, u160, u161, u162, u163, u164, u165, u166, u167, u168, u169, u170, u171, u172, u173, u174, u175, u176, u177, u178, u179, u180, u181, u182, u183, u184, u185, u186, u187, u188, u189, u190, u191, u192, u193, u194, u195, u196, u197, u198, u199, u200, u201, u202, u203, u204, u205, u206, u207, u208, u209, u210, u211, u212, u213, u214, u215, u216, u217, u218, u219, u220, u221, u222, u223, u224, u225, u226, u227, u228, u229, u230, u231, u232, u233, u234, u235, u236, u237, u238, u239, u240, u241, u242, u243, u244, u245, u246, u247, u248, u249, u250, u251, u252, u253], defers := [] } wx)) :
    c.wp Try.prog Q { tmps := #[.slice ag n cg, u1, u2, u3, u4, u5, u6, .slice at_ n ct, u8, .slice (some ⟨bN, oN, none⟩) n cn, .int .i64 a, .int .i64 y, .bool false, .int .i64 0, u14, u15, u16, u17, u18, u19, u20, u21, u22, u23, u24, u25, u26, u27, u28, u29, u30, u31, u32, u33, u34, u35, u36, u37, u38, u39, u40, u41, u42, u43, u44, u45, u46, u47, u48, u49, u50, u51, u52, u53, u54, u55, u56, u57, u58, u59, u60, u61, u62, u63, u64, u65, u66, u67, u68, u69, u70, u71, u72, u73, u74, u75, u76, u77, u78, u79, u80, u81, u82, u83, u84, u85, u86, u87, u88, u89, u90, u91, u92, u93, u94, u95, u96, u97, u98, u99, u100, u101, u102, u103, u104, u105, u106, u107, u108, u109, u110, u111, u112, u113, u114, u115, u116, u117, u118, u119, u120, u121, u122, u123, u124, u125, u126, u127, u128, u129, u130, u131, u132, u133, u134, u135, u136, u137, u138, u139, u140, u141, u142, u143, u144, u145, u146, u147, u148, u149, u150, u151, u152, u153, u154, u155, u156, u157, u158, u159, u160, u161, u162, u163, u164, u165, u166, u167, u168, u169, u170, u171, u172, u173, u174, u175, u176, u177, u178, u179, u180, u181, u182, u183, u184, u185, u186, u187, u188, u189, u190, u191, u192, u193, u194, u195, u196, u197, u198, u199, u200, u201, u202, u203, u204, u205, u206, u207, u208, u209, u210, u211, u212, u213, u214, u215, u216, u217, u218, u219, u220, u221, u222, u223, u224, u225, u226, u227, u228, u229, u230, u231, u232, u233, u234, u235, u236, u237, u238, u239, u240, u241, u242, u243, u244, u245, u246, u247, u248, u249, u250, u251, u252, u253], defers := [] } w := by
  conv at hc => lhs; whnf
  simp only [Option.some.injEq] at hc
  subst hc
  replace hI := Lib.hid hI
  replace hrr := Lib.hid hrr
  replace htl := Lib.hid htl
  replace hNl := Lib.hid hNl
  go_wp2_with fail
  go_loopw [12, 13, 14] (fun v i _ wr => ∃ k : Nat, k ≤ n ∧ i = .int .i64 k ∧ v = .bool (wantB N t n a y k) ∧ wr = w) (fun _ i _ _ => n - (intOf i).toNat)
  case atStart => exact ⟨0, Nat.zero_le _, rfl, rfl, rfl⟩
  case round =>
    obtain ⟨k, hk, rfl, rfl, rfl⟩ := hrel
    by_cases hlt : k < n
    · obtain ⟨r, hr⟩ : ∃ r, N[k]? = some r := ⟨_, List.getElem?_eq_getElem (by have := hNl.out; omega)⟩
      obtain ⟨b, off, cap, u, e, hbl, hce, hrd⟩ := hN.at hr
      rw [hNl.out] at e
      simp only [Value.slice.injEq, Option.some.injEq, Addr.mk.injEq] at e
      obtain ⟨⟨rfl, rfl, -⟩, -, rfl⟩ := e
      obtain ⟨ar, cr, rfl⟩ := hrd.shape
      have j1 : decide ((k : Int) < (n : Int)) = true := by simpa using hlt
      have hw := Lib.hid (wantB_succ (t := t) (n := n) (a := a) (y := y) hr)
      have hrl := hrr.out r (List.mem_of_getElem? hr)
      generalize wantB N t n a y k = p0 at hw ⊢
      replace hce := Lib.hid hce
      replace hrd := Lib.hid hrd
      go_upto_block 6 with fail
      refine dfr6 (by kernel_rfl) (w := wr) (t := t) (r := r) (p0 := p0) hI.out htl.out (by have := htl.out; omega) hlt hce.out hrd.out hrl (Lib.hid ?_)
      intros
      rename_i hx2
      obtain ⟨e12, rfl⟩ := hx2
      rw [← hw.out] at e12
      subst e12
      clear hw
      go_wp2_with fail
      exact ⟨⟨k + 1, by omega, by go_num, rfl, by first | rfl | trivial⟩, by simp [intOf]; omega⟩
    · obtain rfl : k = n := by omega
      have j1 : decide ((k : Int) < (k : Int)) = false := by simp
      go_wp2_with fail
      exact hQ.out ⟨rfl, rfl⟩

set_option maxRecDepth 20000 in
set_option maxHeartbeats 4000000 in
theorem dfr3 {c : Code} (hc : Func.blockOf Try.f7 3 = some c) {Q : Exit → Act → World → Prop} {w : World} {n a y bN oN bF oF cg cn cf ct : Nat} {ag at_ : Option Addr} {t : List Int} {N B : List (List Int)} {u1 u2 u3 u4 u5 u6 u12 u13 u14 u15 u16 u17 u18 u19 u20 u21 u22 u23 u24 u25 u26 u27 u28 u29 u30 u31 u32 u33 u34 u35 u36 u37 u38 u39 u40 u41 u42 u43 u44 u45 u46 u47 u48 u49 u50 u51 u52 u53 u54 u55 u56 u57 u58 u59 u60 u61 u62 u63 u64 u65 u66 u67 u68 u69 u70 u71 u72 u73 u74 u75 u76 u77 u78 u79 u80 u81 u82 u83 u84 u85 u86 u87 u88 u89 u90 u91 u92 u93 u94 u95 u96 u97 u98 u99 u100 u101 u102 u103 u104 u105 u106 u107 u108 u109 u110 u111 u112 u113 u114 u115 u116 u117 u118 u119 u120 u121 u122 u123 u124 u125 u126 u127 u128 u129 u130 u131 u132 u133 u134 u135 u136 u137 u138 u139 u140 u141 u142 u143 u144 u145 u146 u147 u148 u149 u150 u151 u152 u153 u154 u155 u156 u157 u158 u159 u160 u161 u162 u163 u164 u165 u166 u167 u168 u169 u170 u171 u172 u173 u174 u175 u176 u177 u178 u179 u180 u181 u182 u183 u184 u185 u186 u187 u188 u189 u190 u191 u192 u193 u194 u195 u196 u197 u198 u199 u200 u201 u202 u203 u204 u205 u206 u207 u208 u209 u210 u211 u212 u213 u214 u215 u216 u217 u218 u219 u220 u221 u222 u223 u224 u225 u226 u227 u228 u229 u230 u231 u232 u233 u234 u235 u236 u237 u238 u239 u240 u241 u242 u243 u244 u245 u246 u247 u248 u249 u250 u251 u252 u253 : Value}
    (hI : RdI w (.slice at_ n ct) t) (htl : t.length = n) (hn2 : n ≤ 100000) (hN : RdG w (.slice (some ⟨bN, oN, none⟩) n cn) N) (hNl : N.length = n) (hrr : ∀ r ∈ N, r.length ≤ 100000) (hB : RdG w (.slice (some ⟨bF, oF, none⟩) n cf) B) (hBl : B.length = n) (hbr : ∀ r ∈ B, r.length ≤ 100000) (ha : a < n) (hwant : ∀ r, B[a]? = some r → decide ((y : Int) ∈ r) = wantB N t n a y n)
    (hQ : Hid (∀ {wx : World} {v6 v12 v13 v14 v15 v16 v60 v61 v62 v63 v64 v65 v66 v67 v68 v69 v70 v71 v72 v73 v74 v75 v76 v77 v78 v79 v80 v81 v82 v83 v84 v85 v86 v87 v88 v89 v90 v91 v92 v93 v94 v95 v96 v97 v98 v99 v100 v101 v102 v103 v104 v105 v106 v107 v108 v109 v110 v111 v112 v113 v114 v115 v116 v117 v118 v119 v120 v121 v122 v123 v124 v125 v126 v127 v128 : Value}, wx = w → Q .normal { tmps := #[.slice ag n cg, u1, u2, u3, u4, u5, v6, .slice at_ n ct, .slice (some ⟨bF, oF, none⟩) n cf, .slice (some ⟨bN, oN, none⟩) n cn, .int .i64 a, .int .i64 y, v12, v13, v14, v15, v16, u17, u18, u19, u20, u21, u22, u23, u24, u25, u26, u27, u28, u29, u30, u31, u32, u33, u34, u35, u36, u37, u38, u39, u40, u41, u42, u43, u44, u45, u46, u47, u48, u49, u50, u51, u52, u53, u54, u55, u56, u57, u58, u59, v60, v61, v62, v63, v64, v65, v66, v67, v68, v69, v70, v71, v72, v73, v74, v75, v76, v77, v78, v79, v80, v81, v82, v83, v84, v85, v86, v87, v88, v89, v90, v91, v92, v93, v94, v95, v96, v97, v98, v99, v100, v101, v102, v103, v104, v105, v106, v107, v108, v109, v110, v111, v112, v113, v114, v115, v116, v117, v118, v119, v120, v121, v122, v123, v124, v125, v126, v127, v128, u129, u130, u131, u132, u133, u134, u135, u136, u137, u138, u139, u140, u141, u142, u143, u144, u145, u146, u147, u148, u149, u150, u151, u152, u153, u154, u155, u156, u157, u158, u159, u160, u161, u162, u163, u164, u165, u166, u167, u168, u169, u170, u171, u172, u173, u174, u175, u176, u177, u178, u179, u180, u181, u182, u183, u184, u185, u186, u187, u188, u189, u190, u191, u192, u193, u194, u195, u196, u197, u198, u199, u200, u201, u202, u203, u204, u205, u206, u207, u208, u209, u210, u211, u212, u213, u214, u215, u216, u217, u218, u219, u220, u221, u222, u223, u224, u225, u226, u227, u228, u229, u230, u231, u232, u233, u234, u235, u236, u237, u238, u239, u240, u241, u242, u243, u244, u245, u246, u247, u248, u249, u250, u251, u252, u253], defers := [] } wx)) :
    c.wp Try.prog Q { tmps := #[.slice ag n cg, u1, u2, u3, u4, u5, u6, .slice at_ n ct, .slice (some ⟨bF, oF, none⟩) n cf, .slice (some ⟨bN, oN, none⟩) n cn, .int .i64 a, .int .i64 y, u12, u13, u14, u15, u16, u17, u18, u19, u20, u21, u22, u23, u24, u25, u26, u27, u28, u29, u30, u31, u32, u33, u34, u35, u36, u37, u38, u39, u40, u41, u42, u43, u44, u45, u46, u47, u48, u49, u50, u51, u52, u53, u54, u55, u56, u57, u58, u59, u60, u61, u62, u63, u64, u65, u66, u67, u68, u69, u70, u71, u72, u73, u74, u75, u76, u77, u78, u79, u80, u81, u82, u83, u84, u85, u86, u87, u88, u89, u90, u91, u92, u93, u94, u95, u96, u97, u98, u99, u100, u101, u102, u103, u104, u105, u106, u107, u108, u109, u110, u111, u112, u113, u114, u115, u116, u117, u118, u119, u120, u121, u122, u123, u124, u125, u126, u127, u128, u129, u130, u131, u132, u133, u134, u135, u136, u137, u138, u139, u140, u141, u142, u143, u144, u145, u146, u147, u148, u149, u150, u151, u152, u153, u154, u155, u156, u157, u158, u159, u160, u161, u162, u163, u164, u165, u166, u167, u168, u169, u170, u171, u172, u173, u174, u175, u176, u177, u178, u179, u180, u181, u182, u183, u184, u185, u186, u187, u188, u189, u190, u191, u192, u193, u194, u195, u196, u197, u198, u199, u200, u201, u202, u203, u204, u205, u206, u207, u208, u209, u210, u211, u212, u213, u214, u215, u216, u217, u218, u219, u220, u221, u222, u223, u224, u225, u226, u227, u228, u229, u230, u231, u232, u233, u234, u235, u236, u237, u238, u239, u240, u241, u242, u243, u244, u245, u246, u247, u248, u249, u250, u251, u252, u253], defers := [] } w := by
  conv at hc => lhs; whnf
  simp only [Option.some.injEq] at hc
  subst hc
  obtain ⟨r, hr⟩ : ∃ r, B[a]? = some r := ⟨_, List.getElem?_eq_getElem (by omega)⟩
  obtain ⟨b, off, cap, u, e, hbl, hce, hrd⟩ := hB.at hr
  rw [hBl] at e
  simp only [Value.slice.injEq, Option.some.injEq, Addr.mk.injEq] at e
  obtain ⟨⟨rfl, rfl, -⟩, -, rfl⟩ := e
  obtain ⟨ar, cr, rfl⟩ := hrd.shape
  have hrl := hbr r (List.mem_of_getElem? hr)
  have hw := Lib.hid (hwant r hr)
  replace hI := Lib.hid hI
  replace hrr := Lib.hid hrr
  replace htl := Lib.hid htl
  replace hNl := Lib.hid hNl
  replace hN := Lib.hid hN
  replace hce := Lib.hid hce
  replace hrd := Lib.hid hrd
  clear hB hwant hbr hr
  go_upto_block 4 with fail
  refine dfr4 (by kernel_rfl) (w := w) (t := t) (N := N) hI.out htl.out hn2 hN.out hNl.out hrr.out (Lib.hid ?_)
  intros
  rename_i hx1
  obtain ⟨e12, rfl⟩ := hx1
  subst e12
  generalize wantB N t n a y n = p at hw ⊢
  go_upto_block 8 with fail
  refine dfr8 (by kernel_rfl) (r := r) ha hce.out hrd.out hrl (Lib.hid ?_)
  intros
  rename_i hx2
  obtain ⟨e15, rfl⟩ := hx2
  subst e15
  rw [hw.out]
  clear hw
  cases p <;> (
    go_wp2_with fail
    exact hQ.out rfl)

end Go.Proofs.Yteipncggndefmaa
