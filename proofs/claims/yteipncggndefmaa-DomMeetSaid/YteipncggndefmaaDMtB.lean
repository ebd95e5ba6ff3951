/- DomMeet: putting values at what a list tells. -/
import Derived.Test.YteipncggndefmaaDMtA
namespace Go.Proofs.Yteipncggndefmaa
open Go.RowKit Go.Maps Go.Shelf

/-- s has what s0 has, and what stands first in l. -/
def Ext (n : Nat) (s0 : List Nat) (l : List Int) (k : Nat) (s : List Nat) : Prop := ∀ x, x ∈ s ↔ x ∈ s0 ∨ (x < n ∧ (x : Int) ∈ l.take k)
theorem Ext.zero (n : Nat) (s0 : List Nat) (l : List Int) : Ext n s0 l 0 s0 := fun x => by simp
theorem Ext.skip {n : Nat} {s0 s : List Nat} {l : List Int} {k : Nat} {z : Int} (h : Ext n s0 l k s) (hz : l[k]? = some z) (hn : ¬ (0 ≤ z ∧ z < n)) : Ext n s0 l (k + 1) s := fun x => by
  rw [h x, take_snoc hz, List.mem_append, List.mem_singleton]
  constructor
  · rintro (h1 | ⟨h1, h2⟩)
    · exact .inl h1
    · exact .inr ⟨h1, .inl h2⟩
  · rintro (h1 | ⟨h1, h2 | h2⟩)
    · exact .inl h1
    · exact .inr ⟨h1, h2⟩
    · omega
theorem Ext.put {n : Nat} {s0 s : List Nat} {l : List Int} {k y : Nat} (h : Ext n s0 l k s) (hz : l[k]? = some (y : Int)) (hn : y < n) : Ext n s0 l (k + 1) (y :: s) := fun x => by
  rw [List.mem_cons, h x, take_snoc hz, List.mem_append, List.mem_singleton]
  constructor
  · rintro (rfl | h1 | ⟨h1, h2⟩)
    · exact .inr ⟨hn, .inr rfl⟩
    · exact .inl h1
    · exact .inr ⟨h1, .inl h2⟩
  · rintro (h1 | ⟨h1, h2 | h2⟩)
    · exact .inr (.inl h1)
    · exact .inr (.inr ⟨h1, h2⟩)
    · exact .inl (by omega)
set_option maxRecDepth 20000 in
set_option maxHeartbeats 4000000 in
theorem dmt0 {c : Code} (hc : Func.blockOf Try.f5 0 = some c) {Q : Exit → Act → World → Prop} {w : World} {n S cg cl p : Nat} {ag al : Option Addr} {l : List Int} {s0 : List Nat} {u1 u3 u4 u5 u6 u8 u10 u11 u12 u13 u14 u15 u16 u17 u18 u19 u20 u21 u22 u23 u24 u25 u26 u27 u28 u29 u30 u31 u32 u33 u34 u35 u36 u37 u38 u39 u40 u41 u42 u43 u44 u45 u46 u47 u48 u49 u50 u51 u52 u53 u54 u55 u56 u57 u58 u59 u60 u61 u62 u63 u64 u65 u66 u67 u68 u69 u70 u71 u72 u73 u74 u75 u76 u77 u78 u79 u80 u81 u82 u83 u84 u85 u86 u87 u88 u89 u90 u91 u92 u93 u94 u95 u96 u97 u98 u99 u100 u101 u102 u103 u104 u105 u106 u107 u108 u109 u110 u111 u112 u113 u114 u115 u116 u117 u118 u119 u120 u121 u122 u123 u124 u125 u126 u127 u128 u129 u130 u131 u132 u133 u134 u135 u136 u137 u138 u139 u140 u141 u142 u143 u144 u145 u146 u147 u148 u149 u150 u151 u152 u153 u154 u155 u156 u157 u158 u159 u160 u161 u162 u163 u164 u165 u166 u167 u168 u169 u170 u171 u172 u173 u174 u175 u176 u177 u178 u179 u180 u181 u182 u183 u184 u185 u186 u187 u188 u189 u190 u191 u192 u193 u194 u195 u196 u197 u198 u199 u200 u201 u202 u203 u204 u205 u206 u207 u208 u209 u210 u211 u212 : Value}
    (hp : p = l.length) (hS : w.heap[S]? = some (.cells (seenA n s0) 4 (0, 0))) (hl : RdI w (.slice al p cl) l) (hOff : Off (fun b => b = S) (.slice al p cl) (l.map encI).length) (hn2 : n ≤ 100000) (hll : p ≤ 1000000)
    (hQ : Hid (∀ {wx : World} {v9 v54 v55 v56 v57 v58 v59 v60 v61 v62 v63 v64 v65 v66 v67 v68 v69 v70 v71 v72 v73 v74 v75 v76 v77 v78 v79 : Value}, (∃ s, wx.heap[S]? = some (.cells (seenA n s) 4 (0, 0)) ∧ Touch w wx (fun b => b = S) ∧ Ext n s0 l p s) → Q .normal { tmps := #[.slice ag n cg, u1, .slice al p cl, u3, u4, u5, u6, .slice (some ⟨S, 0, none⟩) n n, u8, v9, u10, u11, u12, u13, u14, u15, u16, u17, u18, u19, u20, u21, u22, u23, u24, u25, u26, u27, u28, u29, u30, u31, u32, u33, u34, u35, u36, u37, u38, u39, u40, u41, u42, u43, u44, u45, u46, u47, u48, u49, u50, u51, u52, u53, v54, v55, v56, v57, v58, v59, v60, v61, v62, v63, v64, v65, v66, v67, v68, v69, v70, v71, v72, v73, v74, v75, v76, v77, v78, v79, u80, u81, u82, u83, u84, u85, u86, u87, u88, u89, u90, u91, u92, u93, u94, u95, u96, u97, u98, u99, u100, u101, u102, u103, u104, u105, u106, u107, u108, u109, u110, u111, u112, u113, u114, u115, u116, u117, u118, u119, u120, u121, u122, u123, u124, u125, u126, u127, u128, u129, u130, u131, u132, u133, u134, u135, u136, u137, u138, u139, u140, u141, u142, u143, u144, u145, u146, u147, u148, u149, u150, u151, u152, u153, u154, u155, u156, u157, u158, u159, u160, u161, u162, u163, u164, u165, u166, u167, u168, u169, u170, u171, u172, u173, u174, u175, u176, u177, u178, u179, u180, u181, u182, u183, u184, u185, u186, u187, u188, u189, u190, u191, u192, u193, u194, u195, u196, u197, u198, u199, u200, u201, u202, u203, u204, u205, u206, u207, u208, u209, u210, u211, u212], defers := [] } wx)) :
    c.wp Try.prog Q { tmps := #[.slice ag n cg, u1, .slice al p cl, u3, u4, u5, u6, .slice (some ⟨S, 0, none⟩) n n, u8, .int .i64 0, u10, u11, u12, u13, u14, u15, u16, u17, u18, u19, u20, u21, u22, u23, u24, u25, u26, u27, u28, u29, u30, u31, u32, u33, u34, u35, u36, u37, u38, u39, u40, u41, u42, u43, u44, u45, u46, u47, u48, u49, u50, u51, u52, u53, u54, u55, u56, u57, u58, u59, u60, u61, u62, u63, u64, u65, u66, u67, u68, u69, u70, u71, u72, u73, u74, u75, u76, u77, u78, u79, u80, u81, u82, u83, u84, u85, u86, u87, u88, u89, u90, u91, u92, u93, u94, u95, u96, u97, u98, u99, u100, u101, u102, u103, u104, u105, u106, u107, u108, u109, u110, u111, u112, u113, u114, u115, u116, u117, u118, u119, u120, u121, u122, u123, u124, u125, u126, u127, u128, u129, u130, u131, u132, u133, u134, u135, u136, u137, u138, u139, u140, u141, u142, u143, u144, u145, u146, u147, u148, u149, u150, u151, u152, u153, u154, u155, u156, u157, u158, u159, u160, u161, u162, u163, u164, u165, u166, u167, u168, u169, u170, u171, u172, u173, u174, u175, u176, u177, u178, u179, u180, u181, u182, u183, u184, u185, u186, u187, u188, u189, u190, u191, u192, u193, u194, u195, u196, u197, u198, u199, u200, u201, u202, u203, u204, u205, u206, u207, u208, u209, u210, u211, u212], defers := [] } w := by
  conv at hc => lhs; whnf
  simp only [Option.some.injEq] at hc
  subst hc
  replace hl := Lib.hid hl
  replace hp := Lib.hid hp
  replace hS := Lib.hid hS
  go_wp2_with fail
  go_loopw [9] (fun i wr => ∃ (k : Nat) (s : List Nat), k ≤ p ∧ i = .int .i64 k ∧ Hid (wr.heap[S]? = some (.cells (seenA n s) 4 (0, 0))) ∧ Hid (Touch w wr (fun b => b = S)) ∧ Hid (Ext n s0 l k s)) (fun i _ => p - (intOf i).toNat)
  case atStart => exact ⟨0, s0, Nat.zero_le _, rfl, hS, Lib.hid (Touch.refl _ _), Lib.hid (Ext.zero _ _ _)⟩
  case round =>
    clear hS
    obtain ⟨k, s, hk, rfl, hS, hT, hE⟩ := hrel
    have hOw := Rd.off hl.out hT.out hOff
    by_cases hlt : k < p
    · obtain ⟨z, hz⟩ : ∃ z, l[k]? = some z := ⟨_, List.getElem?_eq_getElem (by rw [← hp.out]; exact hlt)⟩
      obtain ⟨b2, off2, cap2, e2, hc2⟩ := RdI.cell hOw hz
      rw [← hp.out] at e2
      simp only [Value.slice.injEq] at e2
      obtain ⟨rfl, -, rfl⟩ := e2
      have j1 : decide ((k : Int) < (p : Int)) = true := by simpa using hlt
      have j2 : (k : Int) < (p : Int) := by omega
      by_cases hz0 : 0 ≤ z
      · obtain ⟨y, rfl⟩ : ∃ y : Nat, z = y := ⟨z.toNat, by omega⟩
        have j3 : decide ((y : Int) ≥ 0) = true := by simp
        by_cases hyn : y < n
        · have j4 : decide ((y : Int) < (n : Int)) = true := by simpa using hyn
          have j4n : decide (y < n) = true := by simpa using hyn
          have f1 : wr.frozen? ⟨S, y, none⟩ = false := by simp [World.frozen?, hS.out]
          have c1 : ∃ u, wr.cell? ⟨S, y, none⟩ = some u := ⟨_, by rw [blk_cell hS.out]; exact seenA_at hyn⟩
          obtain ⟨u1, c1⟩ := c1
          have hS2 : Hid ((wr.setCell ⟨S, y, none⟩ (.bool true)).heap[S]? = some (.cells (seenA n (y :: s)) 4 (0, 0))) := Lib.hid (by rw [blk_set _ hS.out, seenA_set hyn])
          have hT2 : Hid (Touch w (wr.setCell ⟨S, y, none⟩ (.bool true)) (fun b => b = S)) := Lib.hid (hT.out.setCell (a := ⟨S, y, none⟩) (fun _ => rfl) _)
          have hE2 := Lib.hid (hE.out.put hz hyn)
          have jy : (y : Int) < (n : Int) := by omega
          clear hS hT hE hz hOw
          go_wp2_with fail
          exact ⟨⟨k + 1, y :: s, by omega, by go_num, hS2, hT2, hE2⟩, by simp [intOf]; omega⟩
        · have j4 : decide ((y : Int) < (n : Int)) = false := by simpa using hyn
          have j4n : decide (y < n) = false := by simpa using hyn
          have hE2 := Lib.hid (hE.out.skip hz (by omega))
          clear hE hz
          go_wp2_with fail
          exact ⟨⟨k + 1, s, by omega, by go_num, hS, hT, hE2⟩, by simp [intOf]; omega⟩
      · have j3 : decide (z ≥ 0) = false := by simpa using hz0
        have hE2 := Lib.hid (hE.out.skip hz (by omega))
        clear hE hz
        go_wp2_with fail
        exact ⟨⟨k + 1, s, by omega, by go_num, hS, hT, hE2⟩, by simp [intOf]; omega⟩
    · obtain rfl : k = p := by omega
      have j1 : decide ((k : Int) < (k : Int)) = false := by simp
      go_wp2_with fail
      exact hQ.out ⟨s, hS.out, hT.out, hE.out⟩

set_option maxRecDepth 20000 in
set_option maxHeartbeats 4000000 in
theorem dmt2 {c : Code} (hc : Func.blockOf Try.f5 2 = some c) {Q : Exit → Act → World → Prop} {w : World} {n S cg cl p : Nat} {ag al : Option Addr} {l : List Int} {s0 : List Nat} {u1 u2 u3 u4 u5 u6 u8 u9 u12 u13 u14 u15 u16 u17 u18 u19 u20 u21 u22 u23 u24 u25 u26 u27 u28 u29 u30 u31 u32 u33 u34 u35 u36 u37 u38 u39 u40 u41 u42 u43 u44 u45 u46 u47 u48 u49 u50 u51 u52 u53 u54 u55 u56 u57 u58 u59 u60 u61 u62 u63 u64 u65 u66 u67 u68 u69 u70 u71 u72 u73 u74 u75 u76 u77 u78 u79 u80 u81 u82 u83 u84 u85 u86 u87 u88 u89 u90 u91 u92 u93 u94 u95 u96 u97 u98 u99 u100 u101 u102 u103 u104 u105 u106 u107 u108 u109 u110 u111 u112 u113 u114 u115 u116 u117 u118 u119 u120 u121 u122 u123 u124 u125 u126 u127 u128 u129 u130 u131 u132 u133 u134 u135 u136 u137 u138 u139 u140 u141 u142 u143 u144 u145 u146 u147 u148 u149 u150 u151 u152 u153 u154 u155 u156 u157 u158 u159 u160 u161 u162 u163 u164 u165 u166 u167 u168 u169 u170 u171 u172 u173 u174 u175 u176 u177 u178 u179 u180 u181 u182 u183 u184 u185 u186 u187 u188 u189 u190 u191 u192 u193 u194 u195 u196 u197 u198 u199 u200 u201 u202 u203 u204 u205 u206 u207 u208 u209 u210 u211 u212 : Value}
    (hp : p = l.length) (hS : w.heap[S]? = some (.cells (seenA n s0) 4 (0, 0))) (hl : RdI w (.slice al p cl) l) (hOff : Off (fun b => b = S) (.slice al p cl) (l.map encI).length) (hn2 : n ≤ 100000) (hll : p ≤ 1000000) (hrng : ∀ z ∈ l, 0 ≤ z ∧ z < n)
    (hQ : Hid (∀ {wx : World} {v6 v11 v85 v86 v87 v88 v89 v90 v91 v92 v93 v94 v95 v96 v97 v98 v99 v100 v101 v102 v103 v104 v105 v106 v107 v108 v109 v110 : Value}, (∃ s, wx.heap[S]? = some (.cells (seenA n s) 4 (0, 0)) ∧ Touch w wx (fun b => b = S) ∧ Ext n s0 l p s) → Q .normal { tmps := #[.slice ag n cg, u1, u2, u3, u4, u5, v6, .slice (some ⟨S, 0, none⟩) n n, u8, u9, .slice al p cl, v11, u12, u13, u14, u15, u16, u17, u18, u19, u20, u21, u22, u23, u24, u25, u26, u27, u28, u29, u30, u31, u32, u33, u34, u35, u36, u37, u38, u39, u40, u41, u42, u43, u44, u45, u46, u47, u48, u49, u50, u51, u52, u53, u54, u55, u56, u57, u58, u59, u60, u61, u62, u63, u64, u65, u66, u67, u68, u69, u70, u71, u72, u73, u74, u75, u76, u77, u78, u79, u80, u81, u82, u83, u84, v85, v86, v87, v88, v89, v90, v91, v92, v93, v94, v95, v96, v97, v98, v99, v100, v101, v102, v103, v104, v105, v106, v107, v108, v109, v110, u111, u112, u113, u114, u115, u116, u117, u118, u119, u120, u121, u122, u123, u124, u125, u126, u127, u128, u129, u130, u131, u132, u133, u134, u135, u136, u137, u138, u139, u140, u141, u142, u143, u144, u145, u146, u147, u148, u149, u150, u151, u152, u153, u154, u155, u156, u157, u158, u159, u160, u161, u162, u163, u164, u165, u166, u167, u168, u169, u170, u171, u172, u173, u174, u175, u176, u177, u178, u179, u180, u181, u182, u183, u184, u185, u186, u187, u188, u189, u190, u191, u192, u193, u194, u195, u196, u197, u198, u199, u200, u201, u202, u203, u204, u205, u206, u207, u208, u209, u210, u211, u212], defers := [] } wx)) :
    c.wp Try.prog Q { tmps := #[.slice ag n cg, u1, u2, u3, u4, u5, u6, .slice (some ⟨S, 0, none⟩) n n, u8, u9, .slice al p cl, .int .i64 0, u12, u13, u14, u15, u16, u17, u18, u19, u20, u21, u22, u23, u24, u25, u26, u27, u28, u29, u30, u31, u32, u33, u34, u35, u36, u37, u38, u39, u40, u41, u42, u43, u44, u45, u46, u47, u48, u49, u50, u51, u52, u53, u54, u55, u56, u57, u58, u59, u60, u61, u62, u63, u64, u65, u66, u67, u68, u69, u70, u71, u72, u73, u74, u75, u76, u77, u78, u79, u80, u81, u82, u83, u84, u85, u86, u87, u88, u89, u90, u91, u92, u93, u94, u95, u96, u97, u98, u99, u100, u101, u102, u103, u104, u105, u106, u107, u108, u109, u110, u111, u112, u113, u114, u115, u116, u117, u118, u119, u120, u121, u122, u123, u124, u125, u126, u127, u128, u129, u130, u131, u132, u133, u134, u135, u136, u137, u138, u139, u140, u141, u142, u143, u144, u145, u146, u147, u148, u149, u150, u151, u152, u153, u154, u155, u156, u157, u158, u159, u160, u161, u162, u163, u164, u165, u166, u167, u168, u169, u170, u171, u172, u173, u174, u175, u176, u177, u178, u179, u180, u181, u182, u183, u184, u185, u186, u187, u188, u189, u190, u191, u192, u193, u194, u195, u196, u197, u198, u199, u200, u201, u202, u203, u204, u205, u206, u207, u208, u209, u210, u211, u212], defers := [] } w := by
  conv at hc => lhs; whnf
  simp only [Option.some.injEq] at hc
  subst hc
  replace hl := Lib.hid hl
  replace hp := Lib.hid hp
  replace hS := Lib.hid hS
  replace hrng := Lib.hid hrng
  go_wp2_with fail
  go_loopw [11] (fun i wr => ∃ (k : Nat) (s : List Nat), k ≤ p ∧ i = .int .i64 k ∧ Hid (wr.heap[S]? = some (.cells (seenA n s) 4 (0, 0))) ∧ Hid (Touch w wr (fun b => b = S)) ∧ Hid (Ext n s0 l k s)) (fun i _ => p - (intOf i).toNat)
  case atStart => exact ⟨0, s0, Nat.zero_le _, rfl, hS, Lib.hid (Touch.refl _ _), Lib.hid (Ext.zero _ _ _)⟩
  case round =>
    clear hS
    obtain ⟨k, s, hk, rfl, hS, hT, hE⟩ := hrel
    have hOw := Rd.off hl.out hT.out hOff
    by_cases hlt : k < p
    · obtain ⟨z, hz⟩ : ∃ z, l[k]? = some z := ⟨_, List.getElem?_eq_getElem (by rw [← hp.out]; exact hlt)⟩
      obtain ⟨b2, off2, cap2, e2, hc2⟩ := RdI.cell hOw hz
      rw [← hp.out] at e2
      simp only [Value.slice.injEq] at e2
      obtain ⟨rfl, -, rfl⟩ := e2
      have j1 : decide ((k : Int) < (p : Int)) = true := by simpa using hlt
      have j2 : (k : Int) < (p : Int) := by omega
      obtain ⟨z0, zn⟩ := hrng.out z (List.mem_of_getElem? hz)
      obtain ⟨y, rfl⟩ : ∃ y : Nat, z = y := ⟨z.toNat, by omega⟩
      have hyn : y < n := by omega
      have j3 : decide ((y : Int) < 0) = false := by simp
      have j4 : decide ((y : Int) ≥ (n : Int)) = false := by simp; omega
      have j4n : decide (n ≤ y) = false := by simpa using hyn
      have f1 : wr.frozen? ⟨S, y, none⟩ = false := by simp [World.frozen?, hS.out]
      have c1 : ∃ u, wr.cell? ⟨S, y, none⟩ = some u := ⟨_, by rw [blk_cell hS.out]; exact seenA_at hyn⟩
      obtain ⟨u1, c1⟩ := c1
      have hS2 : Hid ((wr.setCell ⟨S, y, none⟩ (.bool true)).heap[S]? = some (.cells (seenA n (y :: s)) 4 (0, 0))) := Lib.hid (by rw [blk_set _ hS.out, seenA_set hyn])
      have hT2 : Hid (Touch w (wr.setCell ⟨S, y, none⟩ (.bool true)) (fun b => b = S)) := Lib.hid (hT.out.setCell (a := ⟨S, y, none⟩) (fun _ => rfl) _)
      have hE2 := Lib.hid (hE.out.put hz hyn)
      have jy : (y : Int) < (n : Int) := by omega
      clear hS hT hE hz hOw
      go_wp2_with fail
      exact ⟨⟨k + 1, y :: s, by omega, by go_num, hS2, hT2, hE2⟩, by simp [intOf]; omega⟩
    · obtain rfl : k = p := by omega
      have j1 : decide ((k : Int) < (k : Int)) = false := by simp
      go_wp2_with fail
      exact hQ.out ⟨s, hS.out, hT.out, hE.out⟩

set_option maxRecDepth 20000 in
set_option maxHeartbeats 8000000 in
theorem dmt6 {c : Code} (hc : Func.blockOf Try.f5 6 = some c) {Q : Exit → Act → World → Prop} {w w0 : World} {n S R W bM oM cM cg b z v y0 : Nat} {ag : Option Addr} {L M : List (List Int)} {t : List Int} {sp sv s q : List Nat} {vq : Value} {u1 u2 u3 u4 u5 u6 u8 u9 u10 u11 u14 u18 u19 u20 u21 u22 u23 u24 u25 u26 u27 u28 u29 u30 u31 u32 u33 u34 u35 u36 u37 u38 u39 u40 u41 u42 u43 u44 u45 u46 u47 u48 u49 u50 u51 u52 u53 u54 u55 u56 u57 u58 u59 u60 u61 u62 u63 u64 u65 u66 u67 u68 u69 u70 u71 u72 u73 u74 u75 u76 u77 u78 u79 u80 u81 u82 u83 u84 u85 u86 u87 u88 u89 u90 u91 u92 u93 u94 u95 u96 u97 u98 u99 u100 u101 u102 u103 u104 u105 u106 u107 u108 u109 u110 u111 u112 u113 u114 u115 u116 u117 u118 u119 u120 u121 u122 u123 u124 u125 u126 u127 u128 u129 u130 u131 u132 u133 u134 u135 u136 u137 u138 u139 u140 u141 u142 u143 u144 u145 u146 u147 u148 u149 u150 u151 u152 u153 u154 u155 u156 u157 u158 u159 u160 u161 u162 u163 u164 u165 u166 u167 u168 u169 u170 u171 u172 u173 u174 u175 u176 u177 u178 u179 u180 u181 u182 u183 u184 u185 u186 u187 u188 u189 u190 u191 u192 u193 u194 u195 u196 u197 u198 u199 u200 u201 u202 u203 u204 u205 u206 u207 u208 u209 u210 u211 u212 : Value}
    (hW0 : W = w0.heap.size) (hP0 : w0.heap[S]? = some (.cells (seenA n sp) 4 (0, 0))) (hR0 : w0.heap[R]? = some (.cells (seenA n sv) 4 (0, 0))) (hM : RdG w0 (.slice (some ⟨bM, oM, none⟩) n cM) M) (hMl : M.length = n) (hn2 : n ≤ 100000) (hctx : DT L y0 t ∧ Shut L y0 (fun u => u ∈ sp) ∧ IsN L y0 (fun u => u ∈ sp) b z ∧ Way L y0 b ∧ b ∉ sp) (hsv : ∀ u, u ∈ sv ↔ Way L y0 u) (hP : y0 ∈ sp) (hLn : L.length = n) (hrows : ∀ x, x < n → ∃ r, M[x]? = some r ∧ r.length ≤ 1000000 ∧ (∀ z ∈ r, 0 ≤ z ∧ z < n) ∧ ∀ u : Nat, Edge L u x ↔ (u : Int) ∈ r) (hWs : w.heap[W]? = some (.cells (seenA n s) 4 (0, 0))) (hWq : Win w (W + 1) vq (ql q)) (hB : Below W w0 w) (hBq : Bq L y0 (fun u => u ∈ sp) b z n s q v)
    (hQ : Hid (∀ {wx : World} {v6 v16 v17 v18 v19 v20 v154 v155 v156 v157 v158 v159 v160 v161 v162 v163 v164 v165 v166 v167 v168 v169 v170 v171 v172 v173 v174 v175 v176 v177 v178 v179 v180 v181 v182 v183 v184 v185 v186 v187 v188 v189 v190 v191 v192 v193 v194 v195 v196 v197 v198 v199 v200 v201 v202 v203 v204 v205 v206 v207 v208 v209 : Value}, (v17 = .int .i64 1 ∧ Below W w0 wx) → Q .normal { tmps := #[.slice ag n cg, u1, u2, u3, u4, u5, v6, .slice (some ⟨S, 0, none⟩) n n, u8, u9, u10, u11, .slice (some ⟨bM, oM, none⟩) n cM, .slice (some ⟨R, 0, none⟩) n n, u14, .slice (some ⟨W, 0, none⟩) n n, v16, v17, v18, v19, v20, u21, u22, u23, u24, u25, u26, u27, u28, u29, u30, u31, u32, u33, u34, u35, u36, u37, u38, u39, u40, u41, u42, u43, u44, u45, u46, u47, u48, u49, u50, u51, u52, u53, u54, u55, u56, u57, u58, u59, u60, u61, u62, u63, u64, u65, u66, u67, u68, u69, u70, u71, u72, u73, u74, u75, u76, u77, u78, u79, u80, u81, u82, u83, u84, u85, u86, u87, u88, u89, u90, u91, u92, u93, u94, u95, u96, u97, u98, u99, u100, u101, u102, u103, u104, u105, u106, u107, u108, u109, u110, u111, u112, u113, u114, u115, u116, u117, u118, u119, u120, u121, u122, u123, u124, u125, u126, u127, u128, u129, u130, u131, u132, u133, u134, u135, u136, u137, u138, u139, u140, u141, u142, u143, u144, u145, u146, u147, u148, u149, u150, u151, u152, u153, v154, v155, v156, v157, v158, v159, v160, v161, v162, v163, v164, v165, v166, v167, v168, v169, v170, v171, v172, v173, v174, v175, v176, v177, v178, v179, v180, v181, v182, v183, v184, v185, v186, v187, v188, v189, v190, v191, v192, v193, v194, v195, v196, v197, v198, v199, v200, v201, v202, v203, v204, v205, v206, v207, v208, v209, u210, u211, u212], defers := [] } wx)) :
    c.wp Try.prog Q { tmps := #[.slice ag n cg, u1, u2, u3, u4, u5, u6, .slice (some ⟨S, 0, none⟩) n n, u8, u9, u10, u11, .slice (some ⟨bM, oM, none⟩) n cM, .slice (some ⟨R, 0, none⟩) n n, u14, .slice (some ⟨W, 0, none⟩) n n, vq, .int .i64 v, u18, u19, u20, u21, u22, u23, u24, u25, u26, u27, u28, u29, u30, u31, u32, u33, u34, u35, u36, u37, u38, u39, u40, u41, u42, u43, u44, u45, u46, u47, u48, u49, u50, u51, u52, u53, u54, u55, u56, u57, u58, u59, u60, u61, u62, u63, u64, u65, u66, u67, u68, u69, u70, u71, u72, u73, u74, u75, u76, u77, u78, u79, u80, u81, u82, u83, u84, u85, u86, u87, u88, u89, u90, u91, u92, u93, u94, u95, u96, u97, u98, u99, u100, u101, u102, u103, u104, u105, u106, u107, u108, u109, u110, u111, u112, u113, u114, u115, u116, u117, u118, u119, u120, u121, u122, u123, u124, u125, u126, u127, u128, u129, u130, u131, u132, u133, u134, u135, u136, u137, u138, u139, u140, u141, u142, u143, u144, u145, u146, u147, u148, u149, u150, u151, u152, u153, u154, u155, u156, u157, u158, u159, u160, u161, u162, u163, u164, u165, u166, u167, u168, u169, u170, u171, u172, u173, u174, u175, u176, u177, u178, u179, u180, u181, u182, u183, u184, u185, u186, u187, u188, u189, u190, u191, u192, u193, u194, u195, u196, u197, u198, u199, u200, u201, u202, u203, u204, u205, u206, u207, u208, u209, u210, u211, u212], defers := [] } w := by
  conv at hc => lhs; whnf
  simp only [Option.some.injEq] at hc
  subst hc
  have hfin := Lib.hid (fun (s : List Nat) (v : Nat) (h : Bq L y0 (fun u => u ∈ sp) b z n s [] v) => h.fin hctx.1 hctx.2.1 hctx.2.2.1 hctx.2.2.2.1 hctx.2.2.2.2 hP)
  have hxs := Lib.hid (fun (s q : List Nat) (v x : Nat) (h : Bq L y0 (fun u => u ∈ sp) b z n s (x :: q) v) => (h.bk x (h.que x (List.Mem.head _)).1).way hctx.2.2.2.1)
  replace hW0 := Lib.hid hW0
  replace hP0 := Lib.hid hP0
  replace hR0 := Lib.hid hR0
  replace hM := Lib.hid hM
  replace hMl := Lib.hid hMl
  replace hctx := Lib.hid hctx
  replace hsv := Lib.hid hsv
  replace hrows := Lib.hid hrows
  replace hLn := Lib.hid hLn
  replace hWs := Lib.hid hWs
  replace hWq := Lib.hid hWq
  replace hB := Lib.hid hB
  replace hBq := Lib.hid hBq
  clear hP
  go_wp2_with fail
  go_loopg [6, 16, 17, 18, 19, 20] (unseen n s + q.length) (fun g _ qv vv _ _ _ wr => ∃ (s2 q2 : List Nat) (v2 : Nat), vv = .int .i64 v2 ∧ Hid (Win wr (W + 1) qv (ql q2)) ∧ Hid (wr.heap[W]? = some (.cells (seenA n s2) 4 (0, 0))) ∧ Hid (Below W w0 wr) ∧ Hid (Bq L y0 (fun u => u ∈ sp) b z n s2 q2 v2) ∧ Hid (g = unseen n s2 + q2.length))
  case atStart => exact ⟨s, q, v, rfl, hWq, hWs, hB, hBq, Lib.hid rfl⟩
  case round =>
    clear hWq hWs hB hBq
    obtain ⟨s2, q2, v2, rfl, hWq, hWs, hB, hBq, hg⟩ := hrel
    cases q2 with
    | nil =>
      obtain ⟨g', off', cap', rfl⟩ := hWq.out.form
      have hv1 := hfin.out s2 v2 hBq.out
      subst hv1
      rw [show (ql []).length = 0 from rfl]
      go_wp2_with fail
      exact hQ.out ⟨rfl, hB.out⟩
    | cons x q3 =>
      have hW1 : Win wr (W + 1) _ ((x : Int) :: ql q3) := hWq.out
      obtain ⟨g', off', cap', rfl, c1, hcap, hW2⟩ := hW1.first
      rw [ql_len] at hW2 ⊢
      have hqn : q3.length ≤ n := by have := hBq.out.cap; simp at this; omega
      have hxw := hxs.out s2 q3 v2 x hBq.out
      have hxn : x < n := by have := hxw.lt.2; have := hLn.out; omega
      obtain ⟨r, hrx, hrr, hv, hre⟩ := hrows.out x hxn
      have hBr := Lib.hid (hBq.out.pop r)
      have hg2 : Hid (gk = unseen n s2 + (x :: q3).length) := hg
      replace hrx := Lib.hid hrx
      replace hv := Lib.hid hv
      replace hre := Lib.hid hre
      replace hW1 := Lib.hid hW1
      clear hxw hBq hWq hW1 hg2
      by_cases hc : cap' = 1
      · subst hc
        rw [if_pos rfl] at hW2
        replace hW2 := Lib.hid hW2
        go_upto_block 8 with fail
        refine dmt8 (by kernel_rfl) (w := wr) (M := M) (t := t) (s := s2) (q := q3) (z := z) (v := v2) hW0.out hP0.out hR0.out hM.out hMl.out hn2 hctx.out hsv.out hrx.out hxn hrr hv.out hre.out hWs.out hW2.out hB.out hBr.out (Lib.hid ?_)
        intros
        rename_i hx8
        rename World => w8
        obtain ⟨s3, q3', v3, hWq3, rfl, hWs3, hB3, hBq3, hlt3⟩ := hx8
        have hlt4 := Lib.hid hlt3
        replace hWq3 := Lib.hid hWq3
        replace hWs3 := Lib.hid hWs3
        replace hB3 := Lib.hid hB3
        replace hBq3 := Lib.hid hBq3
        have hg2 := Lib.hid (show unseen n s3 + q3'.length < gk by rw [hg.out]; exact hlt4.out)
        clear hlt3 hlt4 hWs hB hBr hW2 hg hrx hv hre
        go_wp2_with fail
        go_roundg (unseen n s3 + q3'.length)
        case measure => exact hg2.out
        case rel => exact ⟨s3, q3', v3, rfl, hWq3, hWs3, hB3, hBq3, Lib.hid rfl⟩
      · rw [if_neg hc] at hW2
        replace hW2 := Lib.hid hW2
        go_upto_block 8 with fail
        refine dmt8 (by kernel_rfl) (w := wr) (M := M) (t := t) (s := s2) (q := q3) (z := z) (v := v2) hW0.out hP0.out hR0.out hM.out hMl.out hn2 hctx.out hsv.out hrx.out hxn hrr hv.out hre.out hWs.out hW2.out hB.out hBr.out (Lib.hid ?_)
        intros
        rename_i hx8
        rename World => w8
        obtain ⟨s3, q3', v3, hWq3, rfl, hWs3, hB3, hBq3, hlt3⟩ := hx8
        have hlt4 := Lib.hid hlt3
        replace hWq3 := Lib.hid hWq3
        replace hWs3 := Lib.hid hWs3
        replace hB3 := Lib.hid hB3
        replace hBq3 := Lib.hid hBq3
        have hg2 := Lib.hid (show unseen n s3 + q3'.length < gk by rw [hg.out]; exact hlt4.out)
        clear hlt3 hlt4 hWs hB hBr hW2 hg hrx hv hre
        go_wp2_with fail
        go_roundg (unseen n s3 + q3'.length)
        case measure => exact hg2.out
        case rel => exact ⟨s3, q3', v3, rfl, hWq3, hWs3, hB3, hBq3, Lib.hid rfl⟩

end Go.Proofs.Yteipncggndefmaa
