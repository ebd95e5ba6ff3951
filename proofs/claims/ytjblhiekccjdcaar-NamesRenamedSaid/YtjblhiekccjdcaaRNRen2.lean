/- NWideA, NWideB, NWideC, NRenV. -/
import Derived.Test.YtjblhiekccjdcaaRNRen1
import Derived.Test.YtjblhiekccjdcaaRFindB
import Derived.Test.YtjblhiekccjdcaaRNHeavy
namespace Go.Proofs.YtjblhiekccjdcaaR
section
open Go.RowKit Go.Maps Go.Shelf
attribute [local go_sem] Oper.semAt_some

theorem short_snoc {l : List ByteArray} {k : Nat} {s : ByteArray} (h : l[k]? = some s) (h1 : ∀ y ∈ l.take k, y.size ≤ 60) (hs : s.size ≤ 60) : ∀ y ∈ l.take (k + 1), y.size ≤ 60 := by
  rw [take_snocS h]
  intro y hy
  rcases List.mem_append.1 hy with hy | hy
  · exact h1 y hy
  · rw [List.mem_singleton.1 hy]; exact hs
set_option maxRecDepth 20000 in
set_option maxHeartbeats 2000000 in
theorem wide8 {c : Code} (hc : Func.blockOf Try.f18 8 = some c) {Q : Exit → Act → World → Prop} {w : World} {g off k nc cc na ca : Nat} {aa : Option Addr} {y : Ins} {q0 : Bool} {u0 u1 u2 u4 u5 u6 u10 u11 u12 u13 u14 u15 u16 u17 u18 u19 u20 u21 u22 u23 u24 u25 u26 u27 u28 u29 u30 u31 u32 u33 u34 u35 u36 u37 u38 u39 u40 u41 u42 u43 u44 u45 u46 u47 u48 u49 u50 u51 u52 u53 u54 u55 u56 u57 u58 u59 u60 u61 u62 u63 u64 u65 u66 u67 u68 u69 u70 u71 u72 u73 u74 u75 u76 u77 u78 u79 u80 u81 u82 u83 u84 u85 u86 u87 u88 u89 u90 u91 u92 u93 u94 u95 u96 u97 u98 u99 u100 u101 u102 u103 u104 u105 u106 u107 u108 u109 u110 u111 u112 u113 u114 u115 u116 u117 u118 u119 u120 : Value}
    (i6 : w.cell? ⟨g, off + k * 8 + 6, none⟩ = some (.slice aa na ca)) (ra : RdS w (.slice aa na ca) y.args) (hk : (k : Int) < (nc : Int)) (hna : y.args.length ≤ 1000000)
    (hQ : Hid (∀ {wx : World} {v3 v9 v97 v98 v99 v100 v101 v102 v103 v104 v105 v106 v107 v108 v109 v110 v111 v112 v113 v114 v115 v116 v117 v118 v119 : Value}, (∃ q, v3 = .bool q ∧ wx = w ∧ (q = false → q0 = false ∧ ∀ s ∈ y.args, s.size ≤ 60)) → Q .normal { tmps := #[u0, u1, u2, v3, u4, u5, u6, .slice (some ⟨g, off, none⟩) nc cc, .int .i64 k, v9, u10, u11, u12, u13, u14, u15, u16, u17, u18, u19, u20, u21, u22, u23, u24, u25, u26, u27, u28, u29, u30, u31, u32, u33, u34, u35, u36, u37, u38, u39, u40, u41, u42, u43, u44, u45, u46, u47, u48, u49, u50, u51, u52, u53, u54, u55, u56, u57, u58, u59, u60, u61, u62, u63, u64, u65, u66, u67, u68, u69, u70, u71, u72, u73, u74, u75, u76, u77, u78, u79, u80, u81, u82, u83, u84, u85, u86, u87, u88, u89, u90, u91, u92, u93, u94, u95, u96, v97, v98, v99, v100, v101, v102, v103, v104, v105, v106, v107, v108, v109, v110, v111, v112, v113, v114, v115, v116, v117, v118, v119, u120], defers := [] } wx)) :
    c.wp Try.prog Q { tmps := #[u0, u1, u2, .bool q0, u4, u5, u6, .slice (some ⟨g, off, none⟩) nc cc, .int .i64 k, .int .i64 0, u10, u11, u12, u13, u14, u15, u16, u17, u18, u19, u20, u21, u22, u23, u24, u25, u26, u27, u28, u29, u30, u31, u32, u33, u34, u35, u36, u37, u38, u39, u40, u41, u42, u43, u44, u45, u46, u47, u48, u49, u50, u51, u52, u53, u54, u55, u56, u57, u58, u59, u60, u61, u62, u63, u64, u65, u66, u67, u68, u69, u70, u71, u72, u73, u74, u75, u76, u77, u78, u79, u80, u81, u82, u83, u84, u85, u86, u87, u88, u89, u90, u91, u92, u93, u94, u95, u96, u97, u98, u99, u100, u101, u102, u103, u104, u105, u106, u107, u108, u109, u110, u111, u112, u113, u114, u115, u116, u117, u118, u119, u120], defers := [] } w := by
  conv at hc => lhs; whnf
  simp only [Option.some.injEq] at hc
  subst hc
  have hn8 : Hid (na = y.args.length) := Lib.hid (by obtain ⟨a, q, e⟩ := RdS.shape ra; simp only [Value.slice.injEq] at e; exact e.2.1)
  have hnm : na ≤ 1000000 := by rw [hn8.out]; exact hna
  replace ra := Lib.hid ra
  go_wp2_with fail
  go_loopw [3, 9] (fun b i wr => ∃ (k1 : Nat) (q : Bool), k1 ≤ na ∧ i = .int .i64 k1 ∧ b = .bool q ∧ wr = w ∧ Hid (q = false → q0 = false ∧ ∀ s ∈ y.args.take k1, s.size ≤ 60)) (fun _ i _ => na - (intOf i).toNat)
  case atStart => exact ⟨0, q0, Nat.zero_le _, rfl, rfl, rfl, Lib.hid (fun h => ⟨h, fun s hs => by simp at hs⟩)⟩
  case round =>
    obtain ⟨k1, q, hk1, rfl, rfl, rfl, hq⟩ := hrel
    by_cases hlt : k1 < na
    · have j1 : decide ((k1 : Int) < (na : Int)) = true := by simpa using hlt
      have j2 : (k1 : Int) < (na : Int) := by omega
      obtain ⟨s, hs⟩ : ∃ s, y.args[k1]? = some s := ⟨_, List.getElem?_eq_getElem (by rw [← hn8.out]; exact hlt)⟩
      obtain ⟨ga, oa, ca', e, hcl⟩ := RdS.cell ra.out hs
      rw [← hn8.out] at e
      simp only [Value.slice.injEq] at e
      obtain ⟨rfl, -, rfl⟩ := e
      have hsn := Lib.hid (short_snoc hs)
      clear hs
      cases q with
      | true =>
        have hq2 : Hid (true = false → q0 = false ∧ ∀ s ∈ y.args.take (k1 + 1), s.size ≤ 60) := Lib.hid (fun h => by cases h)
        go_wp2_with fail
        go_round
        case rel => exact ⟨k1 + 1, true, by omega, by go_num, rfl, by first | rfl | trivial, hq2⟩
        case measure => simp [intOf]; omega
      | false =>
        by_cases h60 : s.size ≤ 60
        · have d1 : decide ((s.size : Int) > 60) = false := decide_eq_false (by omega)
          have d2 : decide (60 < s.size) = false := decide_eq_false (by omega)
          have hq2 : Hid (false = false → q0 = false ∧ ∀ s ∈ y.args.take (k1 + 1), s.size ≤ 60) := Lib.hid (fun h => ⟨(hq.out h).1, hsn.out (hq.out h).2 h60⟩)
          go_wp2_with fail
          go_round
          case rel => exact ⟨k1 + 1, false, by omega, by go_num, rfl, by first | rfl | trivial, hq2⟩
          case measure => simp [intOf]; omega
        · have d1 : decide ((s.size : Int) > 60) = true := decide_eq_true (by omega)
          have d2 : decide (60 < s.size) = true := decide_eq_true (by omega)
          have hq2 : Hid (true = false → q0 = false ∧ ∀ s ∈ y.args.take (k1 + 1), s.size ≤ 60) := Lib.hid (fun h => by cases h)
          go_wp2_with fail
          go_round
          case rel => exact ⟨k1 + 1, true, by omega, by go_num, rfl, by first | rfl | trivial, hq2⟩
          case measure => simp [intOf]; omega
    · obtain rfl : k1 = na := by omega
      have j1 : decide ((k1 : Int) < (k1 : Int)) = false := by simp
      go_wp2_with fail
      refine hQ.out ⟨q, rfl, rfl, fun h => ?_⟩
      have := hq.out h
      rwa [List.take_of_length_le (by rw [← hn8.out]; exact Nat.le_refl _)] at this

set_option maxRecDepth 20000 in
set_option maxHeartbeats 2000000 in
theorem wide2 {c : Code} (hc : Func.blockOf Try.f18 2 = some c) {Q : Exit → Act → World → Prop} {w : World} {S0 g off f p0 c0 np cp : Nat} {ap : Option Addr} {d : Fun} {q0 : Bool} {u0 u2 u6 u7 u8 u9 u10 u11 u12 u13 u14 u15 u16 u17 u18 u19 u20 u21 u22 u23 u24 u25 u26 u27 u28 u29 u30 u31 u32 u33 u34 u35 u36 u37 u38 u39 u40 u41 u42 u43 u44 u45 u46 u47 u48 u49 u50 u51 u52 u53 u54 u55 u56 u57 u58 u59 u60 u61 u62 u63 u64 u65 u66 u67 u68 u69 u70 u71 u72 u73 u74 u75 u76 u77 u78 u79 u80 u81 u82 u83 u84 u85 u86 u87 u88 u89 u90 u91 u92 u93 u94 u95 u96 u97 u98 u99 u100 u101 u102 u103 u104 u105 u106 u107 u108 u109 u110 u111 u112 u113 u114 u115 u116 u117 u118 u119 u120 : Value}
    (s0 : w.cell? ⟨S0, 0, none⟩ = some (.slice (some ⟨g, off, none⟩) p0 c0)) (i1 : w.cell? ⟨g, off + f * 3 + 1, none⟩ = some (.slice ap np cp)) (ra : RdS w (.slice ap np cp) d.params) (hk : (f : Int) < (p0 : Int)) (hna : d.params.length ≤ 1000000)
    (hQ : Hid (∀ {wx : World} {v3 v5 v17 v18 v19 v20 v21 v22 v23 v24 v25 v26 v27 v28 v29 v30 v31 v32 v33 v34 v35 v36 v37 v38 v39 v40 v41 : Value}, (∃ q, v3 = .bool q ∧ wx = w ∧ (q = false → q0 = false ∧ ∀ s ∈ d.params, s.size ≤ 60)) → Q .normal { tmps := #[u0, .pointer (some ⟨S0, 0, none⟩), u2, v3, .int .i64 f, v5, u6, u7, u8, u9, u10, u11, u12, u13, u14, u15, u16, v17, v18, v19, v20, v21, v22, v23, v24, v25, v26, v27, v28, v29, v30, v31, v32, v33, v34, v35, v36, v37, v38, v39, v40, v41, u42, u43, u44, u45, u46, u47, u48, u49, u50, u51, u52, u53, u54, u55, u56, u57, u58, u59, u60, u61, u62, u63, u64, u65, u66, u67, u68, u69, u70, u71, u72, u73, u74, u75, u76, u77, u78, u79, u80, u81, u82, u83, u84, u85, u86, u87, u88, u89, u90, u91, u92, u93, u94, u95, u96, u97, u98, u99, u100, u101, u102, u103, u104, u105, u106, u107, u108, u109, u110, u111, u112, u113, u114, u115, u116, u117, u118, u119, u120], defers := [] } wx)) :
    c.wp Try.prog Q { tmps := #[u0, .pointer (some ⟨S0, 0, none⟩), u2, .bool q0, .int .i64 f, .int .i64 0, u6, u7, u8, u9, u10, u11, u12, u13, u14, u15, u16, u17, u18, u19, u20, u21, u22, u23, u24, u25, u26, u27, u28, u29, u30, u31, u32, u33, u34, u35, u36, u37, u38, u39, u40, u41, u42, u43, u44, u45, u46, u47, u48, u49, u50, u51, u52, u53, u54, u55, u56, u57, u58, u59, u60, u61, u62, u63, u64, u65, u66, u67, u68, u69, u70, u71, u72, u73, u74, u75, u76, u77, u78, u79, u80, u81, u82, u83, u84, u85, u86, u87, u88, u89, u90, u91, u92, u93, u94, u95, u96, u97, u98, u99, u100, u101, u102, u103, u104, u105, u106, u107, u108, u109, u110, u111, u112, u113, u114, u115, u116, u117, u118, u119, u120], defers := [] } w := by
  conv at hc => lhs; whnf
  simp only [Option.some.injEq] at hc
  subst hc
  have hn8 : Hid (np = d.params.length) := Lib.hid (by obtain ⟨a, q, e⟩ := RdS.shape ra; simp only [Value.slice.injEq] at e; exact e.2.1)
  have hnm : np ≤ 1000000 := by rw [hn8.out]; exact hna
  replace ra := Lib.hid ra
  go_wp2_with fail
  go_loopw [3, 5] (fun b i wr => ∃ (k1 : Nat) (q : Bool), k1 ≤ np ∧ i = .int .i64 k1 ∧ b = .bool q ∧ wr = w ∧ Hid (q = false → q0 = false ∧ ∀ s ∈ d.params.take k1, s.size ≤ 60)) (fun _ i _ => np - (intOf i).toNat)
  case atStart => exact ⟨0, q0, Nat.zero_le _, rfl, rfl, rfl, Lib.hid (fun h => ⟨h, fun s hs => by simp at hs⟩)⟩
  case round =>
    obtain ⟨k1, q, hk1, rfl, rfl, rfl, hq⟩ := hrel
    by_cases hlt : k1 < np
    · have j1 : decide ((k1 : Int) < (np : Int)) = true := by simpa using hlt
      have j2 : (k1 : Int) < (np : Int) := by omega
      obtain ⟨s, hs⟩ : ∃ s, d.params[k1]? = some s := ⟨_, List.getElem?_eq_getElem (by rw [← hn8.out]; exact hlt)⟩
      obtain ⟨ga, oa, ca', e, hcl⟩ := RdS.cell ra.out hs
      rw [← hn8.out] at e
      simp only [Value.slice.injEq] at e
      obtain ⟨rfl, -, rfl⟩ := e
      have hsn := Lib.hid (short_snoc hs)
      clear hs
      cases q with
      | true =>
        have hq2 : Hid (true = false → q0 = false ∧ ∀ s ∈ d.params.take (k1 + 1), s.size ≤ 60) := Lib.hid (fun h => by cases h)
        go_wp2_with fail
        go_round
        case rel => exact ⟨k1 + 1, true, by omega, by go_num, rfl, by first | rfl | trivial, hq2⟩
        case measure => simp [intOf]; omega
      | false =>
        by_cases h60 : s.size ≤ 60
        · have d1 : decide ((s.size : Int) > 60) = false := decide_eq_false (by omega)
          have d2 : decide (60 < s.size) = false := decide_eq_false (by omega)
          have hq2 : Hid (false = false → q0 = false ∧ ∀ s ∈ d.params.take (k1 + 1), s.size ≤ 60) := Lib.hid (fun h => ⟨(hq.out h).1, hsn.out (hq.out h).2 h60⟩)
          go_wp2_with fail
          go_round
          case rel => exact ⟨k1 + 1, false, by omega, by go_num, rfl, by first | rfl | trivial, hq2⟩
          case measure => simp [intOf]; omega
        · have d1 : decide ((s.size : Int) > 60) = true := decide_eq_true (by omega)
          have d2 : decide (60 < s.size) = true := decide_eq_true (by omega)
          have hq2 : Hid (true = false → q0 = false ∧ ∀ s ∈ d.params.take (k1 + 1), s.size ≤ 60) := Lib.hid (fun h => by cases h)
          go_wp2_with fail
          go_round
          case rel => exact ⟨k1 + 1, true, by omega, by go_num, rfl, by first | rfl | trivial, hq2⟩
          case measure => simp [intOf]; omega
    · obtain rfl : k1 = np := by omega
      have j1 : decide ((k1 : Int) < (k1 : Int)) = false := by simp
      go_wp2_with fail
      refine hQ.out ⟨q, rfl, rfl, fun h => ?_⟩
      have := hq.out h
      rwa [List.take_of_length_le (by rw [← hn8.out]; exact Nat.le_refl _)] at this
end
section
open Go.RowKit Go.Maps Go.Shelf
attribute [local go_sem] Oper.semAt_some

theorem shortC_snoc {l : List Ins} {k : Nat} {c : Ins} (h : l[k]? = some c) (h1 : ∀ y ∈ l.take k, ShortI y) (hs : ShortI c) : ∀ y ∈ l.take (k + 1), ShortI y := by
  rw [take_snocS h]
  intro y hy
  rcases List.mem_append.1 hy with hy | hy
  · exact h1 y hy
  · rw [List.mem_singleton.1 hy]; exact hs
set_option maxRecDepth 20000 in
set_option maxHeartbeats 4000000 in
theorem wide6 {c : Code} (hc : Func.blockOf Try.f18 6 = some c) {Q : Exit → Act → World → Prop} {w : World} {nc cc : Nat} {ac : Option Addr} {x : Blk} {q0 : Bool} {u0 u1 u2 u4 u5 u6 u9 u10 u11 u12 u13 u14 u15 u16 u17 u18 u19 u20 u21 u22 u23 u24 u25 u26 u27 u28 u29 u30 u31 u32 u33 u34 u35 u36 u37 u38 u39 u40 u41 u42 u43 u44 u45 u46 u47 u48 u49 u50 u51 u52 u53 u54 u55 u56 u57 u58 u59 u60 u61 u62 u63 u64 u65 u66 u67 u68 u69 u70 u71 u72 u73 u74 u75 u76 u77 u78 u79 u80 u81 u82 u83 u84 u85 u86 u87 u88 u89 u90 u91 u92 u93 u94 u95 u96 u97 u98 u99 u100 u101 u102 u103 u104 u105 u106 u107 u108 u109 u110 u111 u112 u113 u114 u115 u116 u117 u118 u119 u120 : Value}
    (rc : RdE 8 RdIns w (.slice ac nc cc) x.code) (hnl : x.code.length ≤ 1000000) (hal : ∀ y ∈ x.code, y.args.length ≤ 1000000)
    (hQ : Hid (∀ {wx : World} {v3 v8 v9 v63 v64 v65 v66 v67 v68 v69 v70 v71 v72 v73 v74 v75 v76 v77 v78 v79 v80 v81 v82 v83 v84 v85 v86 v87 v88 v89 v90 v91 v92 v93 v94 v95 v96 v97 v98 v99 v100 v101 v102 v103 v104 v105 v106 v107 v108 v109 v110 v111 v112 v113 v114 v115 v116 v117 v118 v119 : Value}, (∃ q, v3 = .bool q ∧ wx = w ∧ (q = false → q0 = false ∧ ∀ c ∈ x.code, ShortI c)) → Q .normal { tmps := #[u0, u1, u2, v3, u4, u5, u6, .slice ac nc cc, v8, v9, u10, u11, u12, u13, u14, u15, u16, u17, u18, u19, u20, u21, u22, u23, u24, u25, u26, u27, u28, u29, u30, u31, u32, u33, u34, u35, u36, u37, u38, u39, u40, u41, u42, u43, u44, u45, u46, u47, u48, u49, u50, u51, u52, u53, u54, u55, u56, u57, u58, u59, u60, u61, u62, v63, v64, v65, v66, v67, v68, v69, v70, v71, v72, v73, v74, v75, v76, v77, v78, v79, v80, v81, v82, v83, v84, v85, v86, v87, v88, v89, v90, v91, v92, v93, v94, v95, v96, v97, v98, v99, v100, v101, v102, v103, v104, v105, v106, v107, v108, v109, v110, v111, v112, v113, v114, v115, v116, v117, v118, v119, u120], defers := [] } wx)) :
    c.wp Try.prog Q { tmps := #[u0, u1, u2, .bool q0, u4, u5, u6, .slice ac nc cc, .int .i64 0, u9, u10, u11, u12, u13, u14, u15, u16, u17, u18, u19, u20, u21, u22, u23, u24, u25, u26, u27, u28, u29, u30, u31, u32, u33, u34, u35, u36, u37, u38, u39, u40, u41, u42, u43, u44, u45, u46, u47, u48, u49, u50, u51, u52, u53, u54, u55, u56, u57, u58, u59, u60, u61, u62, u63, u64, u65, u66, u67, u68, u69, u70, u71, u72, u73, u74, u75, u76, u77, u78, u79, u80, u81, u82, u83, u84, u85, u86, u87, u88, u89, u90, u91, u92, u93, u94, u95, u96, u97, u98, u99, u100, u101, u102, u103, u104, u105, u106, u107, u108, u109, u110, u111, u112, u113, u114, u115, u116, u117, u118, u119, u120], defers := [] } w := by
  conv at hc => lhs; whnf
  simp only [Option.some.injEq] at hc
  subst hc
  have hn8 : Hid (nc = x.code.length) := Lib.hid (by obtain ⟨a, q, e⟩ := rc.form; simp only [Value.slice.injEq] at e; exact e.2.1)
  have hnm : nc ≤ 1000000 := by rw [hn8.out]; exact hnl
  replace rc := Lib.hid rc
  replace hal := Lib.hid hal
  go_wp2_with fail
  go_loopw [3, 8] (fun b i wr => ∃ (k : Nat) (q : Bool), k ≤ nc ∧ i = .int .i64 k ∧ b = .bool q ∧ wr = w ∧ Hid (q = false → q0 = false ∧ ∀ c ∈ x.code.take k, ShortI c)) (fun _ i _ => nc - (intOf i).toNat)
  case atStart => exact ⟨0, q0, Nat.zero_le _, rfl, rfl, rfl, Lib.hid (fun h => ⟨h, fun s hs => by simp at hs⟩)⟩
  case round =>
    obtain ⟨k, q, hk, rfl, rfl, rfl, hq⟩ := hrel
    by_cases hlt : k < nc
    · have j1 : decide ((k : Int) < (nc : Int)) = true := by simpa using hlt
      have j2 : (k : Int) < (nc : Int) := by omega
      obtain ⟨y, hy⟩ : ∃ y, x.code[k]? = some y := ⟨_, List.getElem?_eq_getElem (by rw [← hn8.out]; exact hlt)⟩
      obtain ⟨g, off, cap, cs, e, hgl, ⟨va, vl, rfl, ra, rl⟩, -, hcell⟩ := rc.out.at hy
      rw [← hn8.out] at e
      simp only [Value.slice.injEq] at e
      obtain ⟨rfl, -, rfl⟩ := e
      obtain ⟨aa, ca, rfl⟩ := ra.shape
      have i1 : wr.cell? ⟨g, off + k * 8 + 1, none⟩ = some (.string y.dst) := hcell 1 _ rfl
      have i2 : wr.cell? ⟨g, off + k * 8 + 2, none⟩ = some (.string y.a) := hcell 2 _ rfl
      have i3 : wr.cell? ⟨g, off + k * 8 + 3, none⟩ = some (.string y.b) := hcell 3 _ rfl
      have i6 : wr.cell? ⟨g, off + k * 8 + 6, none⟩ = some (.slice aa y.args.length ca) := hcell 6 _ rfl
      have hna := Lib.hid (hal.out y (List.mem_of_getElem? hy))
      replace hy := Lib.hid hy
      replace ra := Lib.hid ra
      clear hcell rl
      cases q with
      | true =>
        go_upto_block 8 with fail
        refine wide8 (by kernel_rfl) (w := wr) (y := y) (q0 := true) i6 ra.out j2 hna.out (Lib.hid ?_)
        intros
        rename_i hx8
        obtain ⟨q9, rfl, rfl, hq9⟩ := hx8
        have hq2 : Hid (q9 = false → q0 = false ∧ ∀ c ∈ x.code.take (k + 1), ShortI c) := Lib.hid (fun h => by
          obtain ⟨h1, h2⟩ := hq9 h
          cases h1)
        clear hq9
        go_wp2_with fail
        go_round
        case rel => exact ⟨k + 1, q9, by omega, by go_num, rfl, by first | rfl | trivial, hq2⟩
        case measure => simp [intOf]; omega
      | false =>
        by_cases h1 : y.dst.size ≤ 60
        · have ddst : decide ((y.dst.size : Int) > 60) = false := decide_eq_false (by omega)
          have edst : decide (60 < y.dst.size) = false := decide_eq_false (by omega)
          by_cases h2 : y.a.size ≤ 60
          · have da : decide ((y.a.size : Int) > 60) = false := decide_eq_false (by omega)
            have ea : decide (60 < y.a.size) = false := decide_eq_false (by omega)
            by_cases h3 : y.b.size ≤ 60
            · have db : decide ((y.b.size : Int) > 60) = false := decide_eq_false (by omega)
              have eb : decide (60 < y.b.size) = false := decide_eq_false (by omega)
              go_upto_block 8 with fail
              refine wide8 (by kernel_rfl) (w := wr) (y := y) (q0 := false) i6 ra.out j2 hna.out (Lib.hid ?_)
              intros
              rename_i hx8
              obtain ⟨q9, rfl, rfl, hq9⟩ := hx8
              have hq2 : Hid (q9 = false → q0 = false ∧ ∀ c ∈ x.code.take (k + 1), ShortI c) := Lib.hid (fun h => by
                have h4 := (hq9 h).2
                exact ⟨(hq.out rfl).1, shortC_snoc hy.out (hq.out rfl).2 ⟨h1, h2, h3, h4⟩⟩)
              clear hq9
              go_wp2_with fail
              go_round
              case rel => exact ⟨k + 1, q9, by omega, by go_num, rfl, by first | rfl | trivial, hq2⟩
              case measure => simp [intOf]; omega
            · have db : decide ((y.b.size : Int) > 60) = true := decide_eq_true (by omega)
              have eb : decide (60 < y.b.size) = true := decide_eq_true (by omega)
              go_upto_block 8 with fail
              refine wide8 (by kernel_rfl) (w := wr) (y := y) (q0 := true) i6 ra.out j2 hna.out (Lib.hid ?_)
              intros
              rename_i hx8
              obtain ⟨q9, rfl, rfl, hq9⟩ := hx8
              have hq2 : Hid (q9 = false → q0 = false ∧ ∀ c ∈ x.code.take (k + 1), ShortI c) := Lib.hid (fun h => by
                obtain ⟨h1, h2⟩ := hq9 h
                cases h1)
              clear hq9
              go_wp2_with fail
              go_round
              case rel => exact ⟨k + 1, q9, by omega, by go_num, rfl, by first | rfl | trivial, hq2⟩
              case measure => simp [intOf]; omega
          · have da : decide ((y.a.size : Int) > 60) = true := decide_eq_true (by omega)
            have ea : decide (60 < y.a.size) = true := decide_eq_true (by omega)
            go_upto_block 8 with fail
            refine wide8 (by kernel_rfl) (w := wr) (y := y) (q0 := true) i6 ra.out j2 hna.out (Lib.hid ?_)
            intros
            rename_i hx8
            obtain ⟨q9, rfl, rfl, hq9⟩ := hx8
            have hq2 : Hid (q9 = false → q0 = false ∧ ∀ c ∈ x.code.take (k + 1), ShortI c) := Lib.hid (fun h => by
              obtain ⟨h1, h2⟩ := hq9 h
              cases h1)
            clear hq9
            go_wp2_with fail
            go_round
            case rel => exact ⟨k + 1, q9, by omega, by go_num, rfl, by first | rfl | trivial, hq2⟩
            case measure => simp [intOf]; omega
        · have ddst : decide ((y.dst.size : Int) > 60) = true := decide_eq_true (by omega)
          have edst : decide (60 < y.dst.size) = true := decide_eq_true (by omega)
          go_upto_block 8 with fail
          refine wide8 (by kernel_rfl) (w := wr) (y := y) (q0 := true) i6 ra.out j2 hna.out (Lib.hid ?_)
          intros
          rename_i hx8
          obtain ⟨q9, rfl, rfl, hq9⟩ := hx8
          have hq2 : Hid (q9 = false → q0 = false ∧ ∀ c ∈ x.code.take (k + 1), ShortI c) := Lib.hid (fun h => by
            obtain ⟨h1, h2⟩ := hq9 h
            cases h1)
          clear hq9
          go_wp2_with fail
          go_round
          case rel => exact ⟨k + 1, q9, by omega, by go_num, rfl, by first | rfl | trivial, hq2⟩
          case measure => simp [intOf]; omega
    · obtain rfl : k = nc := by omega
      have j1 : decide ((k : Int) < (k : Int)) = false := by simp
      go_wp2_with fail
      refine hQ.out ⟨q, rfl, rfl, fun h => ?_⟩
      have := hq.out h
      rwa [List.take_of_length_le (by rw [← hn8.out]; exact Nat.le_refl _)] at this
end
section
open Go.RowKit Go.Maps Go.Shelf
attribute [local go_sem] Oper.semAt_some

set_option maxRecDepth 20000 in
set_option maxHeartbeats 4000000 in
theorem wide4 {c : Code} (hc : Func.blockOf Try.f18 4 = some c) {Q : Exit → Act → World → Prop} {w : World} {S0 g off f p0 c0 nb cb : Nat} {ab : Option Addr} {d : Fun} {q0 : Bool} {u0 u2 u5 u7 u8 u9 u10 u11 u12 u13 u14 u15 u16 u17 u18 u19 u20 u21 u22 u23 u24 u25 u26 u27 u28 u29 u30 u31 u32 u33 u34 u35 u36 u37 u38 u39 u40 u41 u42 u43 u44 u45 u46 u47 u48 u49 u50 u51 u52 u53 u54 u55 u56 u57 u58 u59 u60 u61 u62 u63 u64 u65 u66 u67 u68 u69 u70 u71 u72 u73 u74 u75 u76 u77 u78 u79 u80 u81 u82 u83 u84 u85 u86 u87 u88 u89 u90 u91 u92 u93 u94 u95 u96 u97 u98 u99 u100 u101 u102 u103 u104 u105 u106 u107 u108 u109 u110 u111 u112 u113 u114 u115 u116 u117 u118 u119 u120 : Value}
    (s0 : w.cell? ⟨S0, 0, none⟩ = some (.slice (some ⟨g, off, none⟩) p0 c0)) (i2 : w.cell? ⟨g, off + f * 3 + 2, none⟩ = some (.slice ab nb cb)) (rb : RdE 2 RdBlk w (.slice ab nb cb) d.blocks) (hk : (f : Int) < (p0 : Int)) (hnl : d.blocks.length ≤ 1000000) (hal : ∀ x ∈ d.blocks, x.code.length ≤ 1000000 ∧ ∀ y ∈ x.code, y.args.length ≤ 1000000)
    (hQ : Hid (∀ {wx : World} {v3 v6 v7 v8 v9 v42 v43 v44 v45 v46 v47 v48 v49 v50 v51 v52 v53 v54 v55 v56 v57 v58 v59 v60 v61 v62 v63 v64 v65 v66 v67 v68 v69 v70 v71 v72 v73 v74 v75 v76 v77 v78 v79 v80 v81 v82 v83 v84 v85 v86 v87 v88 v89 v90 v91 v92 v93 v94 v95 v96 v97 v98 v99 v100 v101 v102 v103 v104 v105 v106 v107 v108 v109 v110 v111 v112 v113 v114 v115 v116 v117 v118 v119 : Value}, (∃ q, v3 = .bool q ∧ wx = w ∧ (q = false → q0 = false ∧ ∀ x ∈ d.blocks, ∀ c ∈ x.code, ShortI c)) → Q .normal { tmps := #[u0, .pointer (some ⟨S0, 0, none⟩), u2, v3, .int .i64 f, u5, v6, v7, v8, v9, u10, u11, u12, u13, u14, u15, u16, u17, u18, u19, u20, u21, u22, u23, u24, u25, u26, u27, u28, u29, u30, u31, u32, u33, u34, u35, u36, u37, u38, u39, u40, u41, v42, v43, v44, v45, v46, v47, v48, v49, v50, v51, v52, v53, v54, v55, v56, v57, v58, v59, v60, v61, v62, v63, v64, v65, v66, v67, v68, v69, v70, v71, v72, v73, v74, v75, v76, v77, v78, v79, v80, v81, v82, v83, v84, v85, v86, v87, v88, v89, v90, v91, v92, v93, v94, v95, v96, v97, v98, v99, v100, v101, v102, v103, v104, v105, v106, v107, v108, v109, v110, v111, v112, v113, v114, v115, v116, v117, v118, v119, u120], defers := [] } wx)) :
    c.wp Try.prog Q { tmps := #[u0, .pointer (some ⟨S0, 0, none⟩), u2, .bool q0, .int .i64 f, u5, .int .i64 0, u7, u8, u9, u10, u11, u12, u13, u14, u15, u16, u17, u18, u19, u20, u21, u22, u23, u24, u25, u26, u27, u28, u29, u30, u31, u32, u33, u34, u35, u36, u37, u38, u39, u40, u41, u42, u43, u44, u45, u46, u47, u48, u49, u50, u51, u52, u53, u54, u55, u56, u57, u58, u59, u60, u61, u62, u63, u64, u65, u66, u67, u68, u69, u70, u71, u72, u73, u74, u75, u76, u77, u78, u79, u80, u81, u82, u83, u84, u85, u86, u87, u88, u89, u90, u91, u92, u93, u94, u95, u96, u97, u98, u99, u100, u101, u102, u103, u104, u105, u106, u107, u108, u109, u110, u111, u112, u113, u114, u115, u116, u117, u118, u119, u120], defers := [] } w := by
  conv at hc => lhs; whnf
  simp only [Option.some.injEq] at hc
  subst hc
  have hn8 : Hid (nb = d.blocks.length) := Lib.hid (by obtain ⟨a, q, e⟩ := rb.form; simp only [Value.slice.injEq] at e; exact e.2.1)
  have hnm : nb ≤ 1000000 := by rw [hn8.out]; exact hnl
  replace rb := Lib.hid rb
  replace hal := Lib.hid hal
  go_wp2_with fail
  go_loopw [3, 6] (fun b i wr => ∃ (k : Nat) (q : Bool), k ≤ nb ∧ i = .int .i64 k ∧ b = .bool q ∧ wr = w ∧ Hid (q = false → q0 = false ∧ ∀ x ∈ d.blocks.take k, ∀ c ∈ x.code, ShortI c)) (fun _ i _ => nb - (intOf i).toNat)
  case atStart => exact ⟨0, q0, Nat.zero_le _, rfl, rfl, rfl, Lib.hid (fun h => ⟨h, fun s hs => by simp at hs⟩)⟩
  case round =>
    obtain ⟨k, q, hk, rfl, rfl, rfl, hq⟩ := hrel
    by_cases hlt : k < nb
    · have j1 : decide ((k : Int) < (nb : Int)) = true := by simpa using hlt
      have j2 : (k : Int) < (nb : Int) := by omega
      obtain ⟨x, hx⟩ : ∃ x, d.blocks[k]? = some x := ⟨_, List.getElem?_eq_getElem (by rw [← hn8.out]; exact hlt)⟩
      obtain ⟨ga, oa, cap, cs, e, hgl, ⟨vc, rfl, rc⟩, -, hcell⟩ := rb.out.at hx
      rw [← hn8.out] at e
      simp only [Value.slice.injEq] at e
      obtain ⟨rfl, -, rfl⟩ := e
      obtain ⟨ac, cc, rfl⟩ := rc.form
      have i1b : wr.cell? ⟨ga, oa + k * 2 + 1, none⟩ = some (.slice ac x.code.length cc) := hcell 1 _ rfl
      have i0b : wr.cell? ⟨ga, oa + k * 2, none⟩ = some (.string x.label) := hcell 0 _ rfl
      obtain ⟨hx1, hx2⟩ := hal.out x (List.mem_of_getElem? hx)
      replace hx := Lib.hid hx
      replace rc := Lib.hid rc
      replace hx1 := Lib.hid hx1
      replace hx2 := Lib.hid hx2
      clear hcell
      go_upto_block 6 with fail
      refine wide6 (by kernel_rfl) (w := wr) (x := x) (q0 := q) rc.out hx1.out hx2.out (Lib.hid ?_)
      intros
      rename_i hx8
      obtain ⟨q9, rfl, rfl, hq9⟩ := hx8
      have hq2 : Hid (q9 = false → q0 = false ∧ ∀ x ∈ d.blocks.take (k + 1), ∀ c ∈ x.code, ShortI c) := Lib.hid (fun h => by
        obtain ⟨h1, h2⟩ := hq9 h
        obtain ⟨h3, h4⟩ := hq.out h1
        refine ⟨h3, fun z hz => ?_⟩
        rw [take_snocS hx.out] at hz
        rcases List.mem_append.1 hz with hz | hz
        · exact h4 z hz
        · rw [List.mem_singleton.1 hz]; exact h2)
      clear hq9
      go_wp2_with fail
      go_round
      case rel => exact ⟨k + 1, q9, by omega, by go_num, rfl, by first | rfl | trivial, hq2⟩
      case measure => simp [intOf]; omega
    · obtain rfl : k = nb := by omega
      have j1 : decide ((k : Int) < (k : Int)) = false := by simp
      go_wp2_with fail
      refine hQ.out ⟨q, rfl, rfl, fun h => ?_⟩
      have := hq.out h
      rwa [List.take_of_length_le (by rw [← hn8.out]; exact Nat.le_refl _)] at this

set_option maxRecDepth 20000 in
set_option maxHeartbeats 4000000 in
theorem wide_any {w : World} {v : Value} {P : List Fun} (h : RdE 3 RdFun w v P) (hL : LightP P) : Calls Try.prog 18 #[.agg #[v]] w fun e w' => ∃ q, e = .returned (.bool q) ∧ Below w.heap.size w w' ∧ (q = false → ∀ d ∈ P, ShortF d) := by
  obtain ⟨a0, c0, rfl⟩ := h.form
  obtain ⟨p, hp⟩ : ∃ p, p = P.length := ⟨_, rfl⟩
  rw [← hp] at h ⊢
  have hp70 : p ≤ 70 := by rw [hp]; exact hL.1
  have hb0 : Below w.heap.size w (w.alloc (.cells #[.slice a0 p c0] 26)) := (Below.refl _ _).alloc (Nat.le_refl _) _
  have s0 : (w.alloc (.cells #[.slice a0 p c0] 26)).cell? ⟨w.heap.size, 0, none⟩ = some (.slice a0 p c0) := by rw [blk_cell (at_newN rfl)]; rfl
  replace h := Lib.hid (RdE.below (fun _ _ h => h.below hb0) h hb0)
  replace hp := Lib.hid hp
  replace hL := Lib.hid hL
  go_enter Try.func18, Try.ntmps18
  go_upto_region 1 with fail
  generalize (w.alloc (.cells #[.slice a0 p c0] 26)) = w1 at hb0 s0 h ⊢
  obtain ⟨S0, hS0⟩ : ∃ S0, S0 = w.heap.size := ⟨_, rfl⟩
  rw [← hS0] at s0 ⊢
  replace hS0 := Lib.hid hS0
  replace hb0 := Lib.hid hb0
  go_wp2_with fail
  go_loopw [3, 4] (fun b i wr => ∃ (k : Nat) (q : Bool), k ≤ p ∧ i = .int .i64 k ∧ b = .bool q ∧ wr = w1 ∧ Hid (q = false → ∀ d ∈ P.take k, ShortF d)) (fun _ i _ => p - (intOf i).toNat)
  case atStart => exact ⟨0, false, Nat.zero_le _, rfl, rfl, rfl, Lib.hid (fun h s hs => by simp at hs)⟩
  case round =>
    obtain ⟨k, q, hk, rfl, rfl, rfl, hq⟩ := hrel
    by_cases hlt : k < p
    · have j1 : decide ((k : Int) < (p : Int)) = true := by simpa using hlt
      have j2 : (k : Int) < (p : Int) := by omega
      obtain ⟨d, hd⟩ : ∃ d, P[k]? = some d := ⟨_, List.getElem?_eq_getElem (by rw [← hp.out]; exact hlt)⟩
      obtain ⟨g, off, cap, cs, e, hgl, ⟨vp, vb, rfl, rp, rb⟩, -, hcell⟩ := h.out.at hd
      rw [← hp.out] at e
      simp only [Value.slice.injEq] at e
      obtain ⟨rfl, -, rfl⟩ := e
      obtain ⟨ap, cp, rfl⟩ := rp.shape
      obtain ⟨ab, cb, rfl⟩ := rb.form
      have i1 : wr.cell? ⟨g, off + k * 3 + 1, none⟩ = some (.slice ap d.params.length cp) := hcell 1 _ rfl
      have i2 : wr.cell? ⟨g, off + k * 3 + 2, none⟩ = some (.slice ab d.blocks.length cb) := hcell 2 _ rfl
      obtain ⟨hl1, hl2, hl3⟩ := hL.out.2 d (List.mem_of_getElem? hd)
      replace hd := Lib.hid hd
      replace rp := Lib.hid rp
      replace rb := Lib.hid rb
      replace hl3 := Lib.hid hl3
      clear hcell
      go_upto_block 2 with fail
      refine wide2 (by kernel_rfl) (w := wr) (d := d) (q0 := q) s0 i1 rp.out j2 (by omega) (Lib.hid ?_)
      intros
      rename_i hx8
      obtain ⟨q8, rfl, rfl, hq8⟩ := hx8
      replace hq8 := Lib.hid hq8
      go_upto_block 4 with fail
      refine wide4 (by kernel_rfl) (d := d) (q0 := q8) s0 i2 rb.out j2 (by omega) (fun x hx => ⟨by have := (hl3.out x hx).1; omega, fun y hy => by have := ((hl3.out x hx).2 y hy).1; omega⟩) (Lib.hid ?_)
      intros
      rename_i hx8
      obtain ⟨q9, rfl, rfl, hq9⟩ := hx8
      have hq2 : Hid (q9 = false → ∀ d ∈ P.take (k + 1), ShortF d) := Lib.hid (fun h => by
        obtain ⟨h1, h2⟩ := hq9 h
        obtain ⟨h3, h4⟩ := hq8.out h1
        intro z hz
        rw [take_snocS hd.out] at hz
        rcases List.mem_append.1 hz with hz | hz
        · exact hq.out h3 z hz
        · rw [List.mem_singleton.1 hz]; exact ⟨h4, h2⟩)
      clear hq9
      go_wp2_with fail
      go_round
      case rel => exact ⟨k + 1, q9, by omega, by go_num, rfl, by first | rfl | trivial, hq2⟩
      case measure => simp [intOf]; omega
    · obtain rfl : k = p := by omega
      have j1 : decide ((k : Int) < (k : Int)) = false := by simp
      go_wp2_with fail
      go_ret
      exact ⟨q, rfl, hb0.out, fun hqf => by
        have := hq.out hqf
        rwa [List.take_of_length_le (by rw [← hp.out]; exact Nat.le_refl _)] at this⟩
end
section
open Go.RowKit Go.Maps Go.Shelf
attribute [local go_sem] Oper.semAt_some

theorem renV_app {s : ByteArray} (h : ¬ (s.toList.isEmpty || isNull s) = true) : (⟨#[118]⟩ : ByteArray) ++ s = renV s := by
  apply toList_inj
  rw [renV_new h, Lib.toList_data, Lib.toList_data]
  simp
theorem ren_one {s : ByteArray} (hs : s.size ≤ 1000000) (w : World) : Calls Try.prog 23 #[.string s] w fun e w' => e = .returned (.string (renV s)) ∧ w' = w := by
  cases h1 : s.toList.isEmpty with
  | true =>
    rw [renV_old (by rw [h1]; rfl)]
    go_enter Try.func23, Try.ntmps23
    go_wp2_with fail
    go_ret
    exact ⟨rfl, rfl⟩
  | false =>
    cases h2 : isNull s with
    | true =>
      rw [renV_old (by rw [h2]; simp)]
      have h2 : (s.toList == [110, 117, 108, 108]) = true := h2
      go_enter Try.func23, Try.ntmps23
      go_wp2_with fail
      go_ret
      exact ⟨rfl, rfl⟩
    | false =>
      rw [← renV_app (by rw [h1, h2]; simp)]
      have h2 : (s.toList == [110, 117, 108, 108]) = false := h2
      have hz : (⟨#[118]⟩ : ByteArray).size + s.size ≤ 9223372036854775807 := by
        have : (⟨#[118]⟩ : ByteArray).size = 1 := rfl
        omega
      go_enter Try.func23, Try.ntmps23
      go_wp2_with fail
      go_ret
      exact ⟨rfl, rfl⟩
end
end Go.Proofs.YtjblhiekccjdcaaR
