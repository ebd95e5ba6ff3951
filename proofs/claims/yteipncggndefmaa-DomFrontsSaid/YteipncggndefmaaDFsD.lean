/- DomFronts: the least set, step by step. -/
import Derived.Test.YteipncggndefmaaDFsA
import Derived.Test.YteipncggndefmaaDIterW
namespace Go.Proofs.Yteipncggndefmaa
open Go.RowKit Go.Maps Go.Shelf

/-- What a row adds to what is marked, and whether anything was new. -/
structure Mrk (n : Nat) (s : List Nat) (m0 : Bool) (add : Nat → Prop) (s' : List Nat) (mr : Bool) : Prop where
  mem : ∀ z, z ∈ s' ↔ z ∈ s ∨ add z
  le : unseen n s' ≤ unseen n s
  lt : mr = true → m0 = true ∨ unseen n s' < unseen n s
  eq : mr = false → m0 = false ∧ ∀ z, z ∈ s' → z ∈ s
theorem Mrk.none (n : Nat) (s : List Nat) (m0 : Bool) {add : Nat → Prop} (h : ∀ z, ¬ add z) : Mrk n s m0 add s m0 :=
  ⟨fun z => ⟨.inl, fun h' => h'.elim id (fun h' => absurd h' (h z))⟩, Nat.le_refl _, .inl, fun h => ⟨h, fun _ h => h⟩⟩
theorem Mrk.old {n : Nat} {s s' : List Nat} {m0 mr : Bool} {add add' : Nat → Prop} (h : Mrk n s m0 add s' mr) {y : Nat} (hy : y ∈ s') (ha : ∀ z, add' z ↔ add z ∨ z = y) : Mrk n s m0 add' s' mr :=
  ⟨fun z => by
    rw [ha, h.mem]
    constructor
    · exact fun h => h.imp id .inl
    · rintro (h1 | h1 | rfl)
      · exact .inl h1
      · exact .inr h1
      · exact (h.mem _).1 hy, h.le, h.lt, h.eq⟩
theorem Mrk.new {n : Nat} {s s' : List Nat} {m0 mr : Bool} {add add' : Nat → Prop} (h : Mrk n s m0 add s' mr) {y : Nat} (hn : y < n) (hy : y ∉ s') (ha : ∀ z, add' z ↔ add z ∨ z = y) : Mrk n s m0 add' (y :: s') true := by
  have hlt := unseen_lt hn hy
  have hle := h.le
  refine ⟨fun z => ?_, by omega, fun _ => .inr (by omega), fun h => (by cases h)⟩
  rw [ha, List.mem_cons, h.mem]
  constructor
  · rintro (h1 | h1 | h1)
    · exact .inr (.inr h1)
    · exact .inl h1
    · exact .inr (.inl h1)
  · rintro (h1 | h1 | h1)
    · exact .inr (.inl h1)
    · exact .inr (.inr h1)
    · exact .inl h1
/-- A round of marking: what has been gone through. -/
structure Mak (n : Nat) (F : List (List Int)) (l : List Int) (s : List Nat) (k : Nat) (s' : List Nat) (mr : Bool) : Prop where
  sound : ∀ y ∈ s', ItR F l y
  sub : ∀ y ∈ s, y ∈ s'
  le : unseen n s' ≤ unseen n s
  lt : mr = true → unseen n s' < unseen n s
  eq : mr = false → (∀ z, z ∈ s' → z ∈ s) ∧ ∀ x, x < k → ((x : Int) ∈ l ∨ x ∈ s) → ∀ y, Edge F x y → y ∈ s
theorem Mak.begin {n : Nat} {F : List (List Int)} {l : List Int} {s : List Nat} (h : ∀ y ∈ s, ItR F l y) : Mak n F l s 0 s false :=
  ⟨h, fun _ h => h, Nat.le_refl _, fun h => (by cases h), fun _ => ⟨fun _ h => h, fun x hx => by omega⟩⟩
theorem Mak.step {n : Nat} {F : List (List Int)} {l r : List Int} {s s' s2 : List Nat} {k : Nat} {mr m2 : Bool} (h : Mak n F l s k s' mr) (hr : F[k]? = some r) (hv : ∀ z ∈ r, 0 ≤ z ∧ z < F.length)
    (hm : Mrk n s' mr (fun z => ((k : Int) ∈ l ∨ k ∈ s') ∧ (z : Int) ∈ r) s2 m2) : Mak n F l s (k + 1) s2 m2 := by
  have hk := (List.getElem?_eq_some_iff.1 hr).1
  have he : ∀ y : Nat, Edge F k y ↔ (y : Int) ∈ r := fun y => by
    constructor
    · rintro ⟨-, r', hr', hm'⟩
      obtain rfl := Option.some.inj (hr.symm.trans hr')
      exact hm'
    · intro hm'
      have := hv _ hm'
      exact ⟨by omega, r, hr, hm'⟩
  have hle := h.le
  have hle2 := hm.le
  refine ⟨fun y hy => ?_, fun y hy => (hm.mem y).2 (.inl (h.sub y hy)), by omega, fun e => ?_, fun e => ?_⟩
  · rcases (hm.mem y).1 hy with h1 | ⟨h1, h2⟩
    · exact h.sound y h1
    · rcases h1 with h1 | h1
      · exact ⟨k, k, h1, .refl hk, (he y).2 h2⟩
      · obtain ⟨a, b, c1, c2, c3⟩ := h.sound k h1
        exact ⟨a, k, c1, .step c2 c3, (he y).2 h2⟩
  · rcases hm.lt e with h1 | h1
    · have := h.lt h1; omega
    · omega
  · obtain ⟨h1, h2⟩ := hm.eq e
    obtain ⟨h3, h4⟩ := h.eq h1
    refine ⟨fun z hz => h3 z (h2 z hz), fun x hx hxs y hy => ?_⟩
    by_cases ex : x = k
    · subst ex
      exact h3 y (h2 y ((hm.mem y).2 (.inr ⟨hxs.imp id (h.sub x), (he y).1 hy⟩)))
    · exact h4 x (by omega) hxs y hy
theorem Mak.closed {n : Nat} {F : List (List Int)} {l : List Int} {s s' : List Nat} (h : Mak n F l s F.length s' false) (y : Nat) : y ∈ s' ↔ ItR F l y := by
  obtain ⟨h1, h2⟩ := h.eq rfl
  refine ⟨h.sound y, ?_⟩
  rintro ⟨a, b, c1, c2, c3⟩
  have key : ∀ {b}, Way F a b → (b : Int) ∈ l ∨ b ∈ s := by
    intro b hw
    induction hw with
    | refl _ => exact .inl c1
    | @step b c hw e ih => exact .inr (h2 b e.lt.1 ih c e)
  exact h.sub y (h2 b c2.lt.2 (key c2) y c3)
set_option maxRecDepth 20000 in
set_option maxHeartbeats 4000000 in
theorem dfr16 {c : Code} (hc : Func.blockOf Try.f7 16 = some c) {Q : Exit → Act → World → Prop} {w : World} {x cl p : Nat} {al : Option Addr} {l : List Int} {p0 : Bool} {u0 u1 u3 u4 u5 u6 u7 u8 u9 u10 u11 u12 u13 u14 u15 u16 u17 u18 u19 u20 u21 u25 u26 u27 u28 u29 u30 u31 u32 u33 u34 u35 u36 u37 u38 u39 u40 u41 u42 u43 u44 u45 u46 u47 u48 u49 u50 u51 u52 u53 u54 u55 u56 u57 u58 u59 u60 u61 u62 u63 u64 u65 u66 u67 u68 u69 u70 u71 u72 u73 u74 u75 u76 u77 u78 u79 u80 u81 u82 u83 u84 u85 u86 u87 u88 u89 u90 u91 u92 u93 u94 u95 u96 u97 u98 u99 u100 u101 u102 u103 u104 u105 u106 u107 u108 u109 u110 u111 u112 u113 u114 u115 u116 u117 u118 u119 u120 u121 u122 u123 u124 u125 u126 u127 u128 u129 u130 u131 u132 u133 u134 u135 u136 u137 u138 u139 u140 u141 u142 u143 u144 u145 u146 u147 u148 u149 u150 u151 u152 u153 u154 u155 u156 u157 u158 u159 u160 u161 u162 u163 u164 u165 u166 u167 u168 u169 u170 u171 u172 u173 u174 u175 u176 u177 u178 u179 u180 u181 u182 u183 u184 u185 u186 u187 u188 u189 u190 u191 u192 u193 u194 u195 u196 u197 u198 u199 u200 u201 u202 u203 u204 u205 u206 u207 u208 u209 u210 u211 u212 u213 u214 u215 u216 u217 u218 u219 u220 u221 u222 u223 u224 u225 u226 u227 u228 u229 u230 u231 u232 u233 u234 u235 u236 u237 u238 u239 u240 u241 u242 u243 u244 u245 u246 u247 u248 u249 u250 u251 u252 u253 : Value}
    (hp : p = l.length) (hrd : RdI w (.slice al p cl) l) (hll : p ≤ 100000)
    (hQ : Hid (∀ {wx : World} {v23 v24 v191 v192 v193 v194 v195 v196 v197 v198 v199 v200 v201 v202 v203 v204 v205 : Value}, (v23 = .bool (p0 || decide ((x : Int) ∈ l)) ∧ wx = w) → Q .normal { tmps := #[u0, u1, .slice al p cl, u3, u4, u5, u6, u7, u8, u9, u10, u11, u12, u13, u14, u15, u16, u17, u18, u19, u20, u21, .int .i64 x, v23, v24, u25, u26, u27, u28, u29, u30, u31, u32, u33, u34, u35, u36, u37, u38, u39, u40, u41, u42, u43, u44, u45, u46, u47, u48, u49, u50, u51, u52, u53, u54, u55, u56, u57, u58, u59, u60, u61, u62, u63, u64, u65, u66, u67, u68, u69, u70, u71, u72, u73, u74, u75, u76, u77, u78, u79, u80, u81, u82, u83, u84, u85, u86, u87, u88, u89, u90, u91, u92, u93, u94, u95, u96, u97, u98, u99, u100, u101, u102, u103, u104, u105, u106, u107, u108, u109, u110, u111, u112, u113, u114, u115, u116, u117, u118, u119, u120, u121, u122, u123, u124, u125, u126, u127, u128, u129, u130, u131, u132, u133, u134, u135, u136, u137, u138, u139, u140, u141, u142, u143, u144, u145, u146, u147, u148, u149, u150, u151, u152, u153, u154, u155, u156, u157, u158, u159, u160, u161, u162, u163, u164, u165, u166, u167, u168, u169, u170, u171, u172, u173, u174, u175, u176, u177, u178, u179, u180, u181, u182, u183, u184, u185, u186, u187, u188, u189, u190, v191, v192, v193, v194, v195, v196, v197, v198, v199, v200, v201, v202, v203, v204, v205, u206, u207, u208, u209, u210, u211, u212, u213, u214, u215, u216, u217, u218, u219, u220, u221, u222, u223, u224, u225, u226, u227, u228, u229, u230, u231, u232, u233, u234, u235, u236, u237, u238, u239, u240, u241, u242, u243, u244, u245, u246, u247, u248, u249, u250, u251, u252, u253], defers := [] } wx)) :
    c.wp Try.prog Q { tmps := #[u0, u1, .slice al p cl, u3, u4, u5, u6, u7, u8, u9, u10, u11, u12, u13, u14, u15, u16, u17, u18, u19, u20, u21, .int .i64 x, .bool p0, .int .i64 0, u25, u26, u27, u28, u29, u30, u31, u32, u33, u34, u35, u36, u37, u38, u39, u40, u41, u42, u43, u44, u45, u46, u47, u48, u49, u50, u51, u52, u53, u54, u55, u56, u57, u58, u59, u60, u61, u62, u63, u64, u65, u66, u67, u68, u69, u70, u71, u72, u73, u74, u75, u76, u77, u78, u79, u80, u81, u82, u83, u84, u85, u86, u87, u88, u89, u90, u91, u92, u93, u94, u95, u96, u97, u98, u99, u100, u101, u102, u103, u104, u105, u106, u107, u108, u109, u110, u111, u112, u113, u114, u115, u116, u117, u118, u119, u120, u121, u122, u123, u124, u125, u126, u127, u128, u129, u130, u131, u132, u133, u134, u135, u136, u137, u138, u139, u140, u141, u142, u143, u144, u145, u146, u147, u148, u149, u150, u151, u152, u153, u154, u155, u156, u157, u158, u159, u160, u161, u162, u163, u164, u165, u166, u167, u168, u169, u170, u171, u172, u173, u174, u175, u176, u177, u178, u179, u180, u181, u182, u183, u184, u185, u186, u187, u188, u189, u190, u191, u192, u193, u194, u195, u196, u197, u198, u199, u200, u201, u202, u203, u204, u205, u206, u207, u208, u209, u210, u211, u212, u213, u214, u215, u216, u217, u218, u219, u220, u221, u222, u223, u224, u225, u226, u227, u228, u229, u230, u231, u232, u233, u234, u235, u236, u237, u238, u239, u240, u241, u242, u243, u244, u245, u246, u247, u248, u249, u250, u251, u252, u253], defers := [] } w := by
  conv at hc => lhs; whnf
  simp only [Option.some.injEq] at hc
  subst hc
  replace hp := Lib.hid hp
  replace hrd := Lib.hid hrd
  go_wp2_with fail
  go_loopw [23, 24] (fun v i wr => ∃ k : Nat, k ≤ p ∧ i = .int .i64 k ∧ v = .bool (p0 || memT l k x) ∧ wr = w) (fun _ i _ => p - (intOf i).toNat)
  case atStart => exact ⟨0, Nat.zero_le _, rfl, by rw [memT_zero]; simp, rfl⟩
  case round =>
    obtain ⟨k, hk, rfl, rfl, rfl⟩ := hrel
    by_cases hlt : k < p
    · obtain ⟨z, hz⟩ : ∃ z, l[k]? = some z := ⟨_, List.getElem?_eq_getElem (by rw [← hp.out]; exact hlt)⟩
      obtain ⟨b2, off2, cap2, e2, hc2⟩ := RdI.cell hrd.out hz
      rw [← hp.out] at e2
      simp only [Value.slice.injEq] at e2
      obtain ⟨rfl, -, rfl⟩ := e2
      have j1 : decide ((k : Int) < (p : Int)) = true := by simpa using hlt
      have j2 : (k : Int) < (p : Int) := by omega
      have hs := Lib.hid (memT_succ (y := x) hz)
      clear hz
      generalize hm : memT l k x = m at hs ⊢
      generalize hzz : (z == (x : Int)) = e at hs
      replace hm := Lib.hid hm
      cases p0 <;> cases m <;> cases e <;> (
        go_wp2_with fail
        exact ⟨⟨k + 1, by omega, by go_num, by rw [hs.out]; rfl, by first | rfl | trivial⟩, by simp [intOf]; omega⟩)
    · obtain rfl : k = p := by omega
      have j1 : decide ((k : Int) < (k : Int)) = false := by simp
      go_wp2_with fail
      refine hQ.out ⟨?_, rfl⟩
      rw [hp.out]
      unfold memT
      rw [List.take_length]

set_option maxRecDepth 20000 in
set_option maxHeartbeats 4000000 in
theorem dfr18 {c : Code} (hc : Func.blockOf Try.f7 18 = some c) {Q : Exit → Act → World → Prop} {w : World} {n S x bF oF cf cr : Nat} {ar : Option Addr} {r : List Int} {s : List Nat} {m0 g : Bool} {u0 u1 u2 u3 u4 u5 u6 u7 u9 u10 u11 u12 u13 u14 u15 u16 u17 u18 u19 u24 u26 u27 u28 u29 u30 u31 u32 u33 u34 u35 u36 u37 u38 u39 u40 u41 u42 u43 u44 u45 u46 u47 u48 u49 u50 u51 u52 u53 u54 u55 u56 u57 u58 u59 u60 u61 u62 u63 u64 u65 u66 u67 u68 u69 u70 u71 u72 u73 u74 u75 u76 u77 u78 u79 u80 u81 u82 u83 u84 u85 u86 u87 u88 u89 u90 u91 u92 u93 u94 u95 u96 u97 u98 u99 u100 u101 u102 u103 u104 u105 u106 u107 u108 u109 u110 u111 u112 u113 u114 u115 u116 u117 u118 u119 u120 u121 u122 u123 u124 u125 u126 u127 u128 u129 u130 u131 u132 u133 u134 u135 u136 u137 u138 u139 u140 u141 u142 u143 u144 u145 u146 u147 u148 u149 u150 u151 u152 u153 u154 u155 u156 u157 u158 u159 u160 u161 u162 u163 u164 u165 u166 u167 u168 u169 u170 u171 u172 u173 u174 u175 u176 u177 u178 u179 u180 u181 u182 u183 u184 u185 u186 u187 u188 u189 u190 u191 u192 u193 u194 u195 u196 u197 u198 u199 u200 u201 u202 u203 u204 u205 u206 u207 u208 u209 u210 u211 u212 u213 u214 u215 u216 u217 u218 u219 u220 u221 u222 u223 u224 u225 u226 u227 u228 u229 u230 u231 u232 u233 u234 u235 u236 u237 u238 u239 u240 u241 u242 u243 u244 u245 u246 u247 u248 u249 u250 u251 u252 u253 : Value}
    (hS : w.heap[S]? = some (.cells (seenA n s) 4 (0, 0))) (hrow : ∀ wr, Touch w wr (fun b => b = S) → wr.cell? ⟨bF, oF + x, none⟩ = some (.slice ar r.length cr) ∧ RdI wr (.slice ar r.length cr) r) (hrr : r.length ≤ 100000) (hv : ∀ z ∈ r, 0 ≤ z ∧ z < n) (hx : x < n)
    (hQ : Hid (∀ {wx : World} {v21 v25 v206 v207 v208 v209 v210 v211 v212 v213 v214 v215 v216 v217 v218 v219 v220 v221 v222 v223 v224 v225 v226 v227 v228 v229 v230 v231 v232 v233 v234 v235 v236 v237 : Value}, (∃ s2 mr, v21 = .bool mr ∧ wx.heap[S]? = some (.cells (seenA n s2) 4 (0, 0)) ∧ Touch w wx (fun b => b = S) ∧ Mrk n s m0 (fun z => g = true ∧ (z : Int) ∈ r) s2 mr) → Q .normal { tmps := #[u0, u1, u2, u3, u4, u5, u6, u7, .slice (some ⟨bF, oF, none⟩) n cf, u9, u10, u11, u12, u13, u14, u15, u16, u17, u18, u19, .slice (some ⟨S, 0, none⟩) n n, v21, .int .i64 x, .bool g, u24, v25, u26, u27, u28, u29, u30, u31, u32, u33, u34, u35, u36, u37, u38, u39, u40, u41, u42, u43, u44, u45, u46, u47, u48, u49, u50, u51, u52, u53, u54, u55, u56, u57, u58, u59, u60, u61, u62, u63, u64, u65, u66, u67, u68, u69, u70, u71, u72, u73, u74, u75, u76, u77, u78, u79, u80, u81, u82, u83, u84, u85, u86, u87, u88, u89, u90, u91, u92, u93, u94, u95, u96, u97, u98, u99, u100, u101, u102, u103, u104, u105, u106, u107, u108, u109, u110, u111, u112, u113, u114, u115, u116, u117, u118, u119, u120, u121, u122, u123, u124, u125, u126, u127, u128, u129, u130, u131, u132, u133, u134, u135, u136, u137, u138, u139, u140, u141, u142, u143, u144, u145, u146, u147, u148, u149, u150, u151, u152, u153, u154, u155, u156, u157, u158, u159, u160, u161, u162, u163, u164, u165, u166, u167, u168, u169, u170, u171, u172, u173, u174, u175, u176, u177, u178, u179, u180, u181, u182, u183, u184, u185, u186, u187, u188, u189, u190, u191, u192, u193, u194, u195, u196, u197, u198, u199, u200, u201, u202, u203, u204, u205, v206, v207, v208, v209, v210, v211, v212, v213, v214, v215, v216, v217, v218, v219, v220, v221, v222, v223, v224, v225, v226, v227, v228, v229, v230, v231, v232, v233, v234, v235, v236, v237, u238, u239, u240, u241, u242, u243, u244, u245, u246, u247, u248, u249, u250, u251, u252, u253], defers := [] } wx)) :
    c.wp Try.prog Q { tmps := #[u0, u1, u2, u3, u4, u5, u6, u7, .slice (some ⟨bF, oF, none⟩) n cf, u9, u10, u11, u12, u13, u14, u15, u16, u17, u18, u19, .slice (some ⟨S, 0, none⟩) n n, .bool m0, .int .i64 x, .bool g, u24, .int .i64 0, u26, u27, u28, u29, u30, u31, u32, u33, u34, u35, u36, u37, u38, u39, u40, u41, u42, u43, u44, u45, u46, u47, u48, u49, u50, u51, u52, u53, u54, u55, u56, u57, u58, u59, u60, u61, u62, u63, u64, u65, u66, u67, u68, u69, u70, u71, u72, u73, u74, u75, u76, u77, u78, u79, u80, u81, u82, u83, u84, u85, u86, u87, u88, u89, u90, u91, u92, u93, u94, u95, u96, u97, u98, u99, u100, u101, u102, u103, u104, u105, u106, u107, u108, u109, u110, u111, u112, u113, u114, u115, u116, u117, u118, u119, u120, u121, u122, u123, u124, u125, u126, u127, u128, u129, u130, u131, u132, u133, u134, u135, u136, u137, u138, u139, u140, u141, u142, u143, u144, u145, u146, u147, u148, u149, u150, u151, u152, u153, u154, u155, u156, u157, u158, u159, u160, u161, u162, u163, u164, u165, u166, u167, u168, u169, u170, u171, u172, u173, u174, u175, u176, u177, u178, u179, u180, u181, u182, u183, u184, u185, u186, u187, u188, u189, u190, u191, u192, u193, u194, u195, u196, u197, u198, u199, u200, u201, u202, u203, u204, u205, u206, u207, u208, u209, u210, u211, u212, u213, u214, u215, u216, u217, u218, u219, u220, u221, u222, u223, u224, u225, u226, u227, u228, u229, u230, u231, u232, u233, u234, u235, u236, u237, u238, u239, u240, u241, u242, u243, u244, u245, u246, u247, u248, u249, u250, u251, u252, u253], defers := [] } w := by
  conv at hc => lhs; whnf
  simp only [Option.some.injEq] at hc
  subst hc
  obtain ⟨rl, hrl⟩ : ∃ rl, rl = r.length := ⟨_, rfl⟩
  rw [← hrl] at hrr
  simp only [← hrl] at hrow
  have jx : (x : Int) < (n : Int) := by omega
  replace hrl := Lib.hid hrl
  replace hrow := Lib.hid hrow
  replace hv := Lib.hid hv
  cases g with
  | false =>
    have hfin := Mrk.none n s m0 (add := fun z => false = true ∧ (z : Int) ∈ r) (fun z h => by cases h.1)
    go_wp2_with fail
    go_loopw [21, 25] (fun v i wr => v = .bool m0 ∧ i = .int .i64 0 ∧ wr = w) (fun _ _ _ => 0)
    case atStart => exact ⟨rfl, rfl, rfl⟩
    case round =>
      obtain ⟨rfl, rfl, rfl⟩ := hrel
      replace hfin := Lib.hid hfin
      replace hS := Lib.hid hS
      go_wp2_with fail
      exact hQ.out ⟨s, m0, rfl, hS.out, Touch.refl _ _, hfin.out⟩
  | true =>
    replace hS := Lib.hid hS
    go_wp2_with fail
    go_loopw [21, 25] (fun v i wr => ∃ (k : Nat) (s2 : List Nat) (mr : Bool), k ≤ rl ∧ i = .int .i64 k ∧ v = .bool mr ∧ Hid (wr.heap[S]? = some (.cells (seenA n s2) 4 (0, 0))) ∧ Hid (Touch w wr (fun b => b = S)) ∧ Hid (Mrk n s m0 (fun z => (z : Int) ∈ r.take k) s2 mr)) (fun _ i _ => rl - (intOf i).toNat)
    case atStart => exact ⟨0, s, m0, Nat.zero_le _, rfl, rfl, hS, Lib.hid (Touch.refl _ _), Lib.hid (Mrk.none n s m0 (fun z h => by simp at h))⟩
    case round =>
      clear hS
      obtain ⟨k, s2, mr, hk, rfl, rfl, hS, hT, hM⟩ := hrel
      obtain ⟨c1, hrd⟩ := hrow.out wr hT.out
      by_cases hlt : k < rl
      · obtain ⟨z, hz⟩ : ∃ z, r[k]? = some z := ⟨_, List.getElem?_eq_getElem (by rw [← hrl.out]; exact hlt)⟩
        obtain ⟨z0, zn⟩ := hv.out z (List.mem_of_getElem? hz)
        obtain ⟨y, rfl⟩ : ∃ y : Nat, z = y := ⟨z.toNat, by omega⟩
        obtain ⟨b2, off2, cap2, e2, hc2⟩ := RdI.cell hrd hz
        rw [← hrl.out] at e2
        simp only [Value.slice.injEq] at e2
        obtain ⟨rfl, -, rfl⟩ := e2
        have j1 : decide ((k : Int) < (rl : Int)) = true := by simpa using hlt
        have j2 : (k : Int) < (rl : Int) := by omega
        have hyn : y < n := by omega
        have jy : (y : Int) < (n : Int) := by omega
        have hadd : ∀ z : Nat, (z : Int) ∈ r.take (k + 1) ↔ (z : Int) ∈ r.take k ∨ z = y := fun z => by
          rw [take_snoc hz, List.mem_append, List.mem_singleton]
          constructor
          · rintro (h | h)
            · exact .inl h
            · exact .inr (by omega)
          · rintro (h | h)
            · exact .inl h
            · exact .inr (by rw [h])
        have c3 : wr.cell? ⟨S, y, none⟩ = some (.bool (decide (y ∈ s2))) := by rw [blk_cell hS.out]; exact seenA_at hyn
        by_cases hys : y ∈ s2
        · rw [decide_eq_true hys] at c3
          have hM2 := Lib.hid (hM.out.old hys hadd)
          replace hys := Lib.hid hys
          clear hM hadd hrd hz
          go_wp2_with fail
          exact ⟨⟨k + 1, s2, mr, by omega, by go_num, rfl, hS, hT, hM2⟩, by simp [intOf]; omega⟩
        · rw [decide_eq_false hys] at c3
          have hM2 := Lib.hid (hM.out.new hyn hys hadd)
          have f3 : wr.frozen? ⟨S, y, none⟩ = false := by simp [World.frozen?, hS.out]
          have hS2 : Hid ((wr.setCell ⟨S, y, none⟩ (.bool true)).heap[S]? = some (.cells (seenA n (y :: s2)) 4 (0, 0))) := Lib.hid (by rw [blk_set _ hS.out, seenA_set hyn])
          have hT2 : Hid (Touch w (wr.setCell ⟨S, y, none⟩ (.bool true)) (fun b => b = S)) := Lib.hid (Touch.trans hT.out ((Touch.refl wr (fun b => b = S)).setCell (a := ⟨S, y, none⟩) (fun _ => rfl) _))
          replace hys := Lib.hid hys
          clear hM hadd hrd hz hS hT
          go_wp2_with fail
          exact ⟨⟨k + 1, y :: s2, true, by omega, by go_num, rfl, hS2, hT2, hM2⟩, by simp [intOf]; omega⟩
      · obtain rfl : k = rl := by omega
        have j1 : decide ((k : Int) < (k : Int)) = false := by simp
        have hfin : Hid (Mrk n s m0 (fun z => true = true ∧ (z : Int) ∈ r) s2 mr) := Lib.hid (by
          have h := hM.out
          rw [hrl.out, List.take_length] at h
          exact ⟨fun z => by rw [h.mem]; simp, h.le, h.lt, h.eq⟩)
        clear hM hrd
        go_wp2_with fail
        exact hQ.out ⟨s2, mr, rfl, hS.out, hT.out, hfin.out⟩

end Go.Proofs.Yteipncggndefmaa
