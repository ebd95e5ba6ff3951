/- NRenB, NRenC, NRenD. -/
import Derived.Test.YtjblhiekccjdcaaRNRen4
namespace Go.Proofs.YtjblhiekccjdcaaR
section
open Go.RowKit Go.Maps Go.Shelf
attribute [local go_sem] Oper.semAt_some

theorem infoInsR : (Try.prog.info? 47).map (fun i => (i.zero, i.size, i.bytes)) = some (some (.agg #[.int .u8 0, .string ⟨#[]⟩, .string ⟨#[]⟩, .string ⟨#[]⟩, .int .i64 0, .string ⟨#[]⟩, .slice none 0 0, .slice none 0 0]), 8, 128) := by kernel_rfl
/-- Where a block's code lies. -/
structure In6 (W : World) (S0 gp op p cp f gb ob nb cb b : Nat) (ac : Option Addr) (nc cc : Nat) : Prop where
  s0 : W.cell? ⟨S0, 0, none⟩ = some (.slice (some ⟨gp, op, none⟩) p cp)
  s1 : W.cell? ⟨gp, op + f * 3 + 2, none⟩ = some (.slice (some ⟨gb, ob, none⟩) nb cb)
  s2 : W.cell? ⟨gb, ob + b * 2 + 1, none⟩ = some (.slice ac nc cc)
theorem In6.keep {W W' : World} {S0 gp op p cp f gb ob nb cb b : Nat} {ac : Option Addr} {nc cc : Nat} (h : In6 W S0 gp op p cp f gb ob nb cb b ac nc cc) (hb : Below W.heap.size W W') : In6 W' S0 gp op p cp f gb ob nb cb b ac nc cc :=
  ⟨keepC hb h.s0, keepC hb h.s1, keepC hb h.s2⟩
/-- Blocks that stood between two worlds. -/
def Mid (w0 w : World) (k : Nat) : Prop := w0.heap.size ≤ k ∧ k < w.heap.size
/-- A row under way in a box. -/
structure RowAt {α : Type} (c : Nat) (R : World → List Value → α → Prop) (w0 w wr : World) (Sb : Nat) (cs : Array Value) (tb te : TypeId) (v : Value) (L : List α) : Prop where
  blk : wr.heap[Sb]? = some (.cells cs tb (0, 0))
  touch : Touch w wr (fun k => k = Sb)
  row : OwnE c (Away (fun k => v.ownBlock = some k ∨ Mid w0 w k) R) wr w.heap.size te v L
theorem rde_oneR {α : Type} {c : Nat} {R : World → List Value → α → Prop} {w : World} {B : Nat} {cs : List Value} {t : TypeId} {d : α} (hb : w.heap[B]? = some (.cells cs.toArray t (0, 0))) (hR : R w cs d) (hc : cs.length = c) : RdE c R w (.slice (some ⟨B, 0, none⟩) 1 1) [d] := by
  refine .inr ⟨B, 0, 1, rfl, (Array.getElem?_eq_some_iff.1 hb).1, fun i x hx => ?_⟩
  obtain rfl : i = 0 := by have := (List.getElem?_eq_some_iff.1 hx).1; simpa using this
  obtain rfl : d = x := by simpa using hx
  refine ⟨cs, hR, hc, fun j u hu => ?_⟩
  rw [blk_cell hb]
  simpa using hu
theorem plain_ins (w : World) (cs : List Value) (d : Ins) (h : RdIns w cs d) : ∀ u ∈ cs, u.oneCell' = true := by
  obtain ⟨va, vl, rfl, ha, hl⟩ := h
  obtain ⟨a1, c1, rfl⟩ := ha.shape
  obtain ⟨a2, c2, rfl⟩ := hl.shape
  intro u hu
  simp only [insV, List.mem_cons, List.not_mem_nil, or_false] at hu
  rcases hu with rfl | rfl | rfl | rfl | rfl | rfl | rfl | rfl <;> rfl
/-- An instruction with arguments of its own reads so wherever other blocks turn. -/
theorem away_ins {w0 w7 : World} {B5 : Nat} {No : Nat → Prop} {y : Ins} {v vl : Value} {n : Nat} {t : TypeId} (hO : w7.ownsRow B5 t 1 v n ((y.args.map renV).map Value.string)) (hno : ∀ k, No k → k < B5) (hl : RdS w0 vl y.labels) (hB : Below w0.heap.size w0 w7) (hlow : ∀ k, No k → w0.heap.size ≤ k) : Away No RdIns w7 (insV (renI y) v vl) (renI y) := by
  intro w' t'
  refine ⟨v, vl, rfl, rds_ownR (ownsRow_touch hO t' (fun g hg h => ?_)), Rd.below hl (hB.trans (t'.below hB.size (fun k hk h => ?_)))⟩
  · have := (hO.lt g hg).1
    have := hno g h
    omega
  · have := hlow k h
    omega
theorem cells8R {w : World} {b : Nat} {x0 x1 x2 x3 x4 x5 x6 x7 : Value} {t : TypeId} (h : w.heap[b]? = some (.cells #[x0, x1, x2, x3, x4, x5, x6, x7] t (0, 0))) : w.cell? ⟨b, 0, none⟩ = some x0 ∧ w.cell? ⟨b, 1, none⟩ = some x1 ∧ w.cell? ⟨b, 2, none⟩ = some x2 ∧ w.cell? ⟨b, 3, none⟩ = some x3 ∧ w.cell? ⟨b, 4, none⟩ = some x4 ∧ w.cell? ⟨b, 5, none⟩ = some x5 ∧ w.cell? ⟨b, 6, none⟩ = some x6 ∧ w.cell? ⟨b, 7, none⟩ = some x7 := by
  refine ⟨?_, ?_, ?_, ?_, ?_, ?_, ?_, ?_⟩ <;> (rw [blk_cell h]; rfl)
theorem renI_snoc {l : List Ins} {n : Nat} {y : Ins} (h : l[n]? = some y) : (l.take n).map renI ++ [renI y] = (l.take (n + 1)).map renI := by
  rw [List.take_succ_eq_append_getElem (List.getElem?_eq_some_iff.1 h).1, (List.getElem?_eq_some_iff.1 h).2]
  simp
set_option maxRecDepth 20000 in
set_option maxHeartbeats 4000000 in
theorem ren6 {c : Code} (hc : Func.blockOf Try.f19 6 = some c) {Q : Exit → Act → World → Prop} {w0 w : World} {fv : Value} {S0 gp op p cp f gb ob nb cb b nc cc Sb : Nat} {ac : Option Addr} {x : Blk} {c0 : Value} {u0 u2 u4 u6 u7 u11 u12 u13 u14 u15 u16 u17 u18 u19 u20 u21 u22 u23 u24 u25 u26 u27 u28 u29 u30 u31 u32 u33 u34 u35 u36 u37 u38 u39 u40 u41 u42 u43 u44 u45 u46 u47 u48 u49 u50 u51 u52 u53 u54 u55 u56 u57 u58 u59 u60 u61 u62 u63 u64 u65 u66 u67 u68 u69 u70 u71 u72 u73 u74 u75 u76 u77 u78 u79 u80 u81 u82 u83 u84 u85 u86 u87 u88 u89 u90 u91 u92 u93 u94 u95 u96 u97 u98 u99 u100 u101 u102 u103 u104 u105 u106 u107 u108 u109 u110 u111 u112 u113 u114 u115 u116 u117 u118 u119 u120 u121 u122 u123 u124 u125 u126 u127 u128 u129 u130 u131 u132 u133 u134 u135 u136 u137 u138 u139 u140 u141 u142 u143 u144 u145 u146 u147 u148 u149 u150 u151 u152 u153 u154 u155 u156 u157 u158 u159 u160 u161 u162 u163 u164 u165 u166 u167 u168 u169 u170 u171 u172 u173 u174 u175 u176 u177 u178 u179 u180 u181 : Value}
    (hfv : fv = .func (.func 23) #[] #[]) (hI : In6 w0 S0 gp op p cp f gb ob nb cb b ac nc cc) (hB : Below w0.heap.size w0 w) (rc : RdE 8 RdIns w0 (.slice ac nc cc) x.code) (hX : w.heap[Sb]? = some (.cells #[c0, .slice none 0 0] 43 (0, 0))) (hSb : w0.heap.size ≤ Sb) (hf : (f : Int) < (p : Int)) (hb : (b : Int) < (nb : Int)) (hnl : x.code.length ≤ 1000000) (hal : ∀ y ∈ x.code, y.args.length ≤ 1000000) (hsh : ∀ y ∈ x.code, ShortI y) (hPn : ∀ {x} {a a1 : Act} {w1 : World}, Q (.panic x) a w1 → a.defers = a1.defers → Q (.panic x) a1 w1)
    (hQ : Hid (∀ {wx : World} {v10 v11 v12 v76 v77 v78 v79 v80 v81 v82 v83 v84 v85 v86 v87 v88 v89 v90 v91 v92 v93 v94 v95 v96 v97 v98 v99 v100 v101 v102 v103 v104 v105 v106 v107 v108 v109 v110 v111 v112 v113 v114 v115 v116 v117 v118 v119 v120 v121 v122 v123 v124 v125 v126 v127 v128 v129 v130 v131 v132 v133 v134 v135 v136 v137 v138 v139 v140 v141 v142 v143 v144 v145 v146 v147 v148 v149 v150 v151 v152 v153 v154 v155 v156 v157 v158 v159 v160 v161 v162 v163 v164 v165 v166 v167 v168 : Value}, (∃ v, RowAt 8 RdIns w0 w wx Sb #[c0, v] 43 47 v (x.code.map renI)) → Q .normal { tmps := #[u0, .pointer (some ⟨S0, 0, none⟩), u2, fv, u4, .int .i64 f, u6, u7, .int .i64 b, .pointer (some ⟨Sb, 0, none⟩), v10, v11, v12, u13, u14, u15, u16, u17, u18, u19, u20, u21, u22, u23, u24, u25, u26, u27, u28, u29, u30, u31, u32, u33, u34, u35, u36, u37, u38, u39, u40, u41, u42, u43, u44, u45, u46, u47, u48, u49, u50, u51, u52, u53, u54, u55, u56, u57, u58, u59, u60, u61, u62, u63, u64, u65, u66, u67, u68, u69, u70, u71, u72, u73, u74, u75, v76, v77, v78, v79, v80, v81, v82, v83, v84, v85, v86, v87, v88, v89, v90, v91, v92, v93, v94, v95, v96, v97, v98, v99, v100, v101, v102, v103, v104, v105, v106, v107, v108, v109, v110, v111, v112, v113, v114, v115, v116, v117, v118, v119, v120, v121, v122, v123, v124, v125, v126, v127, v128, v129, v130, v131, v132, v133, v134, v135, v136, v137, v138, v139, v140, v141, v142, v143, v144, v145, v146, v147, v148, v149, v150, v151, v152, v153, v154, v155, v156, v157, v158, v159, v160, v161, v162, v163, v164, v165, v166, v167, v168, u169, u170, u171, u172, u173, u174, u175, u176, u177, u178, u179, u180, u181], defers := [] } wx)) :
    c.wp Try.prog Q { tmps := #[u0, .pointer (some ⟨S0, 0, none⟩), u2, fv, u4, .int .i64 f, u6, u7, .int .i64 b, .pointer (some ⟨Sb, 0, none⟩), .int .i64 0, u11, u12, u13, u14, u15, u16, u17, u18, u19, u20, u21, u22, u23, u24, u25, u26, u27, u28, u29, u30, u31, u32, u33, u34, u35, u36, u37, u38, u39, u40, u41, u42, u43, u44, u45, u46, u47, u48, u49, u50, u51, u52, u53, u54, u55, u56, u57, u58, u59, u60, u61, u62, u63, u64, u65, u66, u67, u68, u69, u70, u71, u72, u73, u74, u75, u76, u77, u78, u79, u80, u81, u82, u83, u84, u85, u86, u87, u88, u89, u90, u91, u92, u93, u94, u95, u96, u97, u98, u99, u100, u101, u102, u103, u104, u105, u106, u107, u108, u109, u110, u111, u112, u113, u114, u115, u116, u117, u118, u119, u120, u121, u122, u123, u124, u125, u126, u127, u128, u129, u130, u131, u132, u133, u134, u135, u136, u137, u138, u139, u140, u141, u142, u143, u144, u145, u146, u147, u148, u149, u150, u151, u152, u153, u154, u155, u156, u157, u158, u159, u160, u161, u162, u163, u164, u165, u166, u167, u168, u169, u170, u171, u172, u173, u174, u175, u176, u177, u178, u179, u180, u181], defers := [] } w := by
  conv at hc => lhs; whnf
  simp only [Option.some.injEq] at hc
  subst hc
  subst hfv
  obtain ⟨i0, hi0, hz0, hz1, hz2⟩ := info_parts infoInsR
  have hn8 : Hid (nc = x.code.length) := Lib.hid (by obtain ⟨a, q, e⟩ := rc.form; simp only [Value.slice.injEq] at e; exact e.2.1)
  have hnm : nc ≤ 1000000 := by rw [hn8.out]; exact hnl
  have hXlt : Sb < w.heap.size := (Array.getElem?_eq_some_iff.1 hX).1
  replace rc := Lib.hid rc
  replace hI := Lib.hid hI
  replace hB := Lib.hid hB
  replace hX := Lib.hid hX
  replace hal := Lib.hid hal
  replace hsh := Lib.hid hsh
  replace hn8 := Lib.hid hn8
  go_wp2_with fail
  go_loopw [10] (fun i wr => ∃ (k : Nat) (v : Value), k ≤ nc ∧ i = .int .i64 k ∧ Hid (RowAt 8 RdIns w0 w wr Sb #[c0, v] 43 47 v ((x.code.take k).map renI))) (fun i _ => nc - (intOf i).toNat)
  case atStart => exact ⟨0, .slice none 0 0, Nat.zero_le _, rfl, Lib.hid ⟨hX.out, Touch.refl _ _, OwnE.nil _ _ _⟩⟩
  case round =>
    obtain ⟨k, v, hk, rfl, hG⟩ := hrel
    have hB1 : Below w0.heap.size w0 wr := hB.out.trans (hG.out.touch.below hB.out.size (fun j hj e => by omega))
    obtain ⟨s0, s1, s2⟩ := hI.out.keep hB1
    by_cases hlt : k < nc
    · have j1 : decide ((k : Int) < (nc : Int)) = true := by simpa using hlt
      have j2 : (k : Int) < (nc : Int) := by omega
      obtain ⟨y, hy⟩ : ∃ y, x.code[k]? = some y := ⟨_, List.getElem?_eq_getElem (by rw [← hn8.out.out]; exact hlt)⟩
      obtain ⟨g, off, cap, cs, e, hgl, ⟨va, vl, rfl, ra, rl⟩, -, hcell⟩ := rc.out.at hy
      rw [← hn8.out.out] at e
      simp only [Value.slice.injEq] at e
      obtain ⟨rfl, -, rfl⟩ := e
      obtain ⟨aa, ca, rfl⟩ := ra.shape
      obtain ⟨al, cl, rfl⟩ := rl.shape
      obtain ⟨av, cv, hvv⟩ := hG.out.row.form
      rw [List.length_map, List.length_take_of_le (by rw [← hn8.out.out]; omega)] at hvv
      subst hvv
      have q0 : wr.cell? ⟨g, off + k * 8, none⟩ = some (.int .u8 y.op) := keepC hB1 (hcell 0 _ rfl)
      have q1 : wr.cell? ⟨g, off + k * 8 + 1, none⟩ = some (.string y.dst) := keepC hB1 (hcell 1 _ rfl)
      have q2 : wr.cell? ⟨g, off + k * 8 + 2, none⟩ = some (.string y.a) := keepC hB1 (hcell 2 _ rfl)
      have q3 : wr.cell? ⟨g, off + k * 8 + 3, none⟩ = some (.string y.b) := keepC hB1 (hcell 3 _ rfl)
      have q4 : wr.cell? ⟨g, off + k * 8 + 4, none⟩ = some (.int .i64 y.n) := keepC hB1 (hcell 4 _ rfl)
      have q5 : wr.cell? ⟨g, off + k * 8 + 5, none⟩ = some (.string y.fn) := keepC hB1 (hcell 5 _ rfl)
      have q6 : wr.cell? ⟨g, off + k * 8 + 6, none⟩ = some (.slice aa y.args.length ca) := keepC hB1 (hcell 6 _ rfl)
      have q7 : wr.cell? ⟨g, off + k * 8 + 7, none⟩ = some (.slice al y.labels.length cl) := keepC hB1 (hcell 7 _ rfl)
      have hI8 : Hid (In8 w0 S0 gp op p cp f gb ob nb cb b g off nc cc k aa y.args.length ca) := Lib.hid ⟨hI.out.s0, hI.out.s1, hI.out.s2, hcell 6 _ rfl⟩
      have hna : Hid (y.args.length ≤ 1000000) := Lib.hid (hal.out y (List.mem_of_getElem? hy))
      have hs := Lib.hid (hsh.out y (List.mem_of_getElem? hy))
      have h1 := Lib.hid (fun w => ren_one (s := y.dst) (by have := hs.out.1; omega) w)
      have h2 := Lib.hid (fun w => ren_one (s := y.a) (by have := hs.out.2.1; omega) w)
      have h3 := Lib.hid (fun w => ren_one (s := y.b) (by have := hs.out.2.2.1; omega) w)
      replace hy := Lib.hid hy
      replace ra := Lib.hid ra
      replace rl := Lib.hid rl
      replace hB1 := Lib.hid hB1
      clear hcell
      go_upto_block 8 with (first
        | (go_at_call 23; (with_reducible refine Calls.mono (h1.out _) ?_); rintro e w9 ⟨rfl, hw9⟩; obtain rfl := hw9.symm)
        | (go_at_call 23; (with_reducible refine Calls.mono (h2.out _) ?_); rintro e w9 ⟨rfl, hw9⟩; obtain rfl := hw9.symm)
        | (go_at_call 23; (with_reducible refine Calls.mono (h3.out _) ?_); rintro e w9 ⟨rfl, hw9⟩; obtain rfl := hw9.symm))
      have hW5 : Hid (Below w0.heap.size w0 (wr.alloc (.cells #[.int .u8 y.op, .string (renV y.dst), .string (renV y.a), .string (renV y.b), .int .i64 y.n, .string y.fn, .slice none 0 0, .slice al y.labels.length cl] 47))) := Lib.hid (hB1.out.alloc hB1.out.size _)
      refine ren8 (by kernel_rfl) (w0 := w0) (y := y) rfl hI8.out hW5.out ra.out (heap_alloc_new _ _) hB1.out.size hf hb j2 hna.out hs.out.2.2.2 (fun h e => hPn h e) (Lib.hid ?_)
      intros
      rename_i hx8
      rename World => w6
      obtain ⟨v6, hX6, hT6, hO6⟩ := hx8
      obtain ⟨a6, c6, rfl⟩ := own_formR hO6
      have hl6 : wr.heap.size < w6.heap.size := by have := hT6.size; simp at this; omega
      have hlw : w.heap.size ≤ wr.heap.size := hG.out.touch.size
      have hlSb : Sb < wr.heap.size := by omega
      have hSb6 : w6.heap[Sb]? = some (.cells #[c0, .slice av k cv] 43 (0, 0)) := (hT6.block Sb (by simp; omega) (by omega)).trans (at_oldN hG.out.blk)
      obtain ⟨x0, x1, x2, x3, x4, x5, x6, x7⟩ := cells8R hX6
      have p1 : w6.cell? ⟨Sb, 1, none⟩ = some (.slice av k cv) := by rw [blk_cell hSb6]; rfl
      have hTw6 : Touch wr w6 (fun j => j = Sb) := ((Touch.refl wr (fun j => j = Sb)).alloc _).then hT6 (fun j hj e => by omega)
      have hv : ∀ g, (Value.slice av k cv).ownBlock = some g → ¬ Mid w0 w g := fun g hg e => by have := (hG.out.row.lt g hg).1; have := e.2; omega
      have hmid : Mid w0 w Sb := ⟨hSb, hXlt⟩
      have hTw7 := hTw6.alloc (.cells #[.int .u8 y.op, .string (renV y.dst), .string (renV y.a), .string (renV y.b), .int .i64 y.n, .string y.fn, .slice a6 y.args.length c6, .slice al y.labels.length cl] 47)
      have hown7 := Lib.hid (hG.out.row.go (hTw7.mono (fun j _ e => by rw [e]; exact hmid)) hv)
      have hO7 := ownsRow_touch (S := fun _ => False) hO6 ((Touch.refl w6 (fun _ => False)).alloc (.cells #[.int .u8 y.op, .string (renV y.dst), .string (renV y.a), .string (renV y.b), .int .i64 y.n, .string y.fn, .slice a6 y.args.length c6, .slice al y.labels.length cl] 47)) (fun _ _ h => h)
      have hB7 : Below w0.heap.size w0 (w6.alloc (.cells #[.int .u8 y.op, .string (renV y.dst), .string (renV y.a), .string (renV y.b), .int .i64 y.n, .string y.fn, .slice a6 y.args.length c6, .slice al y.labels.length cl] 47)) := hB1.out.trans (hTw7.below hB1.out.size (fun j hj e => by omega))
      have haw : Away (fun j => (Value.slice av k cv).ownBlock = some j ∨ Mid w0 w j) RdIns (w6.alloc (.cells #[.int .u8 y.op, .string (renV y.dst), .string (renV y.a), .string (renV y.b), .int .i64 y.n, .string y.fn, .slice a6 y.args.length c6, .slice al y.labels.length cl] 47)) (insV (renI y) (.slice a6 y.args.length c6) (.slice al y.labels.length cl)) (renI y) :=
        away_ins hO7 (fun j hj => by
          have hz : (wr.alloc (.cells #[.int .u8 y.op, .string (renV y.dst), .string (renV y.a), .string (renV y.b), .int .i64 y.n, .string y.fn, .slice none 0 0, .slice al y.labels.length cl] 47)).heap.size = wr.heap.size + 1 := by simp
          rcases hj with hj | hj
          · have := (hG.out.row.lt j hj).2; omega
          · have := hj.2; omega) rl.out hB7 (fun j hj => by
          have := hB.out.size
          rcases hj with hj | hj
          · have := (hG.out.row.lt j hj).1; omega
          · exact hj.1)
      have hrd7 : Hid (RdE 8 (Away (fun j => (Value.slice av k cv).ownBlock = some j ∨ Mid w0 w j) RdIns) (w6.alloc (.cells #[.int .u8 y.op, .string (renV y.dst), .string (renV y.a), .string (renV y.b), .int .i64 y.n, .string y.fn, .slice a6 y.args.length c6, .slice al y.labels.length cl] 47)) (.slice (some ⟨w6.heap.size, 0, none⟩) 1 1) [renI y]) := Lib.hid (rde_oneR (t := 47) (heap_alloc_new _ _) haw rfl)
      replace hTw7 := Lib.hid hTw7
      replace hSb6 := Lib.hid hSb6
      have hlen : Hid (((x.code.take k).map renI).length = k) := Lib.hid (by rw [List.length_map, List.length_take_of_le (by rw [← hn8.out.out]; omega)])
      have hlow : w.heap.size ≤ (w6.alloc (.cells #[.int .u8 y.op, .string (renV y.dst), .string (renV y.a), .string (renV y.b), .int .i64 y.n, .string y.fn, .slice a6 y.args.length c6, .slice al y.labels.length cl] 47)).heap.size := by simp; omega
      clear hT6 hO6 hX6 hTw6 hO7 hB7 haw hv s0 s1 s2 q0 q1 q2 q3 q4 q5 q6 q7
      go_wp2_with (at_builtin; refine wpList_append_away _ rfl _ _ 41 rfl w.heap.size 47 i0 _ 128 Try.underlying41 hi0 hz0 hz1 hz2 rfl (by decide) (Mid w0 w) (.slice av k cv) ((x.code.take k).map renI) rfl hown7.out _ [renI y] rfl hrd7.out plain_ins (by rw [hlen.out]; simp; unfold maxLen; omega) (by rw [hlen.out]; simp; omega) hlow ?_)
      intro v8 w8 hO8 hT8 hat8
      have hO8 : OwnE 8 (Away (fun j => v8.ownBlock = some j ∨ Mid w0 w j) RdIns) w8 w.heap.size 47 v8 ((x.code.take (k + 1)).map renI) := by
        rw [← renI_snoc hy.out, List.map_take]
        exact hO8
      obtain ⟨a8, c8, e8⟩ := hO8.form
      rw [List.length_map, List.length_take_of_le (by rw [← hn8.out.out]; omega)] at e8
      subst e8
      have hSb8 : w8.heap[Sb]? = some (.cells #[c0, .slice av k cv] 43 (0, 0)) := (hT8.block Sb (by simp; omega) (fun e => by have := (hown7.out.lt Sb e).1; omega)).trans (at_oldN hSb6.out)
      have f1 : w8.frozen? ⟨Sb, 1, none⟩ = false := by simp [World.frozen?, hSb8]
      have z1 : w8.cell? ⟨Sb, 1, none⟩ = some (.slice av k cv) := by rw [blk_cell hSb8]; rfl
      have hTs : Touch w8 (w8.setCell ⟨Sb, 1, none⟩ (.slice a8 (k + 1) c8)) (fun j => j = Sb) := (Touch.refl w8 (fun j => j = Sb)).setCell (a := ⟨Sb, 1, none⟩) (fun _ => rfl) _
      have hfin : Hid (RowAt 8 RdIns w0 w (w8.setCell ⟨Sb, 1, none⟩ (.slice a8 (k + 1) c8)) Sb #[c0, .slice a8 (k + 1) c8] 43 47 (.slice a8 (k + 1) c8) ((x.code.take (k + 1)).map renI)) := Lib.hid ⟨blk_set (i := 1) _ hSb8, ((hG.out.touch.trans hTw7.out).then hT8 (fun j hj e => absurd (hown7.out.lt j e).1 (by omega))).setCell (a := ⟨Sb, 1, none⟩) (fun _ => rfl) _, hO8.go (hTs.mono (fun j _ e => by rw [e]; exact hmid)) (fun g hg e => by have := (hO8.lt g hg).1; have := e.2; omega)⟩
      clear hO8 hT8 hat8 hSb8 hTs hown7 hrd7 x0 x1 x2 x3 x4 x5 x6 x7 p1
      go_wp2_with fail
      go_roundw
      case rel => exact ⟨k + 1, .slice a8 (k + 1) c8, by omega, by go_num, hfin⟩
      case measure => simp [intOf]; omega
    · obtain rfl : k = nc := by omega
      have j1 : decide ((k : Int) < (k : Int)) = false := by simp
      have hend : Hid (((x.code.take k).map renI) = x.code.map renI) := Lib.hid (by rw [List.take_of_length_le (by rw [← hn8.out.out]; exact Nat.le_refl _)])
      clear hB1
      go_wp2_with fail
      refine hQ.out ⟨v, ?_⟩
      rw [← hend.out]
      exact hG.out
end
section
open Go.RowKit Go.Maps Go.Shelf
attribute [local go_sem] Oper.semAt_some

theorem infoBlkR : (Try.prog.info? 43).map (fun i => (i.zero, i.size, i.bytes)) = some (some (.agg #[.string ⟨#[]⟩, .slice none 0 0]), 2, 40) := by kernel_rfl
/-- Where a function's blocks lie. -/
structure In4 (W : World) (S0 gp op p cp f : Nat) (ab : Option Addr) (nb cb : Nat) : Prop where
  s0 : W.cell? ⟨S0, 0, none⟩ = some (.slice (some ⟨gp, op, none⟩) p cp)
  s1 : W.cell? ⟨gp, op + f * 3 + 2, none⟩ = some (.slice ab nb cb)
theorem In4.keep {W W' : World} {S0 gp op p cp f : Nat} {ab : Option Addr} {nb cb : Nat} (h : In4 W S0 gp op p cp f ab nb cb) (hb : Below W.heap.size W W') : In4 W' S0 gp op p cp f ab nb cb := ⟨keepC hb h.s0, keepC hb h.s1⟩
theorem plain_blk (w : World) (cs : List Value) (d : Blk) (h : RdBlk w cs d) : ∀ u ∈ cs, u.oneCell' = true := by
  obtain ⟨vc, rfl, hc⟩ := h
  obtain ⟨a1, c1, rfl⟩ := hc.form
  intro u hu
  simp only [List.mem_cons, List.not_mem_nil, or_false] at hu
  rcases hu with rfl | rfl <;> rfl
theorem cells2R {w : World} {b : Nat} {x0 x1 : Value} {t : TypeId} (h : w.heap[b]? = some (.cells #[x0, x1] t (0, 0))) : w.cell? ⟨b, 0, none⟩ = some x0 ∧ w.cell? ⟨b, 1, none⟩ = some x1 := by
  refine ⟨?_, ?_⟩ <;> (rw [blk_cell h]; rfl)
theorem renB_snoc {l : List Blk} {n : Nat} {y : Blk} (h : l[n]? = some y) : (l.take n).map renB ++ [renB y] = (l.take (n + 1)).map renB := by
  rw [List.take_succ_eq_append_getElem (List.getElem?_eq_some_iff.1 h).1, (List.getElem?_eq_some_iff.1 h).2]
  simp
/-- A row of one's own reads so wherever blocks ahead of it turn. -/
theorem RowAt.away {α : Type} {c : Nat} {R : World → List Value → α → Prop} {w0 w wr w7 : World} {Sb : Nat} {cs : Array Value} {tb te : TypeId} {v : Value} {L : List α} (h : RowAt c R w0 w wr Sb cs tb te v L) (t7 : Touch wr w7 (fun _ => False)) {No : Nat → Prop} (hn : ∀ k, No k → Mid w0 w k) {w' : World} (t : Touch w7 w' No) : RdE c R w' v L := by
  have h7 := h.row.go (t7.mono (fun _ _ h => h.elim)) (fun g hg e => by have := (h.row.lt g hg).1; have := e.2; omega)
  exact h7.to t (fun g hg e => by have := (h7.lt g hg).1; have := (hn g e).2; omega) (fun k _ hk => hn k hk)
set_option maxRecDepth 20000 in
set_option maxHeartbeats 4000000 in
theorem ren4 {c : Code} (hc : Func.blockOf Try.f19 4 = some c) {Q : Exit → Act → World → Prop} {w0 w : World} {fv : Value} {S0 gp op p cp f nb cb Sb : Nat} {ab : Option Addr} {d : Fun} {c0 c1 : Value} {u0 u2 u4 u7 u9 u10 u11 u12 u13 u14 u15 u16 u17 u18 u19 u20 u21 u22 u23 u24 u25 u26 u27 u28 u29 u30 u31 u32 u33 u34 u35 u36 u37 u38 u39 u40 u41 u42 u43 u44 u45 u46 u47 u48 u49 u50 u51 u52 u53 u54 u55 u56 u57 u58 u59 u60 u61 u62 u63 u64 u65 u66 u67 u68 u69 u70 u71 u72 u73 u74 u75 u76 u77 u78 u79 u80 u81 u82 u83 u84 u85 u86 u87 u88 u89 u90 u91 u92 u93 u94 u95 u96 u97 u98 u99 u100 u101 u102 u103 u104 u105 u106 u107 u108 u109 u110 u111 u112 u113 u114 u115 u116 u117 u118 u119 u120 u121 u122 u123 u124 u125 u126 u127 u128 u129 u130 u131 u132 u133 u134 u135 u136 u137 u138 u139 u140 u141 u142 u143 u144 u145 u146 u147 u148 u149 u150 u151 u152 u153 u154 u155 u156 u157 u158 u159 u160 u161 u162 u163 u164 u165 u166 u167 u168 u169 u170 u171 u172 u173 u174 u175 u176 u177 u178 u179 u180 u181 : Value}
    (hfv : fv = .func (.func 23) #[] #[]) (hI : In4 w0 S0 gp op p cp f ab nb cb) (hB : Below w0.heap.size w0 w) (rc : RdE 2 RdBlk w0 (.slice ab nb cb) d.blocks) (hX : w.heap[Sb]? = some (.cells #[c0, c1, .slice none 0 0] 39 (0, 0))) (hSb : w0.heap.size ≤ Sb) (hf : (f : Int) < (p : Int)) (hnl : d.blocks.length ≤ 1000000) (hal : ∀ x ∈ d.blocks, x.code.length ≤ 1000000 ∧ ∀ c ∈ x.code, c.args.length ≤ 1000000 ∧ ShortI c) (hPn : ∀ {x} {a a1 : Act} {w1 : World}, Q (.panic x) a w1 → a.defers = a1.defers → Q (.panic x) a1 w1)
    (hQ : Hid (∀ {wx : World} {v8 v9 v10 v11 v12 v54 v55 v56 v57 v58 v59 v60 v61 v62 v63 v64 v65 v66 v67 v68 v69 v70 v71 v72 v73 v74 v75 v76 v77 v78 v79 v80 v81 v82 v83 v84 v85 v86 v87 v88 v89 v90 v91 v92 v93 v94 v95 v96 v97 v98 v99 v100 v101 v102 v103 v104 v105 v106 v107 v108 v109 v110 v111 v112 v113 v114 v115 v116 v117 v118 v119 v120 v121 v122 v123 v124 v125 v126 v127 v128 v129 v130 v131 v132 v133 v134 v135 v136 v137 v138 v139 v140 v141 v142 v143 v144 v145 v146 v147 v148 v149 v150 v151 v152 v153 v154 v155 v156 v157 v158 v159 v160 v161 v162 v163 v164 v165 v166 v167 v168 v169 v170 v171 v172 v173 v174 : Value}, (∃ v, RowAt 2 RdBlk w0 w wx Sb #[c0, c1, v] 39 43 v (d.blocks.map renB)) → Q .normal { tmps := #[u0, .pointer (some ⟨S0, 0, none⟩), u2, fv, u4, .int .i64 f, .pointer (some ⟨Sb, 0, none⟩), u7, v8, v9, v10, v11, v12, u13, u14, u15, u16, u17, u18, u19, u20, u21, u22, u23, u24, u25, u26, u27, u28, u29, u30, u31, u32, u33, u34, u35, u36, u37, u38, u39, u40, u41, u42, u43, u44, u45, u46, u47, u48, u49, u50, u51, u52, u53, v54, v55, v56, v57, v58, v59, v60, v61, v62, v63, v64, v65, v66, v67, v68, v69, v70, v71, v72, v73, v74, v75, v76, v77, v78, v79, v80, v81, v82, v83, v84, v85, v86, v87, v88, v89, v90, v91, v92, v93, v94, v95, v96, v97, v98, v99, v100, v101, v102, v103, v104, v105, v106, v107, v108, v109, v110, v111, v112, v113, v114, v115, v116, v117, v118, v119, v120, v121, v122, v123, v124, v125, v126, v127, v128, v129, v130, v131, v132, v133, v134, v135, v136, v137, v138, v139, v140, v141, v142, v143, v144, v145, v146, v147, v148, v149, v150, v151, v152, v153, v154, v155, v156, v157, v158, v159, v160, v161, v162, v163, v164, v165, v166, v167, v168, v169, v170, v171, v172, v173, v174, u175, u176, u177, u178, u179, u180, u181], defers := [] } wx)) :
    c.wp Try.prog Q { tmps := #[u0, .pointer (some ⟨S0, 0, none⟩), u2, fv, u4, .int .i64 f, .pointer (some ⟨Sb, 0, none⟩), u7, .int .i64 0, u9, u10, u11, u12, u13, u14, u15, u16, u17, u18, u19, u20, u21, u22, u23, u24, u25, u26, u27, u28, u29, u30, u31, u32, u33, u34, u35, u36, u37, u38, u39, u40, u41, u42, u43, u44, u45, u46, u47, u48, u49, u50, u51, u52, u53, u54, u55, u56, u57, u58, u59, u60, u61, u62, u63, u64, u65, u66, u67, u68, u69, u70, u71, u72, u73, u74, u75, u76, u77, u78, u79, u80, u81, u82, u83, u84, u85, u86, u87, u88, u89, u90, u91, u92, u93, u94, u95, u96, u97, u98, u99, u100, u101, u102, u103, u104, u105, u106, u107, u108, u109, u110, u111, u112, u113, u114, u115, u116, u117, u118, u119, u120, u121, u122, u123, u124, u125, u126, u127, u128, u129, u130, u131, u132, u133, u134, u135, u136, u137, u138, u139, u140, u141, u142, u143, u144, u145, u146, u147, u148, u149, u150, u151, u152, u153, u154, u155, u156, u157, u158, u159, u160, u161, u162, u163, u164, u165, u166, u167, u168, u169, u170, u171, u172, u173, u174, u175, u176, u177, u178, u179, u180, u181], defers := [] } w := by
  conv at hc => lhs; whnf
  simp only [Option.some.injEq] at hc
  subst hc
  subst hfv
  obtain ⟨i0, hi0, hz0, hz1, hz2⟩ := info_parts infoBlkR
  have hn8 : Hid (nb = d.blocks.length) := Lib.hid (by obtain ⟨a, q, e⟩ := rc.form; simp only [Value.slice.injEq] at e; exact e.2.1)
  have hnm : nb ≤ 1000000 := by rw [hn8.out]; exact hnl
  have hXlt : Sb < w.heap.size := (Array.getElem?_eq_some_iff.1 hX).1
  replace rc := Lib.hid rc
  replace hI := Lib.hid hI
  replace hB := Lib.hid hB
  replace hX := Lib.hid hX
  replace hal := Lib.hid hal
  replace hn8 := Lib.hid hn8
  go_wp2_with fail
  go_loopw [8] (fun i wr => ∃ (k : Nat) (v : Value), k ≤ nb ∧ i = .int .i64 k ∧ Hid (RowAt 2 RdBlk w0 w wr Sb #[c0, c1, v] 39 43 v ((d.blocks.take k).map renB))) (fun i _ => nb - (intOf i).toNat)
  case atStart => exact ⟨0, .slice none 0 0, Nat.zero_le _, rfl, Lib.hid ⟨hX.out, Touch.refl _ _, OwnE.nil _ _ _⟩⟩
  case round =>
    obtain ⟨k, v, hk, rfl, hG⟩ := hrel
    have hB1 : Below w0.heap.size w0 wr := hB.out.trans (hG.out.touch.below hB.out.size (fun j hj e => by omega))
    obtain ⟨s0, s1⟩ := hI.out.keep hB1
    by_cases hlt : k < nb
    · have j1 : decide ((k : Int) < (nb : Int)) = true := by simpa using hlt
      have j2 : (k : Int) < (nb : Int) := by omega
      obtain ⟨y, hy⟩ : ∃ y, d.blocks[k]? = some y := ⟨_, List.getElem?_eq_getElem (by rw [← hn8.out.out]; exact hlt)⟩
      obtain ⟨g, off, cap, cs, e, hgl, ⟨vc, rfl, rk⟩, -, hcell⟩ := rc.out.at hy
      rw [← hn8.out.out] at e
      simp only [Value.slice.injEq] at e
      obtain ⟨rfl, -, rfl⟩ := e
      obtain ⟨ac, cc, rfl⟩ := rk.form
      obtain ⟨av, cv, hvv⟩ := hG.out.row.form
      rw [List.length_map, List.length_take_of_le (by rw [← hn8.out.out]; omega)] at hvv
      subst hvv
      have q0 : wr.cell? ⟨g, off + k * 2, none⟩ = some (.string y.label) := keepC hB1 (hcell 0 _ rfl)
      have hI6 : Hid (In6 w0 S0 gp op p cp f g off nb cb k ac y.code.length cc) := Lib.hid ⟨hI.out.s0, hI.out.s1, hcell 1 _ rfl⟩
      have hyf := Lib.hid (hal.out y (List.mem_of_getElem? hy))
      replace hy := Lib.hid hy
      replace rk := Lib.hid rk
      replace hB1 := Lib.hid hB1
      clear hcell
      go_upto_block 6 with fail
      have hW5 : Hid (Below w0.heap.size w0 (wr.alloc (.cells #[.string y.label, .slice none 0 0] 43))) := Lib.hid (hB1.out.alloc hB1.out.size _)
      refine ren6 (by kernel_rfl) (w0 := w0) (x := y) rfl hI6.out hW5.out rk.out (heap_alloc_new _ _) hB1.out.size hf j2 hyf.out.1 (fun c hc => (hyf.out.2 c hc).1) (fun c hc => (hyf.out.2 c hc).2) (fun h e => hPn h e) (Lib.hid ?_)
      intros
      rename_i hx8
      rename World => w6
      obtain ⟨v6, hR6⟩ := hx8
      obtain ⟨a6, c6, hv6⟩ := hR6.row.form
      rw [List.length_map] at hv6
      subst hv6
      have hT6 := hR6.touch
      have hl6 : wr.heap.size < w6.heap.size := by have := hT6.size; simp at this; omega
      have hlw : w.heap.size ≤ wr.heap.size := hG.out.touch.size
      have hlSb : Sb < wr.heap.size := by omega
      have hSb6 : w6.heap[Sb]? = some (.cells #[c0, c1, .slice av k cv] 39 (0, 0)) := (hT6.block Sb (by simp; omega) (by omega)).trans (at_oldN hG.out.blk)
      obtain ⟨x0, x1⟩ := cells2R hR6.blk
      have p1 : w6.cell? ⟨Sb, 2, none⟩ = some (.slice av k cv) := by rw [blk_cell hSb6]; rfl
      have hTw6 : Touch wr w6 (fun j => j = Sb) := ((Touch.refl wr (fun j => j = Sb)).alloc _).then hT6 (fun j hj e => by omega)
      have hv : ∀ g, (Value.slice av k cv).ownBlock = some g → ¬ Mid w0 w g := fun g hg e => by have := (hG.out.row.lt g hg).1; have := e.2; omega
      have hmid : Mid w0 w Sb := ⟨hSb, hXlt⟩
      have hTw7 := hTw6.alloc (.cells #[.string y.label, .slice a6 y.code.length c6] 43)
      have hown7 := Lib.hid (hG.out.row.go (hTw7.mono (fun j _ e => by rw [e]; exact hmid)) hv)
      have hz5 : (wr.alloc (.cells #[.string y.label, .slice none 0 0] 43)).heap.size = wr.heap.size + 1 := by simp
      have haw : Away (fun j => (Value.slice av k cv).ownBlock = some j ∨ Mid w0 w j) RdBlk (w6.alloc (.cells #[.string y.label, .slice a6 y.code.length c6] 43)) [.string y.label, .slice a6 y.code.length c6] (renB y) := fun w' t' =>
        ⟨_, rfl, hR6.away ((Touch.refl w6 (fun _ => False)).alloc _) (fun j hj => by
          have hb0 := hB.out.size
          rcases hj with hj | hj
          · have h1 := (hG.out.row.lt j hj).1
            have h2 := (hG.out.row.lt j hj).2
            exact ⟨by omega, by omega⟩
          · exact ⟨hj.1, by have := hj.2; omega⟩) t'⟩
      have hrd7 : Hid (RdE 2 (Away (fun j => (Value.slice av k cv).ownBlock = some j ∨ Mid w0 w j) RdBlk) (w6.alloc (.cells #[.string y.label, .slice a6 y.code.length c6] 43)) (.slice (some ⟨w6.heap.size, 0, none⟩) 1 1) [renB y]) := Lib.hid (rde_oneR (t := 43) (heap_alloc_new _ _) haw rfl)
      replace hTw7 := Lib.hid hTw7
      replace hSb6 := Lib.hid hSb6
      have hlen : Hid (((d.blocks.take k).map renB).length = k) := Lib.hid (by rw [List.length_map, List.length_take_of_le (by rw [← hn8.out.out]; omega)])
      have hlow : w.heap.size ≤ (w6.alloc (.cells #[.string y.label, .slice a6 y.code.length c6] 43)).heap.size := by simp; omega
      clear hT6 hR6 hTw6 haw hv s0 s1 q0
      go_wp2_with (at_builtin; refine wpList_append_away _ rfl _ _ 37 rfl w.heap.size 43 i0 _ 40 Try.underlying37 hi0 hz0 hz1 hz2 rfl (by decide) (Mid w0 w) (.slice av k cv) ((d.blocks.take k).map renB) rfl hown7.out _ [renB y] rfl hrd7.out plain_blk (by rw [hlen.out]; simp; unfold maxLen; omega) (by rw [hlen.out]; simp; omega) hlow ?_)
      intro v8 w8 hO8 hT8 hat8
      have hO8 : OwnE 2 (Away (fun j => v8.ownBlock = some j ∨ Mid w0 w j) RdBlk) w8 w.heap.size 43 v8 ((d.blocks.take (k + 1)).map renB) := by
        rw [← renB_snoc hy.out, List.map_take]
        exact hO8
      obtain ⟨a8, c8, e8⟩ := hO8.form
      rw [List.length_map, List.length_take_of_le (by rw [← hn8.out.out]; omega)] at e8
      subst e8
      have hSb8 : w8.heap[Sb]? = some (.cells #[c0, c1, .slice av k cv] 39 (0, 0)) := (hT8.block Sb (by simp; omega) (fun e => by have := (hown7.out.lt Sb e).1; omega)).trans (at_oldN hSb6.out)
      have f1 : w8.frozen? ⟨Sb, 2, none⟩ = false := by simp [World.frozen?, hSb8]
      have z1 : w8.cell? ⟨Sb, 2, none⟩ = some (.slice av k cv) := by rw [blk_cell hSb8]; rfl
      have hTs : Touch w8 (w8.setCell ⟨Sb, 2, none⟩ (.slice a8 (k + 1) c8)) (fun j => j = Sb) := (Touch.refl w8 (fun j => j = Sb)).setCell (a := ⟨Sb, 2, none⟩) (fun _ => rfl) _
      have hfin : Hid (RowAt 2 RdBlk w0 w (w8.setCell ⟨Sb, 2, none⟩ (.slice a8 (k + 1) c8)) Sb #[c0, c1, .slice a8 (k + 1) c8] 39 43 (.slice a8 (k + 1) c8) ((d.blocks.take (k + 1)).map renB)) := Lib.hid ⟨blk_set (i := 2) _ hSb8, ((hG.out.touch.trans hTw7.out).then hT8 (fun j hj e => absurd (hown7.out.lt j e).1 (by omega))).setCell (a := ⟨Sb, 2, none⟩) (fun _ => rfl) _, hO8.go (hTs.mono (fun j _ e => by rw [e]; exact hmid)) (fun g hg e => by have := (hO8.lt g hg).1; have := e.2; omega)⟩
      clear hO8 hT8 hat8 hSb8 hTs hown7 hrd7 x0 x1 p1
      go_wp2_with fail
      go_roundw
      case rel => exact ⟨k + 1, .slice a8 (k + 1) c8, by omega, by go_num, hfin⟩
      case measure => simp [intOf]; omega
    · obtain rfl : k = nb := by omega
      have j1 : decide ((k : Int) < (k : Int)) = false := by simp
      have hend : Hid (((d.blocks.take k).map renB) = d.blocks.map renB) := Lib.hid (by rw [List.take_of_length_le (by rw [← hn8.out.out]; exact Nat.le_refl _)])
      clear hB1
      go_wp2_with fail
      refine hQ.out ⟨v, ?_⟩
      rw [← hend.out]
      exact hG.out
end
section
open Go.RowKit Go.Maps Go.Shelf
attribute [local go_sem] Oper.semAt_some

theorem plain_fun (w : World) (cs : List Value) (d : Fun) (h : RdFun w cs d) : ∀ u ∈ cs, u.oneCell' = true := by
  obtain ⟨vp, vb, rfl, hp, hb⟩ := h
  obtain ⟨a1, c1, rfl⟩ := hp.shape
  obtain ⟨a2, c2, rfl⟩ := hb.form
  intro u hu
  simp only [List.mem_cons, List.not_mem_nil, or_false] at hu
  rcases hu with rfl | rfl | rfl <;> rfl
theorem cells3R {w : World} {b : Nat} {x0 x1 x2 : Value} {t : TypeId} (h : w.heap[b]? = some (.cells #[x0, x1, x2] t (0, 0))) : w.cell? ⟨b, 0, none⟩ = some x0 ∧ w.cell? ⟨b, 1, none⟩ = some x1 ∧ w.cell? ⟨b, 2, none⟩ = some x2 := by
  refine ⟨?_, ?_, ?_⟩ <;> (rw [blk_cell h]; rfl)
theorem renF_snoc {l : List Fun} {n : Nat} {y : Fun} (h : l[n]? = some y) : (l.take n).map renF ++ [renF y] = (l.take (n + 1)).map renF := by
  rw [List.take_succ_eq_append_getElem (List.getElem?_eq_some_iff.1 h).1, (List.getElem?_eq_some_iff.1 h).2]
  simp
theorem infoFunR : (Try.prog.info? 39).map (fun i => (i.zero, i.size, i.bytes)) = some (some (.agg #[.string ⟨#[]⟩, .slice none 0 0, .slice none 0 0]), 3, 64) := by kernel_rfl
def RenPost (w : World) (P : List Fun) (e : Ending) (w' : World) : Prop := ∃ v', e = .returned (.agg #[v']) ∧ RdE 3 RdFun w' v' (P.map renF) ∧ Below w.heap.size w w'
set_option maxRecDepth 20000 in
set_option maxHeartbeats 4000000 in
theorem ren_any {w : World} {v : Value} {P : List Fun} (h : RdE 3 RdFun w v P) (hlP : P.length ≤ 1000000) (hal : ∀ d ∈ P, d.params.length ≤ 1000000 ∧ d.blocks.length ≤ 1000000 ∧ ∀ x ∈ d.blocks, x.code.length ≤ 1000000 ∧ ∀ c ∈ x.code, c.args.length ≤ 1000000) (hsh : ∀ d ∈ P, ShortF d) : Calls Try.prog 19 #[.agg #[v]] w (RenPost w P) := by
  obtain ⟨i0, hi0, hz0, hz1, hz2⟩ := info_parts infoFunR
  obtain ⟨a0, c0, rfl⟩ := h.form
  obtain ⟨p, hp⟩ : ∃ p, p = P.length := ⟨_, rfl⟩
  rw [← hp] at h hlP ⊢
  have hb0 : Below w.heap.size w (w.alloc (.cells #[.slice a0 p c0] 26)) := (Below.refl _ _).alloc (Nat.le_refl _) _
  have h0 := Lib.hid (RdE.below (fun _ _ h => h.below hb0) h hb0)
  have s00 : (w.alloc (.cells #[.slice a0 p c0] 26)).cell? ⟨w.heap.size, 0, none⟩ = some (.slice a0 p c0) := by simp
  replace s00 := Lib.hid s00
  replace hp := Lib.hid hp
  replace hal := Lib.hid hal
  replace hsh := Lib.hid hsh
  replace hb0 := Lib.hid hb0
  clear h
  go_enter Try.func19, Try.ntmps19
  go_upto_block 0 with fail
  have hw0 : (w.alloc (.cells #[.slice a0 p c0] 26)).heap.size = w.heap.size + 1 := by simp
  have hX : (((w.alloc (.cells #[.slice a0 p c0] 26)).alloc (.cells #[.slice none 0 0] 26)).alloc (.cells #[.slice none 0 0] 26)).heap[w.heap.size + 1 + 1]? = some (.cells #[.slice none 0 0] 26 (0, 0)) := at_newN (by simp)
  have hR : (((w.alloc (.cells #[.slice a0 p c0] 26)).alloc (.cells #[.slice none 0 0] 26)).alloc (.cells #[.slice none 0 0] 26)).heap[w.heap.size + 1]? = some (.cells #[.slice none 0 0] 26 (0, 0)) := at_oldN (at_newN (by simp))
  have hB : Below (w.heap.size + 1) (w.alloc (.cells #[.slice a0 p c0] 26)) (((w.alloc (.cells #[.slice a0 p c0] 26)).alloc (.cells #[.slice none 0 0] 26)).alloc (.cells #[.slice none 0 0] 26)) := ((Below.refl _ _).alloc (by simp) _).alloc (by simp) _
  have hB0 : Below w.heap.size w (((w.alloc (.cells #[.slice a0 p c0] 26)).alloc (.cells #[.slice none 0 0] 26)).alloc (.cells #[.slice none 0 0] 26)) := (hb0.out.alloc (by simp) _).alloc (by simp; omega) _
  have hz1' : (((w.alloc (.cells #[.slice a0 p c0] 26)).alloc (.cells #[.slice none 0 0] 26)).alloc (.cells #[.slice none 0 0] 26)).heap.size = w.heap.size + 3 := by simp
  generalize (((w.alloc (.cells #[.slice a0 p c0] 26)).alloc (.cells #[.slice none 0 0] 26)).alloc (.cells #[.slice none 0 0] 26)) = w1 at hX hR hB hB0 hz1' ⊢
  generalize (w.alloc (.cells #[.slice a0 p c0] 26)) = w0 at hw0 h0 s00 hB hb0 ⊢
  obtain ⟨S0, hS0⟩ : ∃ S0, S0 = w.heap.size := ⟨_, rfl⟩
  rw [← hw0] at hB
  rw [← hS0] at s00 hX hR hw0 hz1' ⊢
  have hmid : Mid w0 w1 (S0 + 1 + 1) := ⟨by omega, by omega⟩
  have hmid1 : Mid w0 w1 (S0 + 1) := ⟨by omega, by omega⟩
  replace hX := Lib.hid hX
  replace hR := Lib.hid hR
  replace hB := Lib.hid hB
  replace hB0 := Lib.hid hB0
  replace hS0 := Lib.hid hS0
  replace hw0 := Lib.hid hw0
  replace hz1' := Lib.hid hz1'
  go_wp2_with fail
  go_loopw [5] (fun i wr => ∃ (k : Nat) (v : Value), k ≤ p ∧ i = .int .i64 k ∧ Hid (RowAt 3 RdFun w0 w1 wr (S0 + 1 + 1) #[v] 26 39 v ((P.take k).map renF))) (fun i _ => p - (intOf i).toNat)
  case atStart => exact ⟨0, .slice none 0 0, Nat.zero_le _, rfl, Lib.hid ⟨hX.out, Touch.refl _ _, OwnE.nil _ _ _⟩⟩
  case round =>
    obtain ⟨k, v, hk, rfl, hG⟩ := hrel
    have hB1 : Below w0.heap.size w0 wr := hB.out.trans (hG.out.touch.below hB.out.size (fun j hj e => by have := hw0.out; omega))
    have s0 := keepC hB1 s00.out
    obtain ⟨av, cv, hvv⟩ := hG.out.row.form
    rw [List.length_map, List.length_take_of_le (by rw [← hp.out]; omega)] at hvv
    subst hvv
    by_cases hlt : k < p
    · have j1 : decide ((k : Int) < (p : Int)) = true := by simpa using hlt
      have j2 : (k : Int) < (p : Int) := by omega
      obtain ⟨d, hd⟩ : ∃ d, P[k]? = some d := ⟨_, List.getElem?_eq_getElem (by rw [← hp.out]; exact hlt)⟩
      obtain ⟨g, off, cap, cs, e, hgl, ⟨vp, vb, rfl, rp, rb⟩, -, hcell⟩ := h0.out.at hd
      rw [← hp.out] at e
      simp only [Value.slice.injEq] at e
      obtain ⟨rfl, -, rfl⟩ := e
      obtain ⟨ap, cp, rfl⟩ := rp.shape
      obtain ⟨ab, cb, rfl⟩ := rb.form
      have q0 : wr.cell? ⟨g, off + k * 3, none⟩ = some (.string d.name) := keepC hB1 (hcell 0 _ rfl)
      have hI2 : Hid (In2 w0 S0 g off p c0 k ap d.params.length cp) := Lib.hid ⟨s00.out, hcell 1 _ rfl⟩
      have hI4 : Hid (In4 w0 S0 g off p c0 k ab d.blocks.length cb) := Lib.hid ⟨s00.out, hcell 2 _ rfl⟩
      have hda := Lib.hid (hal.out d (List.mem_of_getElem? hd))
      have hds := Lib.hid (hsh.out d (List.mem_of_getElem? hd))
      replace hd := Lib.hid hd
      replace rp := Lib.hid rp
      replace rb := Lib.hid rb
      replace hB1 := Lib.hid hB1
      clear hcell
      go_upto_block 2 with fail
      have hW5 : Hid (Below w0.heap.size w0 (wr.alloc (.cells #[.string d.name, .slice none 0 0, .slice none 0 0] 39))) := Lib.hid (hB1.out.alloc hB1.out.size _)
      have hz5 : (wr.alloc (.cells #[.string d.name, .slice none 0 0, .slice none 0 0] 39)).heap.size = wr.heap.size + 1 := by simp
      refine ren2 (by kernel_rfl) (w0 := w0) (d := d) rfl hI2.out hW5.out rp.out (heap_alloc_new _ _) hB1.out.size j2 hda.out.1 hds.out.1 (fun {_ a a1 _} h e => by cases a; cases a1; cases e; exact h) (Lib.hid ?_)
      intros
      rename_i hx8
      rename World => w2
      obtain ⟨v2, hX2, hT2, hO2⟩ := hx8
      obtain ⟨a2, c2, rfl⟩ := own_formR hO2
      have hl2 : wr.heap.size + 1 ≤ w2.heap.size := by have := hT2.size; omega
      have hW2 : Below w0.heap.size w0 w2 := hW5.out.trans (hT2.below hW5.out.size (fun j hj e => by have := hB1.out.size; omega))
      have hT2 := Lib.hid hT2
      have hO2 := Lib.hid hO2
      have hX2 := Lib.hid hX2
      go_upto_block 4 with fail
      refine ren4 (by kernel_rfl) (w0 := w0) (d := d) rfl hI4.out hW2 rb.out hX2.out hB1.out.size j2 hda.out.2.1 (fun x hx => ⟨(hda.out.2.2 x hx).1, fun c hc => ⟨(hda.out.2.2 x hx).2 c hc, hds.out.2 x hx c hc⟩⟩) (fun {_ a a1 _} h e => by cases a; cases a1; cases e; exact h) (Lib.hid ?_)
      intros
      rename_i hx8
      rename World => w6
      obtain ⟨v6, hR6⟩ := hx8
      obtain ⟨a6, c6, hv6⟩ := hR6.row.form
      rw [List.length_map] at hv6
      subst hv6
      have hT6 := hR6.touch
      have hl6 : w2.heap.size ≤ w6.heap.size := hT6.size
      have hlw : w1.heap.size ≤ wr.heap.size := hG.out.touch.size
      have hlSb : S0 + 1 + 1 < wr.heap.size := by have := hmid.2; omega
      have hSb6 : w6.heap[S0 + 1 + 1]? = some (.cells #[.slice av k cv] 26 (0, 0)) := (hT6.block _ (by omega) (by omega)).trans ((hT2.out.block _ (by omega) (by omega)).trans (at_oldN hG.out.blk))
      obtain ⟨x0, x1, x2⟩ := cells3R hR6.blk
      have p1 : w6.cell? ⟨S0 + 1 + 1, 0, none⟩ = some (.slice av k cv) := by rw [blk_cell hSb6]; rfl
      have hTw6 : Touch wr w6 (fun j => j = S0 + 1 + 1) := (((Touch.refl wr (fun j => j = S0 + 1 + 1)).alloc _).then hT2.out (fun j hj e => by omega)).then hT6 (fun j hj e => by omega)
      have hv : ∀ g, (Value.slice av k cv).ownBlock = some g → ¬ Mid w0 w1 g := fun g hg e => by have := (hG.out.row.lt g hg).1; have := e.2; omega
      have hTw7 := hTw6.alloc (.cells #[.string d.name, .slice a2 d.params.length c2, .slice a6 d.blocks.length c6] 39)
      have hown7 := Lib.hid (hG.out.row.go (hTw7.mono (fun j _ e => by rw [e]; exact hmid)) hv)
      have hno : ∀ j, ((Value.slice av k cv).ownBlock = some j ∨ Mid w0 w1 j) → w0.heap.size ≤ j ∧ j < wr.heap.size := fun j hj => by
        have hbx := hB.out.size
        rcases hj with hj | hj
        · have h1 := (hG.out.row.lt j hj).1
          have h2 := (hG.out.row.lt j hj).2
          omega
        · exact ⟨hj.1, by have := hj.2; omega⟩
      have hO7 := ownsRow_touch (S := fun j => j = wr.heap.size) hO2.out (hT6.alloc (.cells #[.string d.name, .slice a2 d.params.length c2, .slice a6 d.blocks.length c6] 39)) (fun g hg e => by have := (hO2.out.lt g hg).1; omega)
      have haw : Away (fun j => (Value.slice av k cv).ownBlock = some j ∨ Mid w0 w1 j) RdFun (w6.alloc (.cells #[.string d.name, .slice a2 d.params.length c2, .slice a6 d.blocks.length c6] 39)) [.string d.name, .slice a2 d.params.length c2, .slice a6 d.blocks.length c6] (renF d) := fun w' t' =>
        ⟨_, _, rfl, rds_ownR (ownsRow_touch hO7 t' (fun g hg hj => by have h1 := (hO7.lt g hg).1; have := (hno g hj).2; omega)), hR6.away ((Touch.refl w6 (fun _ => False)).alloc _) (fun j hj => ⟨(hno j hj).1, by have := (hno j hj).2; omega⟩) t'⟩
      have hrd7 : Hid (RdE 3 (Away (fun j => (Value.slice av k cv).ownBlock = some j ∨ Mid w0 w1 j) RdFun) (w6.alloc (.cells #[.string d.name, .slice a2 d.params.length c2, .slice a6 d.blocks.length c6] 39)) (.slice (some ⟨w6.heap.size, 0, none⟩) 1 1) [renF d]) := Lib.hid (rde_oneR (t := 39) (heap_alloc_new _ _) haw rfl)
      replace hTw7 := Lib.hid hTw7
      replace hSb6 := Lib.hid hSb6
      have hlen : Hid (((P.take k).map renF).length = k) := Lib.hid (by rw [List.length_map, List.length_take_of_le (by rw [← hp.out]; omega)])
      have hlow : w1.heap.size ≤ (w6.alloc (.cells #[.string d.name, .slice a2 d.params.length c2, .slice a6 d.blocks.length c6] 39)).heap.size := by simp; omega
      clear hT6 hR6 hTw6 haw hv s0 q0 hno hO7 hz5
      go_wp2_with (at_builtin; refine wpList_append_away _ rfl _ _ 24 rfl w1.heap.size 39 i0 _ 64 Try.underlying24 hi0 hz0 hz1 hz2 rfl (by decide) (Mid w0 w1) (.slice av k cv) ((P.take k).map renF) rfl hown7.out _ [renF d] rfl hrd7.out plain_fun (by rw [hlen.out]; simp; unfold maxLen; omega) (by rw [hlen.out]; simp; omega) hlow ?_)
      intro v8 w8 hO8 hT8 hat8
      have hO8 : OwnE 3 (Away (fun j => v8.ownBlock = some j ∨ Mid w0 w1 j) RdFun) w8 w1.heap.size 39 v8 ((P.take (k + 1)).map renF) := by
        rw [← renF_snoc hd.out, List.map_take]
        exact hO8
      obtain ⟨a8, c8, e8⟩ := hO8.form
      rw [List.length_map, List.length_take_of_le (by rw [← hp.out]; omega)] at e8
      subst e8
      have hSb8 : w8.heap[S0 + 1 + 1]? = some (.cells #[.slice av k cv] 26 (0, 0)) := (hT8.block _ (by simp; omega) (fun e => by have := (hown7.out.lt _ e).1; have := hmid.2; omega)).trans (at_oldN hSb6.out)
      have f1 : w8.frozen? ⟨S0 + 1 + 1, 0, none⟩ = false := by simp [World.frozen?, hSb8]
      have z1 : w8.cell? ⟨S0 + 1 + 1, 0, none⟩ = some (.slice av k cv) := by rw [blk_cell hSb8]; rfl
      have hTs : Touch w8 (w8.setCell ⟨S0 + 1 + 1, 0, none⟩ (.slice a8 (k + 1) c8)) (fun j => j = S0 + 1 + 1) := (Touch.refl w8 (fun j => j = S0 + 1 + 1)).setCell (a := ⟨S0 + 1 + 1, 0, none⟩) (fun _ => rfl) _
      have hfin : Hid (RowAt 3 RdFun w0 w1 (w8.setCell ⟨S0 + 1 + 1, 0, none⟩ (.slice a8 (k + 1) c8)) (S0 + 1 + 1) #[.slice a8 (k + 1) c8] 26 39 (.slice a8 (k + 1) c8) ((P.take (k + 1)).map renF)) := Lib.hid ⟨blk_set (i := 0) _ hSb8, ((hG.out.touch.trans hTw7.out).then hT8 (fun j hj e => absurd (hown7.out.lt j e).1 (by omega))).setCell (a := ⟨S0 + 1 + 1, 0, none⟩) (fun _ => rfl) _, hO8.go (hTs.mono (fun j _ e => by rw [e]; exact hmid)) (fun g hg e => by have := (hO8.lt g hg).1; have := e.2; omega)⟩
      clear hO8 hT8 hat8 hSb8 hTs hown7 hrd7 x0 x1 x2 p1
      go_wp2_with fail
      go_roundw
      case rel => exact ⟨k + 1, .slice a8 (k + 1) c8, by omega, by go_num, hfin⟩
      case measure => simp [intOf]; omega
    · obtain rfl : k = p := by omega
      have j1 : decide ((k : Int) < (k : Int)) = false := by simp
      have hend : Hid (((P.take k).map renF) = P.map renF) := Lib.hid (by rw [List.take_of_length_le (by rw [← hp.out]; exact Nat.le_refl _)])
      have p1 : wr.cell? ⟨S0 + 1 + 1, 0, none⟩ = some (.slice av k cv) := by rw [blk_cell hG.out.blk]; rfl
      have hRr : wr.heap[S0 + 1]? = some (.cells #[.slice none 0 0] 26 (0, 0)) := (hG.out.touch.block _ hmid1.2 (by omega)).trans hR.out
      have f1 : wr.frozen? ⟨S0 + 1, 0, none⟩ = false := by simp [World.frozen?, hRr]
      have z1 : wr.cell? ⟨S0 + 1, 0, none⟩ = some (.slice none 0 0) := by rw [blk_cell hRr]; rfl
      have hTs : Touch wr (wr.setCell ⟨S0 + 1, 0, none⟩ (.slice av k cv)) (fun j => j = S0 + 1) := (Touch.refl wr (fun j => j = S0 + 1)).setCell (a := ⟨S0 + 1, 0, none⟩) (fun _ => rfl) _
      have hRd : RdE 3 RdFun (wr.setCell ⟨S0 + 1, 0, none⟩ (.slice av k cv)) (.slice av k cv) (P.map renF) := by
        rw [← hend.out]
        exact hG.out.row.to hTs (fun g hg e => by have := (hG.out.row.lt g hg).1; have := hmid1.2; omega) (fun j _ e => by rw [e]; exact hmid1)
      have hBf : Below w.heap.size w (wr.setCell ⟨S0 + 1, 0, none⟩ (.slice av k cv)) := by
        have e := hS0.out
        have t1 : Touch w1 wr (fun j => j = S0 + 1 + 1 ∨ j = S0 + 1) := hG.out.touch.mono (fun j _ h => .inl h)
        exact hB0.out.trans ((t1.trans (hTs.mono (fun j _ h => .inr h))).below hB0.out.size (fun j hj h => by rcases h with h | h <;> omega))
      clear hB1
      go_wp2_with fail
      exact bodyPost_ret (v := .agg #[.slice av k cv]) (by simp [results, Try.results19, go_sem, *]) rfl ⟨_, rfl, hRd, hBf⟩
end
end Go.Proofs.YtjblhiekccjdcaaR
