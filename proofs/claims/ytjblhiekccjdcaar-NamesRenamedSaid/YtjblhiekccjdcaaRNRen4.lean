/- names: renamed: rows of texts. -/
import Derived.Test.YtjblhiekccjdcaaRNRen2
import Derived.Test.YtjblhiekccjdcaaRSep
import Derived.Test.YtjblhiekccjdcaaRFindB
import Derived.Deep.RegionHeld3
import Derived.Deep.RegionLaw
import Derived.Deep.AppendLies
namespace Go.Proofs.YtjblhiekccjdcaaR
open Go.RowKit Go.Maps Go.Shelf
attribute [local go_sem] Oper.semAt_some

theorem rds_ownR {w : World} {base n : Nat} {v : Value} {ss : List ByteArray} {t : TypeId} (h : w.ownsRow base t 1 v n (ss.map Value.string)) : RdS w v ss := by
  rcases h.2 with ⟨rfl, h0⟩ | ⟨g, cap, cur, rfl, h1, h2, h3, h4, h5, h6⟩
  · have : ss = [] := by have := h.1; rw [h0, List.length_map] at this; exact List.eq_nil_of_length_eq_zero (by omega)
    subst this
    exact rds_none w
  · have hl : n = ss.length := by have := h.1; rw [List.length_map] at this; omega
    subst hl
    refine Or.inr ⟨g, 0, cap, by simp, (h.lt g rfl).2, fun k u hu => ?_⟩
    have := h.cells (g := g) rfl k u hu
    rw [add0] at this
    rw [Nat.zero_add]
    exact this
theorem own_formR {w : World} {base n : Nat} {v : Value} {xs : List Value} {t : TypeId} {size : Nat} (h : w.ownsRow base t size v n xs) : ∃ a c, v = .slice a n c := by
  rcases h.2 with ⟨rfl, h0⟩ | ⟨g, cap, cur, rfl, h1, h2⟩
  · exact ⟨none, 0, by rw [h0]⟩
  · exact ⟨_, cap, rfl⟩
/-- Where an instruction's arguments lie. -/
structure In8 (W : World) (S0 gp op p cp f gb ob nb cb b gc oc nc cc k : Nat) (aa : Option Addr) (na ca : Nat) : Prop where
  s0 : W.cell? ⟨S0, 0, none⟩ = some (.slice (some ⟨gp, op, none⟩) p cp)
  s1 : W.cell? ⟨gp, op + f * 3 + 2, none⟩ = some (.slice (some ⟨gb, ob, none⟩) nb cb)
  s2 : W.cell? ⟨gb, ob + b * 2 + 1, none⟩ = some (.slice (some ⟨gc, oc, none⟩) nc cc)
  s3 : W.cell? ⟨gc, oc + k * 8 + 6, none⟩ = some (.slice aa na ca)
theorem In8.keep {W W' : World} {S0 gp op p cp f gb ob nb cb b gc oc nc cc k : Nat} {aa : Option Addr} {na ca : Nat} (h : In8 W S0 gp op p cp f gb ob nb cb b gc oc nc cc k aa na ca) (hb : Below W.heap.size W W') : In8 W' S0 gp op p cp f gb ob nb cb b gc oc nc cc k aa na ca :=
  ⟨keepC hb h.s0, keepC hb h.s1, keepC hb h.s2, keepC hb h.s3⟩
/-- Where a function's parameters lie. -/
structure In2 (W : World) (S0 gp op p cp f : Nat) (aa : Option Addr) (na ca : Nat) : Prop where
  s0 : W.cell? ⟨S0, 0, none⟩ = some (.slice (some ⟨gp, op, none⟩) p cp)
  s1 : W.cell? ⟨gp, op + f * 3 + 1, none⟩ = some (.slice aa na ca)
theorem In2.keep {W W' : World} {S0 gp op p cp f : Nat} {aa : Option Addr} {na ca : Nat} (h : In2 W S0 gp op p cp f aa na ca) (hb : Below W.heap.size W W') : In2 W' S0 gp op p cp f aa na ca := ⟨keepC hb h.s0, keepC hb h.s1⟩
theorem ren_snoc {l : List ByteArray} {n : Nat} {s : ByteArray} (h : l[n]? = some s) : ((l.take n).map renV).map Value.string ++ [renV s].map Value.string = ((l.take (n + 1)).map renV).map Value.string := by
  rw [take_snocS h]
  simp
set_option maxRecDepth 20000 in
set_option maxHeartbeats 2000000 in
theorem ren8 {c : Code} (hc : Func.blockOf Try.f19 8 = some c) {Q : Exit → Act → World → Prop} {w0 w : World} {fv : Value} {S0 gp op p cp f gb ob nb cb b gc oc nc cc k Sx : Nat} {aa : Option Addr} {na ca : Nat} {y : Ins} {c0 c1 c2 c3 c4 c5 c7 : Value} {u0 u2 u4 u6 u7 u9 u13 u14 u15 u16 u17 u18 u19 u20 u21 u22 u23 u24 u25 u26 u27 u28 u29 u30 u31 u32 u33 u34 u35 u36 u37 u38 u39 u40 u41 u42 u43 u44 u45 u46 u47 u48 u49 u50 u51 u52 u53 u54 u55 u56 u57 u58 u59 u60 u61 u62 u63 u64 u65 u66 u67 u68 u69 u70 u71 u72 u73 u74 u75 u76 u77 u78 u79 u80 u81 u82 u83 u84 u85 u86 u87 u88 u89 u90 u91 u92 u93 u94 u95 u96 u97 u98 u99 u100 u101 u102 u103 u104 u105 u106 u107 u108 u109 u110 u111 u112 u113 u114 u115 u116 u117 u118 u119 u120 u121 u122 u123 u124 u125 u126 u127 u128 u129 u130 u131 u132 u133 u134 u135 u136 u137 u138 u139 u140 u141 u142 u143 u144 u145 u146 u147 u148 u149 u150 u151 u152 u153 u154 u155 u156 u157 u158 u159 u160 u161 u162 u163 u164 u165 u166 u167 u168 u169 u170 u171 u172 u173 u174 u175 u176 u177 u178 u179 u180 u181 : Value}
    (hfv : fv = .func (.func 23) #[] #[]) (hI : In8 w0 S0 gp op p cp f gb ob nb cb b gc oc nc cc k aa na ca) (hB : Below w0.heap.size w0 w) (ra : RdS w0 (.slice aa na ca) y.args) (hX : w.heap[Sx]? = some (.cells #[c0, c1, c2, c3, c4, c5, .slice none 0 0, c7] 47 (0, 0))) (hSx : w0.heap.size ≤ Sx) (hf : (f : Int) < (p : Int)) (hb : (b : Int) < (nb : Int)) (hk : (k : Int) < (nc : Int)) (hna : y.args.length ≤ 1000000) (hfit : ∀ s ∈ y.args, s.size ≤ 60) (hPn : ∀ {x} {a a1 : Act} {w1 : World}, Q (.panic x) a w1 → a.defers = a1.defers → Q (.panic x) a1 w1)
    (hQ : Hid (∀ {wx : World} {v12 v120 v121 v122 v123 v124 v125 v126 v127 v128 v129 v130 v131 v132 v133 v134 v135 v136 v137 v138 v139 v140 v141 v142 v143 v144 v145 v146 v147 v148 v149 v150 v151 v152 v153 v154 v155 v156 v157 v158 v159 v160 v161 v162 : Value}, (∃ v, wx.heap[Sx]? = some (.cells #[c0, c1, c2, c3, c4, c5, v, c7] 47 (0, 0)) ∧ Touch w wx (fun k => k = Sx) ∧ wx.ownsRow w.heap.size 9 1 v na ((y.args.map renV).map Value.string)) → Q .normal { tmps := #[u0, .pointer (some ⟨S0, 0, none⟩), u2, fv, u4, .int .i64 f, u6, u7, .int .i64 b, u9, .int .i64 k, .pointer (some ⟨Sx, 0, none⟩), v12, u13, u14, u15, u16, u17, u18, u19, u20, u21, u22, u23, u24, u25, u26, u27, u28, u29, u30, u31, u32, u33, u34, u35, u36, u37, u38, u39, u40, u41, u42, u43, u44, u45, u46, u47, u48, u49, u50, u51, u52, u53, u54, u55, u56, u57, u58, u59, u60, u61, u62, u63, u64, u65, u66, u67, u68, u69, u70, u71, u72, u73, u74, u75, u76, u77, u78, u79, u80, u81, u82, u83, u84, u85, u86, u87, u88, u89, u90, u91, u92, u93, u94, u95, u96, u97, u98, u99, u100, u101, u102, u103, u104, u105, u106, u107, u108, u109, u110, u111, u112, u113, u114, u115, u116, u117, u118, u119, v120, v121, v122, v123, v124, v125, v126, v127, v128, v129, v130, v131, v132, v133, v134, v135, v136, v137, v138, v139, v140, v141, v142, v143, v144, v145, v146, v147, v148, v149, v150, v151, v152, v153, v154, v155, v156, v157, v158, v159, v160, v161, v162, u163, u164, u165, u166, u167, u168, u169, u170, u171, u172, u173, u174, u175, u176, u177, u178, u179, u180, u181], defers := [] } wx)) :
    c.wp Try.prog Q { tmps := #[u0, .pointer (some ⟨S0, 0, none⟩), u2, fv, u4, .int .i64 f, u6, u7, .int .i64 b, u9, .int .i64 k, .pointer (some ⟨Sx, 0, none⟩), .int .i64 0, u13, u14, u15, u16, u17, u18, u19, u20, u21, u22, u23, u24, u25, u26, u27, u28, u29, u30, u31, u32, u33, u34, u35, u36, u37, u38, u39, u40, u41, u42, u43, u44, u45, u46, u47, u48, u49, u50, u51, u52, u53, u54, u55, u56, u57, u58, u59, u60, u61, u62, u63, u64, u65, u66, u67, u68, u69, u70, u71, u72, u73, u74, u75, u76, u77, u78, u79, u80, u81, u82, u83, u84, u85, u86, u87, u88, u89, u90, u91, u92, u93, u94, u95, u96, u97, u98, u99, u100, u101, u102, u103, u104, u105, u106, u107, u108, u109, u110, u111, u112, u113, u114, u115, u116, u117, u118, u119, u120, u121, u122, u123, u124, u125, u126, u127, u128, u129, u130, u131, u132, u133, u134, u135, u136, u137, u138, u139, u140, u141, u142, u143, u144, u145, u146, u147, u148, u149, u150, u151, u152, u153, u154, u155, u156, u157, u158, u159, u160, u161, u162, u163, u164, u165, u166, u167, u168, u169, u170, u171, u172, u173, u174, u175, u176, u177, u178, u179, u180, u181], defers := [] } w := by
  conv at hc => lhs; whnf
  simp only [Option.some.injEq] at hc
  subst hc
  subst hfv
  obtain ⟨i0, hi0, hz0, hz1, hz2⟩ := info_parts infoStrN
  have hn8 : Hid (na = y.args.length) := Lib.hid (by obtain ⟨a, q, e⟩ := RdS.shape ra; simp only [Value.slice.injEq] at e; exact e.2.1)
  have hnm : na ≤ 1000000 := by rw [hn8.out]; exact hna
  have hXlt : Sx < w.heap.size := (Array.getElem?_eq_some_iff.1 hX).1
  replace ra := Lib.hid ra
  replace hI := Lib.hid hI
  replace hB := Lib.hid hB
  replace hX := Lib.hid hX
  replace hfit := Lib.hid hfit
  go_wp2_with fail
  go_loopw [12] (fun i wr => ∃ (n : Nat) (v : Value), n ≤ na ∧ i = .int .i64 n ∧ Hid (wr.heap[Sx]? = some (.cells #[c0, c1, c2, c3, c4, c5, v, c7] 47 (0, 0)) ∧ Touch w wr (fun k => k = Sx) ∧ wr.ownsRow w.heap.size 9 1 v n (((y.args.take n).map renV).map Value.string))) (fun i _ => na - (intOf i).toNat)
  case atStart => exact ⟨0, .slice none 0 0, Nat.zero_le _, rfl, Lib.hid ⟨hX.out, Touch.refl _ _, World.ownsRow_nil _ _ _ _⟩⟩
  case round =>
    obtain ⟨n, v, hn, rfl, hG⟩ := hrel
    obtain ⟨hX1, hT1, hO1⟩ := hG.out
    have hB1 : Below w0.heap.size w0 wr := hB.out.trans (hT1.below hB.out.size (fun k hk e => by omega))
    obtain ⟨s0, s1, s2, s3⟩ := hI.out.keep hB1
    by_cases hlt : n < na
    · have j1 : decide ((n : Int) < (na : Int)) = true := by simpa using hlt
      have j2 : (n : Int) < (na : Int) := by omega
      obtain ⟨s, hs⟩ : ∃ s, y.args[n]? = some s := ⟨_, List.getElem?_eq_getElem (by rw [← hn8.out]; exact hlt)⟩
      obtain ⟨ga, oa, ca', e, hcl0⟩ := RdS.cell ra.out hs
      have hcl := keepC hB1 hcl0
      replace hcl0 := Lib.hid hcl0
      rw [← hn8.out] at e
      simp only [Value.slice.injEq] at e
      obtain ⟨rfl, -, rfl⟩ := e
      obtain ⟨av, cv, rfl⟩ := own_formR hO1
      have x6 : wr.cell? ⟨Sx, 6, none⟩ = some (.slice av n cv) := by rw [blk_cell hX1]; rfl
      obtain ⟨XS, hXS⟩ : ∃ XS, XS = ((y.args.take n).map renV).map Value.string := ⟨_, rfl⟩
      rw [← hXS] at hO1
      replace hXS := Lib.hid hXS
      have hone := Lib.hid (fun w => ren_one (s := s) (by have := hfit.out s (List.mem_of_getElem? hs); omega) w)
      have hown2 : Hid ((wr.drew.alloc (.cells #[.string (renV s)] 9)).ownsRow w.heap.size 9 1 (.slice av n cv) n XS) := Lib.hid (ownsRow_touch hO1 (((Touch.refl wr (fun _ => False)).drew).alloc _) (fun _ _ h => h))
      have hbase : w.heap.size ≤ wr.heap.size := hT1.size
      have lSx : Sx < wr.heap.size := Nat.lt_of_lt_of_le hXlt hbase
      have hne : Hid (∀ g, (Value.slice av n cv).ownBlock = some g → ¬ g = Sx) := Lib.hid (fun g hg e => by have := (hO1.lt g hg).1; omega)
      replace hX1 := Lib.hid hX1
      replace hT1 := Lib.hid hT1
      replace hs := Lib.hid hs
      have hC : wr.drew.cell? ⟨S0, 0, none⟩ = some (.slice (some ⟨gp, op, none⟩) p cp) ∧ wr.drew.cell? ⟨gp, op + f * 3 + 2, none⟩ = some (.slice (some ⟨gb, ob, none⟩) nb cb) ∧ wr.drew.cell? ⟨gb, ob + b * 2 + 1, none⟩ = some (.slice (some ⟨gc, oc, none⟩) nc cc) ∧ wr.drew.cell? ⟨gc, oc + k * 8 + 6, none⟩ = some (.slice (some ⟨ga, oa, none⟩) na ca) ∧ wr.drew.cell? ⟨ga, oa + n, none⟩ = some (.string s) := ⟨s0, s1, s2, s3, hcl⟩
      have x6 : wr.drew.cell? ⟨Sx, 6, none⟩ = some (.slice av n cv) := x6
      have hCB := Lib.hid (fun (w' : World) (hb : Below wr.drew.heap.size wr.drew w') => (⟨keepC hb hC.1, keepC hb hC.2.1, keepC hb hC.2.2.1, keepC hb hC.2.2.2.1, keepC hb hC.2.2.2.2⟩ : w'.cell? ⟨S0, 0, none⟩ = some (.slice (some ⟨gp, op, none⟩) p cp) ∧ w'.cell? ⟨gp, op + f * 3 + 2, none⟩ = some (.slice (some ⟨gb, ob, none⟩) nb cb) ∧ w'.cell? ⟨gb, ob + b * 2 + 1, none⟩ = some (.slice (some ⟨gc, oc, none⟩) nc cc) ∧ w'.cell? ⟨gc, oc + k * 8 + 6, none⟩ = some (.slice (some ⟨ga, oa, none⟩) na ca) ∧ w'.cell? ⟨ga, oa + n, none⟩ = some (.string s)))
      have hCF := Lib.hid (fun (w' : World) (hb : Below w0.heap.size w0 w') => (⟨keepC hb hI.out.s0, keepC hb hI.out.s1, keepC hb hI.out.s2, keepC hb hI.out.s3, keepC hb hcl0.out⟩ : w'.cell? ⟨S0, 0, none⟩ = some (.slice (some ⟨gp, op, none⟩) p cp) ∧ w'.cell? ⟨gp, op + f * 3 + 2, none⟩ = some (.slice (some ⟨gb, ob, none⟩) nb cb) ∧ w'.cell? ⟨gb, ob + b * 2 + 1, none⟩ = some (.slice (some ⟨gc, oc, none⟩) nc cc) ∧ w'.cell? ⟨gc, oc + k * 8 + 6, none⟩ = some (.slice (some ⟨ga, oa, none⟩) na ca) ∧ w'.cell? ⟨ga, oa + n, none⟩ = some (.string s)))
      have hB1 := Lib.hid hB1
      clear hO1 hG
      go_upto_region 26 with fail
      clear s0 s1 s2 s3 hcl
      refine wp_region_held_drew (S := (fun w' => w'.cell? ⟨S0, 0, none⟩ = some (.slice (some ⟨gp, op, none⟩) p cp) ∧ w'.cell? ⟨gp, op + f * 3 + 2, none⟩ = some (.slice (some ⟨gb, ob, none⟩) nb cb) ∧ w'.cell? ⟨gb, ob + b * 2 + 1, none⟩ = some (.slice (some ⟨gc, oc, none⟩) nc cc) ∧ w'.cell? ⟨gc, oc + k * 8 + 6, none⟩ = some (.slice (some ⟨ga, oa, none⟩) na ca) ∧ w'.cell? ⟨ga, oa + n, none⟩ = some (.string s))) (by kernel_rfl) hC (fun hHeld => ?_)
      clear hHeld
      refine wpAnyH_take (i := 0) (oi := (Oper.mk (some 139) (Op.fieldAddr 47 (Operand.tmp 11) 6) 0 "outright.go:247" #[] none)) (v := ?_) rfl (by kernel_rfl) (by kernel_rfl) (by kernel_rfl) (fun _ _ _ h => hPn h rfl) (Or.inl ⟨by rfl, ?_⟩) hC ?_
      rotate_left
      · (intro w hSw; (try dsimp only at hSw); go_simp; try with_reducible rfl)
      try simp only [Act.put, List.setIfInBounds_toArray, List.set_cons_zero, List.set_cons_succ]
      refine wpAnyH_take (i := 2) (oi := (Oper.mk (some 141) (Op.move (Operand.tmp 3)) 59 "outright.go:247" #[] none)) (v := ?_) rfl (by kernel_rfl) (by kernel_rfl) (by kernel_rfl) (fun _ _ _ h => hPn h rfl) (Or.inl ⟨by rfl, ?_⟩) hC ?_
      rotate_left
      · (intro w hSw; (try dsimp only at hSw); go_simp; try with_reducible rfl)
      try simp only [Act.put, List.setIfInBounds_toArray, List.set_cons_zero, List.set_cons_succ]
      refine wpAnyH_take (i := 3) (oi := (Oper.mk (some 142) (Op.fieldAddr 26 (Operand.tmp 1) 0) 0 "outright.go:247" #[] none)) (v := ?_) rfl (by kernel_rfl) (by kernel_rfl) (by kernel_rfl) (fun _ _ _ h => hPn h rfl) (Or.inl ⟨by rfl, ?_⟩) hC ?_
      rotate_left
      · (intro w hSw; (try dsimp only at hSw); go_simp; try with_reducible rfl)
      try simp only [Act.put, List.setIfInBounds_toArray, List.set_cons_zero, List.set_cons_succ]
      refine wpAnyH_take (i := 4) (oi := (Oper.mk (some 143) (Op.load 24 (Operand.tmp 142)) 24 "outright.go:247" #[(Edge.mk 3 Ground.data)] none)) (v := ?_) rfl (by kernel_rfl) (by kernel_rfl) (by kernel_rfl) (fun _ _ _ h => hPn h rfl) (Or.inl ⟨by rfl, ?_⟩) hC ?_
      rotate_left
      · (intro w hSw; (try dsimp only at hSw); go_simp; try with_reducible rfl)
      try simp only [Act.put, List.setIfInBounds_toArray, List.set_cons_zero, List.set_cons_succ]
      refine wpAnyH_take (i := 5) (oi := (Oper.mk (some 144) (Op.move (Operand.tmp 5)) 3 "outright.go:247" #[] none)) (v := ?_) rfl (by kernel_rfl) (by kernel_rfl) (by kernel_rfl) (fun _ _ _ h => hPn h rfl) (Or.inl ⟨by rfl, ?_⟩) hC ?_
      rotate_left
      · (intro w hSw; (try dsimp only at hSw); go_simp; try with_reducible rfl)
      try simp only [Act.put, List.setIfInBounds_toArray, List.set_cons_zero, List.set_cons_succ]
      refine wpAnyH_take (i := 6) (oi := (Oper.mk (some 145) (Op.indexAddr 24 (Operand.tmp 143) (Operand.tmp 144)) 0 "outright.go:247" #[(Edge.mk 4 Ground.data), (Edge.mk 5 Ground.data)] none)) (v := ?_) rfl (by kernel_rfl) (by kernel_rfl) (by kernel_rfl) (fun _ _ _ h => hPn h rfl) (Or.inl ⟨by rfl, ?_⟩) hC ?_
      rotate_left
      · (intro w hSw; (try dsimp only at hSw); go_simp; try with_reducible rfl)
      try simp only [Act.put, List.setIfInBounds_toArray, List.set_cons_zero, List.set_cons_succ]
      refine wpAnyH_take (i := 7) (oi := (Oper.mk (some 146) (Op.fieldAddr 39 (Operand.tmp 145) 2) 0 "outright.go:247" #[(Edge.mk 6 Ground.data)] none)) (v := ?_) rfl (by kernel_rfl) (by kernel_rfl) (by kernel_rfl) (fun _ _ _ h => hPn h rfl) (Or.inl ⟨by rfl, ?_⟩) hC ?_
      rotate_left
      · (intro w hSw; (try dsimp only at hSw); go_simp; try with_reducible rfl)
      try simp only [Act.put, List.setIfInBounds_toArray, List.set_cons_zero, List.set_cons_succ]
      refine wpAnyH_take (i := 8) (oi := (Oper.mk (some 147) (Op.load 37 (Operand.tmp 146)) 37 "outright.go:247" #[(Edge.mk 7 Ground.data)] none)) (v := ?_) rfl (by kernel_rfl) (by kernel_rfl) (by kernel_rfl) (fun _ _ _ h => hPn h rfl) (Or.inl ⟨by rfl, ?_⟩) hC ?_
      rotate_left
      · (intro w hSw; (try dsimp only at hSw); go_simp; try with_reducible rfl)
      try simp only [Act.put, List.setIfInBounds_toArray, List.set_cons_zero, List.set_cons_succ]
      refine wpAnyH_take (i := 9) (oi := (Oper.mk (some 148) (Op.move (Operand.tmp 8)) 3 "outright.go:247" #[] none)) (v := ?_) rfl (by kernel_rfl) (by kernel_rfl) (by kernel_rfl) (fun _ _ _ h => hPn h rfl) (Or.inl ⟨by rfl, ?_⟩) hC ?_
      rotate_left
      · (intro w hSw; (try dsimp only at hSw); go_simp; try with_reducible rfl)
      try simp only [Act.put, List.setIfInBounds_toArray, List.set_cons_zero, List.set_cons_succ]
      refine wpAnyH_take (i := 10) (oi := (Oper.mk (some 149) (Op.indexAddr 37 (Operand.tmp 147) (Operand.tmp 148)) 0 "outright.go:247" #[(Edge.mk 8 Ground.data), (Edge.mk 9 Ground.data)] none)) (v := ?_) rfl (by kernel_rfl) (by kernel_rfl) (by kernel_rfl) (fun _ _ _ h => hPn h rfl) (Or.inl ⟨by rfl, ?_⟩) hC ?_
      rotate_left
      · (intro w hSw; (try dsimp only at hSw); go_simp; try with_reducible rfl)
      try simp only [Act.put, List.setIfInBounds_toArray, List.set_cons_zero, List.set_cons_succ]
      refine wpAnyH_take (i := 11) (oi := (Oper.mk (some 150) (Op.fieldAddr 43 (Operand.tmp 149) 1) 0 "outright.go:247" #[(Edge.mk 10 Ground.data)] none)) (v := ?_) rfl (by kernel_rfl) (by kernel_rfl) (by kernel_rfl) (fun _ _ _ h => hPn h rfl) (Or.inl ⟨by rfl, ?_⟩) hC ?_
      rotate_left
      · (intro w hSw; (try dsimp only at hSw); go_simp; try with_reducible rfl)
      try simp only [Act.put, List.setIfInBounds_toArray, List.set_cons_zero, List.set_cons_succ]
      refine wpAnyH_take (i := 12) (oi := (Oper.mk (some 151) (Op.load 41 (Operand.tmp 150)) 41 "outright.go:247" #[(Edge.mk 11 Ground.data)] none)) (v := ?_) rfl (by kernel_rfl) (by kernel_rfl) (by kernel_rfl) (fun _ _ _ h => hPn h rfl) (Or.inl ⟨by rfl, ?_⟩) hC ?_
      rotate_left
      · (intro w hSw; (try dsimp only at hSw); go_simp; try with_reducible rfl)
      try simp only [Act.put, List.setIfInBounds_toArray, List.set_cons_zero, List.set_cons_succ]
      refine wpAnyH_take (i := 13) (oi := (Oper.mk (some 152) (Op.move (Operand.tmp 10)) 3 "outright.go:247" #[] none)) (v := ?_) rfl (by kernel_rfl) (by kernel_rfl) (by kernel_rfl) (fun _ _ _ h => hPn h rfl) (Or.inl ⟨by rfl, ?_⟩) hC ?_
      rotate_left
      · (intro w hSw; (try dsimp only at hSw); go_simp; try with_reducible rfl)
      try simp only [Act.put, List.setIfInBounds_toArray, List.set_cons_zero, List.set_cons_succ]
      refine wpAnyH_take (i := 14) (oi := (Oper.mk (some 153) (Op.indexAddr 41 (Operand.tmp 151) (Operand.tmp 152)) 0 "outright.go:247" #[(Edge.mk 12 Ground.data), (Edge.mk 13 Ground.data)] none)) (v := ?_) rfl (by kernel_rfl) (by kernel_rfl) (by kernel_rfl) (fun _ _ _ h => hPn h rfl) (Or.inl ⟨by rfl, ?_⟩) hC ?_
      rotate_left
      · (intro w hSw; (try dsimp only at hSw); go_simp; try with_reducible rfl)
      try simp only [Act.put, List.setIfInBounds_toArray, List.set_cons_zero, List.set_cons_succ]
      refine wpAnyH_take (i := 15) (oi := (Oper.mk (some 154) (Op.fieldAddr 47 (Operand.tmp 153) 6) 0 "outright.go:247" #[(Edge.mk 14 Ground.data)] none)) (v := ?_) rfl (by kernel_rfl) (by kernel_rfl) (by kernel_rfl) (fun _ _ _ h => hPn h rfl) (Or.inl ⟨by rfl, ?_⟩) hC ?_
      rotate_left
      · (intro w hSw; (try dsimp only at hSw); go_simp; try with_reducible rfl)
      try simp only [Act.put, List.setIfInBounds_toArray, List.set_cons_zero, List.set_cons_succ]
      refine wpAnyH_take (i := 16) (oi := (Oper.mk (some 155) (Op.load 36 (Operand.tmp 154)) 36 "outright.go:247" #[(Edge.mk 15 Ground.data)] none)) (v := ?_) rfl (by kernel_rfl) (by kernel_rfl) (by kernel_rfl) (fun _ _ _ h => hPn h rfl) (Or.inl ⟨by rfl, ?_⟩) hC ?_
      rotate_left
      · (intro w hSw; (try dsimp only at hSw); go_simp; try with_reducible rfl)
      try simp only [Act.put, List.setIfInBounds_toArray, List.set_cons_zero, List.set_cons_succ]
      refine wpAnyH_take (i := 17) (oi := (Oper.mk (some 156) (Op.move (Operand.tmp 12)) 3 "outright.go:247" #[] none)) (v := ?_) rfl (by kernel_rfl) (by kernel_rfl) (by kernel_rfl) (fun _ _ _ h => hPn h rfl) (Or.inl ⟨by rfl, ?_⟩) hC ?_
      rotate_left
      · (intro w hSw; (try dsimp only at hSw); go_simp; try with_reducible rfl)
      try simp only [Act.put, List.setIfInBounds_toArray, List.set_cons_zero, List.set_cons_succ]
      refine wpAnyH_take (i := 18) (oi := (Oper.mk (some 157) (Op.indexAddr 36 (Operand.tmp 155) (Operand.tmp 156)) 0 "outright.go:247" #[(Edge.mk 16 Ground.data), (Edge.mk 17 Ground.data)] none)) (v := ?_) rfl (by kernel_rfl) (by kernel_rfl) (by kernel_rfl) (fun _ _ _ h => hPn h rfl) (Or.inl ⟨by rfl, ?_⟩) hC ?_
      rotate_left
      · (intro w hSw; (try dsimp only at hSw); go_simp; try with_reducible rfl)
      try simp only [Act.put, List.setIfInBounds_toArray, List.set_cons_zero, List.set_cons_succ]
      refine wpAnyH_take (i := 19) (oi := (Oper.mk (some 158) (Op.load 9 (Operand.tmp 157)) 9 "outright.go:247" #[(Edge.mk 18 Ground.data)] none)) (v := ?_) rfl (by kernel_rfl) (by kernel_rfl) (by kernel_rfl) (fun _ _ _ h => hPn h rfl) (Or.inl ⟨by rfl, ?_⟩) hC ?_
      rotate_left
      · (intro w hSw; (try dsimp only at hSw); go_simp; try with_reducible rfl)
      try simp only [Act.put, List.setIfInBounds_toArray, List.set_cons_zero, List.set_cons_succ]
      refine wpAnyH_ready (rs := [1, 20]) (by kernel_rfl) (by simp) (AllReadyH.cons (o := (Oper.mk (some 140) (Op.load 36 (Operand.tmp 139)) 36 "outright.go:247" #[(Edge.mk 0 Ground.data)] none)) rfl (fun K hK => ?_) (AllReadyH.cons (o := (Oper.mk (some 159) (Op.call (Call.mk (Callee.value (Operand.tmp 141)) #[(Operand.tmp 158)] #[9])) 9 "outright.go:247" #[(Edge.mk 2 Ground.data), (Edge.mk 19 Ground.data)] none)) rfl (fun K hK => ?_) AllReadyH.nil))
      · skip
        go_simp
        skip
        refine hK.out _ _ hC (fun hHeld => ?_)
        clear hK K hHeld
        try simp only [Act.put, List.setIfInBounds_toArray, List.set_cons_zero, List.set_cons_succ]
        refine wpAnyH_ready (rs := [20]) (by kernel_rfl) (by simp) (AllReadyH.cons (o := (Oper.mk (some 159) (Op.call (Call.mk (Callee.value (Operand.tmp 141)) #[(Operand.tmp 158)] #[9])) 9 "outright.go:247" #[(Edge.mk 2 Ground.data), (Edge.mk 19 Ground.data)] none)) rfl (fun K hK => ?_) AllReadyH.nil)
        go_simp
        go_at_call 23
        refine (hone.out _).mono ?_
        rintro e w9 ⟨rfl, hw9⟩
        obtain rfl := hw9.symm
        go_simp
        refine hK.out _ _ hC (fun hHeld => ?_)
        clear hK K hHeld
        try simp only [Act.put, List.setIfInBounds_toArray, List.set_cons_zero, List.set_cons_succ]
        refine wpAnyH_ready (rs := [21]) (by kernel_rfl) (by simp) (AllReadyH.cons (o := (Oper.mk (some 160) (Op.buildSlice 36 1 #[(0, (Operand.tmp 159))]) 36 "outright.go:247" #[(Edge.mk 20 Ground.data)] none)) rfl (fun K hK => ?_) AllReadyH.nil)
        go_simp
        replace hC := hCB.out (wr.drew.alloc (.cells #[.string (renV s)] 9)) ((Below.refl _ _).alloc (Nat.le_refl _) _)
        refine hK.out _ _ hC (fun hHeld => ?_)
        clear hK K hHeld
        try simp only [Act.put, List.setIfInBounds_toArray, List.set_cons_zero, List.set_cons_succ]
        refine wpAnyH_ready (rs := [22]) (by kernel_rfl) (by simp) (AllReadyH.cons (o := (Oper.mk (some 161) (Op.call (Call.mk (Callee.builtin Builtin.append) #[(Operand.tmp 140), (Operand.tmp 160)] #[36, 36])) 36 "outright.go:247" #[(Edge.mk 1 Ground.data), (Edge.mk 21 Ground.data), (Edge.mk 20 Ground.chain)] none)) rfl (fun K hK => ?_) AllReadyH.nil)
        refine step_append_lies _ (by rfl) _ _ _ (by rfl) w.heap.size 9 i0 _ 1 16 Try.underlying36 hi0 hz0 hz1 hz2 rfl (by omega) (.slice av n cv) n XS (by rfl) hown2.out ⟨wr.heap.size, 0, none⟩ 1 1 [.string (renV s)] (by rfl) (by rfl) (World.news_of_block (cs := #[.string (renV s)]) (t := 9) (fr := (0, 0)) (heap_alloc_new wr.drew _)) (by simp [Value.oneCell']) (by omega) (by unfold maxLen; omega) (by omega) (by simp; omega) (wr.heap.size + 1) (by simp) ?_
        intro gg cap2 w2 hO2 hg2 hat2 hlt2
        have hO2 : w2.ownsRow w.heap.size 9 1 (.slice (some ⟨gg, 0, none⟩) (n + 1) cap2) (n + 1) (((y.args.take (n + 1)).map renV).map Value.string) := by
          rw [← ren_snoc hs.out, ← hXS.out]
          exact hO2
        have hT2 : Touch wr w2 (fun k => (Value.slice av n cv).ownBlock = some k) := (((Touch.refl wr (fun k => (Value.slice av n cv).ownBlock = some k)).drew).alloc _).trans (Touch.of_grown hg2 (fun k e => e))
        have hX2 : w2.heap[Sx]? = some (.cells #[c0, c1, c2, c3, c4, c5, .slice av n cv, c7] 47 (0, 0)) := (hT2.block Sx (Array.getElem?_eq_some_iff.1 hX1.out).1 (fun e => hne.out _ e rfl)).trans hX1.out
        have y6 : w2.frozen? ⟨Sx, 6, none⟩ = false := by simp [World.frozen?, hX2]
        have z6 : w2.cell? ⟨Sx, 6, none⟩ = some (.slice av n cv) := by rw [blk_cell hX2]; rfl
        have hfin : Hid ((w2.setCell ⟨Sx, 6, none⟩ (.slice (some ⟨gg, 0, none⟩) (n + 1) cap2)).heap[Sx]? = some (.cells #[c0, c1, c2, c3, c4, c5, .slice (some ⟨gg, 0, none⟩) (n + 1) cap2, c7] 47 (0, 0)) ∧ Touch w (w2.setCell ⟨Sx, 6, none⟩ (.slice (some ⟨gg, 0, none⟩) (n + 1) cap2)) (fun k => k = Sx) ∧ (w2.setCell ⟨Sx, 6, none⟩ (.slice (some ⟨gg, 0, none⟩) (n + 1) cap2)).ownsRow w.heap.size 9 1 (.slice (some ⟨gg, 0, none⟩) (n + 1) cap2) (n + 1) (((y.args.take (n + 1)).map renV).map Value.string)) := by
          have hd2 : ∀ g, (Value.slice (some ⟨gg, 0, none⟩) (n + 1) cap2).ownBlock = some g → ¬ g = Sx := fun g hg e => by have := (hO2.lt g hg).1; omega
          exact Lib.hid ⟨blk_set (i := 6) _ hX2, (hT1.out.then (hT2.mono (S' := fun k => (Value.slice av n cv).ownBlock = some k ∨ k = Sx) (fun k _ h => .inl h)) (fun k hk h => h.elim (fun e => absurd (hown2.out.lt k e).1 (by omega)) id)).setCell (a := ⟨Sx, 6, none⟩) (fun _ => rfl) _, ownsRow_touch hO2 ((Touch.refl w2 (fun k => k = Sx)).setCell (a := ⟨Sx, 6, none⟩) (fun _ => rfl) _) hd2⟩
        have hTw : Touch wr w2 (fun k => (Value.slice av n cv).ownBlock = some k) := hT2
        replace hC := hCF.out w2 (hB1.out.trans (hTw.below (by have := hB1.out.size; omega) (fun k hk e => by have := (hown2.out.lt k e).1; omega)))
        clear hO2 hg2 hat2 hlt2 hT2 hTw hX2 hown2 x6
        refine hK.out _ _ hC (fun hHeld => ?_)
        clear hK K hHeld
        try simp only [Act.put, List.setIfInBounds_toArray, List.set_cons_zero, List.set_cons_succ]
        refine wpAnyH_take (i := 23) (oi := (Oper.mk (some 162) (Op.fieldAddr 47 (Operand.tmp 11) 6) 0 "outright.go:247" #[(Edge.mk 0 Ground.phase), (Edge.mk 1 Ground.phase), (Edge.mk 2 Ground.phase), (Edge.mk 3 Ground.phase), (Edge.mk 4 Ground.phase), (Edge.mk 5 Ground.phase), (Edge.mk 6 Ground.phase), (Edge.mk 7 Ground.phase), (Edge.mk 8 Ground.phase), (Edge.mk 9 Ground.phase), (Edge.mk 10 Ground.phase), (Edge.mk 11 Ground.phase), (Edge.mk 12 Ground.phase), (Edge.mk 13 Ground.phase), (Edge.mk 14 Ground.phase), (Edge.mk 15 Ground.phase), (Edge.mk 16 Ground.phase), (Edge.mk 17 Ground.phase), (Edge.mk 18 Ground.phase), (Edge.mk 19 Ground.phase), (Edge.mk 20 Ground.phase), (Edge.mk 21 Ground.phase), (Edge.mk 22 Ground.phase)] none)) (v := ?_) rfl (by kernel_rfl) (by kernel_rfl) (by kernel_rfl) (fun _ _ _ h => hPn h rfl) (Or.inl ⟨by rfl, ?_⟩) hC ?_
        rotate_left
        · (intro w hSw; (try dsimp only at hSw); go_simp; try with_reducible rfl)
        try simp only [Act.put, List.setIfInBounds_toArray, List.set_cons_zero, List.set_cons_succ]
        refine wpAnyH_ready (rs := [24]) (by kernel_rfl) (by simp) (AllReadyH.cons (o := (Oper.mk none (Op.store 36 (Operand.tmp 162) (Operand.tmp 161)) 0 "outright.go:247" #[(Edge.mk 23 Ground.data), (Edge.mk 22 Ground.data), (Edge.mk 22 Ground.chain), (Edge.mk 0 Ground.phase), (Edge.mk 1 Ground.phase), (Edge.mk 2 Ground.phase), (Edge.mk 3 Ground.phase), (Edge.mk 4 Ground.phase), (Edge.mk 5 Ground.phase), (Edge.mk 6 Ground.phase), (Edge.mk 7 Ground.phase), (Edge.mk 8 Ground.phase), (Edge.mk 9 Ground.phase), (Edge.mk 10 Ground.phase), (Edge.mk 11 Ground.phase), (Edge.mk 12 Ground.phase), (Edge.mk 13 Ground.phase), (Edge.mk 14 Ground.phase), (Edge.mk 15 Ground.phase), (Edge.mk 16 Ground.phase), (Edge.mk 17 Ground.phase), (Edge.mk 18 Ground.phase), (Edge.mk 19 Ground.phase), (Edge.mk 20 Ground.phase), (Edge.mk 21 Ground.phase), (Edge.mk 22 Ground.phase)] none)) rfl (fun K hK => ?_) AllReadyH.nil)
        go_simp
        replace hC := hCF.out (w2.setCell ⟨Sx, 6, none⟩ (.slice (some ⟨gg, 0, none⟩) (n + 1) cap2)) (hB.out.trans (hfin.out.2.1.below hB.out.size (fun k hk e => by omega)))
        refine hK.out _ _ hC (fun hHeld => ?_)
        clear hK K hHeld
        try simp only [Act.put, List.setIfInBounds_toArray, List.set_cons_zero, List.set_cons_succ]
        refine wpAnyH_done (by kernel_rfl) ?_ _
        go_wp2_with fail
        go_roundw
        case rel => exact ⟨n + 1, .slice (some ⟨gg, 0, none⟩) (n + 1) cap2, by omega, by go_num, hfin⟩
        case measure => simp [intOf]; omega
      · skip
        go_simp
        go_at_call 23
        refine (hone.out _).mono ?_
        rintro e w9 ⟨rfl, hw9⟩
        obtain rfl := hw9.symm
        go_simp
        refine hK.out _ _ hC (fun hHeld => ?_)
        clear hK K hHeld
        try simp only [Act.put, List.setIfInBounds_toArray, List.set_cons_zero, List.set_cons_succ]
        refine wpAnyH_ready (rs := [1, 21]) (by kernel_rfl) (by simp) (AllReadyH.cons (o := (Oper.mk (some 140) (Op.load 36 (Operand.tmp 139)) 36 "outright.go:247" #[(Edge.mk 0 Ground.data)] none)) rfl (fun K hK => ?_) (AllReadyH.cons (o := (Oper.mk (some 160) (Op.buildSlice 36 1 #[(0, (Operand.tmp 159))]) 36 "outright.go:247" #[(Edge.mk 20 Ground.data)] none)) rfl (fun K hK => ?_) AllReadyH.nil))
        · skip
          go_simp
          skip
          refine hK.out _ _ hC (fun hHeld => ?_)
          clear hK K hHeld
          try simp only [Act.put, List.setIfInBounds_toArray, List.set_cons_zero, List.set_cons_succ]
          refine wpAnyH_ready (rs := [21]) (by kernel_rfl) (by simp) (AllReadyH.cons (o := (Oper.mk (some 160) (Op.buildSlice 36 1 #[(0, (Operand.tmp 159))]) 36 "outright.go:247" #[(Edge.mk 20 Ground.data)] none)) rfl (fun K hK => ?_) AllReadyH.nil)
          go_simp
          replace hC := hCB.out (wr.drew.alloc (.cells #[.string (renV s)] 9)) ((Below.refl _ _).alloc (Nat.le_refl _) _)
          refine hK.out _ _ hC (fun hHeld => ?_)
          clear hK K hHeld
          try simp only [Act.put, List.setIfInBounds_toArray, List.set_cons_zero, List.set_cons_succ]
          refine wpAnyH_ready (rs := [22]) (by kernel_rfl) (by simp) (AllReadyH.cons (o := (Oper.mk (some 161) (Op.call (Call.mk (Callee.builtin Builtin.append) #[(Operand.tmp 140), (Operand.tmp 160)] #[36, 36])) 36 "outright.go:247" #[(Edge.mk 1 Ground.data), (Edge.mk 21 Ground.data), (Edge.mk 20 Ground.chain)] none)) rfl (fun K hK => ?_) AllReadyH.nil)
          refine step_append_lies _ (by rfl) _ _ _ (by rfl) w.heap.size 9 i0 _ 1 16 Try.underlying36 hi0 hz0 hz1 hz2 rfl (by omega) (.slice av n cv) n XS (by rfl) hown2.out ⟨wr.heap.size, 0, none⟩ 1 1 [.string (renV s)] (by rfl) (by rfl) (World.news_of_block (cs := #[.string (renV s)]) (t := 9) (fr := (0, 0)) (heap_alloc_new wr.drew _)) (by simp [Value.oneCell']) (by omega) (by unfold maxLen; omega) (by omega) (by simp; omega) (wr.heap.size + 1) (by simp) ?_
          intro gg cap2 w2 hO2 hg2 hat2 hlt2
          have hO2 : w2.ownsRow w.heap.size 9 1 (.slice (some ⟨gg, 0, none⟩) (n + 1) cap2) (n + 1) (((y.args.take (n + 1)).map renV).map Value.string) := by
            rw [← ren_snoc hs.out, ← hXS.out]
            exact hO2
          have hT2 : Touch wr w2 (fun k => (Value.slice av n cv).ownBlock = some k) := (((Touch.refl wr (fun k => (Value.slice av n cv).ownBlock = some k)).drew).alloc _).trans (Touch.of_grown hg2 (fun k e => e))
          have hX2 : w2.heap[Sx]? = some (.cells #[c0, c1, c2, c3, c4, c5, .slice av n cv, c7] 47 (0, 0)) := (hT2.block Sx (Array.getElem?_eq_some_iff.1 hX1.out).1 (fun e => hne.out _ e rfl)).trans hX1.out
          have y6 : w2.frozen? ⟨Sx, 6, none⟩ = false := by simp [World.frozen?, hX2]
          have z6 : w2.cell? ⟨Sx, 6, none⟩ = some (.slice av n cv) := by rw [blk_cell hX2]; rfl
          have hfin : Hid ((w2.setCell ⟨Sx, 6, none⟩ (.slice (some ⟨gg, 0, none⟩) (n + 1) cap2)).heap[Sx]? = some (.cells #[c0, c1, c2, c3, c4, c5, .slice (some ⟨gg, 0, none⟩) (n + 1) cap2, c7] 47 (0, 0)) ∧ Touch w (w2.setCell ⟨Sx, 6, none⟩ (.slice (some ⟨gg, 0, none⟩) (n + 1) cap2)) (fun k => k = Sx) ∧ (w2.setCell ⟨Sx, 6, none⟩ (.slice (some ⟨gg, 0, none⟩) (n + 1) cap2)).ownsRow w.heap.size 9 1 (.slice (some ⟨gg, 0, none⟩) (n + 1) cap2) (n + 1) (((y.args.take (n + 1)).map renV).map Value.string)) := by
            have hd2 : ∀ g, (Value.slice (some ⟨gg, 0, none⟩) (n + 1) cap2).ownBlock = some g → ¬ g = Sx := fun g hg e => by have := (hO2.lt g hg).1; omega
            exact Lib.hid ⟨blk_set (i := 6) _ hX2, (hT1.out.then (hT2.mono (S' := fun k => (Value.slice av n cv).ownBlock = some k ∨ k = Sx) (fun k _ h => .inl h)) (fun k hk h => h.elim (fun e => absurd (hown2.out.lt k e).1 (by omega)) id)).setCell (a := ⟨Sx, 6, none⟩) (fun _ => rfl) _, ownsRow_touch hO2 ((Touch.refl w2 (fun k => k = Sx)).setCell (a := ⟨Sx, 6, none⟩) (fun _ => rfl) _) hd2⟩
          have hTw : Touch wr w2 (fun k => (Value.slice av n cv).ownBlock = some k) := hT2
          replace hC := hCF.out w2 (hB1.out.trans (hTw.below (by have := hB1.out.size; omega) (fun k hk e => by have := (hown2.out.lt k e).1; omega)))
          clear hO2 hg2 hat2 hlt2 hT2 hTw hX2 hown2 x6
          refine hK.out _ _ hC (fun hHeld => ?_)
          clear hK K hHeld
          try simp only [Act.put, List.setIfInBounds_toArray, List.set_cons_zero, List.set_cons_succ]
          refine wpAnyH_take (i := 23) (oi := (Oper.mk (some 162) (Op.fieldAddr 47 (Operand.tmp 11) 6) 0 "outright.go:247" #[(Edge.mk 0 Ground.phase), (Edge.mk 1 Ground.phase), (Edge.mk 2 Ground.phase), (Edge.mk 3 Ground.phase), (Edge.mk 4 Ground.phase), (Edge.mk 5 Ground.phase), (Edge.mk 6 Ground.phase), (Edge.mk 7 Ground.phase), (Edge.mk 8 Ground.phase), (Edge.mk 9 Ground.phase), (Edge.mk 10 Ground.phase), (Edge.mk 11 Ground.phase), (Edge.mk 12 Ground.phase), (Edge.mk 13 Ground.phase), (Edge.mk 14 Ground.phase), (Edge.mk 15 Ground.phase), (Edge.mk 16 Ground.phase), (Edge.mk 17 Ground.phase), (Edge.mk 18 Ground.phase), (Edge.mk 19 Ground.phase), (Edge.mk 20 Ground.phase), (Edge.mk 21 Ground.phase), (Edge.mk 22 Ground.phase)] none)) (v := ?_) rfl (by kernel_rfl) (by kernel_rfl) (by kernel_rfl) (fun _ _ _ h => hPn h rfl) (Or.inl ⟨by rfl, ?_⟩) hC ?_
          rotate_left
          · (intro w hSw; (try dsimp only at hSw); go_simp; try with_reducible rfl)
          try simp only [Act.put, List.setIfInBounds_toArray, List.set_cons_zero, List.set_cons_succ]
          refine wpAnyH_ready (rs := [24]) (by kernel_rfl) (by simp) (AllReadyH.cons (o := (Oper.mk none (Op.store 36 (Operand.tmp 162) (Operand.tmp 161)) 0 "outright.go:247" #[(Edge.mk 23 Ground.data), (Edge.mk 22 Ground.data), (Edge.mk 22 Ground.chain), (Edge.mk 0 Ground.phase), (Edge.mk 1 Ground.phase), (Edge.mk 2 Ground.phase), (Edge.mk 3 Ground.phase), (Edge.mk 4 Ground.phase), (Edge.mk 5 Ground.phase), (Edge.mk 6 Ground.phase), (Edge.mk 7 Ground.phase), (Edge.mk 8 Ground.phase), (Edge.mk 9 Ground.phase), (Edge.mk 10 Ground.phase), (Edge.mk 11 Ground.phase), (Edge.mk 12 Ground.phase), (Edge.mk 13 Ground.phase), (Edge.mk 14 Ground.phase), (Edge.mk 15 Ground.phase), (Edge.mk 16 Ground.phase), (Edge.mk 17 Ground.phase), (Edge.mk 18 Ground.phase), (Edge.mk 19 Ground.phase), (Edge.mk 20 Ground.phase), (Edge.mk 21 Ground.phase), (Edge.mk 22 Ground.phase)] none)) rfl (fun K hK => ?_) AllReadyH.nil)
          go_simp
          replace hC := hCF.out (w2.setCell ⟨Sx, 6, none⟩ (.slice (some ⟨gg, 0, none⟩) (n + 1) cap2)) (hB.out.trans (hfin.out.2.1.below hB.out.size (fun k hk e => by omega)))
          refine hK.out _ _ hC (fun hHeld => ?_)
          clear hK K hHeld
          try simp only [Act.put, List.setIfInBounds_toArray, List.set_cons_zero, List.set_cons_succ]
          refine wpAnyH_done (by kernel_rfl) ?_ _
          go_wp2_with fail
          go_roundw
          case rel => exact ⟨n + 1, .slice (some ⟨gg, 0, none⟩) (n + 1) cap2, by omega, by go_num, hfin⟩
          case measure => simp [intOf]; omega
        · skip
          go_simp
          replace hC := hCB.out (wr.drew.alloc (.cells #[.string (renV s)] 9)) ((Below.refl _ _).alloc (Nat.le_refl _) _)
          refine hK.out _ _ hC (fun hHeld => ?_)
          clear hK K hHeld
          try simp only [Act.put, List.setIfInBounds_toArray, List.set_cons_zero, List.set_cons_succ]
          refine wpAnyH_ready (rs := [1]) (by kernel_rfl) (by simp) (AllReadyH.cons (o := (Oper.mk (some 140) (Op.load 36 (Operand.tmp 139)) 36 "outright.go:247" #[(Edge.mk 0 Ground.data)] none)) rfl (fun K hK => ?_) AllReadyH.nil)
          go_simp
          skip
          refine hK.out _ _ hC (fun hHeld => ?_)
          clear hK K hHeld
          try simp only [Act.put, List.setIfInBounds_toArray, List.set_cons_zero, List.set_cons_succ]
          refine wpAnyH_ready (rs := [22]) (by kernel_rfl) (by simp) (AllReadyH.cons (o := (Oper.mk (some 161) (Op.call (Call.mk (Callee.builtin Builtin.append) #[(Operand.tmp 140), (Operand.tmp 160)] #[36, 36])) 36 "outright.go:247" #[(Edge.mk 1 Ground.data), (Edge.mk 21 Ground.data), (Edge.mk 20 Ground.chain)] none)) rfl (fun K hK => ?_) AllReadyH.nil)
          refine step_append_lies _ (by rfl) _ _ _ (by rfl) w.heap.size 9 i0 _ 1 16 Try.underlying36 hi0 hz0 hz1 hz2 rfl (by omega) (.slice av n cv) n XS (by rfl) hown2.out ⟨wr.heap.size, 0, none⟩ 1 1 [.string (renV s)] (by rfl) (by rfl) (World.news_of_block (cs := #[.string (renV s)]) (t := 9) (fr := (0, 0)) (heap_alloc_new wr.drew _)) (by simp [Value.oneCell']) (by omega) (by unfold maxLen; omega) (by omega) (by simp; omega) (wr.heap.size + 1) (by simp) ?_
          intro gg cap2 w2 hO2 hg2 hat2 hlt2
          have hO2 : w2.ownsRow w.heap.size 9 1 (.slice (some ⟨gg, 0, none⟩) (n + 1) cap2) (n + 1) (((y.args.take (n + 1)).map renV).map Value.string) := by
            rw [← ren_snoc hs.out, ← hXS.out]
            exact hO2
          have hT2 : Touch wr w2 (fun k => (Value.slice av n cv).ownBlock = some k) := (((Touch.refl wr (fun k => (Value.slice av n cv).ownBlock = some k)).drew).alloc _).trans (Touch.of_grown hg2 (fun k e => e))
          have hX2 : w2.heap[Sx]? = some (.cells #[c0, c1, c2, c3, c4, c5, .slice av n cv, c7] 47 (0, 0)) := (hT2.block Sx (Array.getElem?_eq_some_iff.1 hX1.out).1 (fun e => hne.out _ e rfl)).trans hX1.out
          have y6 : w2.frozen? ⟨Sx, 6, none⟩ = false := by simp [World.frozen?, hX2]
          have z6 : w2.cell? ⟨Sx, 6, none⟩ = some (.slice av n cv) := by rw [blk_cell hX2]; rfl
          have hfin : Hid ((w2.setCell ⟨Sx, 6, none⟩ (.slice (some ⟨gg, 0, none⟩) (n + 1) cap2)).heap[Sx]? = some (.cells #[c0, c1, c2, c3, c4, c5, .slice (some ⟨gg, 0, none⟩) (n + 1) cap2, c7] 47 (0, 0)) ∧ Touch w (w2.setCell ⟨Sx, 6, none⟩ (.slice (some ⟨gg, 0, none⟩) (n + 1) cap2)) (fun k => k = Sx) ∧ (w2.setCell ⟨Sx, 6, none⟩ (.slice (some ⟨gg, 0, none⟩) (n + 1) cap2)).ownsRow w.heap.size 9 1 (.slice (some ⟨gg, 0, none⟩) (n + 1) cap2) (n + 1) (((y.args.take (n + 1)).map renV).map Value.string)) := by
            have hd2 : ∀ g, (Value.slice (some ⟨gg, 0, none⟩) (n + 1) cap2).ownBlock = some g → ¬ g = Sx := fun g hg e => by have := (hO2.lt g hg).1; omega
            exact Lib.hid ⟨blk_set (i := 6) _ hX2, (hT1.out.then (hT2.mono (S' := fun k => (Value.slice av n cv).ownBlock = some k ∨ k = Sx) (fun k _ h => .inl h)) (fun k hk h => h.elim (fun e => absurd (hown2.out.lt k e).1 (by omega)) id)).setCell (a := ⟨Sx, 6, none⟩) (fun _ => rfl) _, ownsRow_touch hO2 ((Touch.refl w2 (fun k => k = Sx)).setCell (a := ⟨Sx, 6, none⟩) (fun _ => rfl) _) hd2⟩
          have hTw : Touch wr w2 (fun k => (Value.slice av n cv).ownBlock = some k) := hT2
          replace hC := hCF.out w2 (hB1.out.trans (hTw.below (by have := hB1.out.size; omega) (fun k hk e => by have := (hown2.out.lt k e).1; omega)))
          clear hO2 hg2 hat2 hlt2 hT2 hTw hX2 hown2 x6
          refine hK.out _ _ hC (fun hHeld => ?_)
          clear hK K hHeld
          try simp only [Act.put, List.setIfInBounds_toArray, List.set_cons_zero, List.set_cons_succ]
          refine wpAnyH_take (i := 23) (oi := (Oper.mk (some 162) (Op.fieldAddr 47 (Operand.tmp 11) 6) 0 "outright.go:247" #[(Edge.mk 0 Ground.phase), (Edge.mk 1 Ground.phase), (Edge.mk 2 Ground.phase), (Edge.mk 3 Ground.phase), (Edge.mk 4 Ground.phase), (Edge.mk 5 Ground.phase), (Edge.mk 6 Ground.phase), (Edge.mk 7 Ground.phase), (Edge.mk 8 Ground.phase), (Edge.mk 9 Ground.phase), (Edge.mk 10 Ground.phase), (Edge.mk 11 Ground.phase), (Edge.mk 12 Ground.phase), (Edge.mk 13 Ground.phase), (Edge.mk 14 Ground.phase), (Edge.mk 15 Ground.phase), (Edge.mk 16 Ground.phase), (Edge.mk 17 Ground.phase), (Edge.mk 18 Ground.phase), (Edge.mk 19 Ground.phase), (Edge.mk 20 Ground.phase), (Edge.mk 21 Ground.phase), (Edge.mk 22 Ground.phase)] none)) (v := ?_) rfl (by kernel_rfl) (by kernel_rfl) (by kernel_rfl) (fun _ _ _ h => hPn h rfl) (Or.inl ⟨by rfl, ?_⟩) hC ?_
          rotate_left
          · (intro w hSw; (try dsimp only at hSw); go_simp; try with_reducible rfl)
          try simp only [Act.put, List.setIfInBounds_toArray, List.set_cons_zero, List.set_cons_succ]
          refine wpAnyH_ready (rs := [24]) (by kernel_rfl) (by simp) (AllReadyH.cons (o := (Oper.mk none (Op.store 36 (Operand.tmp 162) (Operand.tmp 161)) 0 "outright.go:247" #[(Edge.mk 23 Ground.data), (Edge.mk 22 Ground.data), (Edge.mk 22 Ground.chain), (Edge.mk 0 Ground.phase), (Edge.mk 1 Ground.phase), (Edge.mk 2 Ground.phase), (Edge.mk 3 Ground.phase), (Edge.mk 4 Ground.phase), (Edge.mk 5 Ground.phase), (Edge.mk 6 Ground.phase), (Edge.mk 7 Ground.phase), (Edge.mk 8 Ground.phase), (Edge.mk 9 Ground.phase), (Edge.mk 10 Ground.phase), (Edge.mk 11 Ground.phase), (Edge.mk 12 Ground.phase), (Edge.mk 13 Ground.phase), (Edge.mk 14 Ground.phase), (Edge.mk 15 Ground.phase), (Edge.mk 16 Ground.phase), (Edge.mk 17 Ground.phase), (Edge.mk 18 Ground.phase), (Edge.mk 19 Ground.phase), (Edge.mk 20 Ground.phase), (Edge.mk 21 Ground.phase), (Edge.mk 22 Ground.phase)] none)) rfl (fun K hK => ?_) AllReadyH.nil)
          go_simp
          replace hC := hCF.out (w2.setCell ⟨Sx, 6, none⟩ (.slice (some ⟨gg, 0, none⟩) (n + 1) cap2)) (hB.out.trans (hfin.out.2.1.below hB.out.size (fun k hk e => by omega)))
          refine hK.out _ _ hC (fun hHeld => ?_)
          clear hK K hHeld
          try simp only [Act.put, List.setIfInBounds_toArray, List.set_cons_zero, List.set_cons_succ]
          refine wpAnyH_done (by kernel_rfl) ?_ _
          go_wp2_with fail
          go_roundw
          case rel => exact ⟨n + 1, .slice (some ⟨gg, 0, none⟩) (n + 1) cap2, by omega, by go_num, hfin⟩
          case measure => simp [intOf]; omega
    · obtain rfl : n = na := by omega
      have j1 : decide ((n : Int) < (n : Int)) = false := by simp
      have hend : Hid (((y.args.take n).map renV) = y.args.map renV) := Lib.hid (by rw [List.take_of_length_le (by rw [← hn8.out]; exact Nat.le_refl _)])
      replace hX1 := Lib.hid hX1
      replace hT1 := Lib.hid hT1
      replace hO1 := Lib.hid hO1
      clear hB1 hG
      go_wp2_with fail
      refine hQ.out ⟨v, hX1.out, hT1.out, ?_⟩
      rw [← hend.out]
      exact hO1.out

set_option maxRecDepth 20000 in
set_option maxHeartbeats 2000000 in
theorem ren2 {c : Code} (hc : Func.blockOf Try.f19 2 = some c) {Q : Exit → Act → World → Prop} {w0 w : World} {fv : Value} {S0 gp op p cp f Sx : Nat} {aa : Option Addr} {na ca : Nat} {d : Fun} {c0 c2 : Value} {u0 u2 u4 u8 u9 u10 u11 u12 u13 u14 u15 u16 u17 u18 u19 u20 u21 u22 u23 u24 u25 u26 u27 u28 u29 u30 u31 u32 u33 u34 u35 u36 u37 u38 u39 u40 u41 u42 u43 u44 u45 u46 u47 u48 u49 u50 u51 u52 u53 u54 u55 u56 u57 u58 u59 u60 u61 u62 u63 u64 u65 u66 u67 u68 u69 u70 u71 u72 u73 u74 u75 u76 u77 u78 u79 u80 u81 u82 u83 u84 u85 u86 u87 u88 u89 u90 u91 u92 u93 u94 u95 u96 u97 u98 u99 u100 u101 u102 u103 u104 u105 u106 u107 u108 u109 u110 u111 u112 u113 u114 u115 u116 u117 u118 u119 u120 u121 u122 u123 u124 u125 u126 u127 u128 u129 u130 u131 u132 u133 u134 u135 u136 u137 u138 u139 u140 u141 u142 u143 u144 u145 u146 u147 u148 u149 u150 u151 u152 u153 u154 u155 u156 u157 u158 u159 u160 u161 u162 u163 u164 u165 u166 u167 u168 u169 u170 u171 u172 u173 u174 u175 u176 u177 u178 u179 u180 u181 : Value}
    (hfv : fv = .func (.func 23) #[] #[]) (hI : In2 w0 S0 gp op p cp f aa na ca) (hB : Below w0.heap.size w0 w) (ra : RdS w0 (.slice aa na ca) d.params) (hX : w.heap[Sx]? = some (.cells #[c0, .slice none 0 0, c2] 39 (0, 0))) (hSx : w0.heap.size ≤ Sx) (hf : (f : Int) < (p : Int)) (hna : d.params.length ≤ 1000000) (hfit : ∀ s ∈ d.params, s.size ≤ 60) (hPn : ∀ {x} {a a1 : Act} {w1 : World}, Q (.panic x) a w1 → a.defers = a1.defers → Q (.panic x) a1 w1)
    (hQ : Hid (∀ {wx : World} {v7 v27 v28 v29 v30 v31 v32 v33 v34 v35 v36 v37 v38 v39 v40 v41 v42 v43 v44 v45 v46 v47 v48 v49 v50 v51 v52 v53 : Value}, (∃ v, wx.heap[Sx]? = some (.cells #[c0, v, c2] 39 (0, 0)) ∧ Touch w wx (fun k => k = Sx) ∧ wx.ownsRow w.heap.size 9 1 v na ((d.params.map renV).map Value.string)) → Q .normal { tmps := #[u0, .pointer (some ⟨S0, 0, none⟩), u2, fv, u4, .int .i64 f, .pointer (some ⟨Sx, 0, none⟩), v7, u8, u9, u10, u11, u12, u13, u14, u15, u16, u17, u18, u19, u20, u21, u22, u23, u24, u25, u26, v27, v28, v29, v30, v31, v32, v33, v34, v35, v36, v37, v38, v39, v40, v41, v42, v43, v44, v45, v46, v47, v48, v49, v50, v51, v52, v53, u54, u55, u56, u57, u58, u59, u60, u61, u62, u63, u64, u65, u66, u67, u68, u69, u70, u71, u72, u73, u74, u75, u76, u77, u78, u79, u80, u81, u82, u83, u84, u85, u86, u87, u88, u89, u90, u91, u92, u93, u94, u95, u96, u97, u98, u99, u100, u101, u102, u103, u104, u105, u106, u107, u108, u109, u110, u111, u112, u113, u114, u115, u116, u117, u118, u119, u120, u121, u122, u123, u124, u125, u126, u127, u128, u129, u130, u131, u132, u133, u134, u135, u136, u137, u138, u139, u140, u141, u142, u143, u144, u145, u146, u147, u148, u149, u150, u151, u152, u153, u154, u155, u156, u157, u158, u159, u160, u161, u162, u163, u164, u165, u166, u167, u168, u169, u170, u171, u172, u173, u174, u175, u176, u177, u178, u179, u180, u181], defers := [] } wx)) :
    c.wp Try.prog Q { tmps := #[u0, .pointer (some ⟨S0, 0, none⟩), u2, fv, u4, .int .i64 f, .pointer (some ⟨Sx, 0, none⟩), .int .i64 0, u8, u9, u10, u11, u12, u13, u14, u15, u16, u17, u18, u19, u20, u21, u22, u23, u24, u25, u26, u27, u28, u29, u30, u31, u32, u33, u34, u35, u36, u37, u38, u39, u40, u41, u42, u43, u44, u45, u46, u47, u48, u49, u50, u51, u52, u53, u54, u55, u56, u57, u58, u59, u60, u61, u62, u63, u64, u65, u66, u67, u68, u69, u70, u71, u72, u73, u74, u75, u76, u77, u78, u79, u80, u81, u82, u83, u84, u85, u86, u87, u88, u89, u90, u91, u92, u93, u94, u95, u96, u97, u98, u99, u100, u101, u102, u103, u104, u105, u106, u107, u108, u109, u110, u111, u112, u113, u114, u115, u116, u117, u118, u119, u120, u121, u122, u123, u124, u125, u126, u127, u128, u129, u130, u131, u132, u133, u134, u135, u136, u137, u138, u139, u140, u141, u142, u143, u144, u145, u146, u147, u148, u149, u150, u151, u152, u153, u154, u155, u156, u157, u158, u159, u160, u161, u162, u163, u164, u165, u166, u167, u168, u169, u170, u171, u172, u173, u174, u175, u176, u177, u178, u179, u180, u181], defers := [] } w := by
  conv at hc => lhs; whnf
  simp only [Option.some.injEq] at hc
  subst hc
  subst hfv
  obtain ⟨i0, hi0, hz0, hz1, hz2⟩ := info_parts infoStrN
  have hn8 : Hid (na = d.params.length) := Lib.hid (by obtain ⟨a, q, e⟩ := RdS.shape ra; simp only [Value.slice.injEq] at e; exact e.2.1)
  have hnm : na ≤ 1000000 := by rw [hn8.out]; exact hna
  have hXlt : Sx < w.heap.size := (Array.getElem?_eq_some_iff.1 hX).1
  replace ra := Lib.hid ra
  replace hI := Lib.hid hI
  replace hB := Lib.hid hB
  replace hX := Lib.hid hX
  replace hfit := Lib.hid hfit
  go_wp2_with fail
  go_loopw [7] (fun i wr => ∃ (n : Nat) (v : Value), n ≤ na ∧ i = .int .i64 n ∧ Hid (wr.heap[Sx]? = some (.cells #[c0, v, c2] 39 (0, 0)) ∧ Touch w wr (fun k => k = Sx) ∧ wr.ownsRow w.heap.size 9 1 v n (((d.params.take n).map renV).map Value.string))) (fun i _ => na - (intOf i).toNat)
  case atStart => exact ⟨0, .slice none 0 0, Nat.zero_le _, rfl, Lib.hid ⟨hX.out, Touch.refl _ _, World.ownsRow_nil _ _ _ _⟩⟩
  case round =>
    obtain ⟨n, v, hn, rfl, hG⟩ := hrel
    obtain ⟨hX1, hT1, hO1⟩ := hG.out
    have hB1 : Below w0.heap.size w0 wr := hB.out.trans (hT1.below hB.out.size (fun k hk e => by omega))
    obtain ⟨s0, s1⟩ := hI.out.keep hB1
    by_cases hlt : n < na
    · have j1 : decide ((n : Int) < (na : Int)) = true := by simpa using hlt
      have j2 : (n : Int) < (na : Int) := by omega
      obtain ⟨s, hs⟩ : ∃ s, d.params[n]? = some s := ⟨_, List.getElem?_eq_getElem (by rw [← hn8.out]; exact hlt)⟩
      obtain ⟨ga, oa, ca', e, hcl0⟩ := RdS.cell ra.out hs
      have hcl := keepC hB1 hcl0
      replace hcl0 := Lib.hid hcl0
      rw [← hn8.out] at e
      simp only [Value.slice.injEq] at e
      obtain ⟨rfl, -, rfl⟩ := e
      obtain ⟨av, cv, rfl⟩ := own_formR hO1
      have x6 : wr.cell? ⟨Sx, 1, none⟩ = some (.slice av n cv) := by rw [blk_cell hX1]; rfl
      obtain ⟨XS, hXS⟩ : ∃ XS, XS = ((d.params.take n).map renV).map Value.string := ⟨_, rfl⟩
      rw [← hXS] at hO1
      replace hXS := Lib.hid hXS
      have hone := Lib.hid (fun w => ren_one (s := s) (by have := hfit.out s (List.mem_of_getElem? hs); omega) w)
      have hown2 : Hid ((wr.drew.alloc (.cells #[.string (renV s)] 9)).ownsRow w.heap.size 9 1 (.slice av n cv) n XS) := Lib.hid (ownsRow_touch hO1 (((Touch.refl wr (fun _ => False)).drew).alloc _) (fun _ _ h => h))
      have hbase : w.heap.size ≤ wr.heap.size := hT1.size
      have lSx : Sx < wr.heap.size := Nat.lt_of_lt_of_le hXlt hbase
      have hne : Hid (∀ g, (Value.slice av n cv).ownBlock = some g → ¬ g = Sx) := Lib.hid (fun g hg e => by have := (hO1.lt g hg).1; omega)
      replace hX1 := Lib.hid hX1
      replace hT1 := Lib.hid hT1
      replace hs := Lib.hid hs
      have hC : wr.drew.cell? ⟨S0, 0, none⟩ = some (.slice (some ⟨gp, op, none⟩) p cp) ∧ wr.drew.cell? ⟨gp, op + f * 3 + 1, none⟩ = some (.slice (some ⟨ga, oa, none⟩) na ca) ∧ wr.drew.cell? ⟨ga, oa + n, none⟩ = some (.string s) := ⟨s0, s1, hcl⟩
      have x6 : wr.drew.cell? ⟨Sx, 1, none⟩ = some (.slice av n cv) := x6
      have hCB := Lib.hid (fun (w' : World) (hb : Below wr.drew.heap.size wr.drew w') => (⟨keepC hb hC.1, keepC hb hC.2.1, keepC hb hC.2.2⟩ : w'.cell? ⟨S0, 0, none⟩ = some (.slice (some ⟨gp, op, none⟩) p cp) ∧ w'.cell? ⟨gp, op + f * 3 + 1, none⟩ = some (.slice (some ⟨ga, oa, none⟩) na ca) ∧ w'.cell? ⟨ga, oa + n, none⟩ = some (.string s)))
      have hCF := Lib.hid (fun (w' : World) (hb : Below w0.heap.size w0 w') => (⟨keepC hb hI.out.s0, keepC hb hI.out.s1, keepC hb hcl0.out⟩ : w'.cell? ⟨S0, 0, none⟩ = some (.slice (some ⟨gp, op, none⟩) p cp) ∧ w'.cell? ⟨gp, op + f * 3 + 1, none⟩ = some (.slice (some ⟨ga, oa, none⟩) na ca) ∧ w'.cell? ⟨ga, oa + n, none⟩ = some (.string s)))
      have hB1 := Lib.hid hB1
      clear hO1 hG
      go_upto_region 10 with fail
      clear s0 s1 hcl
      refine wp_region_held_drew (S := (fun w' => w'.cell? ⟨S0, 0, none⟩ = some (.slice (some ⟨gp, op, none⟩) p cp) ∧ w'.cell? ⟨gp, op + f * 3 + 1, none⟩ = some (.slice (some ⟨ga, oa, none⟩) na ca) ∧ w'.cell? ⟨ga, oa + n, none⟩ = some (.string s))) (by kernel_rfl) hC (fun hHeld => ?_)
      clear hHeld
      refine wpAnyH_take (i := 0) (oi := (Oper.mk (some 38) (Op.fieldAddr 39 (Operand.tmp 6) 1) 0 "outright.go:236" #[] none)) (v := ?_) rfl (by kernel_rfl) (by kernel_rfl) (by kernel_rfl) (fun _ _ _ h => hPn h rfl) (Or.inl ⟨by rfl, ?_⟩) hC ?_
      rotate_left
      · (intro w hSw; (try dsimp only at hSw); go_simp; try with_reducible rfl)
      try simp only [Act.put, List.setIfInBounds_toArray, List.set_cons_zero, List.set_cons_succ]
      refine wpAnyH_take (i := 2) (oi := (Oper.mk (some 40) (Op.move (Operand.tmp 3)) 59 "outright.go:236" #[] none)) (v := ?_) rfl (by kernel_rfl) (by kernel_rfl) (by kernel_rfl) (fun _ _ _ h => hPn h rfl) (Or.inl ⟨by rfl, ?_⟩) hC ?_
      rotate_left
      · (intro w hSw; (try dsimp only at hSw); go_simp; try with_reducible rfl)
      try simp only [Act.put, List.setIfInBounds_toArray, List.set_cons_zero, List.set_cons_succ]
      refine wpAnyH_take (i := 3) (oi := (Oper.mk (some 41) (Op.fieldAddr 26 (Operand.tmp 1) 0) 0 "outright.go:236" #[] none)) (v := ?_) rfl (by kernel_rfl) (by kernel_rfl) (by kernel_rfl) (fun _ _ _ h => hPn h rfl) (Or.inl ⟨by rfl, ?_⟩) hC ?_
      rotate_left
      · (intro w hSw; (try dsimp only at hSw); go_simp; try with_reducible rfl)
      try simp only [Act.put, List.setIfInBounds_toArray, List.set_cons_zero, List.set_cons_succ]
      refine wpAnyH_take (i := 4) (oi := (Oper.mk (some 42) (Op.load 24 (Operand.tmp 41)) 24 "outright.go:236" #[(Edge.mk 3 Ground.data)] none)) (v := ?_) rfl (by kernel_rfl) (by kernel_rfl) (by kernel_rfl) (fun _ _ _ h => hPn h rfl) (Or.inl ⟨by rfl, ?_⟩) hC ?_
      rotate_left
      · (intro w hSw; (try dsimp only at hSw); go_simp; try with_reducible rfl)
      try simp only [Act.put, List.setIfInBounds_toArray, List.set_cons_zero, List.set_cons_succ]
      refine wpAnyH_take (i := 5) (oi := (Oper.mk (some 43) (Op.move (Operand.tmp 5)) 3 "outright.go:236" #[] none)) (v := ?_) rfl (by kernel_rfl) (by kernel_rfl) (by kernel_rfl) (fun _ _ _ h => hPn h rfl) (Or.inl ⟨by rfl, ?_⟩) hC ?_
      rotate_left
      · (intro w hSw; (try dsimp only at hSw); go_simp; try with_reducible rfl)
      try simp only [Act.put, List.setIfInBounds_toArray, List.set_cons_zero, List.set_cons_succ]
      refine wpAnyH_take (i := 6) (oi := (Oper.mk (some 44) (Op.indexAddr 24 (Operand.tmp 42) (Operand.tmp 43)) 0 "outright.go:236" #[(Edge.mk 4 Ground.data), (Edge.mk 5 Ground.data)] none)) (v := ?_) rfl (by kernel_rfl) (by kernel_rfl) (by kernel_rfl) (fun _ _ _ h => hPn h rfl) (Or.inl ⟨by rfl, ?_⟩) hC ?_
      rotate_left
      · (intro w hSw; (try dsimp only at hSw); go_simp; try with_reducible rfl)
      try simp only [Act.put, List.setIfInBounds_toArray, List.set_cons_zero, List.set_cons_succ]
      refine wpAnyH_take (i := 7) (oi := (Oper.mk (some 45) (Op.fieldAddr 39 (Operand.tmp 44) 1) 0 "outright.go:236" #[(Edge.mk 6 Ground.data)] none)) (v := ?_) rfl (by kernel_rfl) (by kernel_rfl) (by kernel_rfl) (fun _ _ _ h => hPn h rfl) (Or.inl ⟨by rfl, ?_⟩) hC ?_
      rotate_left
      · (intro w hSw; (try dsimp only at hSw); go_simp; try with_reducible rfl)
      try simp only [Act.put, List.setIfInBounds_toArray, List.set_cons_zero, List.set_cons_succ]
      refine wpAnyH_take (i := 8) (oi := (Oper.mk (some 46) (Op.load 36 (Operand.tmp 45)) 36 "outright.go:236" #[(Edge.mk 7 Ground.data)] none)) (v := ?_) rfl (by kernel_rfl) (by kernel_rfl) (by kernel_rfl) (fun _ _ _ h => hPn h rfl) (Or.inl ⟨by rfl, ?_⟩) hC ?_
      rotate_left
      · (intro w hSw; (try dsimp only at hSw); go_simp; try with_reducible rfl)
      try simp only [Act.put, List.setIfInBounds_toArray, List.set_cons_zero, List.set_cons_succ]
      refine wpAnyH_take (i := 9) (oi := (Oper.mk (some 47) (Op.move (Operand.tmp 7)) 3 "outright.go:236" #[] none)) (v := ?_) rfl (by kernel_rfl) (by kernel_rfl) (by kernel_rfl) (fun _ _ _ h => hPn h rfl) (Or.inl ⟨by rfl, ?_⟩) hC ?_
      rotate_left
      · (intro w hSw; (try dsimp only at hSw); go_simp; try with_reducible rfl)
      try simp only [Act.put, List.setIfInBounds_toArray, List.set_cons_zero, List.set_cons_succ]
      refine wpAnyH_take (i := 10) (oi := (Oper.mk (some 48) (Op.indexAddr 36 (Operand.tmp 46) (Operand.tmp 47)) 0 "outright.go:236" #[(Edge.mk 8 Ground.data), (Edge.mk 9 Ground.data)] none)) (v := ?_) rfl (by kernel_rfl) (by kernel_rfl) (by kernel_rfl) (fun _ _ _ h => hPn h rfl) (Or.inl ⟨by rfl, ?_⟩) hC ?_
      rotate_left
      · (intro w hSw; (try dsimp only at hSw); go_simp; try with_reducible rfl)
      try simp only [Act.put, List.setIfInBounds_toArray, List.set_cons_zero, List.set_cons_succ]
      refine wpAnyH_take (i := 11) (oi := (Oper.mk (some 49) (Op.load 9 (Operand.tmp 48)) 9 "outright.go:236" #[(Edge.mk 10 Ground.data)] none)) (v := ?_) rfl (by kernel_rfl) (by kernel_rfl) (by kernel_rfl) (fun _ _ _ h => hPn h rfl) (Or.inl ⟨by rfl, ?_⟩) hC ?_
      rotate_left
      · (intro w hSw; (try dsimp only at hSw); go_simp; try with_reducible rfl)
      try simp only [Act.put, List.setIfInBounds_toArray, List.set_cons_zero, List.set_cons_succ]
      refine wpAnyH_ready (rs := [1, 12]) (by kernel_rfl) (by simp) (AllReadyH.cons (o := (Oper.mk (some 39) (Op.load 36 (Operand.tmp 38)) 36 "outright.go:236" #[(Edge.mk 0 Ground.data)] none)) rfl (fun K hK => ?_) (AllReadyH.cons (o := (Oper.mk (some 50) (Op.call (Call.mk (Callee.value (Operand.tmp 40)) #[(Operand.tmp 49)] #[9])) 9 "outright.go:236" #[(Edge.mk 2 Ground.data), (Edge.mk 11 Ground.data)] none)) rfl (fun K hK => ?_) AllReadyH.nil))
      · skip
        go_simp
        skip
        refine hK.out _ _ hC (fun hHeld => ?_)
        clear hK K hHeld
        try simp only [Act.put, List.setIfInBounds_toArray, List.set_cons_zero, List.set_cons_succ]
        refine wpAnyH_ready (rs := [12]) (by kernel_rfl) (by simp) (AllReadyH.cons (o := (Oper.mk (some 50) (Op.call (Call.mk (Callee.value (Operand.tmp 40)) #[(Operand.tmp 49)] #[9])) 9 "outright.go:236" #[(Edge.mk 2 Ground.data), (Edge.mk 11 Ground.data)] none)) rfl (fun K hK => ?_) AllReadyH.nil)
        go_simp
        go_at_call 23
        refine (hone.out _).mono ?_
        rintro e w9 ⟨rfl, hw9⟩
        obtain rfl := hw9.symm
        go_simp
        refine hK.out _ _ hC (fun hHeld => ?_)
        clear hK K hHeld
        try simp only [Act.put, List.setIfInBounds_toArray, List.set_cons_zero, List.set_cons_succ]
        refine wpAnyH_ready (rs := [13]) (by kernel_rfl) (by simp) (AllReadyH.cons (o := (Oper.mk (some 51) (Op.buildSlice 36 1 #[(0, (Operand.tmp 50))]) 36 "outright.go:236" #[(Edge.mk 12 Ground.data)] none)) rfl (fun K hK => ?_) AllReadyH.nil)
        go_simp
        replace hC := hCB.out (wr.drew.alloc (.cells #[.string (renV s)] 9)) ((Below.refl _ _).alloc (Nat.le_refl _) _)
        refine hK.out _ _ hC (fun hHeld => ?_)
        clear hK K hHeld
        try simp only [Act.put, List.setIfInBounds_toArray, List.set_cons_zero, List.set_cons_succ]
        refine wpAnyH_ready (rs := [14]) (by kernel_rfl) (by simp) (AllReadyH.cons (o := (Oper.mk (some 52) (Op.call (Call.mk (Callee.builtin Builtin.append) #[(Operand.tmp 39), (Operand.tmp 51)] #[36, 36])) 36 "outright.go:236" #[(Edge.mk 1 Ground.data), (Edge.mk 13 Ground.data), (Edge.mk 12 Ground.chain)] none)) rfl (fun K hK => ?_) AllReadyH.nil)
        refine step_append_lies _ (by rfl) _ _ _ (by rfl) w.heap.size 9 i0 _ 1 16 Try.underlying36 hi0 hz0 hz1 hz2 rfl (by omega) (.slice av n cv) n XS (by rfl) hown2.out ⟨wr.heap.size, 0, none⟩ 1 1 [.string (renV s)] (by rfl) (by rfl) (World.news_of_block (cs := #[.string (renV s)]) (t := 9) (fr := (0, 0)) (heap_alloc_new wr.drew _)) (by simp [Value.oneCell']) (by omega) (by unfold maxLen; omega) (by omega) (by simp; omega) (wr.heap.size + 1) (by simp) ?_
        intro gg cap2 w2 hO2 hg2 hat2 hlt2
        have hO2 : w2.ownsRow w.heap.size 9 1 (.slice (some ⟨gg, 0, none⟩) (n + 1) cap2) (n + 1) (((d.params.take (n + 1)).map renV).map Value.string) := by
          rw [← ren_snoc hs.out, ← hXS.out]
          exact hO2
        have hT2 : Touch wr w2 (fun k => (Value.slice av n cv).ownBlock = some k) := (((Touch.refl wr (fun k => (Value.slice av n cv).ownBlock = some k)).drew).alloc _).trans (Touch.of_grown hg2 (fun k e => e))
        have hX2 : w2.heap[Sx]? = some (.cells #[c0, .slice av n cv, c2] 39 (0, 0)) := (hT2.block Sx (Array.getElem?_eq_some_iff.1 hX1.out).1 (fun e => hne.out _ e rfl)).trans hX1.out
        have y6 : w2.frozen? ⟨Sx, 1, none⟩ = false := by simp [World.frozen?, hX2]
        have z6 : w2.cell? ⟨Sx, 1, none⟩ = some (.slice av n cv) := by rw [blk_cell hX2]; rfl
        have hfin : Hid ((w2.setCell ⟨Sx, 1, none⟩ (.slice (some ⟨gg, 0, none⟩) (n + 1) cap2)).heap[Sx]? = some (.cells #[c0, .slice (some ⟨gg, 0, none⟩) (n + 1) cap2, c2] 39 (0, 0)) ∧ Touch w (w2.setCell ⟨Sx, 1, none⟩ (.slice (some ⟨gg, 0, none⟩) (n + 1) cap2)) (fun k => k = Sx) ∧ (w2.setCell ⟨Sx, 1, none⟩ (.slice (some ⟨gg, 0, none⟩) (n + 1) cap2)).ownsRow w.heap.size 9 1 (.slice (some ⟨gg, 0, none⟩) (n + 1) cap2) (n + 1) (((d.params.take (n + 1)).map renV).map Value.string)) := by
          have hd2 : ∀ g, (Value.slice (some ⟨gg, 0, none⟩) (n + 1) cap2).ownBlock = some g → ¬ g = Sx := fun g hg e => by have := (hO2.lt g hg).1; omega
          exact Lib.hid ⟨blk_set (i := 1) _ hX2, (hT1.out.then (hT2.mono (S' := fun k => (Value.slice av n cv).ownBlock = some k ∨ k = Sx) (fun k _ h => .inl h)) (fun k hk h => h.elim (fun e => absurd (hown2.out.lt k e).1 (by omega)) id)).setCell (a := ⟨Sx, 1, none⟩) (fun _ => rfl) _, ownsRow_touch hO2 ((Touch.refl w2 (fun k => k = Sx)).setCell (a := ⟨Sx, 1, none⟩) (fun _ => rfl) _) hd2⟩
        have hTw : Touch wr w2 (fun k => (Value.slice av n cv).ownBlock = some k) := hT2
        replace hC := hCF.out w2 (hB1.out.trans (hTw.below (by have := hB1.out.size; omega) (fun k hk e => by have := (hown2.out.lt k e).1; omega)))
        clear hO2 hg2 hat2 hlt2 hT2 hTw hX2 hown2 x6
        refine hK.out _ _ hC (fun hHeld => ?_)
        clear hK K hHeld
        try simp only [Act.put, List.setIfInBounds_toArray, List.set_cons_zero, List.set_cons_succ]
        refine wpAnyH_take (i := 15) (oi := (Oper.mk (some 53) (Op.fieldAddr 39 (Operand.tmp 6) 1) 0 "outright.go:236" #[(Edge.mk 0 Ground.phase), (Edge.mk 1 Ground.phase), (Edge.mk 2 Ground.phase), (Edge.mk 3 Ground.phase), (Edge.mk 4 Ground.phase), (Edge.mk 5 Ground.phase), (Edge.mk 6 Ground.phase), (Edge.mk 7 Ground.phase), (Edge.mk 8 Ground.phase), (Edge.mk 9 Ground.phase), (Edge.mk 10 Ground.phase), (Edge.mk 11 Ground.phase), (Edge.mk 12 Ground.phase), (Edge.mk 13 Ground.phase), (Edge.mk 14 Ground.phase)] none)) (v := ?_) rfl (by kernel_rfl) (by kernel_rfl) (by kernel_rfl) (fun _ _ _ h => hPn h rfl) (Or.inl ⟨by rfl, ?_⟩) hC ?_
        rotate_left
        · (intro w hSw; (try dsimp only at hSw); go_simp; try with_reducible rfl)
        try simp only [Act.put, List.setIfInBounds_toArray, List.set_cons_zero, List.set_cons_succ]
        refine wpAnyH_ready (rs := [16]) (by kernel_rfl) (by simp) (AllReadyH.cons (o := (Oper.mk none (Op.store 36 (Operand.tmp 53) (Operand.tmp 52)) 0 "outright.go:236" #[(Edge.mk 15 Ground.data), (Edge.mk 14 Ground.data), (Edge.mk 14 Ground.chain), (Edge.mk 0 Ground.phase), (Edge.mk 1 Ground.phase), (Edge.mk 2 Ground.phase), (Edge.mk 3 Ground.phase), (Edge.mk 4 Ground.phase), (Edge.mk 5 Ground.phase), (Edge.mk 6 Ground.phase), (Edge.mk 7 Ground.phase), (Edge.mk 8 Ground.phase), (Edge.mk 9 Ground.phase), (Edge.mk 10 Ground.phase), (Edge.mk 11 Ground.phase), (Edge.mk 12 Ground.phase), (Edge.mk 13 Ground.phase), (Edge.mk 14 Ground.phase)] none)) rfl (fun K hK => ?_) AllReadyH.nil)
        go_simp
        replace hC := hCF.out (w2.setCell ⟨Sx, 1, none⟩ (.slice (some ⟨gg, 0, none⟩) (n + 1) cap2)) (hB.out.trans (hfin.out.2.1.below hB.out.size (fun k hk e => by omega)))
        refine hK.out _ _ hC (fun hHeld => ?_)
        clear hK K hHeld
        try simp only [Act.put, List.setIfInBounds_toArray, List.set_cons_zero, List.set_cons_succ]
        refine wpAnyH_done (by kernel_rfl) ?_ _
        go_wp2_with fail
        go_roundw
        case rel => exact ⟨n + 1, .slice (some ⟨gg, 0, none⟩) (n + 1) cap2, by omega, by go_num, hfin⟩
        case measure => simp [intOf]; omega
      · skip
        go_simp
        go_at_call 23
        refine (hone.out _).mono ?_
        rintro e w9 ⟨rfl, hw9⟩
        obtain rfl := hw9.symm
        go_simp
        refine hK.out _ _ hC (fun hHeld => ?_)
        clear hK K hHeld
        try simp only [Act.put, List.setIfInBounds_toArray, List.set_cons_zero, List.set_cons_succ]
        refine wpAnyH_ready (rs := [1, 13]) (by kernel_rfl) (by simp) (AllReadyH.cons (o := (Oper.mk (some 39) (Op.load 36 (Operand.tmp 38)) 36 "outright.go:236" #[(Edge.mk 0 Ground.data)] none)) rfl (fun K hK => ?_) (AllReadyH.cons (o := (Oper.mk (some 51) (Op.buildSlice 36 1 #[(0, (Operand.tmp 50))]) 36 "outright.go:236" #[(Edge.mk 12 Ground.data)] none)) rfl (fun K hK => ?_) AllReadyH.nil))
        · skip
          go_simp
          skip
          refine hK.out _ _ hC (fun hHeld => ?_)
          clear hK K hHeld
          try simp only [Act.put, List.setIfInBounds_toArray, List.set_cons_zero, List.set_cons_succ]
          refine wpAnyH_ready (rs := [13]) (by kernel_rfl) (by simp) (AllReadyH.cons (o := (Oper.mk (some 51) (Op.buildSlice 36 1 #[(0, (Operand.tmp 50))]) 36 "outright.go:236" #[(Edge.mk 12 Ground.data)] none)) rfl (fun K hK => ?_) AllReadyH.nil)
          go_simp
          replace hC := hCB.out (wr.drew.alloc (.cells #[.string (renV s)] 9)) ((Below.refl _ _).alloc (Nat.le_refl _) _)
          refine hK.out _ _ hC (fun hHeld => ?_)
          clear hK K hHeld
          try simp only [Act.put, List.setIfInBounds_toArray, List.set_cons_zero, List.set_cons_succ]
          refine wpAnyH_ready (rs := [14]) (by kernel_rfl) (by simp) (AllReadyH.cons (o := (Oper.mk (some 52) (Op.call (Call.mk (Callee.builtin Builtin.append) #[(Operand.tmp 39), (Operand.tmp 51)] #[36, 36])) 36 "outright.go:236" #[(Edge.mk 1 Ground.data), (Edge.mk 13 Ground.data), (Edge.mk 12 Ground.chain)] none)) rfl (fun K hK => ?_) AllReadyH.nil)
          refine step_append_lies _ (by rfl) _ _ _ (by rfl) w.heap.size 9 i0 _ 1 16 Try.underlying36 hi0 hz0 hz1 hz2 rfl (by omega) (.slice av n cv) n XS (by rfl) hown2.out ⟨wr.heap.size, 0, none⟩ 1 1 [.string (renV s)] (by rfl) (by rfl) (World.news_of_block (cs := #[.string (renV s)]) (t := 9) (fr := (0, 0)) (heap_alloc_new wr.drew _)) (by simp [Value.oneCell']) (by omega) (by unfold maxLen; omega) (by omega) (by simp; omega) (wr.heap.size + 1) (by simp) ?_
          intro gg cap2 w2 hO2 hg2 hat2 hlt2
          have hO2 : w2.ownsRow w.heap.size 9 1 (.slice (some ⟨gg, 0, none⟩) (n + 1) cap2) (n + 1) (((d.params.take (n + 1)).map renV).map Value.string) := by
            rw [← ren_snoc hs.out, ← hXS.out]
            exact hO2
          have hT2 : Touch wr w2 (fun k => (Value.slice av n cv).ownBlock = some k) := (((Touch.refl wr (fun k => (Value.slice av n cv).ownBlock = some k)).drew).alloc _).trans (Touch.of_grown hg2 (fun k e => e))
          have hX2 : w2.heap[Sx]? = some (.cells #[c0, .slice av n cv, c2] 39 (0, 0)) := (hT2.block Sx (Array.getElem?_eq_some_iff.1 hX1.out).1 (fun e => hne.out _ e rfl)).trans hX1.out
          have y6 : w2.frozen? ⟨Sx, 1, none⟩ = false := by simp [World.frozen?, hX2]
          have z6 : w2.cell? ⟨Sx, 1, none⟩ = some (.slice av n cv) := by rw [blk_cell hX2]; rfl
          have hfin : Hid ((w2.setCell ⟨Sx, 1, none⟩ (.slice (some ⟨gg, 0, none⟩) (n + 1) cap2)).heap[Sx]? = some (.cells #[c0, .slice (some ⟨gg, 0, none⟩) (n + 1) cap2, c2] 39 (0, 0)) ∧ Touch w (w2.setCell ⟨Sx, 1, none⟩ (.slice (some ⟨gg, 0, none⟩) (n + 1) cap2)) (fun k => k = Sx) ∧ (w2.setCell ⟨Sx, 1, none⟩ (.slice (some ⟨gg, 0, none⟩) (n + 1) cap2)).ownsRow w.heap.size 9 1 (.slice (some ⟨gg, 0, none⟩) (n + 1) cap2) (n + 1) (((d.params.take (n + 1)).map renV).map Value.string)) := by
            have hd2 : ∀ g, (Value.slice (some ⟨gg, 0, none⟩) (n + 1) cap2).ownBlock = some g → ¬ g = Sx := fun g hg e => by have := (hO2.lt g hg).1; omega
            exact Lib.hid ⟨blk_set (i := 1) _ hX2, (hT1.out.then (hT2.mono (S' := fun k => (Value.slice av n cv).ownBlock = some k ∨ k = Sx) (fun k _ h => .inl h)) (fun k hk h => h.elim (fun e => absurd (hown2.out.lt k e).1 (by omega)) id)).setCell (a := ⟨Sx, 1, none⟩) (fun _ => rfl) _, ownsRow_touch hO2 ((Touch.refl w2 (fun k => k = Sx)).setCell (a := ⟨Sx, 1, none⟩) (fun _ => rfl) _) hd2⟩
          have hTw : Touch wr w2 (fun k => (Value.slice av n cv).ownBlock = some k) := hT2
          replace hC := hCF.out w2 (hB1.out.trans (hTw.below (by have := hB1.out.size; omega) (fun k hk e => by have := (hown2.out.lt k e).1; omega)))
          clear hO2 hg2 hat2 hlt2 hT2 hTw hX2 hown2 x6
          refine hK.out _ _ hC (fun hHeld => ?_)
          clear hK K hHeld
          try simp only [Act.put, List.setIfInBounds_toArray, List.set_cons_zero, List.set_cons_succ]
          refine wpAnyH_take (i := 15) (oi := (Oper.mk (some 53) (Op.fieldAddr 39 (Operand.tmp 6) 1) 0 "outright.go:236" #[(Edge.mk 0 Ground.phase), (Edge.mk 1 Ground.phase), (Edge.mk 2 Ground.phase), (Edge.mk 3 Ground.phase), (Edge.mk 4 Ground.phase), (Edge.mk 5 Ground.phase), (Edge.mk 6 Ground.phase), (Edge.mk 7 Ground.phase), (Edge.mk 8 Ground.phase), (Edge.mk 9 Ground.phase), (Edge.mk 10 Ground.phase), (Edge.mk 11 Ground.phase), (Edge.mk 12 Ground.phase), (Edge.mk 13 Ground.phase), (Edge.mk 14 Ground.phase)] none)) (v := ?_) rfl (by kernel_rfl) (by kernel_rfl) (by kernel_rfl) (fun _ _ _ h => hPn h rfl) (Or.inl ⟨by rfl, ?_⟩) hC ?_
          rotate_left
          · (intro w hSw; (try dsimp only at hSw); go_simp; try with_reducible rfl)
          try simp only [Act.put, List.setIfInBounds_toArray, List.set_cons_zero, List.set_cons_succ]
          refine wpAnyH_ready (rs := [16]) (by kernel_rfl) (by simp) (AllReadyH.cons (o := (Oper.mk none (Op.store 36 (Operand.tmp 53) (Operand.tmp 52)) 0 "outright.go:236" #[(Edge.mk 15 Ground.data), (Edge.mk 14 Ground.data), (Edge.mk 14 Ground.chain), (Edge.mk 0 Ground.phase), (Edge.mk 1 Ground.phase), (Edge.mk 2 Ground.phase), (Edge.mk 3 Ground.phase), (Edge.mk 4 Ground.phase), (Edge.mk 5 Ground.phase), (Edge.mk 6 Ground.phase), (Edge.mk 7 Ground.phase), (Edge.mk 8 Ground.phase), (Edge.mk 9 Ground.phase), (Edge.mk 10 Ground.phase), (Edge.mk 11 Ground.phase), (Edge.mk 12 Ground.phase), (Edge.mk 13 Ground.phase), (Edge.mk 14 Ground.phase)] none)) rfl (fun K hK => ?_) AllReadyH.nil)
          go_simp
          replace hC := hCF.out (w2.setCell ⟨Sx, 1, none⟩ (.slice (some ⟨gg, 0, none⟩) (n + 1) cap2)) (hB.out.trans (hfin.out.2.1.below hB.out.size (fun k hk e => by omega)))
          refine hK.out _ _ hC (fun hHeld => ?_)
          clear hK K hHeld
          try simp only [Act.put, List.setIfInBounds_toArray, List.set_cons_zero, List.set_cons_succ]
          refine wpAnyH_done (by kernel_rfl) ?_ _
          go_wp2_with fail
          go_roundw
          case rel => exact ⟨n + 1, .slice (some ⟨gg, 0, none⟩) (n + 1) cap2, by omega, by go_num, hfin⟩
          case measure => simp [intOf]; omega
        · skip
          go_simp
          replace hC := hCB.out (wr.drew.alloc (.cells #[.string (renV s)] 9)) ((Below.refl _ _).alloc (Nat.le_refl _) _)
          refine hK.out _ _ hC (fun hHeld => ?_)
          clear hK K hHeld
          try simp only [Act.put, List.setIfInBounds_toArray, List.set_cons_zero, List.set_cons_succ]
          refine wpAnyH_ready (rs := [1]) (by kernel_rfl) (by simp) (AllReadyH.cons (o := (Oper.mk (some 39) (Op.load 36 (Operand.tmp 38)) 36 "outright.go:236" #[(Edge.mk 0 Ground.data)] none)) rfl (fun K hK => ?_) AllReadyH.nil)
          go_simp
          skip
          refine hK.out _ _ hC (fun hHeld => ?_)
          clear hK K hHeld
          try simp only [Act.put, List.setIfInBounds_toArray, List.set_cons_zero, List.set_cons_succ]
          refine wpAnyH_ready (rs := [14]) (by kernel_rfl) (by simp) (AllReadyH.cons (o := (Oper.mk (some 52) (Op.call (Call.mk (Callee.builtin Builtin.append) #[(Operand.tmp 39), (Operand.tmp 51)] #[36, 36])) 36 "outright.go:236" #[(Edge.mk 1 Ground.data), (Edge.mk 13 Ground.data), (Edge.mk 12 Ground.chain)] none)) rfl (fun K hK => ?_) AllReadyH.nil)
          refine step_append_lies _ (by rfl) _ _ _ (by rfl) w.heap.size 9 i0 _ 1 16 Try.underlying36 hi0 hz0 hz1 hz2 rfl (by omega) (.slice av n cv) n XS (by rfl) hown2.out ⟨wr.heap.size, 0, none⟩ 1 1 [.string (renV s)] (by rfl) (by rfl) (World.news_of_block (cs := #[.string (renV s)]) (t := 9) (fr := (0, 0)) (heap_alloc_new wr.drew _)) (by simp [Value.oneCell']) (by omega) (by unfold maxLen; omega) (by omega) (by simp; omega) (wr.heap.size + 1) (by simp) ?_
          intro gg cap2 w2 hO2 hg2 hat2 hlt2
          have hO2 : w2.ownsRow w.heap.size 9 1 (.slice (some ⟨gg, 0, none⟩) (n + 1) cap2) (n + 1) (((d.params.take (n + 1)).map renV).map Value.string) := by
            rw [← ren_snoc hs.out, ← hXS.out]
            exact hO2
          have hT2 : Touch wr w2 (fun k => (Value.slice av n cv).ownBlock = some k) := (((Touch.refl wr (fun k => (Value.slice av n cv).ownBlock = some k)).drew).alloc _).trans (Touch.of_grown hg2 (fun k e => e))
          have hX2 : w2.heap[Sx]? = some (.cells #[c0, .slice av n cv, c2] 39 (0, 0)) := (hT2.block Sx (Array.getElem?_eq_some_iff.1 hX1.out).1 (fun e => hne.out _ e rfl)).trans hX1.out
          have y6 : w2.frozen? ⟨Sx, 1, none⟩ = false := by simp [World.frozen?, hX2]
          have z6 : w2.cell? ⟨Sx, 1, none⟩ = some (.slice av n cv) := by rw [blk_cell hX2]; rfl
          have hfin : Hid ((w2.setCell ⟨Sx, 1, none⟩ (.slice (some ⟨gg, 0, none⟩) (n + 1) cap2)).heap[Sx]? = some (.cells #[c0, .slice (some ⟨gg, 0, none⟩) (n + 1) cap2, c2] 39 (0, 0)) ∧ Touch w (w2.setCell ⟨Sx, 1, none⟩ (.slice (some ⟨gg, 0, none⟩) (n + 1) cap2)) (fun k => k = Sx) ∧ (w2.setCell ⟨Sx, 1, none⟩ (.slice (some ⟨gg, 0, none⟩) (n + 1) cap2)).ownsRow w.heap.size 9 1 (.slice (some ⟨gg, 0, none⟩) (n + 1) cap2) (n + 1) (((d.params.take (n + 1)).map renV).map Value.string)) := by
            have hd2 : ∀ g, (Value.slice (some ⟨gg, 0, none⟩) (n + 1) cap2).ownBlock = some g → ¬ g = Sx := fun g hg e => by have := (hO2.lt g hg).1; omega
            exact Lib.hid ⟨blk_set (i := 1) _ hX2, (hT1.out.then (hT2.mono (S' := fun k => (Value.slice av n cv).ownBlock = some k ∨ k = Sx) (fun k _ h => .inl h)) (fun k hk h => h.elim (fun e => absurd (hown2.out.lt k e).1 (by omega)) id)).setCell (a := ⟨Sx, 1, none⟩) (fun _ => rfl) _, ownsRow_touch hO2 ((Touch.refl w2 (fun k => k = Sx)).setCell (a := ⟨Sx, 1, none⟩) (fun _ => rfl) _) hd2⟩
          have hTw : Touch wr w2 (fun k => (Value.slice av n cv).ownBlock = some k) := hT2
          replace hC := hCF.out w2 (hB1.out.trans (hTw.below (by have := hB1.out.size; omega) (fun k hk e => by have := (hown2.out.lt k e).1; omega)))
          clear hO2 hg2 hat2 hlt2 hT2 hTw hX2 hown2 x6
          refine hK.out _ _ hC (fun hHeld => ?_)
          clear hK K hHeld
          try simp only [Act.put, List.setIfInBounds_toArray, List.set_cons_zero, List.set_cons_succ]
          refine wpAnyH_take (i := 15) (oi := (Oper.mk (some 53) (Op.fieldAddr 39 (Operand.tmp 6) 1) 0 "outright.go:236" #[(Edge.mk 0 Ground.phase), (Edge.mk 1 Ground.phase), (Edge.mk 2 Ground.phase), (Edge.mk 3 Ground.phase), (Edge.mk 4 Ground.phase), (Edge.mk 5 Ground.phase), (Edge.mk 6 Ground.phase), (Edge.mk 7 Ground.phase), (Edge.mk 8 Ground.phase), (Edge.mk 9 Ground.phase), (Edge.mk 10 Ground.phase), (Edge.mk 11 Ground.phase), (Edge.mk 12 Ground.phase), (Edge.mk 13 Ground.phase), (Edge.mk 14 Ground.phase)] none)) (v := ?_) rfl (by kernel_rfl) (by kernel_rfl) (by kernel_rfl) (fun _ _ _ h => hPn h rfl) (Or.inl ⟨by rfl, ?_⟩) hC ?_
          rotate_left
          · (intro w hSw; (try dsimp only at hSw); go_simp; try with_reducible rfl)
          try simp only [Act.put, List.setIfInBounds_toArray, List.set_cons_zero, List.set_cons_succ]
          refine wpAnyH_ready (rs := [16]) (by kernel_rfl) (by simp) (AllReadyH.cons (o := (Oper.mk none (Op.store 36 (Operand.tmp 53) (Operand.tmp 52)) 0 "outright.go:236" #[(Edge.mk 15 Ground.data), (Edge.mk 14 Ground.data), (Edge.mk 14 Ground.chain), (Edge.mk 0 Ground.phase), (Edge.mk 1 Ground.phase), (Edge.mk 2 Ground.phase), (Edge.mk 3 Ground.phase), (Edge.mk 4 Ground.phase), (Edge.mk 5 Ground.phase), (Edge.mk 6 Ground.phase), (Edge.mk 7 Ground.phase), (Edge.mk 8 Ground.phase), (Edge.mk 9 Ground.phase), (Edge.mk 10 Ground.phase), (Edge.mk 11 Ground.phase), (Edge.mk 12 Ground.phase), (Edge.mk 13 Ground.phase), (Edge.mk 14 Ground.phase)] none)) rfl (fun K hK => ?_) AllReadyH.nil)
          go_simp
          replace hC := hCF.out (w2.setCell ⟨Sx, 1, none⟩ (.slice (some ⟨gg, 0, none⟩) (n + 1) cap2)) (hB.out.trans (hfin.out.2.1.below hB.out.size (fun k hk e => by omega)))
          refine hK.out _ _ hC (fun hHeld => ?_)
          clear hK K hHeld
          try simp only [Act.put, List.setIfInBounds_toArray, List.set_cons_zero, List.set_cons_succ]
          refine wpAnyH_done (by kernel_rfl) ?_ _
          go_wp2_with fail
          go_roundw
          case rel => exact ⟨n + 1, .slice (some ⟨gg, 0, none⟩) (n + 1) cap2, by omega, by go_num, hfin⟩
          case measure => simp [intOf]; omega
    · obtain rfl : n = na := by omega
      have j1 : decide ((n : Int) < (n : Int)) = false := by simp
      have hend : Hid (((d.params.take n).map renV) = d.params.map renV) := Lib.hid (by rw [List.take_of_length_le (by rw [← hn8.out]; exact Nat.le_refl _)])
      replace hX1 := Lib.hid hX1
      replace hT1 := Lib.hid hT1
      replace hO1 := Lib.hid hO1
      clear hB1 hG
      go_wp2_with fail
      refine hQ.out ⟨v, hX1.out, hT1.out, ?_⟩
      rw [← hend.out]
      exact hO1.out

end Go.Proofs.YtjblhiekccjdcaaR
