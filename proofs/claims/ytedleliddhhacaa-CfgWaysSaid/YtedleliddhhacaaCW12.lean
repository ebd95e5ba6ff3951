/- CfgWays: its blocks. -/
import Derived.Test.YtedleliddhhacaaCW4
import Derived.Deep.CutRange
import Derived.Deep.CutBlock
namespace Go.Proofs.Ytedleliddhhacaa
open Go.RowKit Go.Maps

/-- What the walk from a block's ways has. -/
structure DfsW (wc : World) (Z n i : Nat) (N : List (List Int)) (wr : World) (v : Value) (l : List Int) (s : List Nat) : Prop where
  row : wr.ownsRow (Z + 1) 3 1 v l.length (l.map encI)
  seen : wr.heap[Z]? = some (.cells (seenA n s) 4 (0, 0))
  low : Below wc.heap.size wc wr
  val : ∀ y ∈ l, 0 ≤ y ∧ y < n
  lr : ∀ y : Nat, (y : Int) ∈ l → ∃ z, Edge N i z ∧ Way N z y
  sr : ∀ y ∈ s, ∃ z, Edge N i z ∧ Way N z y
  start : ∀ t, Edge N i t → t ∈ s ∨ (t : Int) ∈ l
  shut : ∀ y ∈ s, ∀ z, Edge N y z → z ∈ s ∨ (z : Int) ∈ l
theorem DfsW.done {wc wr : World} {Z n i : Nat} {N : List (List Int)} {v : Value} {s : List Nat} (H : DfsW wc Z n i N wr v [] s) (y : Nat) : y ∈ s ↔ ∃ z, Edge N i z ∧ Way N z y := by
  refine ⟨H.sr y, ?_⟩
  rintro ⟨z, he, hw⟩
  have h0 : z ∈ s := (H.start z he).resolve_right (by simp)
  induction hw with
  | refl _ => exact h0
  | @step b c _ e ih => exact (H.shut b ih c e).resolve_right (by simp)
set_option maxRecDepth 20000 in
set_option maxHeartbeats 8000000 in
theorem cw12 {c : Code} (hc : Func.blockOf Try.f4 12 = some c) {Q : Exit → Act → World → Prop} {wc w : World} {F G1 n i Z q cr : Nat} {ar : Option Addr} {N : List (List Int)} {r : List Int} {u0 u1 u2 u4 u5 u6 u7 u8 u9 u10 u11 u12 u13 u14 u15 u16 u17 u20 u21 u22 u23 u24 u25 u26 u27 u28 u29 u30 u31 u32 u33 u34 u35 u36 u37 u38 u39 u40 u41 u42 u43 u44 u45 u46 u47 u48 u49 u50 u51 u52 u53 u54 u55 u56 u57 u58 u59 u60 u61 u62 u63 u64 u65 u66 u67 u68 u69 u70 u71 u72 u73 u74 u75 u76 u77 u78 u79 u80 u81 u82 u83 u84 u85 u86 u87 u88 u89 u90 u91 u92 u93 u94 u95 u96 u97 u98 u99 u100 u101 u102 u103 u104 u105 u106 u107 u108 u109 u110 u111 u112 u113 u114 u115 u116 u117 u118 u119 u120 u121 u122 u123 u124 u125 u126 u127 u128 u129 u130 u131 u132 u133 u134 u135 u136 u137 u138 u139 u140 u141 u142 u143 u144 u145 u146 u147 u148 u149 u150 u151 u152 u153 u154 u155 u156 u157 u158 u159 u160 u161 u162 u163 u164 u165 u166 u167 u168 u169 u170 u171 u172 u173 u174 u175 u176 u177 u178 u179 u180 u181 u182 u183 u184 u185 u186 u187 u188 u189 u190 u191 u192 u193 u194 u195 u196 u197 u198 u199 u200 u201 u202 u203 u204 u205 u206 u207 u208 u209 u210 u211 u212 u213 u214 u215 u216 u217 u218 u219 u220 u221 u222 u223 u224 u225 u226 u227 u228 u229 u230 u231 u232 u233 u234 u235 u236 u237 u238 u239 u240 u241 u242 u243 u244 u245 u246 u247 u248 u249 u250 u251 u252 u253 u254 u255 u256 u257 u258 u259 u260 u261 u262 u263 u264 u265 u266 u267 u268 u269 u270 u271 u272 u273 u274 u275 u276 u277 u278 u279 u280 u281 u282 u283 u284 u285 u286 u287 u288 u289 u290 u291 u292 u293 u294 u295 u296 u297 u298 u299 u300 u301 u302 u303 u304 u305 u306 u307 : Value}
    (hF : wc.cell? ⟨F, 0, none⟩ = some (.slice (some ⟨G1, 0, none⟩) n n)) (hFl : F < wc.heap.size) (hg : RdG wc (.slice (some ⟨G1, 0, none⟩) n n) N) (hN : N.length = n) (hn : n ≤ 40) (hform : ∀ r ∈ N, r.Pairwise (· < ·) ∧ ∀ x ∈ r, 0 ≤ x ∧ x < n)
    (hZ : w.heap[Z]? = some (.cells (seenA n []) 4 (0, 0))) (hZw : wc.heap.size ≤ Z) (hb : Below wc.heap.size wc w) (hrow : w.ownsRow (Z + 1) 3 1 (.slice ar q cr) q (r.map encI)) (hq : q = r.length) (hr : N[i]? = some r)
    (hQ : Hid (∀ {wx : World} {v19 v20 v269 v270 v271 v272 v273 v274 v275 v276 v277 v278 v279 v280 v281 v282 v283 v284 v285 v286 v287 v288 v289 v290 v291 v292 v293 v294 v295 v296 v297 : Value}, (∃ s : List Nat, wx.heap[Z]? = some (.cells (seenA n s) 4 (0, 0)) ∧ (∀ y, y ∈ s ↔ ∃ z, Edge N i z ∧ Way N z y) ∧ Below wc.heap.size wc wx) → Q .normal { tmps := #[u0, u1, u2, .pointer (some ⟨F, 0, none⟩), u4, u5, u6, u7, u8, u9, u10, u11, u12, u13, u14, u15, u16, u17, .slice (some ⟨Z, 0, none⟩) n n, v19, v20, u21, u22, u23, u24, u25, u26, u27, u28, u29, u30, u31, u32, u33, u34, u35, u36, u37, u38, u39, u40, u41, u42, u43, u44, u45, u46, u47, u48, u49, u50, u51, u52, u53, u54, u55, u56, u57, u58, u59, u60, u61, u62, u63, u64, u65, u66, u67, u68, u69, u70, u71, u72, u73, u74, u75, u76, u77, u78, u79, u80, u81, u82, u83, u84, u85, u86, u87, u88, u89, u90, u91, u92, u93, u94, u95, u96, u97, u98, u99, u100, u101, u102, u103, u104, u105, u106, u107, u108, u109, u110, u111, u112, u113, u114, u115, u116, u117, u118, u119, u120, u121, u122, u123, u124, u125, u126, u127, u128, u129, u130, u131, u132, u133, u134, u135, u136, u137, u138, u139, u140, u141, u142, u143, u144, u145, u146, u147, u148, u149, u150, u151, u152, u153, u154, u155, u156, u157, u158, u159, u160, u161, u162, u163, u164, u165, u166, u167, u168, u169, u170, u171, u172, u173, u174, u175, u176, u177, u178, u179, u180, u181, u182, u183, u184, u185, u186, u187, u188, u189, u190, u191, u192, u193, u194, u195, u196, u197, u198, u199, u200, u201, u202, u203, u204, u205, u206, u207, u208, u209, u210, u211, u212, u213, u214, u215, u216, u217, u218, u219, u220, u221, u222, u223, u224, u225, u226, u227, u228, u229, u230, u231, u232, u233, u234, u235, u236, u237, u238, u239, u240, u241, u242, u243, u244, u245, u246, u247, u248, u249, u250, u251, u252, u253, u254, u255, u256, u257, u258, u259, u260, u261, u262, u263, u264, u265, u266, u267, u268, v269, v270, v271, v272, v273, v274, v275, v276, v277, v278, v279, v280, v281, v282, v283, v284, v285, v286, v287, v288, v289, v290, v291, v292, v293, v294, v295, v296, v297, u298, u299, u300, u301, u302, u303, u304, u305, u306, u307], defers := [] } wx)) :
    c.wp Try.prog Q { tmps := #[u0, u1, u2, .pointer (some ⟨F, 0, none⟩), u4, u5, u6, u7, u8, u9, u10, u11, u12, u13, u14, u15, u16, u17, .slice (some ⟨Z, 0, none⟩) n n, .slice ar q cr, u20, u21, u22, u23, u24, u25, u26, u27, u28, u29, u30, u31, u32, u33, u34, u35, u36, u37, u38, u39, u40, u41, u42, u43, u44, u45, u46, u47, u48, u49, u50, u51, u52, u53, u54, u55, u56, u57, u58, u59, u60, u61, u62, u63, u64, u65, u66, u67, u68, u69, u70, u71, u72, u73, u74, u75, u76, u77, u78, u79, u80, u81, u82, u83, u84, u85, u86, u87, u88, u89, u90, u91, u92, u93, u94, u95, u96, u97, u98, u99, u100, u101, u102, u103, u104, u105, u106, u107, u108, u109, u110, u111, u112, u113, u114, u115, u116, u117, u118, u119, u120, u121, u122, u123, u124, u125, u126, u127, u128, u129, u130, u131, u132, u133, u134, u135, u136, u137, u138, u139, u140, u141, u142, u143, u144, u145, u146, u147, u148, u149, u150, u151, u152, u153, u154, u155, u156, u157, u158, u159, u160, u161, u162, u163, u164, u165, u166, u167, u168, u169, u170, u171, u172, u173, u174, u175, u176, u177, u178, u179, u180, u181, u182, u183, u184, u185, u186, u187, u188, u189, u190, u191, u192, u193, u194, u195, u196, u197, u198, u199, u200, u201, u202, u203, u204, u205, u206, u207, u208, u209, u210, u211, u212, u213, u214, u215, u216, u217, u218, u219, u220, u221, u222, u223, u224, u225, u226, u227, u228, u229, u230, u231, u232, u233, u234, u235, u236, u237, u238, u239, u240, u241, u242, u243, u244, u245, u246, u247, u248, u249, u250, u251, u252, u253, u254, u255, u256, u257, u258, u259, u260, u261, u262, u263, u264, u265, u266, u267, u268, u269, u270, u271, u272, u273, u274, u275, u276, u277, u278, u279, u280, u281, u282, u283, u284, u285, u286, u287, u288, u289, u290, u291, u292, u293, u294, u295, u296, u297, u298, u299, u300, u301, u302, u303, u304, u305, u306, u307], defers := [] } w := by
  conv at hc => lhs; whnf
  simp only [Option.some.injEq] at hc
  subst hc
  have hZl : Z < w.heap.size := (Array.getElem?_eq_some_iff.1 hZ).1
  have hfr := hform r (List.mem_of_getElem? hr)
  have hq40 : q ≤ n := by rw [hq]; exact rise_lenN hfr.1 hfr.2
  have hS : DfsW wc Z n i N w (.slice ar q cr) r [] := by
    refine ⟨by rw [← hq]; exact hrow, hZ, hb, hfr.2, (fun y hy => ⟨y, ⟨(by rw [hN]; have := hfr.2 _ hy; omega), r, hr, hy⟩, .refl (by rw [hN]; have := hfr.2 _ hy; omega)⟩), (fun y hy => absurd hy (by simp)), (fun t ht => Or.inr ?_), (fun y hy => absurd hy (by simp))⟩
    obtain ⟨-, r', h1, h2⟩ := ht
    rw [hr] at h1
    rw [Option.some.inj h1]
    exact h2
  have hql := hq
  replace hg := Lib.hid hg
  replace hN := Lib.hid hN
  replace hform := Lib.hid hform
  replace hS := Lib.hid hS
  replace hql := Lib.hid hql
  clear hrow hq hr hfr hZ hb
  go_wp2_with fail
  go_loopg [19, 20] (q + unseen n [] * 41) (fun g nv _ wr => ∃ (l : List Int) (s : List Nat) (nv' : Value), nv = nv' ∧ DfsW wc Z n i N wr nv' l s ∧ Hid (g = l.length + unseen n s * 41) ∧ g ≤ 2000)
  case atStart => exact ⟨r, [], _, rfl, hS.out, Lib.hid (by rw [hql.out]), by have := unseen_all2 n []; omega⟩
  case round =>
    clear hS
    obtain ⟨l, s, nv, hnv, H, hgk, hg2⟩ := hrel
    have hnv2 := hnv.symm
    clear hnv
    subst hnv2
    have hF0 := (H.low.cell (p := ⟨F, 0, none⟩) hFl).trans hF
    rcases List.eq_nil_or_concat l with rfl | ⟨k', y, rfl⟩
    · obtain ⟨ao, co, rfl⟩ : ∃ a c, nv = .slice a 0 c := own_form H.row
      have d1 : decide ((0 : Int) > 0) = false := by simp
      replace H := Lib.hid H
      go_wp2_with fail
      exact hQ.out ⟨s, H.out.seen, H.out.done, H.out.low⟩
    · rw [List.concat_eq_append] at H hgk
      have hrow0 : wr.ownsRow (Z + 1) 3 1 nv (k'.length + 1) (k'.map encI ++ [encI y]) := by
        have := H.row
        rwa [List.length_append, List.map_append] at this
      obtain ⟨hy0, hyn⟩ := H.val y (by simp)
      obtain ⟨y, rfl⟩ : ∃ z : Nat, y = z := ⟨y.toNat, by omega⟩
      have hyn' : y < n := by omega
      obtain ⟨rb, co, rfl⟩ := row_form hrow0 (by omega)
      have hcapk : k'.length + 1 ≤ co ∧ Z + 1 ≤ rb := by
        obtain ⟨_, ⟨e, _⟩ | ⟨g', cap', cur', e, hB', _, hnc, _⟩⟩ := hrow0
        · cases e
        · simp only [Value.slice.injEq, Option.some.injEq, Addr.mk.injEq] at e; exact ⟨by omega, by omega⟩
      have hk41 : k'.length ≤ 100000 := by have h1 := hgk.out; rw [List.length_append] at h1; simp only [List.length_cons, List.length_nil] at h1; omega
      have hpop := own_pop hrow0 (by simp)
      have v0 : wr.cell? ⟨rb, k'.length, none⟩ = some (.int .i64 y) := by
        rw [hrow0.cellAt k'.length (by simp), List.getElem?_append_right (by simp)]
        simp [encI]
      have hsl1 : (k'.length : Int) ≤ (co : Int) := by omega
      have d1 : decide ((k'.length : Int) + 1 > 0) = true := by simp
      have d2 : (k'.length : Int) + 1 - 1 = (k'.length : Int) := by omega
      have d3 : IntKind.i64.wrap ((k'.length : Int) + 1 - 1) = (k'.length : Int) := by rw [d2]; exact IntWalk.i64_in _ (by omega)
      have d4 : IntKind.i64.wrap (k'.length : Int) = (k'.length : Int) := IntWalk.i64_in _ (by omega)
      have i3 : (y : Int) < (n : Int) := by omega
      have c0 : wr.cell? ⟨Z, y, none⟩ = some (.bool (decide (y ∈ s))) := by rw [blk_cell H.seen]; exact seenA_at hyn'
      have hZl2 : Z < wr.heap.size := (Array.getElem?_eq_some_iff.1 H.seen).1
      by_cases hin : y ∈ s
      · rw [decide_eq_true hin] at c0
        have hsub : ∀ t : Nat, (t : Int) ∈ k' ++ [(y : Int)] → t ∈ s ∨ (t : Int) ∈ k' := fun t ht => by
          rcases List.mem_append.1 ht with h | h
          · exact .inr h
          · have : t = y := by have := List.mem_singleton.1 h; omega
            exact .inl (this ▸ hin)
        have H2 : Hid (DfsW wc Z n i N wr (.slice (some ⟨rb, 0, none⟩) k'.length co) k' s) := Lib.hid ⟨hpop, H.seen, H.low, fun z hz => H.val z (List.mem_append.2 (.inl hz)), fun z hz => H.lr z (List.mem_append.2 (.inl hz)), H.sr, fun t ht => (H.start t ht).elim .inl (hsub t), fun z hz t ht => (H.shut z hz t ht).elim .inl (hsub t)⟩
        have hlt : k'.length + unseen n s * 41 < gk := by rw [hgk.out, List.length_append]; simp
        clear H hpop hrow0 hin hgk hsub
        go_wp2_with fail
        go_roundg (k'.length + unseen n s * 41)
        case rel => exact ⟨k', s, _, rfl, H2.out, Lib.hid rfl, by omega⟩
        case measure => exact hlt
      · rw [decide_eq_false hin] at c0
        have cf : wr.frozen? ⟨Z, y, none⟩ = false := by simp [World.frozen?, H.seen]
        obtain ⟨r2, hry⟩ : ∃ r, N[y]? = some r := ⟨_, List.getElem?_eq_getElem (by rw [hN.out]; omega)⟩
        have hfr2 := hform.out r2 (List.mem_of_getElem? hry)
        have hrl : r2.length ≤ n := rise_lenN hfr2.1 hfr2.2
        obtain ⟨bg, og, cg', u, eg, hbg, hcg, hrg⟩ := hg.out.at hry
        rw [hN.out] at eg
        simp only [Value.slice.injEq, Option.some.injEq, Addr.mk.injEq] at eg
        obtain ⟨⟨rfl, rfl, -⟩, -, rfl⟩ := eg
        rw [Nat.zero_add] at hcg
        have hbs : (wr.setCell ⟨Z, y, none⟩ (.bool true)).heap[Z]? = some (.cells (seenA n (y :: s)) 4 (0, 0)) := by rw [blk_set _ H.seen, seenA_set hyn']
        have hlow1 : Below wc.heap.size wc (wr.setCell ⟨Z, y, none⟩ (.bool true)) := H.low.setCell (show wc.heap.size ≤ Z from hZw) _
        have TS : Touch wr (wr.setCell ⟨Z, y, none⟩ (.bool true)) (fun b => b = Z) := (Touch.refl wr (fun b => b = Z)).setCell (a := ⟨Z, y, none⟩) (fun _ => rfl) _
        have hpopS : (wr.setCell ⟨Z, y, none⟩ (.bool true)).ownsRow (Z + 1) 3 1 (.slice (some ⟨rb, 0, none⟩) k'.length co) k'.length (k'.map encI) :=
          ownsRow_touch hpop TS (fun b hb e => by simp [Value.ownBlock] at hb; omega)
        have hrx : RdI (wr.setCell ⟨Z, y, none⟩ (.bool true)) u r2 := Rd.below hrg hlow1
        have gx : (wr.setCell ⟨Z, y, none⟩ (.bool true)).cell? ⟨G1, y, none⟩ = some u := (hlow1.cell (p := ⟨G1, y, none⟩) hbg).trans hcg
        have wx0 : (wr.setCell ⟨Z, y, none⟩ (.bool true)).cell? ⟨F, 0, none⟩ = some (.slice (some ⟨G1, 0, none⟩) n n) := (hlow1.cell (p := ⟨F, 0, none⟩) hFl).trans hF
        have hsz : Z + 1 ≤ (wr.setCell ⟨Z, y, none⟩ (.bool true)).heap.size := by simp [World.setCell]; omega
        obtain ⟨i0, hi0, hz0, hz1, hz2⟩ := info_parts infoI1
        obtain ⟨ar2, cr2, rfl⟩ := hrx.shape
        obtain ⟨q2, hq2⟩ : ∃ q, q = r2.length := ⟨_, rfl⟩
        rw [← hq2] at hrx gx hrl
        replace hq2 := Lib.hid hq2
        replace hrx := Lib.hid hrx
        replace hpopS := Lib.hid hpopS
        replace hbs := Lib.hid hbs
        replace hlow1 := Lib.hid hlow1
        replace H := Lib.hid H
        replace hry := Lib.hid hry
        replace hfr2 := Lib.hid hfr2
        have hnotin : Hid (y ∉ s) := Lib.hid hin
        have hql2 : r2.length ≤ 40 := by rw [← hq2.out]; omega
        clear hin hpop hrow0 hcg hrg TS
        go_wp2_with (at_builtin; refine wpList_append_rd _ rfl _ _ 45 rfl (Z + 1) 3 i0 (.int .i64 0) 8 Try.underlying45 hi0 hz0 hz1 hz2 rfl _ _ _ rfl hpopS.out _ (r2.map encI) rfl hrx.out (oneCells _) (by unfold maxLen; simp <;> omega) (by simp <;> omega) (by exact hsz) ?_)
        intro v' w2 hown2 hgrow hat
        have hown3 : w2.ownsRow (Z + 1) 3 1 v' (k' ++ r2).length ((k' ++ r2).map encI) := by
          rw [List.length_append, List.map_append]
          simpa using hown2
        have hc2 : w2.heap[Z]? = some (.cells (seenA n (y :: s)) 4 (0, 0)) := (hgrow.block Z (by simp [World.setCell]; omega) (fun e => by simp [Value.ownBlock] at e; omega)).trans hbs.out
        have hlow2 : Below wc.heap.size wc w2 := hlow1.out.grown hgrow (by simp [World.setCell]; omega) (fun b e => by simp [Value.ownBlock] at e; omega)
        have hedge : ∀ t : Nat, Edge N y t ↔ (t : Int) ∈ r2 := fun t => ⟨fun ⟨_, r', h1, h2⟩ => by rw [hry.out] at h1; rw [Option.some.inj h1]; exact h2, fun h => ⟨by rw [hN.out]; have := hfr2.out.2 _ h; omega, r2, hry.out, h⟩⟩
        have hsub : ∀ t : Nat, (t : Int) ∈ k' ++ [(y : Int)] → t ∈ y :: s ∨ (t : Int) ∈ k' ++ r2 := fun t ht => by
          rcases List.mem_append.1 ht with h | h
          · exact .inr (List.mem_append.2 (.inl h))
          · have : t = y := by have := List.mem_singleton.1 h; omega
            exact .inl (this ▸ List.mem_cons_self)
        have hup : ∀ t : Nat, t ∈ s ∨ (t : Int) ∈ k' ++ [(y : Int)] → t ∈ y :: s ∨ (t : Int) ∈ k' ++ r2 := fun t ht => ht.elim (fun h => .inl (List.mem_cons_of_mem _ h)) (hsub t)
        have hyr := H.out.lr y (by simp)
        have H2 : Hid (DfsW wc Z n i N w2 v' (k' ++ r2) (y :: s)) := Lib.hid (by
          refine ⟨hown3, hc2, hlow2, fun z hz => ?_, fun z hz => ?_, fun z hz => ?_, fun t ht => hup t (H.out.start t ht), fun z hz t ht => ?_⟩
          · rcases List.mem_append.1 hz with h | h
            · exact H.out.val z (List.mem_append.2 (.inl h))
            · exact hfr2.out.2 z h
          · rcases List.mem_append.1 hz with h | h
            · exact H.out.lr z (List.mem_append.2 (.inl h))
            · obtain ⟨a, h1, h2⟩ := hyr
              exact ⟨a, h1, .step h2 ((hedge z).2 h)⟩
          · rcases List.mem_cons.1 hz with h | h
            · rw [h]; exact hyr
            · exact H.out.sr z h
          · rcases List.mem_cons.1 hz with h | h
            · rw [h] at ht
              exact .inr (List.mem_append.2 (.inr ((hedge t).1 ht)))
            · exact hup t (H.out.shut z h t ht))
        have hlt : (k' ++ r2).length + unseen n (y :: s) * 41 < gk := by
          rw [hgk.out, List.length_append, List.length_append]
          have := unseen_lt (n := n) hyn' hnotin.out
          simp only [List.length_cons, List.length_nil]
          omega
        obtain ⟨av, cv, rfl⟩ := own_form hown3
        clear H hown2 hgrow hat hc2 hlow2 hgk hup hsub hedge hyr
        go_wp2_with fail
        go_roundg ((k' ++ r2).length + unseen n (y :: s) * 41)
        case rel => exact ⟨k' ++ r2, y :: s, _, rfl, H2.out, Lib.hid rfl, by omega⟩
        case measure => exact hlt

end Go.Proofs.Ytedleliddhhacaa
