/- DomWays: two nodes. -/
import Derived.Test.YteipncggndefmaaDChain
namespace Go.Proofs.Yteipncggndefmaa
open Go.RowKit Go.Maps Go.Shelf

theorem leads_root {L : List (List Int)} {root : Int} {b : Nat} : leadsP L root b ↔ Way L (rootN L root) b := by
  unfold leadsP rootN
  rw [Int.toNat_natCast]
  constructor
  · rintro ⟨h1, -, h2⟩
    have := h2.lt.1
    rw [if_pos ⟨h1, by omega⟩]
    exact h2
  · intro h
    have hl := h.lt.1
    split at h
    · rename_i hv
      exact ⟨hv.1, by omega, h⟩
    · exact absurd h.lt.1 (by omega)
theorem rootN_cut {L : List (List Int)} {root : Int} {a : Nat} : rootN (cutL L a) root = rootN L root := by unfold rootN; rw [cut_len]
theorem root_eq {L : List (List Int)} {root : Int} {a : Nat} (ha : a < L.length) : ((a : Int) = root) ↔ a = rootN L root := by
  unfold rootN
  by_cases h : 0 ≤ root ∧ root < L.length
  · rw [if_pos h]; omega
  · rw [if_neg h]; omega
/-- What Tree says of two nodes. -/
theorem DT.pair {L : List (List Int)} {y0 : Nat} {t : List Int} (h : DT L y0 t) {b : Nat} (hb : b < L.length) : ∃ tv, t[b]? = some tv ∧ (tv = -2 ↔ ¬ Way L y0 b) ∧ (tv = -1 ↔ b = y0) ∧ (∀ a : Nat, 0 ≤ tv → a ≠ b → Dmn L y0 a b → Dmn L y0 a tv.toNat) ∧ tv < L.length := by
  rcases h with ⟨o, T, ht⟩ | ⟨h1, rfl⟩
  · by_cases hbo : b ∈ o
    · obtain ⟨q, hq, eq⟩ := List.getElem_of_mem hbo
      have hq' : o[q]? = some b := by rw [List.getElem?_eq_getElem hq, eq]
      have hw := (ht.row.mem b).1 hbo
      rcases Nat.eq_zero_or_pos q with rfl | h0
      · have hby : b = y0 := Option.some.inj (hq'.symm.trans ht.row.head)
        exact ⟨-1, ht.is.first b hq' hq, ⟨fun h => by omega, fun h => absurd hw h⟩, ⟨fun _ => hby, fun _ => rfl⟩, fun a h => by omega, by omega⟩
      · obtain ⟨z, hz, htz⟩ := ht.at_ hq' h0
        have hzl := ht.row.lt hz
        refine ⟨z, htz, ⟨fun h => by omega, fun h => absurd hw h⟩, ⟨fun h => by omega, fun h => ?_⟩, fun a _ hne hd => ?_, by omega⟩
        · subst h
          have := ht.row.inj hq' ht.row.head
          omega
        · obtain ⟨x, hx, ex⟩ := List.getElem_of_mem ((ht.row.mem a).2 hd.reached)
          have hx' : o[x]? = some a := by rw [List.getElem?_eq_getElem hx, ex]
          rw [Int.toNat_natCast]
          refine (ht.anc_dmn hx' hz).1 ((((ht.anc_dmn hx' hq').2 hd).cut (fun e => hne ?_)).2)
          subst e
          exact Option.some.inj (hx'.symm.trans hq')
    · have hw : ¬ Way L y0 b := fun h => hbo ((ht.row.mem b).2 h)
      exact ⟨-2, ht.is.far b hb (fun p hp => absurd (List.mem_of_getElem? hp) hbo), ⟨fun _ => hw, fun _ => rfl⟩, ⟨fun h => by omega, fun h => by subst h; exact absurd (.refl hb) hw⟩, fun a h => by omega, by omega⟩
  · have hw : ¬ Way L y0 b := fun h => by have := h.lt.1; omega
    exact ⟨-2, by rw [List.getElem?_replicate, if_pos hb], ⟨fun _ => hw, fun _ => rfl⟩, ⟨fun h => by omega, fun h => by omega⟩, fun a h => by omega, by omega⟩
/-- A copy of a slice of slices, without one node's edges. -/
theorem cut_rd {w1 : World} {base g cap n a : Nat} {vs : List Value} {L : List (List Int)} (hown : w1.ownsRow base 25 1 (.slice (some ⟨g, 0, none⟩) n cap) n vs) (hl : vs.length = L.length) (hn : n = L.length) (ha : a < n)
    (h : ∀ (i : Nat) (u : Value) (l : List Int), vs[i]? = some u → L[i]? = some l → ∀ w', Touch w1 w' (fun b => b = g) → RdI w' u l) :
    w1.frozen? ⟨g, a, none⟩ = false ∧ (∃ u, w1.cell? ⟨g, a, none⟩ = some u) ∧ base ≤ g ∧ RdG (w1.setCell ⟨g, a, none⟩ (.slice none 0 0)) (.slice (some ⟨g, 0, none⟩) n cap) (cutL L a) ∧ Touch w1 (w1.setCell ⟨g, a, none⟩ (.slice none 0 0)) (fun b => b = g) := by
  have hT : Touch w1 (w1.setCell ⟨g, a, none⟩ (.slice none 0 0)) (fun b => b = g) := (Touch.refl w1 (fun b => b = g)).setCell (a := ⟨g, a, none⟩) (fun _ => rfl) _
  have hlt := hown.lt g rfl
  rcases hown.2 with ⟨e, _⟩ | ⟨g', cap', cur, e, hB, hg, hn', hc, hs, hx⟩
  · cases e
  · simp only [Value.slice.injEq, Option.some.injEq, Addr.mk.injEq] at e
    obtain ⟨⟨rfl, -, -⟩, -, rfl⟩ := e
    have hcell : ∀ j u, vs[j]? = some u → cur[j]? = some u := fun j u hu => by
      have h1 := hown.cells (g := g) rfl j u hu
      rw [add0, blk_cell hg] at h1
      exact h1
    have hsz : a < cur.size := by
      obtain ⟨u, hu⟩ : ∃ u, vs[a]? = some u := ⟨_, List.getElem?_eq_getElem (by omega)⟩
      exact (Array.getElem?_eq_some_iff.1 (hcell a u hu)).1
    refine ⟨by simp [World.frozen?, hg], ⟨cur[a], by rw [blk_cell hg]; exact Array.getElem?_eq_getElem hsz⟩, hlt.1, ⟨vs.set a (.slice none 0 0), .inr ⟨g, 0, cap, by rw [List.length_set, hl, hn], by simp [World.setCell]; exact hlt.2, fun j u hu => ?_⟩, by rw [List.length_set, cut_len, hl], fun i u l hu hl' => ?_⟩, hT⟩
    · rw [blk_cell (blk_set _ hg), Nat.zero_add, Array.getElem?_setIfInBounds]
      by_cases e : a = j
      · subst e
        rw [List.getElem?_set_self (by omega)] at hu
        rw [if_pos rfl, if_pos hsz]
        exact hu
      · rw [List.getElem?_set_ne e] at hu
        rw [if_neg e]
        exact hcell j u hu
    · unfold cutL at hl'
      by_cases e : a = i
      · subst e
        rw [List.getElem?_set_self (by omega)] at hu hl'
        obtain rfl := Option.some.inj hu
        obtain rfl := Option.some.inj hl'
        exact rd_none _
      · rw [List.getElem?_set_ne e] at hu hl'
        exact h i u l hu hl' _ hT
theorem rd_past {w w1 w2 : World} {s : Value} {xs : List Value} {g : Nat} (h : Rd w s xs) (hb : Below w.heap.size w w1) (hT : Touch w1 w2 (fun b => b = g)) (hg : w.heap.size ≤ g) : Rd w2 s xs :=
  h.below (hb.trans (hT.below hb.size (fun k hk e => by omega)))

set_option maxRecDepth 20000 in
set_option maxHeartbeats 8000000 in
theorem dways3 {c : Code} (hc : Func.blockOf Try.f4 3 = some c) {Q : Exit → Act → World → Prop} {w : World} {n a b cg ct : Nat} {ag at_ : Option Addr} {L : List (List Int)} {t : List Int} {root : Int} {u2 u3 u4 u8 u9 u10 u11 u12 u13 u14 u15 u16 u17 u18 u19 u20 u21 u22 u23 u24 u25 u26 u27 u28 u29 u30 u31 u32 u33 u34 u35 u36 u37 u38 u39 u40 u41 u42 u43 u44 u45 u46 u47 u48 u49 u50 u51 u52 u53 u54 u55 u56 u57 u58 u59 u60 u61 u62 u63 u64 u65 u66 u67 u68 u69 u70 u71 u72 u73 u74 u75 u76 u77 u78 u79 u80 u81 u82 u83 u84 u85 u86 u87 u88 u89 u90 u91 u92 u93 u94 u95 u96 u97 u98 u99 u100 u101 u102 u103 u104 u105 u106 u107 u108 u109 u110 u111 : Value}
    (hg : RdG w (.slice ag n cg) L) (hI : Hid (RdI w (.slice at_ n ct) t)) (htl : t.length = n) (hn : n = L.length) (hn2 : n ≤ 20) (hr : ∀ r ∈ L, r.length ≤ 20) (hDT : DT L (rootN L root) t) (ha : a < n) (hb : b < n)
    (hQ : Hid (∀ {wx : World} {v4 v8 v9 v55 v56 v57 v58 v59 v60 v61 v62 v63 v64 v65 v66 v67 v68 v69 v70 v71 v72 v73 v74 v75 v76 v77 v78 v79 v80 v81 v82 v83 v84 v85 v86 v87 v88 v89 v90 v91 v92 v93 v94 v95 v96 v97 v98 v99 v100 v101 v102 v103 v104 v105 v106 v107 v108 v109 v110 : Value}, Below w.heap.size w wx → Q .normal { tmps := #[.slice ag n cg, .int .i64 root, u2, u3, v4, .slice at_ n ct, .int .i64 b, .int .i64 a, v8, v9, u10, u11, u12, u13, u14, u15, u16, u17, u18, u19, u20, u21, u22, u23, u24, u25, u26, u27, u28, u29, u30, u31, u32, u33, u34, u35, u36, u37, u38, u39, u40, u41, u42, u43, u44, u45, u46, u47, u48, u49, u50, u51, u52, u53, u54, v55, v56, v57, v58, v59, v60, v61, v62, v63, v64, v65, v66, v67, v68, v69, v70, v71, v72, v73, v74, v75, v76, v77, v78, v79, v80, v81, v82, v83, v84, v85, v86, v87, v88, v89, v90, v91, v92, v93, v94, v95, v96, v97, v98, v99, v100, v101, v102, v103, v104, v105, v106, v107, v108, v109, v110, u111], defers := [] } wx)) :
    c.wp Try.prog Q { tmps := #[.slice ag n cg, .int .i64 root, u2, u3, u4, .slice at_ n ct, .int .i64 b, .int .i64 a, u8, u9, u10, u11, u12, u13, u14, u15, u16, u17, u18, u19, u20, u21, u22, u23, u24, u25, u26, u27, u28, u29, u30, u31, u32, u33, u34, u35, u36, u37, u38, u39, u40, u41, u42, u43, u44, u45, u46, u47, u48, u49, u50, u51, u52, u53, u54, u55, u56, u57, u58, u59, u60, u61, u62, u63, u64, u65, u66, u67, u68, u69, u70, u71, u72, u73, u74, u75, u76, u77, u78, u79, u80, u81, u82, u83, u84, u85, u86, u87, u88, u89, u90, u91, u92, u93, u94, u95, u96, u97, u98, u99, u100, u101, u102, u103, u104, u105, u106, u107, u108, u109, u110, u111], defers := [] } w := by
  conv at hc => lhs; whnf
  simp only [Option.some.injEq] at hc
  subst hc
  obtain ⟨i0, hi0, hz0, hz1, hz2⟩ := info_parts infoL1
  obtain ⟨tv, htv, e2, e1, hup, htvn⟩ := hDT.pair (b := b) (by omega)
  have hdom := fun a b => hDT.domL (Nat.le_refl _) a b
  have htl2 : t.length ≤ 1000000 := by omega
  obtain ⟨vs, hv1, hv2, hv3⟩ := hg
  have hI1 := hI.out
  obtain ⟨bt, ot, ct', et, hct⟩ := RdI.cell hI.out htv
  rw [htl] at et
  simp only [Value.slice.injEq] at et
  obtain ⟨rfl, -, rfl⟩ := et
  have hone : ∀ u ∈ vs, u.oneCell' = true := by
    intro u hu
    obtain ⟨i, hi, e⟩ := List.getElem_of_mem hu
    obtain ⟨l, hl⟩ : ∃ l, L[i]? = some l := ⟨_, List.getElem?_eq_getElem (by omega)⟩
    obtain ⟨a', c', e'⟩ := (hv3 i u l (by rw [List.getElem?_eq_getElem hi, e]) hl).shape
    subst e'
    rfl
  have hn0 : 0 < n := by omega
  have hvl : vs.length = n := by omega
  have jb : (b : Int) < (n : Int) := by omega
  have ja : (a : Int) < (n : Int) := by omega
  obtain ⟨ag', cg', eg⟩ := hv1.form
  rw [hvl] at eg
  simp only [Value.slice.injEq] at eg
  obtain ⟨rfl, -, rfl⟩ := eg
  replace htv := Lib.hid htv
  replace e2 := Lib.hid e2
  replace e1 := Lib.hid e1
  replace hup := Lib.hid hup
  replace hdom := Lib.hid hdom
  replace hDT := Lib.hid hDT
  replace hr := Lib.hid hr
  replace hv2 := Lib.hid hv2
  replace hv3 := Lib.hid hv3
  replace hI1 := Lib.hid hI1
  replace hn := Lib.hid hn
  replace htl := Lib.hid htl
  clear htvn
  go_wp2_with (at_builtin; refine wpList_append_rd _ rfl _ _ 22 rfl w.heap.size 25 i0 (.slice none 0 0) 24 Try.underlying22 hi0 hz0 hz1 hz2 rfl _ 0 [] rfl (World.ownsRow_nil _ _ _ _) _ vs rfl hv1 hone (by unfold maxLen; omega) (by omega) (Nat.le_refl _) ?_)
  intro v1 w1 hown1 hgrow1 hat1
  replace hown1 : w1.ownsRow w.heap.size 25 1 v1 n vs := by simpa [hvl] using hown1
  have hb1 : Below w.heap.size w w1 := (Below.refl _ _).grown hgrow1 (Nat.le_refl _) (by simp [Value.ownBlock])
  obtain ⟨g, cap, rfl⟩ := row_form hown1 hn0
  have hgl := (hown1.lt g rfl).1
  obtain ⟨f1, ⟨u1, c1⟩, -, hcut, hT1⟩ := cut_rd hown1 hv2.out hn.out ha (fun i u l hu hl w' hT => rd_past (hv3.out i u l hu hl) hb1 hT hgl)
  have hb2 : Below w.heap.size w (w1.setCell ⟨g, a, none⟩ (.slice none 0 0)) := hb1.trans (hT1.below hb1.size (fun k hk e => by omega))
  have hI2 := Rd.below hI.out hb2
  have hct2 := (hb2.cell (p := ⟨bt, ot + b, none⟩) (by
    obtain ⟨b', o', c', e, hl, -⟩ := Rd.at hI.out (i := b) (u := .int .i64 tv) (by simp [htv.out, encI])
    simp only [Value.slice.injEq, Option.some.injEq, Addr.mk.injEq] at e
    obtain ⟨⟨rfl, -, -⟩, -, -⟩ := e
    exact hl)).trans hct
  replace hb2 := Lib.hid hb2
  replace hcut := Lib.hid hcut
  clear hown1 hgrow1 hat1 hb1 hT1 hct hv1 hone hv2 hv3 hI1
  have hab : ((a : Int) == (b : Int)) = decide (a = b) := by
    by_cases e : a = b
    · simp [e]
    · have : (a : Int) ≠ b := by omega
      simp [e, this]
  have hab2 : ((a : Int) != (b : Int)) = decide (a ≠ b) := by
    by_cases e : a = b
    · simp [e]
    · have : (a : Int) ≠ b := by omega
      simp [e, this]
  have har : ((a : Int) == root) = decide (a = rootN L root) := by
    have := root_eq (L := L) (root := root) (a := a) (by have := hn.out; omega)
    by_cases e : a = rootN L root
    · rw [decide_eq_true e]; simpa using this.2 e
    · rw [decide_eq_false e]; simpa using fun h => e (this.1 h)
  go_upto_region 16 with fail
  generalize (w1.setCell ⟨g, a, none⟩ (.slice none 0 0)) = w2 at hI2 hct2 hb2 hcut ⊢
  clear f1 c1
  have hD := hdom.out a b
  rw [← hn.out] at hD
  have k1 := dom_any (a := (a : Int)) (b := (b : Int)) hI2 htl2
  rw [htl.out] at k1
  by_cases hf : tv = -2
  · have d1 : (tv != -2) = false := by simp [hf]
    have hDf : domL n t a b = false := Bool.eq_false_iff.2 (fun h => e2.out.1 hf (hD.1 h).1)
    rw [hDf] at k1
    replace k1 := Lib.hid k1
    replace hf := Lib.hid hf
    clear hD hDf hI2
    go_wp2_with fail
    refine k1.out.mono ?_
    rintro e w5 ⟨rfl, rfl⟩
    go_wp2_with fail
    exact hQ.out hb2.out
  · have d1 : (tv != -2) = true := by simp [hf]
    have hw : Way L (rootN L root) b := Classical.byContradiction (fun h => hf (e2.out.2 h))
    by_cases hae : a = b
    · rw [decide_eq_true hae] at hab
      rw [decide_eq_false (fun h => h hae)] at hab2
      have hDt : domL n t a b = true := hD.2 ⟨hw, .inl hae⟩
      rw [hDt] at k1
      replace k1 := Lib.hid k1
      replace hf := Lib.hid hf
      replace hae := Lib.hid hae
      replace hw := Lib.hid hw
      clear hD hDt hI2
      go_wp2_with fail
      refine k1.out.mono ?_
      rintro e w5 ⟨rfl, rfl⟩
      go_wp2_with fail
      exact hQ.out hb2.out
    · rw [decide_eq_false hae] at hab
      rw [decide_eq_true hae] at hab2
      by_cases hro : a = rootN L root
      · rw [decide_eq_true hro] at har
        have hdm : Dmn L (rootN L root) a b := ⟨hw, .inr (.inl hro)⟩
        have hDt : domL n t a b = true := hD.2 hdm
        rw [hDt] at k1
        replace k1 := Lib.hid k1
        replace hw := Lib.hid hw
        replace hro := Lib.hid hro
        replace hdm := Lib.hid hdm
        clear hD hDt
        by_cases h0 : 0 ≤ tv
        · obtain ⟨z, rfl⟩ : ∃ z : Nat, tv = z := ⟨tv.toNat, by omega⟩
          have hz := hup.out a h0 hae (hdm.out)
          rw [Int.toNat_natCast] at hz
          have hDz := (hdom.out a z).2 hz
          rw [← hn.out] at hDz
          have k2 := dom_any (a := (a : Int)) (b := (z : Int)) hI2 htl2
          rw [htl.out, hDz] at k2
          replace k2 := Lib.hid k2
          have d2 : decide ((z : Int) ≥ 0) = true := by simp
          replace hf := Lib.hid hf
          replace hae := Lib.hid hae
          clear hz hDz h0
          go_wp2_with fail
          refine k1.out.mono ?_
          rintro e w5 ⟨rfl, rfl⟩
          go_wp2_with fail
          refine k2.out.mono ?_
          rintro e w5 ⟨rfl, rfl⟩
          go_wp2_with fail
          exact hQ.out hb2.out
        · have d2 : decide (tv ≥ 0) = false := by simpa using h0
          replace hf := Lib.hid hf
          replace hae := Lib.hid hae
          go_wp2_with fail
          refine k1.out.mono ?_
          rintro e w5 ⟨rfl, rfl⟩
          go_wp2_with fail
          exact hQ.out hb2.out
      · rw [decide_eq_false hro] at har
        obtain ⟨q2, hq2⟩ : ∃ q2 : Bool, q2 = true ↔ leadsP (cutL L a) root b := by
          classical
          exact ⟨decide (leadsP (cutL L a) root b), by simp⟩
        have hcl : ∀ r ∈ cutL L a, r.length ≤ 100000 := by
          intro r hrm
          rcases List.mem_or_eq_of_mem_set hrm with h | rfl
          · have := hr.out r h; omega
          · simp
        have hLd := Lib.hid (leads_any hcut.out (by rw [cut_len]; have := hn.out; omega) hcl hq2)
        rw [leads_root, rootN_cut] at hq2
        cases q2 with
        | true =>
          have hc := hq2.1 rfl
          have hDf : domL n t a b = false := Bool.eq_false_iff.2 (fun h => by
            obtain ⟨-, h1 | h1 | h1⟩ := hD.1 h
            · exact hae h1
            · exact hro h1
            · exact h1 hc)
          replace hf := Lib.hid hf
          replace hae := Lib.hid hae
          replace hw := Lib.hid hw
          replace hro := Lib.hid hro
          replace hI2 := Lib.hid hI2
          clear hD hc hq2 k1 hcl
          replace hDf := Lib.hid hDf
          go_wp2_with fail
          refine hLd.out.mono ?_
          rintro e w4 ⟨rfl, hb4⟩
          have k1 := Lib.hid (dom_any (a := (a : Int)) (b := (b : Int)) (Rd.below hI2.out hb4) htl2)
          rw [htl.out, hDf.out] at k1
          have hb5 := Lib.hid (hb2.out.trans (hb4.mono hb2.out.size))
          have hct4 := (hb4.cell (p := ⟨bt, ot + b, none⟩) (by
            obtain ⟨b', o', c', e, hl, -⟩ := Rd.at hI2.out (i := b) (u := .int .i64 tv) (by simp [htv.out, encI])
            simp only [Value.slice.injEq, Option.some.injEq, Addr.mk.injEq] at e
            obtain ⟨⟨rfl, -, -⟩, -, -⟩ := e
            exact hl)).trans hct2
          clear hb4 hct2
          go_wp2_with fail
          refine k1.out.mono ?_
          rintro e w5 ⟨rfl, rfl⟩
          go_wp2_with fail
          exact hQ.out hb5.out
        | false =>
          have hdm : Dmn L (rootN L root) a b := ⟨hw, .inr (.inr (fun h => by have := hq2.2 h; cases this))⟩
          have hDt : domL n t a b = true := hD.2 hdm
          replace hw := Lib.hid hw
          replace hro := Lib.hid hro
          replace hI2 := Lib.hid hI2
          replace hdm := Lib.hid hdm
          replace hDt := Lib.hid hDt
          replace hf := Lib.hid hf
          replace hae := Lib.hid hae
          clear hD hq2 k1 hcl
          go_wp2_with fail
          refine hLd.out.mono ?_
          rintro e w4 ⟨rfl, hb4⟩
          have hI4 := Rd.below hI2.out hb4
          have k1 := Lib.hid (dom_any (a := (a : Int)) (b := (b : Int)) hI4 htl2)
          rw [htl.out, hDt.out] at k1
          have hb5 := Lib.hid (hb2.out.trans (hb4.mono hb2.out.size))
          have hct4 := (hb4.cell (p := ⟨bt, ot + b, none⟩) (by
            obtain ⟨b', o', c', e, hl, -⟩ := Rd.at hI2.out (i := b) (u := .int .i64 tv) (by simp [htv.out, encI])
            simp only [Value.slice.injEq, Option.some.injEq, Addr.mk.injEq] at e
            obtain ⟨⟨rfl, -, -⟩, -, -⟩ := e
            exact hl)).trans hct2
          replace hf := hf.out
          replace hae := hae.out
          clear hb4 hct2
          by_cases h0 : 0 ≤ tv
          · obtain ⟨z, rfl⟩ : ∃ z : Nat, tv = z := ⟨tv.toNat, by omega⟩
            have hz := hup.out a h0 hae (hdm.out)
            rw [Int.toNat_natCast] at hz
            have hDz := (hdom.out a z).2 hz
            rw [← hn.out] at hDz
            have k2 := dom_any (a := (a : Int)) (b := (z : Int)) hI4 htl2
            rw [htl.out, hDz] at k2
            replace k2 := Lib.hid k2
            have d2 : decide ((z : Int) ≥ 0) = true := by simp
            replace hf := Lib.hid hf
            replace hae := Lib.hid hae
            clear hz hDz h0
            go_wp2_with fail
            refine k1.out.mono ?_
            rintro e w5 ⟨rfl, rfl⟩
            go_wp2_with fail
            refine k2.out.mono ?_
            rintro e w5 ⟨rfl, rfl⟩
            go_wp2_with fail
            exact hQ.out hb5.out
          · have d2 : decide (tv ≥ 0) = false := by simpa using h0
            replace hf := Lib.hid hf
            replace hae := Lib.hid hae
            go_wp2_with fail
            refine k1.out.mono ?_
            rintro e w5 ⟨rfl, rfl⟩
            go_wp2_with fail
            exact hQ.out hb5.out

end Go.Proofs.Yteipncggndefmaa
