/- The law DomTells, walked. -/
import Derived.Test.YteipncggndefmaaDRefW
namespace Go.Proofs.Yteipncggndefmaa
open Go.RowKit Go.Maps Go.Shelf

theorem DT.dom_eq {L : List (List Int)} {y0 : Nat} {t : List Int} (h : DT L y0 t) (htl : t.length = L.length) (a b : Int) : Go.Proofs.Yteipncggndefmaa.domL t.length t a b = Go.Proofs.Yteipncggndefmaa.domL (t.length + 1) t a b := by
  by_cases hv : validI t.length a = true ∧ validI t.length b = true
  · obtain ⟨x, rfl, -⟩ := validI_nat hv.1
    obtain ⟨y, rfl, -⟩ := validI_nat hv.2
    rw [Bool.eq_iff_iff, h.domL (by omega), h.domL (by omega)]
  · unfold Go.Proofs.Yteipncggndefmaa.domL
    cases h1 : validI t.length a with
    | false => simp
    | true =>
      cases h2 : validI t.length b with
      | false => simp
      | true => exact absurd ⟨h1, h2⟩ hv

set_option maxRecDepth 20000 in
set_option maxHeartbeats 4000000 in
theorem domTells_any {w : World} {v : Value} {L : List (List Int)} {root a b : Int} (h : RdG w v L) :
    Calls Try.prog 3 #[v, .int .i64 root, .int .i64 a, .int .i64 b] w fun e w' => e = .returned (.bool true) ∧ Below w.heap.size w w' := by
  obtain ⟨av, c0, rfl⟩ := h.form
  have hG := Lib.hid (great9_any h)
  have hW := Lib.hid (fun w => wakes9_g (w := w))
  replace h := Lib.hid h
  go_enter Try.func3, Try.ntmps3
  go_wp2_with fail
  refine hG.out.mono ?_
  rintro e w1 ⟨q, rfl, rfl, hq⟩
  cases q with
  | true =>
    clear hq
    go_wp2_with fail
    refine (hW.out _).mono ?_
    rintro e w2 ⟨rfl, hb2⟩
    go_wp2_with fail
    go_ret
    exact ⟨rfl, hb2⟩
  | false =>
    obtain ⟨hL, hr⟩ := hq rfl
    have hL2 : L.length ≤ 100000 := by omega
    have hr2 : Hid (∀ r ∈ L, r.length ≤ 100000) := Lib.hid (fun r hrm => by have := hr r hrm; omega)
    clear hr hq
    have hT := Lib.hid (tree_any (root := root) h.out hL2 hr2.out)
    go_wp2_with fail
    refine hT.out.mono ?_
    rintro e w2 ⟨TB, t, rfl, hI, hD, htl, -, hb2⟩
    have hDT := Lib.hid hD.dt
    have hRt := Lib.hid (hI.rd (n := L.length) htl.symm)
    have hB2 := Lib.hid hb2
    have hrt := Lib.hid (rtree_any (h.out.below hb2) hL2 hr2.out hDT.out htl)
    have heq := Lib.hid (hDT.out.dom_eq htl a b)
    have htl3 := Lib.hid htl
    clear hT hI hD hb2 htl
    go_wp2_with fail
    refine hrt.out.mono ?_
    rintro e w3 ⟨v3, rfl, hR3, hb3⟩
    have hRt3 := Lib.hid (Rd.below hRt.out hb3)
    have hB3 := Lib.hid (hB2.out.trans (hb3.mono hB2.out.size))
    have hsm := Lib.hid ((same_any (xs := t) (ys := t) hRt3.out hR3 (by have := htl3.out; omega)).mono (R' := fun e w' => e = .returned (.bool true) ∧ ∃ n, w' = w3.drewN n) (fun e w' h => by simpa using h))
    obtain ⟨a3, c3, rfl⟩ := hR3.shape
    clear hR3 hb3 hRt hB2 hrt
    go_wp2_with fail
    refine hsm.out.mono ?_
    rintro e w4 ⟨rfl, n4, e4⟩
    have hb4 : Below w3.heap.size w3 w4 := by rw [e4]; exact below_drawn (Below.refl _ _) n4
    have hRt4 := Lib.hid (Rd.below hRt3.out hb4)
    have hB4 := Lib.hid (hB3.out.trans (hb4.mono hB3.out.size))
    have k1 := dom_any (a := a) (b := b) hRt4.out (by have := htl3.out; omega)
    have k2 := rdom_any (a := a) (b := b) hRt4.out (by have := htl3.out; omega)
    rw [heq.out] at k1
    generalize domL (t.length + 1) t a b = p at k1 k2
    have hpp : (p == p) = true := by simp
    replace k1 := Lib.hid k1
    replace k2 := Lib.hid k2
    clear hsm e4 hb4 hRt3 hB3
    have hf := Lib.hid (frontier_any (root := root) (h.out.below hB4.out) hL2 hr2.out)
    go_wp2_with fail
    refine k1.out.mono ?_
    rintro e w5 ⟨rfl, rfl⟩
    go_wp2_with fail
    refine k2.out.mono ?_
    rintro e w5 ⟨rfl, rfl⟩
    cases p <;> (
      go_wp2_with fail
      refine hf.out.mono ?_
      rintro e w6 ⟨G, vs, B, rfl, M6, hF6, hb6⟩
      have hB6 := Lib.hid (hB4.out.trans (hb6.mono hB4.out.size))
      have hG6 := Lib.hid (M6.rd (n := L.length) (cap := L.length) hF6.1.symm)
      have hrf := Lib.hid (rfront_any (root := root) (h.out.below hB6.out) hL2 hr2.out)
      clear M6 hb6
      replace hF6 := Lib.hid hF6
      go_wp2_with fail
      refine hrf.out.mono ?_
      rintro e w7 ⟨v7, B7, rfl, hG7, hF7, hb7⟩
      obtain rfl := hF7.det hF6.out
      have hG67 := hG6.out.below hb7
      have hB7 := Lib.hid (hB6.out.trans (hb7.mono hB6.out.size))
      have hsg := Lib.hid (rsameg_yes hG67 hG7 (by have := hF7.1; omega) (fun r hrm => by
        obtain ⟨i, hi, ei⟩ := List.getElem_of_mem hrm
        obtain ⟨s1, s2⟩ := hF7.2 i r (by rw [List.getElem?_eq_getElem hi, ei])
        have h3 : (r.map Int.toNat).Nodup := by
          rw [List.Nodup, List.pairwise_map]
          refine s1.imp_of_mem (fun {a b} ha hb hab => ?_)
          obtain ⟨y, e, -⟩ := (s2 a).1 ha
          obtain ⟨z, e', -⟩ := (s2 b).1 hb
          omega
        have h4 := h3.length_le_of_subset (l₂ := List.range L.length) (fun x hx => by
          obtain ⟨z, hz, rfl⟩ := List.mem_map.1 hx
          obtain ⟨y, e, x', he, -⟩ := (s2 z).1 hz
          have := he.lt.2
          exact List.mem_range.2 (by omega))
        simp at h4
        omega))
      obtain ⟨a7, c7, rfl⟩ := hG7.form
      clear hG67 hG7 hF7 hb7 hrf hG6
      go_wp2_with fail
      refine hsg.out.mono ?_
      rintro e w8 ⟨rfl, n8, e8⟩
      have hB8 : Hid (Below w.heap.size w w8) := Lib.hid (by rw [e8]; exact below_drawn hB7.out n8)
      clear e8 hsg hB7
      go_wp2_with fail
      refine (hW.out _).mono ?_
      rintro e w9 ⟨rfl, hb9⟩
      have hfin := Lib.hid (hB8.out.trans (hb9.mono hB8.out.size))
      clear hb9 hB8
      go_wp2_with fail
      go_ret
      exact ⟨rfl, hfin.out⟩)
end Go.Proofs.Yteipncggndefmaa
