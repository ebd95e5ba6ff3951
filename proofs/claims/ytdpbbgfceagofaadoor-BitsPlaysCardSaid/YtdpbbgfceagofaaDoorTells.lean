/- tells: does a set tell what a list does? -/
import Derived.Test.YtdpbbgfceagofaaDoorHall
namespace Go.Proofs.YtdpbbgfceagofaaDoor
open Go.RowKit Go.Maps

theorem ints_len (rs : List Nat) : (ints rs).length = rs.length := by simp [ints]
theorem mem_ints {rs : List Nat} {x : Int} : x ∈ ints rs ↔ 0 ≤ x ∧ x.toNat ∈ rs := by
  unfold ints
  rw [List.mem_map]
  constructor
  · rintro ⟨n, hn, rfl⟩; exact ⟨by omega, by simpa using hn⟩
  · rintro ⟨h0, h⟩; exact ⟨x.toNat, h, by omega⟩

theorem min_head {rs l : List Nat} {m : Nat} (hr : rs.Pairwise (· < ·)) (hm : ∀ n, n ∈ rs ↔ n ∈ l) (h : Min l m) : rs[0]? = some m := by
  rcases rs with _ | ⟨a, t⟩
  · exact absurd ((hm m).2 h.1) (by simp)
  · have h1 := h.2 a ((hm a).1 (by simp))
    have h2 := (hm m).2 h.1
    rcases List.mem_cons.1 h2 with e | e
    · simp [e]
    · have := (List.pairwise_cons.1 hr).1 m e
      omega

section
variable {w : World} {s bm : Nat} {D : DataW Unit} {l rs : List Nat} {v : Value} {x : Int}

theorem has_int (S : SetAt w s bm D l) (hx : x < 9223372036854775808) : Calls Tryd.prog 28 #[.pointer (some ⟨s, 0, none⟩), .int .i64 x] w fun e w' => e = .returned (.bool (decide (0 ≤ x ∧ x.toNat ∈ l))) ∧ w' = w := by
  by_cases h0 : 0 ≤ x
  · obtain ⟨n, rfl⟩ := Int.eq_ofNat_of_zero_le h0
    refine (has_any S (i := n) (by omega)).mono ?_
    rintro e w' ⟨he, hw⟩
    exact ⟨by rw [he]; simp, hw⟩
  · refine (has_less (by omega) _).mono ?_
    rintro e w' ⟨he, hw⟩
    exact ⟨by rw [he]; simp [h0], hw⟩

set_option maxHeartbeats 2000000 in
theorem tells_any (S : SetAt w s bm D l) (G : Gl w) (hv : RdI w v (ints rs)) (hr : rs.Pairwise (· < ·)) (hm : ∀ n, n ∈ rs ↔ n ∈ l) (hlen : l.length ≤ 100000) (hx : x < 9223372036854775808) :
    Calls Tryd.prog 23 #[.pointer (some ⟨s, 0, none⟩), v, .int .i64 x] w fun e w' => e = .returned (.bool true) ∧ Below w.heap.size w w' := by
  obtain ⟨a, c, rfl⟩ := hv.form
  rw [List.length_map, ints_len] at *
  have hrl : rs.length = l.length := nodup_len_eq (hr.imp (fun h => Nat.ne_of_lt h)) S.nodup hm
  have hrs : rs.length ≤ 100000 := by omega
  have hbool : decide (x ∈ ints rs) = decide (0 ≤ x ∧ x.toNat ∈ l) := by rw [decide_eq_decide, mem_ints, hm]
  go_enter Tryd.func23, Tryd.ntmps23
  go_wp2_with fail
  refine (list_any S G hlen).mono ?_
  rintro e w1 ⟨vl, r1, rfl, r1r, r1q, hown, hb1⟩
  obtain rfl : rs = r1 := rising_eq hr r1r (fun m => by rw [hm, r1q])
  obtain ⟨v3a, v3c, rfl⟩ := own_form hown
  have S1 := S.below hb1
  have G1 := G.below hb1 G.lt
  have hv1 := hv.below hb1
  have hrd : RdI w1 (.slice v3a rs.length v3c) (ints rs) := by
    refine strip_rd (base := w.heap.size) (n := rs.length) ?_
    rw [ints_enc]
    exact hown
  clear S hv r1r r1q
  have hown' := Lib.hid hown
  have hbl := Lib.hid hb1
  replace hbool := Lib.hid hbool
  clear hown hb1 G
  by_cases hl0 : l = []
  · subst hl0
    have hr0 : rs.length = 0 := by rw [hrl]; rfl
    have hz : decide ((rs.length : Int) > 0) = false := decide_eq_false (by omega)
    have hz2 : decide (0 < rs.length) = false := decide_eq_false (by omega)
    replace hr0 := Lib.hid hr0
    replace hrl := Lib.hid hrl
    go_wp2_with fail
    refine (least_none (Or.inr ⟨s, bm, D, rfl, S1⟩)).mono ?_
    rintro e w' ⟨rfl, hw⟩
    obtain rfl := hw.symm
    have hb2 := Below.refl w1.heap.size w1
    have S2 := S1
    have hrd2 := hrd
    have hv2 := hv1
    clear S1 hrd hv1
    go_wp2_with fail
    refine (len_any S2).mono ?_
    rintro e w' ⟨rfl, hw⟩
    obtain rfl := hw.symm
    rw [← hrl.out]
    go_wp2_with fail
    refine (same_any hrd2 hv2 (by rw [ints_len]; omega)).mono ?_
    rintro e w4 ⟨rfl, n4, rfl⟩
    rw [decide_eq_true (rfl : ints rs = ints rs)]
    have S3 := S2.drewN n4
    have hv3 := hv2.below (below_drawn (Below.refl _ _) n4)
    have hb4 := below_drawn hb2 n4
    generalize w1.drewN n4 = w4 at S3 hv3 hb4 ⊢
    clear S2 hrd2 hv2 hb2
    go_wp2_with fail
    refine (has_int S3 hx).mono ?_
    rintro e w' ⟨rfl, hw⟩
    obtain rfl := hw.symm
    rw [← hbool.out]
    generalize hq : decide (x ∈ ints rs) = q
    go_wp2_with fail
    refine (rhas_any hv3 (by rw [ints_len]; omega)).mono ?_
    rintro e w' ⟨rfl, hw⟩
    obtain rfl := hw.symm
    rw [hq]
    replace hq := Lib.hid hq
    
    go_wp2_with fail
    have h3o : ∀ g, (Value.slice v3a rs.length v3c).ownBlock = some g → w.heap.size ≤ g ∧ ∃ cs, w4.heap[g]? = some (.cells cs 3 (0, 0)) ∧ rs.length ≤ cs.size := fun g hg => by
      have hlt := (hown'.out.lt g hg).1
      rcases hown'.out.2 with ⟨e1, _⟩ | ⟨g', cap', cur, e1, e2, e3, e4, e5, e6, e7⟩
      · rw [e1] at hg; cases hg
      · rw [e1] at hg
        cases hg
        exact ⟨hlt, cur, by rw [hb4.block _ (Array.getElem?_eq_some_iff.1 e3).1]; exact e3, by rw [e6]; omega⟩
    have h3f : 0 < rs.length → ∃ g, Value.slice v3a rs.length v3c = .slice (some ⟨g, 0, none⟩) rs.length v3c := fun h => by
      obtain ⟨g, cap', e⟩ := row_form hown'.out h
      simp only [Value.slice.injEq] at e
      obtain ⟨rfl, -, rfl⟩ := e
      exact ⟨g, rfl⟩
    have hb5 : Below w.heap.size w w4 := hbl.out.trans (hb4.mono hbl.out.size)
    replace h3f := Lib.hid h3f
    clear hv3 S3 hb4
    go_loopw [10] (fun u wr => ∃ j : Nat, j ≤ rs.length ∧ u = .int .i64 j ∧ Below w.heap.size w wr ∧ (∀ g, (Value.slice v3a rs.length v3c).ownBlock = some g → w.heap.size ≤ g ∧ ∃ cs, wr.heap[g]? = some (.cells cs 3 (0, 0)) ∧ rs.length ≤ cs.size))
      (fun u _ => rs.length - (intOf u).toNat)
    case atStart => exact ⟨0, Nat.zero_le _, rfl, hb5, h3o⟩
    case round =>
      obtain ⟨j, hj, rfl, hbw, hgo⟩ := hrel
      clear h3o hb5
      by_cases hlt : j < rs.length
      · obtain ⟨g, hge⟩ := h3f.out (by omega)
        simp only [Value.slice.injEq] at hge
        obtain ⟨rfl, -, -⟩ := hge
        obtain ⟨hg1, cs, hcs, hcl⟩ := hgo g rfl
        obtain ⟨u, hu⟩ : ∃ u, cs[j]? = some u := ⟨_, Array.getElem?_eq_getElem (by omega)⟩
        have cu : wr.cell? ⟨g, j, none⟩ = some u := (blk_cell hcs j).trans hu
        have fu : wr.frozen? ⟨g, j, none⟩ = false := by simp [World.frozen?, hcs]
        have hset := blk_set (i := j) (.int .i64 (-7)) hcs
        replace hset := Lib.hid hset
        replace hgo := Lib.hid hgo
        clear hu hcs
        go_wp2_with fail
        go_roundw
        case rel =>
          refine ⟨j + 1, by omega, by go_num, hbw.setCell (p := ⟨g, j, none⟩) hg1 _, fun g' hg' => ?_⟩
          cases hg'
          exact ⟨hg1, _, hset.out, by rw [Array.size_setIfInBounds]; exact hcl⟩
        case measure => simp [intOf]; omega
      · have : j = rs.length := by omega
        subst this
        clear hgo
        go_wp2_with fail
        go_ret
        exact ⟨rfl, hbw⟩

  · have hne : l ≠ [] := hl0
    have hrp : 0 < rs.length := by rw [hrl]; exact List.length_pos_iff.2 hne
    have hz : decide ((rs.length : Int) > 0) = true := by simp; omega
    have hz2 : decide (0 < rs.length) = true := decide_eq_true hrp
    clear hl0
    replace hrl := Lib.hid hrl
    replace hm := Lib.hid hm
    replace hr := Lib.hid hr
    go_wp2_with fail
    refine (least_some S1 G1 hne (by omega)).mono ?_
    rintro e w3 ⟨⟨m, hmin, rfl⟩, hb2⟩
    have hki : Hid ((ints rs)[0]? = some (m : Int)) := Lib.hid (by simp [ints, min_head hr.out hm.out hmin])
    have S2 := S1.below hb2
    have hrd2 := hrd.below hb2
    have hv2 := hv1.below hb2
    clear S1 hrd hv1 hmin
    go_wp2_with fail
    refine (len_any S2).mono ?_
    rintro e w' ⟨rfl, hw⟩
    obtain rfl := hw.symm
    rw [← hrl.out]
    go_wp2_with fail
    refine (same_any hrd2 hv2 (by rw [ints_len]; omega)).mono ?_
    rintro e w4 ⟨rfl, n4, rfl⟩
    rw [decide_eq_true (rfl : ints rs = ints rs)]
    have S3 := S2.drewN n4
    have hv3 := hv2.below (below_drawn (Below.refl _ _) n4)
    have hb4 := below_drawn hb2 n4
    generalize w3.drewN n4 = w4 at S3 hv3 hb4 ⊢
    clear S2 hrd2 hv2 hb2
    go_wp2_with fail
    refine (has_int S3 hx).mono ?_
    rintro e w' ⟨rfl, hw⟩
    obtain rfl := hw.symm
    rw [← hbool.out]
    generalize hq : decide (x ∈ ints rs) = q
    go_wp2_with fail
    refine (rhas_any hv3 (by rw [ints_len]; omega)).mono ?_
    rintro e w' ⟨rfl, hw⟩
    obtain rfl := hw.symm
    rw [hq]
    replace hq := Lib.hid hq
    obtain ⟨g0, off, cap, e, -⟩ := RdI.open hv3 (by rw [ints_len]; exact hrp)
    rw [ints_len] at e
    simp only [Value.slice.injEq] at e
    obtain ⟨rfl, -, rfl⟩ := e
    have c1 := row_cell hv3 hki.out
    rw [Nat.add_zero] at c1
    go_wp2_with fail
    have h3o : ∀ g, (Value.slice v3a rs.length v3c).ownBlock = some g → w.heap.size ≤ g ∧ ∃ cs, w4.heap[g]? = some (.cells cs 3 (0, 0)) ∧ rs.length ≤ cs.size := fun g hg => by
      have hlt := (hown'.out.lt g hg).1
      rcases hown'.out.2 with ⟨e1, _⟩ | ⟨g', cap', cur, e1, e2, e3, e4, e5, e6, e7⟩
      · rw [e1] at hg; cases hg
      · rw [e1] at hg
        cases hg
        exact ⟨hlt, cur, by rw [hb4.block _ (Array.getElem?_eq_some_iff.1 e3).1]; exact e3, by rw [e6]; omega⟩
    have h3f : 0 < rs.length → ∃ g, Value.slice v3a rs.length v3c = .slice (some ⟨g, 0, none⟩) rs.length v3c := fun h => by
      obtain ⟨g, cap', e⟩ := row_form hown'.out h
      simp only [Value.slice.injEq] at e
      obtain ⟨rfl, -, rfl⟩ := e
      exact ⟨g, rfl⟩
    have hb5 : Below w.heap.size w w4 := hbl.out.trans (hb4.mono hbl.out.size)
    replace h3f := Lib.hid h3f
    clear hv3 S3 hb4
    go_loopw [10] (fun u wr => ∃ j : Nat, j ≤ rs.length ∧ u = .int .i64 j ∧ Below w.heap.size w wr ∧ (∀ g, (Value.slice v3a rs.length v3c).ownBlock = some g → w.heap.size ≤ g ∧ ∃ cs, wr.heap[g]? = some (.cells cs 3 (0, 0)) ∧ rs.length ≤ cs.size))
      (fun u _ => rs.length - (intOf u).toNat)
    case atStart => exact ⟨0, Nat.zero_le _, rfl, hb5, h3o⟩
    case round =>
      obtain ⟨j, hj, rfl, hbw, hgo⟩ := hrel
      clear h3o hb5
      by_cases hlt : j < rs.length
      · obtain ⟨g, hge⟩ := h3f.out (by omega)
        simp only [Value.slice.injEq] at hge
        obtain ⟨rfl, -, -⟩ := hge
        obtain ⟨hg1, cs, hcs, hcl⟩ := hgo g rfl
        obtain ⟨u, hu⟩ : ∃ u, cs[j]? = some u := ⟨_, Array.getElem?_eq_getElem (by omega)⟩
        have cu : wr.cell? ⟨g, j, none⟩ = some u := (blk_cell hcs j).trans hu
        have fu : wr.frozen? ⟨g, j, none⟩ = false := by simp [World.frozen?, hcs]
        have hset := blk_set (i := j) (.int .i64 (-7)) hcs
        replace hset := Lib.hid hset
        replace hgo := Lib.hid hgo
        clear hu hcs
        go_wp2_with fail
        go_roundw
        case rel =>
          refine ⟨j + 1, by omega, by go_num, hbw.setCell (p := ⟨g, j, none⟩) hg1 _, fun g' hg' => ?_⟩
          cases hg'
          exact ⟨hg1, _, hset.out, by rw [Array.size_setIfInBounds]; exact hcl⟩
        case measure => simp [intOf]; omega
      · have : j = rs.length := by omega
        subst this
        clear hgo
        go_wp2_with fail
        go_ret
        exact ⟨rfl, hbw⟩

end
end Go.Proofs.YtdpbbgfceagofaaDoor
