/- BitsApart: the walk. -/
import Derived.Test.YtdpbbgfceagofaaDoorPlace
namespace Go.Proofs.YtdpbbgfceagofaaDoor
open Go.RowKit Go.Maps

theorem lessN_len (l : List Nat) (i : Int) : (lessN l i).length ≤ l.length := by
  unfold lessN
  split
  · rw [List.length_erase]
    split <;> omega
  · exact Nat.le_refl _

theorem ints_len (rs : List Nat) : (ints rs).length = rs.length := by simp [ints]

section
variable {w : World} {sa sb : Value} {xa xb : List Int} {i : Int}

theorem apart_great (G : Gl w) (ha : RdI w sa xa) (hb : RdI w sb xb) (hn : 1000 < xa.length ∨ 1000 < xb.length) : Calls Tryd.prog 9 #[sa, sb, .int .i64 i] w fun e w' => e = .returned (.bool true) ∧ Below w.heap.size w w' := by
  obtain ⟨a, c, rfl⟩ := ha.form
  obtain ⟨a', c', rfl⟩ := hb.form
  rw [List.length_map, List.length_map]
  have hw := Lib.hid (wakes_any G)
  clear ha hb
  rcases hd : decide ((xa.length : Int) > 1000) with _ | _
  · have hd2 : decide ((xb.length : Int) > 1000) = true := by simp at hd ⊢; omega
    go_enter Tryd.func9, Tryd.ntmps9
    go_wp2_with (go_at_call 10; refine hw.out.mono ?_; rintro e w' ⟨rfl, hb⟩)
    go_ret
    exact ⟨rfl, hb⟩
  · go_enter Tryd.func9, Tryd.ntmps9
    go_wp2_with (go_at_call 10; refine hw.out.mono ?_; rintro e w' ⟨rfl, hb⟩)
    go_ret
    exact ⟨rfl, hb⟩

set_option maxHeartbeats 4000000 in
theorem apart_any (G : Gl w) (ha : RdI w sa xa) (hb : RdI w sb xb) (xa63 : Small xa) (xb63 : Small xb) (hi : i < 9223372036854775808) (na : xa.length ≤ 1000) (nb : xb.length ≤ 1000) : Calls Tryd.prog 9 #[sa, sb, .int .i64 i] w fun e w' => e = .returned (.bool true) ∧ Below w.heap.size w w' := by
  obtain ⟨a, c, rfl⟩ := ha.form
  obtain ⟨a', c', rfl⟩ := hb.form
  rw [List.length_map] at ha hb ⊢
  rw [List.length_map]
  have hd : decide ((xa.length : Int) > 1000) = false := by simp; omega
  have hd2 : decide ((xb.length : Int) > 1000) = false := by simp; omega
  have B0 := Bag.init w
  have ya : ∀ x ∈ xa, x < 9223372036854775808 := fun x h => (xa63 x h).2
  have yb : ∀ x ∈ xb, x < 9223372036854775808 := fun x h => (xb63 x h).2
  clear xa63 xb63
  go_enter Tryd.func9, Tryd.ntmps9
  go_wp2_with fail
  refine (bag_of B0 ha ya (by omega)).mono ?_
  rintro e w1 ⟨s0, rfl, B1⟩
  go_wp2_with fail
  refine (bag_of B1 (hb.below B1.old) yb (by omega)).mono ?_
  rintro e w2 ⟨s1, rfl, B2⟩
  have hA : (numsOf xa).length ≤ 1000 := Nat.le_trans (numsOf_len xa) na
  have hB : (numsOf xb).length ≤ 1000 := Nat.le_trans (numsOf_len xb) nb
  change Bag w w2 [(s0, numsOf xa), (s1, numsOf xb)] [] at B2
  generalize numsOf xa = A at B2 hA
  generalize numsOf xb = B at B2 hB
  clear B0 B1 ha hb ya yb
  go_wp2_with fail
  refine (bag_list B2 G (i := 0) rfl (by omega)).mono ?_
  rintro e w3 ⟨v1, ra, rfl, r1, q1, hown1, -, B3⟩
  change Bag w w3 [(s0, A), (s1, B)] [(v1, ints ra)] at B3
  obtain ⟨va, vc, rfl⟩ := own_form hown1
  clear B2 hown1
  go_wp2_with fail
  refine (bag_list B3 G (i := 1) rfl (by omega)).mono ?_
  rintro e w4 ⟨v2, rb, rfl, r2, q2, hown2, -, B4⟩
  change Bag w w4 [(s0, A), (s1, B)] [(.slice va ra.length vc, ints ra), (v2, ints rb)] at B4
  have hsm := B4.small (i := 0) rfl
  have hral : ra.length ≤ 1000 := Nat.le_trans (nodup_len_le (r1.imp (fun h => Nat.ne_of_lt h)) (fun m h => (q1 m).1 h)) hA
  have hrbl : rb.length ≤ 1000 := Nat.le_trans (nodup_len_le (r2.imp (fun h => Nat.ne_of_lt h)) (fun m h => (q2 m).1 h)) hB
  replace r1 := Lib.hid r1
  replace r2 := Lib.hid r2
  replace q1 := Lib.hid q1
  replace q2 := Lib.hid q2
  replace hsm := Lib.hid hsm
  clear B3 hown2
  have k1 := plusN_len A i
  have k2 := lessN_len (plusN A i) i
  have k3 := less_len A B
  have k4 := both_len A B
  have k5 := plusN_len (less A B) i
  have k6 := plusN_len (both A B) i
  have k7 := uni_len (plusN (both A B) i) B
  go_wp2_with fail
  refine (bag_copy B4 (i := 0) rfl (by omega)).mono ?_
  rintro e w5 ⟨s2, rfl, B5⟩
  clear B4
  go_wp2_with fail
  refine (bag_minus B5 (i := 0) (j := 1) rfl rfl (by omega)).mono ?_
  rintro e w6 ⟨s3, rfl, B6⟩
  clear B5
  go_wp2_with fail
  refine (bag_both B6 (i := 0) (j := 1) rfl rfl (by omega)).mono ?_
  rintro e w7 ⟨s4, rfl, B7⟩
  change Bag w w7 [(s0, A), (s1, B), (s2, A), (s3, less A B), (s4, both A B)] _ at B7
  clear B6
  go_wp2_with fail
  refine (bag_add B7 (i := 2) rfl hi (by omega)).mono ?_
  rintro e w8 ⟨rfl, B8⟩
  change Bag w w8 [(s0, A), (s1, B), (s2, plusN A i), (s3, less A B), (s4, both A B)] _ at B8
  clear B7
  go_wp2_with fail
  refine (bag_drop B8 (i := 2) rfl hi (by omega)).mono ?_
  rintro e w9 ⟨rfl, B9⟩
  change Bag w w9 [(s0, A), (s1, B), (s2, lessN (plusN A i) i), (s3, less A B), (s4, both A B)] _ at B9
  clear B8
  go_wp2_with fail
  refine (bag_add B9 (i := 3) rfl hi (by omega)).mono ?_
  rintro e w10 ⟨rfl, B10⟩
  change Bag w w10 [(s0, A), (s1, B), (s2, lessN (plusN A i) i), (s3, plusN (less A B) i), (s4, both A B)] _ at B10
  clear B9
  go_wp2_with fail
  refine (bag_add B10 (i := 4) rfl hi (by omega)).mono ?_
  rintro e w11 ⟨rfl, B11⟩
  change Bag w w11 [(s0, A), (s1, B), (s2, lessN (plusN A i) i), (s3, plusN (less A B) i), (s4, plusN (both A B) i)] _ at B11
  clear B10
  go_wp2_with fail
  refine (bag_union B11 (i := 4) (j := 1) rfl rfl (by decide) (by omega)).mono ?_
  rintro e w12 ⟨rfl, B12⟩
  change Bag w w12 [(s0, A), (s1, B), (s2, lessN (plusN A i) i), (s3, plusN (less A B) i), (s4, uni (plusN (both A B) i) B)] _ at B12
  clear B11
  have m2 : (lessN (plusN A i) i).length ≤ 1000000 := by omega
  have m3 : (plusN (less A B) i).length ≤ 1000000 := by omega
  have m4 : (uni (plusN (both A B) i) B).length ≤ 1000000 := by omega
  generalize lessN (plusN A i) i = C2 at B12 m2
  generalize plusN (less A B) i = C3 at B12 m3
  generalize uni (plusN (both A B) i) B = C4 at B12 m4
  clear k1 k2 k3 k4 k5 k6 k7
  by_cases hra : ra = []
  · have hz : decide ((ra.length : Int) > 0) = false := by rw [hra]; rfl
    have hz2 : decide (0 < ra.length) = false := by rw [hra]; rfl
    clear hra
    go_wp2_with fail
    refine (bag_list B12 G (i := 0) rfl (by omega)).mono ?_
    rintro e w20 ⟨v3, r3, rfl, r3r, r3q, hown3, hb3, -⟩
    obtain ⟨v3a, v3c, rfl⟩ := own_form hown3
    have h3l : r3.length ≤ 1000 := Nat.le_trans (nodup_len_le (r3r.imp (fun h => Nat.ne_of_lt h)) (fun m h => (r3q m).1 h)) hA
    have h3o : ∀ g, (Value.slice v3a r3.length v3c).ownBlock = some g → w12.heap.size ≤ g ∧ ∃ cs, w20.heap[g]? = some (.cells cs 3 (0, 0)) ∧ r3.length ≤ cs.size := fun g hg => by
      have hlt := (hown3.lt g hg).1
      rcases hown3.2 with ⟨e1, _⟩ | ⟨g', cap', cur, e1, e2, e3, e4, e5, e6, e7⟩
      · rw [e1] at hg; cases hg
      · rw [e1] at hg
        cases hg
        exact ⟨hlt, cur, e3, by rw [e6]; omega⟩
    have h3f : 0 < r3.length → ∃ g, Value.slice v3a r3.length v3c = .slice (some ⟨g, 0, none⟩) r3.length v3c := fun h => by
      obtain ⟨g, cap', e⟩ := row_form hown3 h
      simp only [Value.slice.injEq] at e
      obtain ⟨rfl, -, rfl⟩ := e
      exact ⟨g, rfl⟩
    clear hown3 r3r r3q
    replace h3f := Lib.hid h3f
    go_wp2_with fail
    go_loopw [15] (fun u wr => ∃ j : Nat, j ≤ r3.length ∧ u = .int .i64 j ∧ Below w12.heap.size w12 wr ∧ (∀ g, (Value.slice v3a r3.length v3c).ownBlock = some g → w12.heap.size ≤ g ∧ ∃ cs, wr.heap[g]? = some (.cells cs 3 (0, 0)) ∧ r3.length ≤ cs.size))
      (fun u _ => r3.length - (intOf u).toNat)
    case atStart => exact ⟨0, Nat.zero_le _, rfl, hb3, h3o⟩
    case round =>
      obtain ⟨j, hj, rfl, hbw, hgo⟩ := hrel
      clear h3o hb3
      by_cases hlt : j < r3.length
      · obtain ⟨g, hge⟩ := h3f.out (by omega)
        simp only [Value.slice.injEq] at hge
        obtain ⟨rfl, -, -⟩ := hge
        obtain ⟨hg1, cs, hcs, hcl⟩ := hgo g rfl
        obtain ⟨u, hu⟩ : ∃ u, cs[j]? = some u := ⟨_, Array.getElem?_eq_getElem (by omega)⟩
        have cu : wr.cell? ⟨g, j, none⟩ = some u := (blk_cell hcs j).trans hu
        have fu : wr.frozen? ⟨g, j, none⟩ = false := by simp [World.frozen?, hcs]
        have hset := blk_set (i := j) (.int .i64 (-1)) hcs
        replace hset := Lib.hid hset
        replace hgo := Lib.hid hgo
        clear hu hcs
        go_wp2_with fail
        go_roundw
        case rel =>
          refine ⟨j + 1, by omega, by go_num, hbw.setCell (p := ⟨g, j, none⟩) hg1 _, fun g' hg' => ?_⟩
          cases hg'
          exact ⟨hg1, _, hset.out, by rw [Array.size_setIfInBounds]; exact hcl⟩
        case measure => simp [intOf]; omega
      · have : j = r3.length := by omega
        subst this
        have BY := B12.below hbw
        clear hgo hbw B12
        go_wp2_with fail
        refine (bag_list BY G (i := 0) rfl (by omega)).mono ?_
        rintro e w21 ⟨v4, r4, rfl, r4r, r4q, -, -, B21⟩
        obtain rfl : ra = r4 := rising_eq r1.out r4r (fun m => by rw [q1.out, r4q])
        have hv4 := (B21.rows v4 (ints ra) (by simp)).1
        have hv1 := (B21.rows (.slice va ra.length vc) (ints ra) (by simp)).1
        clear BY r4r r4q
        go_wp2_with fail
        refine (same_any hv4 hv1 (by rw [ints_len]; omega)).mono ?_
        rintro e w22 ⟨rfl, n22, rfl⟩
        rw [decide_eq_true (rfl : ints ra = ints ra)]
        replace B21 := B21.drawn n22
        clear hv4 hv1
        generalize w21.drewN n22 = w22 at B21 ⊢
        go_wp2_with fail
        refine (bag_list B21 G (i := 1) rfl (by omega)).mono ?_
        rintro e w23 ⟨v5, r5, rfl, r5r, r5q, -, -, B23⟩
        obtain rfl : rb = r5 := rising_eq r2.out r5r (fun m => by rw [q2.out, r5q])
        have hv5 := (B23.rows v5 (ints rb) (by simp)).1
        have hv2 := (B23.rows v2 (ints rb) (by simp)).1
        clear B21 r5r r5q
        go_wp2_with fail
        refine (same_any hv5 hv2 (by rw [ints_len]; omega)).mono ?_
        rintro e w24 ⟨rfl, n24, rfl⟩
        rw [decide_eq_true (rfl : ints rb = ints rb)]
        replace B23 := B23.drawn n24
        clear hv5 hv2
        generalize w23.drewN n24 = w24 at B23 ⊢
        go_wp2_with fail
        refine (wakes_any (B23.gl G)).mono ?_
        rintro e w99 ⟨rfl, hb99⟩
        have hold := B23.old.trans (hb99.mono B23.old.size)
        clear B23 hb99
        go_wp2_with fail
        go_ret
        exact ⟨rfl, hold⟩
  · have hrp : 0 < ra.length := List.length_pos_iff.2 hra
    have hz : decide ((ra.length : Int) > 0) = true := by simp; omega
    have hz2 : decide (0 < ra.length) = true := decide_eq_true hrp
    obtain ⟨k0, hk0⟩ : ∃ k, ra[0]? = some k := ⟨_, List.getElem?_eq_getElem hrp⟩
    have hk63 : (k0 : Int) < 9223372036854775808 := by have := hsm.out k0 ((q1.out k0).1 (List.mem_of_getElem? hk0)); omega
    have hki : Hid ((ints ra)[0]? = some (k0 : Int)) := Lib.hid (by simp [ints, hk0])
    obtain ⟨g0, off, cap, e, -⟩ := RdI.open ((B12.rows (.slice va ra.length vc) (ints ra) (by simp)).1) (by rw [ints_len]; exact hrp)
    rw [ints_len] at e
    simp only [Value.slice.injEq] at e
    obtain ⟨rfl, -, rfl⟩ := e
    have c1 := row_cell ((B12.rows (.slice (some ⟨g0, off, none⟩) ra.length vc) (ints ra) (by simp)).1) hki.out
    rw [Nat.add_zero] at c1
    clear hra hk0
    go_wp2_with fail
    refine (bag_drop B12 (i := 3) rfl hk63 m3).mono ?_
    rintro e w13 ⟨rfl, B13⟩
    change Bag w w13 [(s0, A), (s1, B), (s2, C2), (s3, lessN C3 k0), (s4, C4)] _ at B13
    have c2 := row_cell ((B13.rows (.slice (some ⟨g0, off, none⟩) ra.length vc) (ints ra) (by simp)).1) hki.out
    rw [Nat.add_zero] at c2
    clear B12 c1
    go_wp2_with fail
    refine (bag_drop B13 (i := 4) rfl hk63 m4).mono ?_
    rintro e w14 ⟨rfl, B14⟩
    change Bag w w14 [(s0, A), (s1, B), (s2, C2), (s3, lessN C3 k0), (s4, lessN C4 k0)] _ at B14
    have c3 := row_cell ((B14.rows (.slice (some ⟨g0, off, none⟩) ra.length vc) (ints ra) (by simp)).1) hki.out
    rw [Nat.add_zero] at c3
    clear B13 c2
    go_wp2_with fail
    refine (bag_drop B14 (i := 2) rfl hk63 m2).mono ?_
    rintro e w15 ⟨rfl, B15⟩
    change Bag w w15 [(s0, A), (s1, B), (s2, lessN C2 k0), (s3, lessN C3 k0), (s4, lessN C4 k0)] _ at B15
    clear B14 c3
    go_wp2_with fail
    refine (bag_list B15 G (i := 0) rfl (by omega)).mono ?_
    rintro e w20 ⟨v3, r3, rfl, r3r, r3q, hown3, hb3, -⟩
    obtain ⟨v3a, v3c, rfl⟩ := own_form hown3
    have h3l : r3.length ≤ 1000 := Nat.le_trans (nodup_len_le (r3r.imp (fun h => Nat.ne_of_lt h)) (fun m h => (r3q m).1 h)) hA
    have h3o : ∀ g, (Value.slice v3a r3.length v3c).ownBlock = some g → w15.heap.size ≤ g ∧ ∃ cs, w20.heap[g]? = some (.cells cs 3 (0, 0)) ∧ r3.length ≤ cs.size := fun g hg => by
      have hlt := (hown3.lt g hg).1
      rcases hown3.2 with ⟨e1, _⟩ | ⟨g', cap', cur, e1, e2, e3, e4, e5, e6, e7⟩
      · rw [e1] at hg; cases hg
      · rw [e1] at hg
        cases hg
        exact ⟨hlt, cur, e3, by rw [e6]; omega⟩
    have h3f : 0 < r3.length → ∃ g, Value.slice v3a r3.length v3c = .slice (some ⟨g, 0, none⟩) r3.length v3c := fun h => by
      obtain ⟨g, cap', e⟩ := row_form hown3 h
      simp only [Value.slice.injEq] at e
      obtain ⟨rfl, -, rfl⟩ := e
      exact ⟨g, rfl⟩
    clear hown3 r3r r3q
    replace h3f := Lib.hid h3f
    go_wp2_with fail
    go_loopw [15] (fun u wr => ∃ j : Nat, j ≤ r3.length ∧ u = .int .i64 j ∧ Below w15.heap.size w15 wr ∧ (∀ g, (Value.slice v3a r3.length v3c).ownBlock = some g → w15.heap.size ≤ g ∧ ∃ cs, wr.heap[g]? = some (.cells cs 3 (0, 0)) ∧ r3.length ≤ cs.size))
      (fun u _ => r3.length - (intOf u).toNat)
    case atStart => exact ⟨0, Nat.zero_le _, rfl, hb3, h3o⟩
    case round =>
      obtain ⟨j, hj, rfl, hbw, hgo⟩ := hrel
      clear h3o hb3
      by_cases hlt : j < r3.length
      · obtain ⟨g, hge⟩ := h3f.out (by omega)
        simp only [Value.slice.injEq] at hge
        obtain ⟨rfl, -, -⟩ := hge
        obtain ⟨hg1, cs, hcs, hcl⟩ := hgo g rfl
        obtain ⟨u, hu⟩ : ∃ u, cs[j]? = some u := ⟨_, Array.getElem?_eq_getElem (by omega)⟩
        have cu : wr.cell? ⟨g, j, none⟩ = some u := (blk_cell hcs j).trans hu
        have fu : wr.frozen? ⟨g, j, none⟩ = false := by simp [World.frozen?, hcs]
        have hset := blk_set (i := j) (.int .i64 (-1)) hcs
        replace hset := Lib.hid hset
        replace hgo := Lib.hid hgo
        clear hu hcs
        go_wp2_with fail
        go_roundw
        case rel =>
          refine ⟨j + 1, by omega, by go_num, hbw.setCell (p := ⟨g, j, none⟩) hg1 _, fun g' hg' => ?_⟩
          cases hg'
          exact ⟨hg1, _, hset.out, by rw [Array.size_setIfInBounds]; exact hcl⟩
        case measure => simp [intOf]; omega
      · have : j = r3.length := by omega
        subst this
        have BY := B15.below hbw
        clear hgo hbw B15
        go_wp2_with fail
        refine (bag_list BY G (i := 0) rfl (by omega)).mono ?_
        rintro e w21 ⟨v4, r4, rfl, r4r, r4q, -, -, B21⟩
        obtain rfl : ra = r4 := rising_eq r1.out r4r (fun m => by rw [q1.out, r4q])
        have hv4 := (B21.rows v4 (ints ra) (by simp)).1
        have hv1 := (B21.rows (.slice (some ⟨g0, off, none⟩) ra.length vc) (ints ra) (by simp)).1
        clear BY r4r r4q
        go_wp2_with fail
        refine (same_any hv4 hv1 (by rw [ints_len]; omega)).mono ?_
        rintro e w22 ⟨rfl, n22, rfl⟩
        rw [decide_eq_true (rfl : ints ra = ints ra)]
        replace B21 := B21.drawn n22
        clear hv4 hv1
        generalize w21.drewN n22 = w22 at B21 ⊢
        go_wp2_with fail
        refine (bag_list B21 G (i := 1) rfl (by omega)).mono ?_
        rintro e w23 ⟨v5, r5, rfl, r5r, r5q, -, -, B23⟩
        obtain rfl : rb = r5 := rising_eq r2.out r5r (fun m => by rw [q2.out, r5q])
        have hv5 := (B23.rows v5 (ints rb) (by simp)).1
        have hv2 := (B23.rows v2 (ints rb) (by simp)).1
        clear B21 r5r r5q
        go_wp2_with fail
        refine (same_any hv5 hv2 (by rw [ints_len]; omega)).mono ?_
        rintro e w24 ⟨rfl, n24, rfl⟩
        rw [decide_eq_true (rfl : ints rb = ints rb)]
        replace B23 := B23.drawn n24
        clear hv5 hv2
        generalize w23.drewN n24 = w24 at B23 ⊢
        go_wp2_with fail
        refine (wakes_any (B23.gl G)).mono ?_
        rintro e w99 ⟨rfl, hb99⟩
        have hold := B23.old.trans (hb99.mono B23.old.size)
        clear B23 hb99
        go_wp2_with fail
        go_ret
        exact ⟨rfl, hold⟩
end
end Go.Proofs.YtdpbbgfceagofaaDoor
