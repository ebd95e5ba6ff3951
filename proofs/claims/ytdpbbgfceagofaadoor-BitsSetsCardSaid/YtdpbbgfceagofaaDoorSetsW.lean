/- BitsSets: the walk. -/
import Derived.Test.YtdpbbgfceagofaaDoorSetsL
import Derived.Deep.Cut
import Derived.BigQuiet
namespace Go.Proofs.YtdpbbgfceagofaaDoor
open Go.RowKit Go.Maps

section
variable {w : World} {sa sb sc : Value} {xa xb xc : List Int} {i : Int}

set_option maxRecDepth 20000 in
theorem sets_great (G : Gl w) (ha : RdI w sa xa) (hb : RdI w sb xb) (hc : RdI w sc xc) (hn : 1000 < xa.length ∨ 1000 < xb.length ∨ 1000 < xc.length) : Calls Tryd.prog 5 #[sa, sb, sc, .int .i64 i] w fun e w' => e = .returned (.bool true) ∧ Below w.heap.size w w' := by
  obtain ⟨a, c, rfl⟩ := ha.form
  obtain ⟨a', c', rfl⟩ := hb.form
  obtain ⟨a'', c'', rfl⟩ := hc.form
  rw [List.length_map, List.length_map, List.length_map]
  have hw := Lib.hid (wakes_any G)
  clear ha hb hc
  rcases hd : decide ((xa.length : Int) > 1000) with _ | _
  · rcases hd2 : decide ((xb.length : Int) > 1000) with _ | _
    · have hd3 : decide ((xc.length : Int) > 1000) = true := by simp at hd hd2 ⊢; omega
      go_enter Tryd.func5, Tryd.ntmps5
      go_wp2_with (go_at_call 10; refine hw.out.mono ?_; rintro e w' ⟨rfl, hb⟩)
      go_ret
      exact ⟨rfl, hb⟩
    · go_enter Tryd.func5, Tryd.ntmps5
      go_wp2_with (go_at_call 10; refine hw.out.mono ?_; rintro e w' ⟨rfl, hb⟩)
      go_ret
      exact ⟨rfl, hb⟩
  · go_enter Tryd.func5, Tryd.ntmps5
    go_wp2_with (go_at_call 10; refine hw.out.mono ?_; rintro e w' ⟨rfl, hb⟩)
    go_ret
    exact ⟨rfl, hb⟩

set_option maxRecDepth 20000 in
set_option maxHeartbeats 8000000 in
theorem sets_any (G : Gl w) (ha : RdI w sa xa) (hb : RdI w sb xb) (hc : RdI w sc xc) (xa63 : Small xa) (xb63 : Small xb) (xc63 : Small xc) (na : xa.length ≤ 1000) (nb : xb.length ≤ 1000) (nc : xc.length ≤ 1000) (hi : i < 9223372036854775808) : Calls Tryd.prog 5 #[sa, sb, sc, .int .i64 i] w fun e w' => e = .returned (.bool true) ∧ Below w.heap.size w w' := by
  obtain ⟨a, c, rfl⟩ := ha.form
  obtain ⟨a', c', rfl⟩ := hb.form
  obtain ⟨a'', c'', rfl⟩ := hc.form
  rw [List.length_map] at ha hb hc ⊢
  rw [List.length_map, List.length_map]
  have hd : decide ((xa.length : Int) > 1000) = false := by simp; omega
  have hd2 : decide ((xb.length : Int) > 1000) = false := by simp; omega
  have hd3 : decide ((xc.length : Int) > 1000) = false := by simp; omega
  have B0 := Bag.init w
  have ya : ∀ x ∈ xa, x < 9223372036854775808 := fun x h => (xa63 x h).2
  have yb : ∀ x ∈ xb, x < 9223372036854775808 := fun x h => (xb63 x h).2
  have yc : ∀ x ∈ xc, x < 9223372036854775808 := fun x h => (xc63 x h).2
  clear xa63 xb63 xc63
  go_enter Tryd.func5, Tryd.ntmps5
  go_wp2_with fail
  refine (bag_of B0 ha ya (by omega)).mono ?_
  rintro e w1 ⟨s0, rfl, B1⟩
  go_wp2_with fail
  refine (bag_of B1 (hb.below B1.old) yb (by omega)).mono ?_
  rintro e w2 ⟨s1, rfl, B2⟩
  go_wp2_with fail
  refine (bag_of B2 (hc.below B2.old) yc (by omega)).mono ?_
  rintro e w3 ⟨s2, rfl, B3⟩
  have hA : (numsOf xa).length ≤ 1000 := Nat.le_trans (numsOf_len xa) na
  have hB : (numsOf xb).length ≤ 1000 := Nat.le_trans (numsOf_len xb) nb
  have hC : (numsOf xc).length ≤ 1000 := Nat.le_trans (numsOf_len xc) nc
  change Bag w w3 [(s0, numsOf xa), (s1, numsOf xb), (s2, numsOf xc)] [] at B3
  generalize numsOf xa = A at B3 hA
  generalize numsOf xb = B at B3 hB
  generalize numsOf xc = C at B3 hC
  clear B0 B1 B2 ha hb hc ya yb yc hd hd2 hd3 na nb nc
  have nA := Lib.hid (B3.nodup (i := 0) rfl)
  have nB := Lib.hid (B3.nodup (i := 1) rfl)
  go_wp2_with fail
  refine (bag_copy B3 (i := 0) rfl (Nat.le_trans hA (by decide))).mono ?_
  rintro e w4 ⟨s3, rfl, B4⟩
  change Bag w w4 [(s0, A), (s1, B), (s2, C), (s3, A)] [] at B4
  clear B3
  go_wp2_with fail
  refine (bag_union B4 (i := 3) (j := 1) rfl rfl (by decide) (Nat.le_trans (Nat.add_le_add hA hB) (by decide))).mono ?_
  rintro e w5 ⟨rfl, B5⟩
  change Bag w w5 [(s0, A), (s1, B), (s2, C), (s3, (uni A B))] [] at B5
  clear B4
  generalize hg : decide (A.length < (uni A B).length) = g
  replace hg := Lib.hid hg
  go_wp2_with fail
  refine (bag_minus B5 (i := 0) (j := 1) rfl rfl (Nat.le_trans hA (by decide))).mono ?_
  rintro e w6 ⟨s4, rfl, B6⟩
  change Bag w w6 [(s0, A), (s1, B), (s2, C), (s3, (uni A B)), (s4, (less A B))] [] at B6
  clear B5
  go_wp2_with fail
  refine (bag_both B6 (i := 0) (j := 1) rfl rfl (Nat.le_trans hA (by decide))).mono ?_
  rintro e w7 ⟨s5, rfl, B7⟩
  change Bag w w7 [(s0, A), (s1, B), (s2, C), (s3, (uni A B)), (s4, (less A B)), (s5, (both A B))] [] at B7
  clear B6
  go_upto_region 7 with fail
  go_cut [90] from 50 (fun r wx => r = .bool false ∧ wx = w7)
  case first =>
    obtain ⟨a1, h1⟩ : ∃ a1, a1 = decide (0 ≤ i ∧ i.toNat ∈ A) := ⟨_, rfl⟩
    obtain ⟨b1, h2⟩ : ∃ b1, b1 = decide (0 ≤ i ∧ i.toNat ∈ B) := ⟨_, rfl⟩
    have h3 : decide (0 ≤ i ∧ i.toNat ∈ uni A B) = (a1 || b1) := by rw [h1, h2]; by_cases k1 : i.toNat ∈ A <;> by_cases k2 : i.toNat ∈ B <;> simp [mem_uni, k1, k2]
    have h4 : decide (0 ≤ i ∧ i.toNat ∈ less A B) = (a1 && !b1) := by rw [h1, h2]; by_cases k0 : 0 ≤ i <;> by_cases k1 : i.toNat ∈ A <;> by_cases k2 : i.toNat ∈ B <;> simp [mem_less, k0, k1, k2]
    have h5 : decide (0 ≤ i ∧ i.toNat ∈ both A B) = (a1 && b1) := by rw [h1, h2]; by_cases k0 : 0 ≤ i <;> by_cases k1 : i.toNat ∈ A <;> by_cases k2 : i.toNat ∈ B <;> simp [mem_both, k0, k1, k2]
    replace h1 := h1.symm
    replace h2 := h2.symm
    have c0 := bag_has B7 (i := 0) rfl (x := i) hi
    rw [h1] at c0
    replace c0 := Lib.hid c0
    have c1 := bag_has B7 (i := 1) rfl (x := i) hi
    rw [h2] at c1
    replace c1 := Lib.hid c1
    have c3 := bag_has B7 (i := 3) rfl (x := i) hi
    rw [h3] at c3
    replace c3 := Lib.hid c3
    have c4 := bag_has B7 (i := 4) rfl (x := i) hi
    rw [h4] at c4
    replace c4 := Lib.hid c4
    have c5 := bag_has B7 (i := 5) rfl (x := i) hi
    rw [h5] at c5
    replace c5 := Lib.hid c5
    clear h1 h2 h3 h4 h5
    cases a1 <;> cases b1
    all_goals as_aux_lemma => (go_wp2_with (go_at_call 28; (first | (with_reducible refine Calls.mono c0.out ?_) | (with_reducible refine Calls.mono c1.out ?_) | (with_reducible refine Calls.mono c3.out ?_) | (with_reducible refine Calls.mono c4.out ?_) | (with_reducible refine Calls.mono c5.out ?_)); rintro e w' ⟨rfl, hw⟩; obtain rfl := hw.symm); go_meet; exact ⟨rfl, rfl⟩)
  case rest =>
    obtain ⟨rfl, rfl⟩ := hcut
    go_upto_region 9 with fail
    go_cut [155] from 91 (fun r wx => r = .bool false ∧ ∃ s6 : Nat, Bag w wx [(s0, A), (s1, B), (s2, C), (s3, uni A B), (s4, less A B), (s5, both A B), (s6, both (less A B) (both A B))] [])
    case first =>
      have l1 : wrap64 (((less A B).length : Int) + ((both A B).length : Int)) = (A.length : Int) := by have := len_less_both A B; unfold wrap64; omega
      obtain ⟨K, hK⟩ : ∃ K : Int, K = (A.length : Int) + (B.length : Int) := ⟨_, rfl⟩
      have l2 : wrap64 (((uni A B).length : Int) + ((both A B).length : Int)) = K := by have := len_uni_both nA.out nB.out; unfold wrap64; omega
      have l3 : wrap64 ((A.length : Int) + (B.length : Int)) = K := by unfold wrap64; omega
      replace hK := hK.symm
      have g1 : decide (((uni A B).length : Int) > (A.length : Int)) = g := by rw [← hg.out]; simp
      have g2 : decide (A.length < (uni A B).length) = g := hg.out
      by_cases hx : ∀ n ∈ A, n ∈ C
      · replace hx := Lib.hid hx
        by_cases hy : ∀ n ∈ B, n ∈ C
        · replace hy := Lib.hid hy
          as_aux_lemma =>
            go_wp2_with fail
            refine (bag_len B7 (i := 3) rfl).mono ?_
            rintro e w' ⟨rfl, hw⟩
            obtain rfl := hw.symm
            go_wp2_with fail
            refine (bag_len B7 (i := 0) rfl).mono ?_
            rintro e w' ⟨rfl, hw⟩
            obtain rfl := hw.symm
            go_wp2_with fail
            refine (bag_in B7 (i := 0) (j := 3) rfl rfl).mono ?_
            rintro e w8 ⟨rfl, B8⟩
            clear B7
            rw [show decide (∀ n ∈ A, n ∈ (uni A B)) = true from decide_eq_true (fun n hn => mem_uni.2 (Or.inl hn))]
            go_wp2_with fail
            refine (bag_in B8 (i := 1) (j := 3) rfl rfl).mono ?_
            rintro e w9 ⟨rfl, B9⟩
            clear B8
            rw [show decide (∀ n ∈ B, n ∈ (uni A B)) = true from decide_eq_true (fun n hn => mem_uni.2 (Or.inr hn))]
            go_wp2_with fail
            refine (bag_in B9 (i := 0) (j := 2) rfl rfl).mono ?_
            rintro e w10 ⟨rfl, B10⟩
            clear B9
            rw [show decide (∀ n ∈ A, n ∈ C) = true from decide_eq_true hx.out]
            go_wp2_with fail
            refine (bag_in B10 (i := 1) (j := 2) rfl rfl).mono ?_
            rintro e w11 ⟨rfl, B11⟩
            clear B10
            rw [show decide (∀ n ∈ B, n ∈ C) = true from decide_eq_true hy.out]
            go_wp2_with fail
            refine (bag_in B11 (i := 3) (j := 2) rfl rfl).mono ?_
            rintro e w12 ⟨rfl, B12⟩
            clear B11
            rw [show decide (∀ n ∈ (uni A B), n ∈ C) = true from decide_eq_true (fun n hn => (mem_uni.1 hn).elim (hx.out n) (hy.out n))]
            go_wp2_with fail
            refine (bag_both B12 (i := 4) (j := 5) rfl rfl (Nat.le_trans (Nat.le_trans (less_len A B) hA) (by decide))).mono ?_
            rintro e w13 ⟨s6, rfl, B13⟩
            change Bag w w13 [(s0, A), (s1, B), (s2, C), (s3, (uni A B)), (s4, (less A B)), (s5, (both A B)), (s6, (both (less A B) (both A B)))] [] at B13
            clear B12
            go_wp2_with fail
            refine (bag_len B13 (i := 6) rfl).mono ?_
            rintro e w' ⟨rfl, hw⟩
            obtain rfl := hw.symm
            rw [both_less_both, List.length_nil]
            go_wp2_with fail
            refine (bag_len B13 (i := 4) rfl).mono ?_
            rintro e w' ⟨rfl, hw⟩
            obtain rfl := hw.symm
            go_wp2_with fail
            refine (bag_len B13 (i := 5) rfl).mono ?_
            rintro e w' ⟨rfl, hw⟩
            obtain rfl := hw.symm
            go_wp2_with fail
            refine (bag_len B13 (i := 0) rfl).mono ?_
            rintro e w' ⟨rfl, hw⟩
            obtain rfl := hw.symm
            go_wp2_with fail
            refine (bag_len B13 (i := 3) rfl).mono ?_
            rintro e w' ⟨rfl, hw⟩
            obtain rfl := hw.symm
            go_wp2_with fail
            refine (bag_len B13 (i := 5) rfl).mono ?_
            rintro e w' ⟨rfl, hw⟩
            obtain rfl := hw.symm
            go_wp2_with fail
            refine (bag_len B13 (i := 0) rfl).mono ?_
            rintro e w' ⟨rfl, hw⟩
            obtain rfl := hw.symm
            go_wp2_with fail
            refine (bag_len B13 (i := 1) rfl).mono ?_
            rintro e w' ⟨rfl, hw⟩
            obtain rfl := hw.symm
            go_wp2_with fail
            go_meet
            exact ⟨rfl, _, B13⟩
        · replace hy := Lib.hid hy
          as_aux_lemma =>
            go_wp2_with fail
            refine (bag_len B7 (i := 3) rfl).mono ?_
            rintro e w' ⟨rfl, hw⟩
            obtain rfl := hw.symm
            go_wp2_with fail
            refine (bag_len B7 (i := 0) rfl).mono ?_
            rintro e w' ⟨rfl, hw⟩
            obtain rfl := hw.symm
            go_wp2_with fail
            refine (bag_in B7 (i := 0) (j := 3) rfl rfl).mono ?_
            rintro e w8 ⟨rfl, B8⟩
            clear B7
            rw [show decide (∀ n ∈ A, n ∈ (uni A B)) = true from decide_eq_true (fun n hn => mem_uni.2 (Or.inl hn))]
            go_wp2_with fail
            refine (bag_in B8 (i := 1) (j := 3) rfl rfl).mono ?_
            rintro e w9 ⟨rfl, B9⟩
            clear B8
            rw [show decide (∀ n ∈ B, n ∈ (uni A B)) = true from decide_eq_true (fun n hn => mem_uni.2 (Or.inr hn))]
            go_wp2_with fail
            refine (bag_in B9 (i := 0) (j := 2) rfl rfl).mono ?_
            rintro e w10 ⟨rfl, B10⟩
            clear B9
            rw [show decide (∀ n ∈ A, n ∈ C) = true from decide_eq_true hx.out]
            go_wp2_with fail
            refine (bag_in B10 (i := 1) (j := 2) rfl rfl).mono ?_
            rintro e w11 ⟨rfl, B11⟩
            clear B10
            rw [show decide (∀ n ∈ B, n ∈ C) = false from decide_eq_false hy.out]
            go_wp2_with fail
            refine (bag_both B11 (i := 4) (j := 5) rfl rfl (Nat.le_trans (Nat.le_trans (less_len A B) hA) (by decide))).mono ?_
            rintro e w12 ⟨s6, rfl, B12⟩
            change Bag w w12 [(s0, A), (s1, B), (s2, C), (s3, (uni A B)), (s4, (less A B)), (s5, (both A B)), (s6, (both (less A B) (both A B)))] [] at B12
            clear B11
            go_wp2_with fail
            refine (bag_len B12 (i := 6) rfl).mono ?_
            rintro e w' ⟨rfl, hw⟩
            obtain rfl := hw.symm
            rw [both_less_both, List.length_nil]
            go_wp2_with fail
            refine (bag_len B12 (i := 4) rfl).mono ?_
            rintro e w' ⟨rfl, hw⟩
            obtain rfl := hw.symm
            go_wp2_with fail
            refine (bag_len B12 (i := 5) rfl).mono ?_
            rintro e w' ⟨rfl, hw⟩
            obtain rfl := hw.symm
            go_wp2_with fail
            refine (bag_len B12 (i := 0) rfl).mono ?_
            rintro e w' ⟨rfl, hw⟩
            obtain rfl := hw.symm
            go_wp2_with fail
            refine (bag_len B12 (i := 3) rfl).mono ?_
            rintro e w' ⟨rfl, hw⟩
            obtain rfl := hw.symm
            go_wp2_with fail
            refine (bag_len B12 (i := 5) rfl).mono ?_
            rintro e w' ⟨rfl, hw⟩
            obtain rfl := hw.symm
            go_wp2_with fail
            refine (bag_len B12 (i := 0) rfl).mono ?_
            rintro e w' ⟨rfl, hw⟩
            obtain rfl := hw.symm
            go_wp2_with fail
            refine (bag_len B12 (i := 1) rfl).mono ?_
            rintro e w' ⟨rfl, hw⟩
            obtain rfl := hw.symm
            go_wp2_with fail
            go_meet
            exact ⟨rfl, _, B12⟩
      · replace hx := Lib.hid hx
        as_aux_lemma =>
          go_wp2_with fail
          refine (bag_len B7 (i := 3) rfl).mono ?_
          rintro e w' ⟨rfl, hw⟩
          obtain rfl := hw.symm
          go_wp2_with fail
          refine (bag_len B7 (i := 0) rfl).mono ?_
          rintro e w' ⟨rfl, hw⟩
          obtain rfl := hw.symm
          go_wp2_with fail
          refine (bag_in B7 (i := 0) (j := 3) rfl rfl).mono ?_
          rintro e w8 ⟨rfl, B8⟩
          clear B7
          rw [show decide (∀ n ∈ A, n ∈ (uni A B)) = true from decide_eq_true (fun n hn => mem_uni.2 (Or.inl hn))]
          go_wp2_with fail
          refine (bag_in B8 (i := 1) (j := 3) rfl rfl).mono ?_
          rintro e w9 ⟨rfl, B9⟩
          clear B8
          rw [show decide (∀ n ∈ B, n ∈ (uni A B)) = true from decide_eq_true (fun n hn => mem_uni.2 (Or.inr hn))]
          go_wp2_with fail
          refine (bag_in B9 (i := 0) (j := 2) rfl rfl).mono ?_
          rintro e w10 ⟨rfl, B10⟩
          clear B9
          rw [show decide (∀ n ∈ A, n ∈ C) = false from decide_eq_false hx.out]
          go_wp2_with fail
          refine (bag_both B10 (i := 4) (j := 5) rfl rfl (Nat.le_trans (Nat.le_trans (less_len A B) hA) (by decide))).mono ?_
          rintro e w11 ⟨s6, rfl, B11⟩
          change Bag w w11 [(s0, A), (s1, B), (s2, C), (s3, (uni A B)), (s4, (less A B)), (s5, (both A B)), (s6, (both (less A B) (both A B)))] [] at B11
          clear B10
          go_wp2_with fail
          refine (bag_len B11 (i := 6) rfl).mono ?_
          rintro e w' ⟨rfl, hw⟩
          obtain rfl := hw.symm
          rw [both_less_both, List.length_nil]
          go_wp2_with fail
          refine (bag_len B11 (i := 4) rfl).mono ?_
          rintro e w' ⟨rfl, hw⟩
          obtain rfl := hw.symm
          go_wp2_with fail
          refine (bag_len B11 (i := 5) rfl).mono ?_
          rintro e w' ⟨rfl, hw⟩
          obtain rfl := hw.symm
          go_wp2_with fail
          refine (bag_len B11 (i := 0) rfl).mono ?_
          rintro e w' ⟨rfl, hw⟩
          obtain rfl := hw.symm
          go_wp2_with fail
          refine (bag_len B11 (i := 3) rfl).mono ?_
          rintro e w' ⟨rfl, hw⟩
          obtain rfl := hw.symm
          go_wp2_with fail
          refine (bag_len B11 (i := 5) rfl).mono ?_
          rintro e w' ⟨rfl, hw⟩
          obtain rfl := hw.symm
          go_wp2_with fail
          refine (bag_len B11 (i := 0) rfl).mono ?_
          rintro e w' ⟨rfl, hw⟩
          obtain rfl := hw.symm
          go_wp2_with fail
          refine (bag_len B11 (i := 1) rfl).mono ?_
          rintro e w' ⟨rfl, hw⟩
          obtain rfl := hw.symm
          go_wp2_with fail
          go_meet
          exact ⟨rfl, _, B11⟩
    case rest =>
      obtain ⟨rfl, s6, B20⟩ := hcut
      clear B7
      go_wp2_with fail
      refine (bag_copy B20 (i := 4) rfl (Nat.le_trans (Nat.le_trans (less_len A B) hA) (by decide))).mono ?_
      rintro e w21 ⟨s7, rfl, B21⟩
      change Bag w w21 [(s0, A), (s1, B), (s2, C), (s3, (uni A B)), (s4, (less A B)), (s5, (both A B)), (s6, both (less A B) (both A B)), (s7, (less A B))] [] at B21
      clear B20
      go_wp2_with fail
      refine (bag_union B21 (i := 7) (j := 5) rfl rfl (by decide) (Nat.le_trans (Nat.add_le_add (Nat.le_trans (less_len A B) hA) (Nat.le_trans (both_len A B) hA)) (by decide))).mono ?_
      rintro e w22 ⟨rfl, B22⟩
      change Bag w w22 [(s0, A), (s1, B), (s2, C), (s3, (uni A B)), (s4, (less A B)), (s5, (both A B)), (s6, both (less A B) (both A B)), (s7, (uni (less A B) (both A B)))] [] at B22
      clear B21
      go_upto_region 13 with fail
      go_cut [203] from 156 (fun r wx => r = .bool false ∧ Bag w wx [(s0, A), (s1, B), (s2, C), (s3, (uni A B)), (s4, (less A B)), (s5, (both A B)), (s6, both (less A B) (both A B)), (s7, (uni (less A B) (both A B)))] [])
      case first =>
        by_cases hxy : ∀ n ∈ A, n ∈ B
        · replace hxy := Lib.hid hxy
          by_cases hyx : ∀ n ∈ B, n ∈ A
          · replace hyx := Lib.hid hyx
            by_cases hyz : ∀ n ∈ B, n ∈ C
            · replace hyz := Lib.hid hyz
              as_aux_lemma =>
                go_wp2_with fail
                refine (bag_same B22 (i := 7) (j := 0) rfl rfl).mono ?_
                rintro e w23 ⟨rfl, B23⟩
                clear B22
                rw [show alike (uni (less A B) (both A B)) A = true from (alike_iff (B23.nodup (i := 7) rfl) (B23.nodup (i := 0) rfl)).2 (fun m => by by_cases h1 : m ∈ A <;> by_cases h2 : m ∈ B <;> simp [mem_uni, mem_less, mem_both, h1, h2])]
                go_wp2_with fail
                refine (bag_in B23 (i := 0) (j := 1) rfl rfl).mono ?_
                rintro e w24 ⟨rfl, B24⟩
                clear B23
                rw [show decide (∀ n ∈ A, n ∈ B) = true from decide_eq_true hxy.out]
                go_wp2_with fail
                refine (bag_len B24 (i := 4) rfl).mono ?_
                rintro e w' ⟨rfl, hw⟩
                obtain rfl := hw.symm
                rw [less_nil hxy.out, List.length_nil]
                go_wp2_with fail
                refine (bag_same B24 (i := 0) (j := 1) rfl rfl).mono ?_
                rintro e w25 ⟨rfl, B25⟩
                clear B24
                rw [show alike A B = true from alike_sub nA.out nB.out hxy.out hyx.out]
                go_wp2_with fail
                refine (bag_in B25 (i := 0) (j := 1) rfl rfl).mono ?_
                rintro e w26 ⟨rfl, B26⟩
                clear B25
                rw [show decide (∀ n ∈ A, n ∈ B) = true from decide_eq_true hxy.out]
                go_wp2_with fail
                refine (bag_in B26 (i := 1) (j := 0) rfl rfl).mono ?_
                rintro e w27 ⟨rfl, B27⟩
                clear B26
                rw [show decide (∀ n ∈ B, n ∈ A) = true from decide_eq_true hyx.out]
                go_wp2_with fail
                refine (bag_in B27 (i := 0) (j := 1) rfl rfl).mono ?_
                rintro e w28 ⟨rfl, B28⟩
                clear B27
                rw [show decide (∀ n ∈ A, n ∈ B) = true from decide_eq_true hxy.out]
                go_wp2_with fail
                refine (bag_in B28 (i := 1) (j := 2) rfl rfl).mono ?_
                rintro e w29 ⟨rfl, B29⟩
                clear B28
                rw [show decide (∀ n ∈ B, n ∈ C) = true from decide_eq_true hyz.out]
                go_wp2_with fail
                refine (bag_in B29 (i := 0) (j := 2) rfl rfl).mono ?_
                rintro e w30 ⟨rfl, B30⟩
                clear B29
                rw [show decide (∀ n ∈ A, n ∈ C) = true from decide_eq_true (fun n hn => hyz.out n (hxy.out n hn))]
                go_wp2_with fail
                go_meet
                exact ⟨rfl, B30⟩
            · replace hyz := Lib.hid hyz
              as_aux_lemma =>
                go_wp2_with fail
                refine (bag_same B22 (i := 7) (j := 0) rfl rfl).mono ?_
                rintro e w23 ⟨rfl, B23⟩
                clear B22
                rw [show alike (uni (less A B) (both A B)) A = true from (alike_iff (B23.nodup (i := 7) rfl) (B23.nodup (i := 0) rfl)).2 (fun m => by by_cases h1 : m ∈ A <;> by_cases h2 : m ∈ B <;> simp [mem_uni, mem_less, mem_both, h1, h2])]
                go_wp2_with fail
                refine (bag_in B23 (i := 0) (j := 1) rfl rfl).mono ?_
                rintro e w24 ⟨rfl, B24⟩
                clear B23
                rw [show decide (∀ n ∈ A, n ∈ B) = true from decide_eq_true hxy.out]
                go_wp2_with fail
                refine (bag_len B24 (i := 4) rfl).mono ?_
                rintro e w' ⟨rfl, hw⟩
                obtain rfl := hw.symm
                rw [less_nil hxy.out, List.length_nil]
                go_wp2_with fail
                refine (bag_same B24 (i := 0) (j := 1) rfl rfl).mono ?_
                rintro e w25 ⟨rfl, B25⟩
                clear B24
                rw [show alike A B = true from alike_sub nA.out nB.out hxy.out hyx.out]
                go_wp2_with fail
                refine (bag_in B25 (i := 0) (j := 1) rfl rfl).mono ?_
                rintro e w26 ⟨rfl, B26⟩
                clear B25
                rw [show decide (∀ n ∈ A, n ∈ B) = true from decide_eq_true hxy.out]
                go_wp2_with fail
                refine (bag_in B26 (i := 1) (j := 0) rfl rfl).mono ?_
                rintro e w27 ⟨rfl, B27⟩
                clear B26
                rw [show decide (∀ n ∈ B, n ∈ A) = true from decide_eq_true hyx.out]
                go_wp2_with fail
                refine (bag_in B27 (i := 0) (j := 1) rfl rfl).mono ?_
                rintro e w28 ⟨rfl, B28⟩
                clear B27
                rw [show decide (∀ n ∈ A, n ∈ B) = true from decide_eq_true hxy.out]
                go_wp2_with fail
                refine (bag_in B28 (i := 1) (j := 2) rfl rfl).mono ?_
                rintro e w29 ⟨rfl, B29⟩
                clear B28
                rw [show decide (∀ n ∈ B, n ∈ C) = false from decide_eq_false hyz.out]
                go_wp2_with fail
                go_meet
                exact ⟨rfl, B29⟩
          · replace hyx := Lib.hid hyx
            by_cases hyz : ∀ n ∈ B, n ∈ C
            · replace hyz := Lib.hid hyz
              as_aux_lemma =>
                go_wp2_with fail
                refine (bag_same B22 (i := 7) (j := 0) rfl rfl).mono ?_
                rintro e w23 ⟨rfl, B23⟩
                clear B22
                rw [show alike (uni (less A B) (both A B)) A = true from (alike_iff (B23.nodup (i := 7) rfl) (B23.nodup (i := 0) rfl)).2 (fun m => by by_cases h1 : m ∈ A <;> by_cases h2 : m ∈ B <;> simp [mem_uni, mem_less, mem_both, h1, h2])]
                go_wp2_with fail
                refine (bag_in B23 (i := 0) (j := 1) rfl rfl).mono ?_
                rintro e w24 ⟨rfl, B24⟩
                clear B23
                rw [show decide (∀ n ∈ A, n ∈ B) = true from decide_eq_true hxy.out]
                go_wp2_with fail
                refine (bag_len B24 (i := 4) rfl).mono ?_
                rintro e w' ⟨rfl, hw⟩
                obtain rfl := hw.symm
                rw [less_nil hxy.out, List.length_nil]
                go_wp2_with fail
                refine (bag_same B24 (i := 0) (j := 1) rfl rfl).mono ?_
                rintro e w25 ⟨rfl, B25⟩
                clear B24
                rw [show alike A B = false from alike_not nA.out nB.out (fun h => hyx.out h.2)]
                go_wp2_with fail
                refine (bag_in B25 (i := 0) (j := 1) rfl rfl).mono ?_
                rintro e w26 ⟨rfl, B26⟩
                clear B25
                rw [show decide (∀ n ∈ A, n ∈ B) = true from decide_eq_true hxy.out]
                go_wp2_with fail
                refine (bag_in B26 (i := 1) (j := 0) rfl rfl).mono ?_
                rintro e w27 ⟨rfl, B27⟩
                clear B26
                rw [show decide (∀ n ∈ B, n ∈ A) = false from decide_eq_false hyx.out]
                go_wp2_with fail
                refine (bag_in B27 (i := 0) (j := 1) rfl rfl).mono ?_
                rintro e w28 ⟨rfl, B28⟩
                clear B27
                rw [show decide (∀ n ∈ A, n ∈ B) = true from decide_eq_true hxy.out]
                go_wp2_with fail
                refine (bag_in B28 (i := 1) (j := 2) rfl rfl).mono ?_
                rintro e w29 ⟨rfl, B29⟩
                clear B28
                rw [show decide (∀ n ∈ B, n ∈ C) = true from decide_eq_true hyz.out]
                go_wp2_with fail
                refine (bag_in B29 (i := 0) (j := 2) rfl rfl).mono ?_
                rintro e w30 ⟨rfl, B30⟩
                clear B29
                rw [show decide (∀ n ∈ A, n ∈ C) = true from decide_eq_true (fun n hn => hyz.out n (hxy.out n hn))]
                go_wp2_with fail
                go_meet
                exact ⟨rfl, B30⟩
            · replace hyz := Lib.hid hyz
              as_aux_lemma =>
                go_wp2_with fail
                refine (bag_same B22 (i := 7) (j := 0) rfl rfl).mono ?_
                rintro e w23 ⟨rfl, B23⟩
                clear B22
                rw [show alike (uni (less A B) (both A B)) A = true from (alike_iff (B23.nodup (i := 7) rfl) (B23.nodup (i := 0) rfl)).2 (fun m => by by_cases h1 : m ∈ A <;> by_cases h2 : m ∈ B <;> simp [mem_uni, mem_less, mem_both, h1, h2])]
                go_wp2_with fail
                refine (bag_in B23 (i := 0) (j := 1) rfl rfl).mono ?_
                rintro e w24 ⟨rfl, B24⟩
                clear B23
                rw [show decide (∀ n ∈ A, n ∈ B) = true from decide_eq_true hxy.out]
                go_wp2_with fail
                refine (bag_len B24 (i := 4) rfl).mono ?_
                rintro e w' ⟨rfl, hw⟩
                obtain rfl := hw.symm
                rw [less_nil hxy.out, List.length_nil]
                go_wp2_with fail
                refine (bag_same B24 (i := 0) (j := 1) rfl rfl).mono ?_
                rintro e w25 ⟨rfl, B25⟩
                clear B24
                rw [show alike A B = false from alike_not nA.out nB.out (fun h => hyx.out h.2)]
                go_wp2_with fail
                refine (bag_in B25 (i := 0) (j := 1) rfl rfl).mono ?_
                rintro e w26 ⟨rfl, B26⟩
                clear B25
                rw [show decide (∀ n ∈ A, n ∈ B) = true from decide_eq_true hxy.out]
                go_wp2_with fail
                refine (bag_in B26 (i := 1) (j := 0) rfl rfl).mono ?_
                rintro e w27 ⟨rfl, B27⟩
                clear B26
                rw [show decide (∀ n ∈ B, n ∈ A) = false from decide_eq_false hyx.out]
                go_wp2_with fail
                refine (bag_in B27 (i := 0) (j := 1) rfl rfl).mono ?_
                rintro e w28 ⟨rfl, B28⟩
                clear B27
                rw [show decide (∀ n ∈ A, n ∈ B) = true from decide_eq_true hxy.out]
                go_wp2_with fail
                refine (bag_in B28 (i := 1) (j := 2) rfl rfl).mono ?_
                rintro e w29 ⟨rfl, B29⟩
                clear B28
                rw [show decide (∀ n ∈ B, n ∈ C) = false from decide_eq_false hyz.out]
                go_wp2_with fail
                go_meet
                exact ⟨rfl, B29⟩
        · have hmp : (((less A B).length : Int) == 0) = false := by have := less_pos hxy; exact beq_eq_false_iff_ne.2 (by omega)
          have hmp2 : (less A B).length ≠ 0 := by have := less_pos hxy; omega
          replace hxy := Lib.hid hxy
          as_aux_lemma =>
            go_wp2_with fail
            refine (bag_same B22 (i := 7) (j := 0) rfl rfl).mono ?_
            rintro e w23 ⟨rfl, B23⟩
            clear B22
            rw [show alike (uni (less A B) (both A B)) A = true from (alike_iff (B23.nodup (i := 7) rfl) (B23.nodup (i := 0) rfl)).2 (fun m => by by_cases h1 : m ∈ A <;> by_cases h2 : m ∈ B <;> simp [mem_uni, mem_less, mem_both, h1, h2])]
            go_wp2_with fail
            refine (bag_in B23 (i := 0) (j := 1) rfl rfl).mono ?_
            rintro e w24 ⟨rfl, B24⟩
            clear B23
            rw [show decide (∀ n ∈ A, n ∈ B) = false from decide_eq_false hxy.out]
            go_wp2_with fail
            refine (bag_len B24 (i := 4) rfl).mono ?_
            rintro e w' ⟨rfl, hw⟩
            obtain rfl := hw.symm
            go_wp2_with fail
            refine (bag_same B24 (i := 0) (j := 1) rfl rfl).mono ?_
            rintro e w25 ⟨rfl, B25⟩
            clear B24
            rw [show alike A B = false from alike_not nA.out nB.out (fun h => hxy.out h.1)]
            go_wp2_with fail
            refine (bag_in B25 (i := 0) (j := 1) rfl rfl).mono ?_
            rintro e w26 ⟨rfl, B26⟩
            clear B25
            rw [show decide (∀ n ∈ A, n ∈ B) = false from decide_eq_false hxy.out]
            go_wp2_with fail
            refine (bag_in B26 (i := 0) (j := 1) rfl rfl).mono ?_
            rintro e w27 ⟨rfl, B27⟩
            clear B26
            rw [show decide (∀ n ∈ A, n ∈ B) = false from decide_eq_false hxy.out]
            go_wp2_with fail
            go_meet
            exact ⟨rfl, B27⟩
      case rest =>
        obtain ⟨rfl, B40⟩ := hcut
        clear B22 hg
        as_aux_lemma =>
          go_wp2_with fail
          have hU : (uni A B).length ≤ 2000 := by have := uni_len A B; omega
          refine (bag_list B40 G (i := 3) rfl (by omega)).mono ?_
          rintro e w41 ⟨v, rs, rfl, r1, r2, hown, -, B41⟩
          obtain ⟨va, vc, rfl⟩ := own_form hown
          have nU := nodup_uni nA.out nB.out
          have hlen : rs.length = (uni A B).length := nodup_len_eq (r1.imp (fun h => Nat.ne_of_lt h)) nU r2
          have hsm := B41.small (i := 3) rfl
          have hrl : rs.length ≤ 2000 := by omega
          change Bag w w41 [(s0, A), (s1, B), (s2, C), (s3, (uni A B)), (s4, (less A B)), (s5, (both A B)), (s6, both (less A B) (both A B)), (s7, (uni (less A B) (both A B)))] [(.slice va rs.length vc, ints rs)] at B41
          replace hlen := Lib.hid hlen
          replace r1 := Lib.hid r1
          replace r2 := Lib.hid r2
          replace hsm := Lib.hid hsm
          clear B40 hown nU
          go_wp2_with fail
          go_loopw [8, 18] (fun _ u wr => ∃ j n : Nat, j ≤ rs.length ∧ u = .int .i64 j ∧ wr = w41.drewN n)
            (fun _ u _ => rs.length - (intOf u).toNat)
          case atStart => exact ⟨0, 0, Nat.zero_le _, rfl, rfl⟩
          case round =>
            obtain ⟨j, n, hj, rfl, hwr⟩ := hrel
            have BW := B41.drawn n
            rw [← hwr] at BW
            replace hwr := Lib.hid hwr
            clear B41
            by_cases hlt : j < rs.length
            · obtain ⟨k, hk⟩ : ∃ k, rs[j]? = some k := ⟨_, List.getElem?_eq_getElem hlt⟩
              have hk63 := hsm.out k ((r2.out k).1 (List.mem_of_getElem? hk))
              have hki : (ints rs)[j]? = some (k : Int) := by simp [ints, hk]
              obtain ⟨b, off, cap, e, hq⟩ := RdI.open ((BW.rows _ _ (List.Mem.head _)).1) (by simp [ints]; omega)
              have e0 : (ints rs).length = rs.length := by simp [ints]
              rw [e0] at e
              simp only [Value.slice.injEq] at e
              obtain ⟨rfl, -, rfl⟩ := e
              have c1 := row_cell ((BW.rows _ _ (List.Mem.head _)).1) hki
              have hin : decide (0 ≤ (k : Int) ∧ (k : Int).toNat ∈ uni A B) = true := decide_eq_true ⟨by omega, (r2.out k).1 (List.mem_of_getElem? hk)⟩
              have hH : ∀ n' : Nat, Calls Tryd.prog 28 #[ptr s3, .int .i64 (k : Int)] (wr.drewN n') fun e w'' => e = .returned (.bool true) ∧ ∃ m, w'' = wr.drewN m := fun n' => by
                have h := bag_has (BW.drawn n') (i := 3) rfl (x := (k : Int)) (by omega)
                rw [hin] at h
                exact h.mono fun _ _ ⟨a, b⟩ => ⟨a, n', b⟩
              replace hH := Lib.hid hH
              have hneg : decide ((k : Int) < 0) = false := by simp
              have hin2 := Lib.hid hin
              clear hin hq e0
              by_cases hj0 : j = 0
              · subst hj0
                have hlt0 : 0 < rs.length := hlt
                rw [Nat.add_zero] at c1
                clear hki hk
                go_wp2_with fail
                go_quiet (with_reducible exact hH.out _)
                go_wp2_with fail
                go_roundw
                case rel => exact ⟨1, n + nq, by omega, by go_num, by rw [hwr.out, World.drewN_drewN]⟩
                case measure => simp [intOf]; omega
              · obtain ⟨k', hk'⟩ : ∃ k', rs[j - 1]? = some k' := ⟨_, List.getElem?_eq_getElem (by omega)⟩
                have hki' : (ints rs)[j - 1]? = some (k' : Int) := by simp [ints, hk']
                have c2 := row_cell ((BW.rows _ _ (List.Mem.head _)).1) hki'
                have hlt2 : k' < k := by
                  obtain ⟨u1, e1⟩ := List.getElem?_eq_some_iff.1 hk'
                  obtain ⟨u2, e2⟩ := List.getElem?_eq_some_iff.1 hk
                  rw [← e1, ← e2]
                  exact (List.pairwise_iff_getElem.1 r1.out) _ _ _ _ (by omega)
                have hge : decide ((k' : Int) ≥ (k : Int)) = false := by simp; omega
                have hge2 : decide (k ≤ k') = false := decide_eq_false (by omega)
                have hj2 : (j : Int) - 1 = ((j - 1 : Nat) : Int) := by omega
                have hjp : decide ((j : Int) > 0) = true := by simp; omega
                have hjp2 : decide (0 < j) = true := decide_eq_true (by omega)
                have hjp3 : 0 < j := by omega
                have hj1 : wrap64 ((j : Int) - 1) = ((j - 1 : Nat) : Int) := by unfold wrap64; omega
                have hjb : j - 1 < rs.length := by omega
                clear hki hk hki' hk'
                go_wp2_with fail
                go_quiet (with_reducible exact hH.out _)
                go_wp2_with fail
                go_roundw
                case rel => exact ⟨j + 1, n + nq, by omega, by go_num, by rw [hwr.out, World.drewN_drewN]⟩
                case measure => simp [intOf]; omega
            · have : j = rs.length := by omega
              subst this
              have hv := (BW.rows _ _ (List.Mem.head _)).1
              have h63 : ∀ x ∈ ints rs, x < 9223372036854775808 := fun x hx => by
                unfold ints at hx
                obtain ⟨n, hn, rfl⟩ := List.mem_map.1 hx
                have := hsm.out n ((r2.out n).1 hn)
                omega
              go_wp2_with fail
              refine (bag_len BW (i := 3) rfl).mono ?_
              rintro e w' ⟨rfl, hw⟩
              obtain rfl := hw.symm
              rw [← hlen.out]
              go_wp2_with fail
              refine (bag_of BW hv h63 (by rw [ints_len]; omega)).mono ?_
              rintro e w50 ⟨s8, rfl, B50⟩
              change Bag w w50 ([(s0, A), (s1, B), (s2, C), (s3, (uni A B)), (s4, (less A B)), (s5, (both A B)), (s6, both (less A B) (both A B)), (s7, (uni (less A B) (both A B)))] ++ [(s8, numsOf (ints rs))]) _ at B50
              clear hv h63
              go_wp2_with fail
              refine (bag_same B50 (i := 8) (j := 3) rfl rfl).mono ?_
              rintro e w51 ⟨rfl, B51⟩
              clear B50
              rw [show alike (numsOf (ints rs)) (uni A B) = true from (alike_iff (B51.nodup (i := 8) rfl) (B51.nodup (i := 3) rfl)).2 (fun m => by rw [numsOf_ints]; exact r2.out m)]
              go_wp2_with fail
              refine (wakes_any (B51.gl G)).mono ?_
              rintro e w99 ⟨rfl, hb99⟩
              have hold := B51.old.trans (hb99.mono B51.old.size)
              clear B51 hb99
              go_wp2_with fail
              go_ret
              exact ⟨rfl, hold⟩
end
end Go.Proofs.YtdpbbgfceagofaaDoor
