/- BitsAlgebra: the walk. -/
import Derived.Test.YtdpbbgfceagofaaDoorPlace
namespace Go.Proofs.YtdpbbgfceagofaaDoor
open Go.RowKit Go.Maps

section
variable {w : World} {sa sb sc : Value} {xa xb xc : List Int}

theorem algebra_great (G : Gl w) (ha : RdI w sa xa) (hb : RdI w sb xb) (hc : RdI w sc xc) (hn : 1000 < xa.length ∨ 1000 < xb.length ∨ 1000 < xc.length) : Calls Tryd.prog 7 #[sa, sb, sc] w fun e w' => e = .returned (.bool true) ∧ Below w.heap.size w w' := by
  obtain ⟨a, c, rfl⟩ := ha.form
  obtain ⟨a', c', rfl⟩ := hb.form
  obtain ⟨a'', c'', rfl⟩ := hc.form
  rw [List.length_map, List.length_map, List.length_map]
  have hw := Lib.hid (wakes_any G)
  clear ha hb hc
  rcases hd : decide ((xa.length : Int) > 1000) with _ | _
  · rcases hd2 : decide ((xb.length : Int) > 1000) with _ | _
    · have hd3 : decide ((xc.length : Int) > 1000) = true := by simp at hd hd2 ⊢; omega
      go_enter Tryd.func7, Tryd.ntmps7
      go_wp2_with (go_at_call 10; refine hw.out.mono ?_; rintro e w' ⟨rfl, hb⟩)
      go_ret
      exact ⟨rfl, hb⟩
    · go_enter Tryd.func7, Tryd.ntmps7
      go_wp2_with (go_at_call 10; refine hw.out.mono ?_; rintro e w' ⟨rfl, hb⟩)
      go_ret
      exact ⟨rfl, hb⟩
  · go_enter Tryd.func7, Tryd.ntmps7
    go_wp2_with (go_at_call 10; refine hw.out.mono ?_; rintro e w' ⟨rfl, hb⟩)
    go_ret
    exact ⟨rfl, hb⟩

set_option maxHeartbeats 4000000 in
theorem algebra_any (G : Gl w) (ha : RdI w sa xa) (hb : RdI w sb xb) (hc : RdI w sc xc) (xa63 : Small xa) (xb63 : Small xb) (xc63 : Small xc) (na : xa.length ≤ 1000) (nb : xb.length ≤ 1000) (nc : xc.length ≤ 1000) : Calls Tryd.prog 7 #[sa, sb, sc] w fun e w' => e = .returned (.bool true) ∧ Below w.heap.size w w' := by
  obtain ⟨a, c, rfl⟩ := ha.form
  obtain ⟨a', c', rfl⟩ := hb.form
  obtain ⟨a'', c'', rfl⟩ := hc.form
  rw [List.length_map] at ha hb hc ⊢
  rw [List.length_map, List.length_map]
  have hd : decide ((xa.length : Int) > 1000) = false := by simp; omega
  have hd2 : decide ((xb.length : Int) > 1000) = false := by simp; omega
  have hd3 : decide ((xc.length : Int) > 1000) = false := by simp; omega
  have B0 := Bag.init w
  have ya : ∀ x ∈ xa, x < 9223372036854775808 := fun x h => (xa63 x h).2
  have yb : ∀ x ∈ xb, x < 9223372036854775808 := fun x h => (xb63 x h).2
  have yc : ∀ x ∈ xc, x < 9223372036854775808 := fun x h => (xc63 x h).2
  clear xa63 xb63 xc63
  go_enter Tryd.func7, Tryd.ntmps7
  go_wp2_with fail
  refine (bag_of B0 ha ya (by omega)).mono ?_
  rintro e w1 ⟨s0, rfl, B1⟩
  go_wp2_with fail
  refine (bag_of B1 (hb.below B1.old) yb (by omega)).mono ?_
  rintro e w2 ⟨s1, rfl, B2⟩
  go_wp2_with fail
  refine (bag_of B2 (hc.below B2.old) yc (by omega)).mono ?_
  rintro e w3 ⟨s2, rfl, B3⟩
  have hA : (numsOf xa).length ≤ 1000 := Nat.le_trans (numsOf_len xa) na
  have hB : (numsOf xb).length ≤ 1000 := Nat.le_trans (numsOf_len xb) nb
  have hC : (numsOf xc).length ≤ 1000 := Nat.le_trans (numsOf_len xc) nc
  change Bag w w3 [(s0, numsOf xa), (s1, numsOf xb), (s2, numsOf xc)] [] at B3
  generalize numsOf xa = A at B3 hA
  generalize numsOf xb = B at B3 hB
  generalize numsOf xc = C at B3 hC
  clear B0 B1 B2 ha hb hc ya yb yc
  go_wp2_with fail
  refine (bag_copy B3 (i := 0) rfl (Nat.le_trans hA (by decide))).mono ?_
  rintro e w4 ⟨s3, rfl, B4⟩
  change Bag w w4 [(s0, A), (s1, B), (s2, C), (s3, A)] [] at B4
  clear B3
  go_wp2_with fail
  refine (bag_union B4 (i := 3) (j := 1) rfl rfl (by decide) (Nat.le_trans (Nat.add_le_add hA hB) (by decide))).mono ?_
  rintro e w5 ⟨rfl, B5⟩
  change Bag w w5 [(s0, A), (s1, B), (s2, C), (s3, (uni A B))] [] at B5
  clear B4
  go_wp2_with fail
  refine (bag_minus B5 (i := 0) (j := 2) rfl rfl (Nat.le_trans hA (by decide))).mono ?_
  rintro e w6 ⟨s4, rfl, B6⟩
  change Bag w w6 [(s0, A), (s1, B), (s2, C), (s3, (uni A B)), (s4, (less A C))] [] at B6
  clear B5
  go_wp2_with fail
  refine (bag_minus B6 (i := 1) (j := 2) rfl rfl (Nat.le_trans hB (by decide))).mono ?_
  rintro e w7 ⟨s5, rfl, B7⟩
  change Bag w w7 [(s0, A), (s1, B), (s2, C), (s3, (uni A B)), (s4, (less A C)), (s5, (less B C))] [] at B7
  clear B6
  go_wp2_with fail
  refine (bag_union B7 (i := 4) (j := 5) rfl rfl (by decide) (Nat.le_trans (Nat.add_le_add (Nat.le_trans (less_len A C) hA) (Nat.le_trans (less_len B C) hB)) (by decide))).mono ?_
  rintro e w8 ⟨rfl, B8⟩
  change Bag w w8 [(s0, A), (s1, B), (s2, C), (s3, (uni A B)), (s4, (uni (less A C) (less B C))), (s5, (less B C))] [] at B8
  clear B7
  go_wp2_with fail
  refine (bag_both B8 (i := 0) (j := 2) rfl rfl (Nat.le_trans hA (by decide))).mono ?_
  rintro e w9 ⟨s6, rfl, B9⟩
  change Bag w w9 [(s0, A), (s1, B), (s2, C), (s3, (uni A B)), (s4, (uni (less A C) (less B C))), (s5, (less B C)), (s6, (both A C))] [] at B9
  clear B8
  go_wp2_with fail
  refine (bag_both B9 (i := 1) (j := 2) rfl rfl (Nat.le_trans hB (by decide))).mono ?_
  rintro e w10 ⟨s7, rfl, B10⟩
  change Bag w w10 [(s0, A), (s1, B), (s2, C), (s3, (uni A B)), (s4, (uni (less A C) (less B C))), (s5, (less B C)), (s6, (both A C)), (s7, (both B C))] [] at B10
  clear B9
  go_wp2_with fail
  refine (bag_union B10 (i := 6) (j := 7) rfl rfl (by decide) (Nat.le_trans (Nat.add_le_add (Nat.le_trans (both_len A C) hA) (Nat.le_trans (both_len B C) hB)) (by decide))).mono ?_
  rintro e w11 ⟨rfl, B11⟩
  change Bag w w11 [(s0, A), (s1, B), (s2, C), (s3, (uni A B)), (s4, (uni (less A C) (less B C))), (s5, (less B C)), (s6, (uni (both A C) (both B C))), (s7, (both B C))] [] at B11
  clear B10
  go_wp2_with fail
  refine (bag_copy B11 (i := 1) rfl (Nat.le_trans hB (by decide))).mono ?_
  rintro e w12 ⟨s8, rfl, B12⟩
  change Bag w w12 [(s0, A), (s1, B), (s2, C), (s3, (uni A B)), (s4, (uni (less A C) (less B C))), (s5, (less B C)), (s6, (uni (both A C) (both B C))), (s7, (both B C)), (s8, B)] [] at B12
  clear B11
  go_wp2_with fail
  refine (bag_union B12 (i := 8) (j := 2) rfl rfl (by decide) (Nat.le_trans (Nat.add_le_add hB hC) (by decide))).mono ?_
  rintro e w13 ⟨rfl, B13⟩
  change Bag w w13 [(s0, A), (s1, B), (s2, C), (s3, (uni A B)), (s4, (uni (less A C) (less B C))), (s5, (less B C)), (s6, (uni (both A C) (both B C))), (s7, (both B C)), (s8, (uni B C))] [] at B13
  clear B12
  go_wp2_with fail
  refine (bag_minus B13 (i := 3) (j := 2) rfl rfl (Nat.le_trans (Nat.le_trans (uni_len A B) (Nat.add_le_add hA hB)) (by decide))).mono ?_
  rintro e w14 ⟨s9, rfl, B14⟩
  change Bag w w14 [(s0, A), (s1, B), (s2, C), (s3, (uni A B)), (s4, (uni (less A C) (less B C))), (s5, (less B C)), (s6, (uni (both A C) (both B C))), (s7, (both B C)), (s8, (uni B C)), (s9, (less (uni A B) C))] [] at B14
  clear B13
  go_wp2_with fail
  refine (bag_same B14 (i := 9) (j := 4) rfl rfl).mono ?_
  rintro e w15 ⟨rfl, B15⟩
  clear B14
  rw [show alike (less (uni A B) C) (uni (less A C) (less B C)) = true from (alike_iff (B15.nodup (i := 9) rfl) (B15.nodup (i := 4) rfl)).2 (fun m => by by_cases h1 : m ∈ A <;> by_cases h2 : m ∈ B <;> by_cases h3 : m ∈ C <;> simp [mem_uni, mem_less, mem_both, h1, h2, h3])]
  go_wp2_with fail
  refine (bag_both B15 (i := 3) (j := 2) rfl rfl (Nat.le_trans (Nat.le_trans (uni_len A B) (Nat.add_le_add hA hB)) (by decide))).mono ?_
  rintro e w16 ⟨s10, rfl, B16⟩
  change Bag w w16 [(s0, A), (s1, B), (s2, C), (s3, (uni A B)), (s4, (uni (less A C) (less B C))), (s5, (less B C)), (s6, (uni (both A C) (both B C))), (s7, (both B C)), (s8, (uni B C)), (s9, (less (uni A B) C)), (s10, (both (uni A B) C))] [] at B16
  clear B15
  go_wp2_with fail
  refine (bag_same B16 (i := 10) (j := 6) rfl rfl).mono ?_
  rintro e w17 ⟨rfl, B17⟩
  clear B16
  rw [show alike (both (uni A B) C) (uni (both A C) (both B C)) = true from (alike_iff (B17.nodup (i := 10) rfl) (B17.nodup (i := 6) rfl)).2 (fun m => by by_cases h1 : m ∈ A <;> by_cases h2 : m ∈ B <;> by_cases h3 : m ∈ C <;> simp [mem_uni, mem_less, mem_both, h1, h2, h3])]
  go_wp2_with fail
  refine (bag_minus B17 (i := 0) (j := 1) rfl rfl (Nat.le_trans hA (by decide))).mono ?_
  rintro e w18 ⟨s11, rfl, B18⟩
  change Bag w w18 [(s0, A), (s1, B), (s2, C), (s3, (uni A B)), (s4, (uni (less A C) (less B C))), (s5, (less B C)), (s6, (uni (both A C) (both B C))), (s7, (both B C)), (s8, (uni B C)), (s9, (less (uni A B) C)), (s10, (both (uni A B) C)), (s11, (less A B))] [] at B18
  clear B17
  go_wp2_with fail
  refine (bag_minus B18 (i := 11) (j := 2) rfl rfl (Nat.le_trans (Nat.le_trans (less_len A B) hA) (by decide))).mono ?_
  rintro e w19 ⟨s12, rfl, B19⟩
  change Bag w w19 [(s0, A), (s1, B), (s2, C), (s3, (uni A B)), (s4, (uni (less A C) (less B C))), (s5, (less B C)), (s6, (uni (both A C) (both B C))), (s7, (both B C)), (s8, (uni B C)), (s9, (less (uni A B) C)), (s10, (both (uni A B) C)), (s11, (less A B)), (s12, (less (less A B) C))] [] at B19
  clear B18
  go_wp2_with fail
  refine (bag_minus B19 (i := 0) (j := 8) rfl rfl (Nat.le_trans hA (by decide))).mono ?_
  rintro e w20 ⟨s13, rfl, B20⟩
  change Bag w w20 [(s0, A), (s1, B), (s2, C), (s3, (uni A B)), (s4, (uni (less A C) (less B C))), (s5, (less B C)), (s6, (uni (both A C) (both B C))), (s7, (both B C)), (s8, (uni B C)), (s9, (less (uni A B) C)), (s10, (both (uni A B) C)), (s11, (less A B)), (s12, (less (less A B) C)), (s13, (less A (uni B C)))] [] at B20
  clear B19
  go_wp2_with fail
  refine (bag_same B20 (i := 12) (j := 13) rfl rfl).mono ?_
  rintro e w21 ⟨rfl, B21⟩
  clear B20
  rw [show alike (less (less A B) C) (less A (uni B C)) = true from (alike_iff (B21.nodup (i := 12) rfl) (B21.nodup (i := 13) rfl)).2 (fun m => by by_cases h1 : m ∈ A <;> by_cases h2 : m ∈ B <;> by_cases h3 : m ∈ C <;> simp [mem_uni, mem_less, mem_both, h1, h2, h3])]
  go_wp2_with fail
  refine (bag_minus B21 (i := 0) (j := 1) rfl rfl (Nat.le_trans hA (by decide))).mono ?_
  rintro e w22 ⟨s14, rfl, B22⟩
  change Bag w w22 [(s0, A), (s1, B), (s2, C), (s3, (uni A B)), (s4, (uni (less A C) (less B C))), (s5, (less B C)), (s6, (uni (both A C) (both B C))), (s7, (both B C)), (s8, (uni B C)), (s9, (less (uni A B) C)), (s10, (both (uni A B) C)), (s11, (less A B)), (s12, (less (less A B) C)), (s13, (less A (uni B C))), (s14, (less A B))] [] at B22
  clear B21
  go_wp2_with fail
  refine (bag_minus B22 (i := 0) (j := 14) rfl rfl (Nat.le_trans hA (by decide))).mono ?_
  rintro e w23 ⟨s15, rfl, B23⟩
  change Bag w w23 [(s0, A), (s1, B), (s2, C), (s3, (uni A B)), (s4, (uni (less A C) (less B C))), (s5, (less B C)), (s6, (uni (both A C) (both B C))), (s7, (both B C)), (s8, (uni B C)), (s9, (less (uni A B) C)), (s10, (both (uni A B) C)), (s11, (less A B)), (s12, (less (less A B) C)), (s13, (less A (uni B C))), (s14, (less A B)), (s15, (less A (less A B)))] [] at B23
  clear B22
  go_wp2_with fail
  refine (bag_both B23 (i := 0) (j := 1) rfl rfl (Nat.le_trans hA (by decide))).mono ?_
  rintro e w24 ⟨s16, rfl, B24⟩
  change Bag w w24 [(s0, A), (s1, B), (s2, C), (s3, (uni A B)), (s4, (uni (less A C) (less B C))), (s5, (less B C)), (s6, (uni (both A C) (both B C))), (s7, (both B C)), (s8, (uni B C)), (s9, (less (uni A B) C)), (s10, (both (uni A B) C)), (s11, (less A B)), (s12, (less (less A B) C)), (s13, (less A (uni B C))), (s14, (less A B)), (s15, (less A (less A B))), (s16, (both A B))] [] at B24
  clear B23
  go_wp2_with fail
  refine (bag_same B24 (i := 15) (j := 16) rfl rfl).mono ?_
  rintro e w25 ⟨rfl, B25⟩
  clear B24
  rw [show alike (less A (less A B)) (both A B) = true from (alike_iff (B25.nodup (i := 15) rfl) (B25.nodup (i := 16) rfl)).2 (fun m => by by_cases h1 : m ∈ A <;> by_cases h2 : m ∈ B <;> by_cases h3 : m ∈ C <;> simp [mem_uni, mem_less, mem_both, h1, h2, h3])]
  go_wp2_with fail
  refine (bag_minus B25 (i := 0) (j := 0) rfl rfl (Nat.le_trans hA (by decide))).mono ?_
  rintro e w26 ⟨s17, rfl, B26⟩
  change Bag w w26 [(s0, A), (s1, B), (s2, C), (s3, (uni A B)), (s4, (uni (less A C) (less B C))), (s5, (less B C)), (s6, (uni (both A C) (both B C))), (s7, (both B C)), (s8, (uni B C)), (s9, (less (uni A B) C)), (s10, (both (uni A B) C)), (s11, (less A B)), (s12, (less (less A B) C)), (s13, (less A (uni B C))), (s14, (less A B)), (s15, (less A (less A B))), (s16, (both A B)), (s17, (less A A))] [] at B26
  clear B25
  go_wp2_with fail
  refine (bag_len B26 (i := 17) rfl).mono ?_
  rintro e w' ⟨rfl, hw⟩
  obtain rfl := hw.symm
  rw [show (less A A).length = 0 from by rw [List.length_eq_zero_iff, List.eq_nil_iff_forall_not_mem]; intro m hm; exact (mem_less.1 hm).2 (mem_less.1 hm).1]
  go_wp2_with fail
  refine (bag_both B26 (i := 0) (j := 0) rfl rfl (Nat.le_trans hA (by decide))).mono ?_
  rintro e w27 ⟨s18, rfl, B27⟩
  change Bag w w27 [(s0, A), (s1, B), (s2, C), (s3, (uni A B)), (s4, (uni (less A C) (less B C))), (s5, (less B C)), (s6, (uni (both A C) (both B C))), (s7, (both B C)), (s8, (uni B C)), (s9, (less (uni A B) C)), (s10, (both (uni A B) C)), (s11, (less A B)), (s12, (less (less A B) C)), (s13, (less A (uni B C))), (s14, (less A B)), (s15, (less A (less A B))), (s16, (both A B)), (s17, (less A A)), (s18, (both A A))] [] at B27
  clear B26
  go_wp2_with fail
  refine (bag_same B27 (i := 18) (j := 0) rfl rfl).mono ?_
  rintro e w28 ⟨rfl, B28⟩
  clear B27
  rw [show alike (both A A) A = true from (alike_iff (B28.nodup (i := 18) rfl) (B28.nodup (i := 0) rfl)).2 (fun m => by by_cases h1 : m ∈ A <;> by_cases h2 : m ∈ B <;> by_cases h3 : m ∈ C <;> simp [mem_uni, mem_less, mem_both, h1, h2, h3])]
  go_wp2_with fail
  refine (wakes_any (B28.gl G)).mono ?_
  rintro e w99 ⟨rfl, hb99⟩
  have hold := B28.old.trans (hb99.mono B28.old.size)
  clear B28 hb99
  go_wp2_with fail
  go_ret
  exact ⟨rfl, hold⟩
end
end Go.Proofs.YtdpbbgfceagofaaDoor
