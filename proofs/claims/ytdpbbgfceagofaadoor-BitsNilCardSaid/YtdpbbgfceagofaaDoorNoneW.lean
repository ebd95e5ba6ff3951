/- BitsNil: the walk. -/
import Derived.Test.YtdpbbgfceagofaaDoorPlace
import Derived.Test.YtdpbbgfceagofaaDoorListNil
namespace Go.Proofs.YtdpbbgfceagofaaDoor
open Go.RowKit Go.Maps

section
variable {w : World} {s : Value} {xs : List Int} {i : Int}

theorem none_great (G : Gl w) (hs : RdI w s xs) (hn : 1000 < xs.length) : Calls Tryd.prog 4 #[.int .i64 i, s] w fun e w' => e = .returned (.bool true) ∧ Below w.heap.size w w' := by
  obtain ⟨a, c, rfl⟩ := hs.form
  rw [List.length_map]
  have hd : decide ((xs.length : Int) > 1000) = true := by simp; omega
  have hw := Lib.hid (wakes_any G)
  go_enter Tryd.func4, Tryd.ntmps4
  go_wp2_with (go_at_call 10; refine hw.out.mono ?_; rintro e w' ⟨rfl, hb⟩)
  go_ret
  exact ⟨rfl, hb⟩

theorem bag_nil {w0 w : World} {L : List (Nat × List Nat)} {R : List (Value × List Int)} {f : Nat} {args : Array Value} {l : List Nat} (B : Bag w0 w L R) (h : Calls Tryd.prog f args w fun e w' => NewSet w w' e l) :
    Calls Tryd.prog f args w fun e w' => ∃ s, e = .returned (ptr s) ∧ Bag w0 w' (L ++ [(s, l)]) R := bag_new B h

set_option maxHeartbeats 4000000 in
theorem none_any (G : Gl w) (hs : RdI w s xs) (hx : Small xs) (hn : xs.length ≤ 1000) : Calls Tryd.prog 4 #[.int .i64 i, s] w fun e w' => e = .returned (.bool true) ∧ Below w.heap.size w w' := by
  obtain ⟨a, c, rfl⟩ := hs.form
  rw [List.length_map] at hs ⊢
  have hd : decide ((xs.length : Int) > 1000) = false := by simp; omega
  have B0 := Bag.init w
  have ya : ∀ x ∈ xs, x < 9223372036854775808 := fun x h => (hx x h).2
  have NN : ∀ w : World, ASet w (.pointer none) ([] : List Nat) := fun w => Or.inl ⟨rfl, rfl⟩
  go_enter Tryd.func4, Tryd.ntmps4
  go_wp2_with fail
  refine (bag_of B0 hs ya (by omega)).mono ?_
  rintro e w1 ⟨s0, rfl, B1⟩
  have hA : (numsOf xs).length ≤ 1000 := Nat.le_trans (numsOf_len xs) hn
  change Bag w w1 [(s0, numsOf xs)] [] at B1
  generalize numsOf xs = A at B1 hA
  clear B0 hs hx ya hn
  go_wp2_with fail
  refine (least_none (NN w1)).mono ?_
  rintro e w' ⟨rfl, hw⟩
  obtain rfl := hw.symm
  go_wp2_with fail
  refine (add_nil i w1).mono ?_
  rintro e w' ⟨rfl, hw⟩
  obtain rfl := hw.symm
  go_wp2_with fail
  refine (drop_nil i w1).mono ?_
  rintro e w' ⟨rfl, hw⟩
  obtain rfl := hw.symm
  go_wp2_with fail
  refine (has_nil i w1).mono ?_
  rintro e w' ⟨rfl, hw⟩
  obtain rfl := hw.symm
  go_wp2_with fail
  refine (union_nil _ (Or.inr ⟨_, rfl⟩) w1).mono ?_
  rintro e w' ⟨rfl, hw⟩
  obtain rfl := hw.symm
  go_wp2_with fail
  refine (bag_nil B1 (minus_nil (Or.inr ⟨_, rfl⟩) w1)).mono ?_
  rintro e w2 ⟨s1, rfl, B2⟩
  change Bag w w2 [(s0, A), (s1, [])] [] at B2
  clear B1
  go_wp2_with fail
  refine (bag_len B2 (i := 1) rfl).mono ?_
  rintro e w' ⟨rfl, hw⟩
  obtain rfl := hw.symm
  go_wp2_with fail
  refine (bag_nil B2 (both_nil (Or.inr ⟨_, rfl⟩) w2)).mono ?_
  rintro e w3 ⟨s2, rfl, B3⟩
  change Bag w w3 [(s0, A), (s1, []), (s2, [])] [] at B3
  clear B2
  go_wp2_with fail
  refine (bag_len B3 (i := 2) rfl).mono ?_
  rintro e w' ⟨rfl, hw⟩
  obtain rfl := hw.symm
  go_wp2_with fail
  refine (len_nil w3).mono ?_
  rintro e w' ⟨rfl, hw⟩
  obtain rfl := hw.symm
  go_wp2_with fail
  refine (list_nil w3).mono ?_
  rintro e w4 ⟨⟨la, lc, rfl⟩, hb4⟩
  have B4 := B3.below hb4
  clear B3 hb4
  go_wp2_with fail
  refine (same_a (NN w4) (NN w4)).mono ?_
  rintro e w5 ⟨rfl, hb5⟩
  have B5 := B4.below hb5
  rw [show alike [] [] = true from rfl]
  clear B4 hb5
  go_wp2_with fail
  refine (bag_of_none B5).mono ?_
  rintro e w6 ⟨s3, rfl, B6⟩
  change Bag w w6 [(s0, A), (s1, []), (s2, []), (s3, [])] [] at B6
  clear B5
  go_wp2_with fail
  refine (same_a (NN w6) (B6.aset (i := 3) rfl)).mono ?_
  rintro e w7 ⟨rfl, hb7⟩
  have B7 := B6.below hb7
  rw [show alike [] [] = true from rfl]
  clear B6 hb7
  go_wp2_with fail
  refine (bag_of_none B7).mono ?_
  rintro e w8 ⟨s4, rfl, B8⟩
  change Bag w w8 [(s0, A), (s1, []), (s2, []), (s3, []), (s4, [])] [] at B8
  clear B7
  go_wp2_with fail
  refine (same_a (B8.aset (i := 4) rfl) (NN w8)).mono ?_
  rintro e w9 ⟨rfl, hb9⟩
  have B9 := B8.below hb9
  rw [show alike [] [] = true from rfl]
  clear B8 hb9
  go_wp2_with fail
  refine (in_a (NN w9) (B9.aset (i := 0) rfl)).mono ?_
  rintro e w10 ⟨rfl, hb10⟩
  have B10 := B9.below hb10
  rw [show decide (∀ n ∈ ([] : List Nat), n ∈ A) = true from decide_eq_true (fun n h => by cases h)]
  clear B9 hb10
  go_wp2_with fail
  refine (copy_nil w10).mono ?_
  rintro e w' ⟨rfl, hw⟩
  obtain rfl := hw.symm
  go_wp2_with fail
  refine (in_a (B10.aset (i := 0) rfl) (NN w10)).mono ?_
  rintro e w11 ⟨rfl, hb11⟩
  have B11 := B10.below hb11
  have hq : decide (∀ n ∈ A, n ∈ ([] : List Nat)) = ((A.length : Int) == 0) := by
    rw [Bool.eq_iff_iff, decide_eq_true_iff, beq_iff_eq]
    constructor
    · intro h
      have : A = [] := List.eq_nil_iff_forall_not_mem.2 (fun n hn => by have := h n hn; cases this)
      rw [this]; rfl
    · intro h
      have : A = [] := List.eq_nil_of_length_eq_zero (by omega)
      rw [this]; intro n hn; cases hn
  rw [hq]
  obtain ⟨q, hqe⟩ : ∃ q, ((A.length : Int) == 0) = q := ⟨_, rfl⟩
  rw [hqe]
  clear B10 hb11 hq
  go_wp2_with fail
  refine (bag_len B11 (i := 0) rfl).mono ?_
  rintro e w' ⟨rfl, hw⟩
  obtain rfl := hw.symm
  go_wp2_with fail
  refine (union_of_nil _ w11).mono ?_
  rintro e w' ⟨rfl, hw⟩
  obtain rfl := hw.symm
  clear hqe
  go_wp2_with fail
  obtain ⟨bm, D, S⟩ := B11.at (i := 0) rfl
  refine (bag_nil B11 (minus_any S (by omega) (NN w11))).mono ?_
  rintro e w12 ⟨s5, rfl, B12⟩
  change Bag w w12 [(s0, A), (s1, []), (s2, []), (s3, []), (s4, []), (s5, less A [])] [] at B12
  clear B11 S
  go_wp2_with fail
  refine (bag_same B12 (i := 5) (j := 0) rfl rfl).mono ?_
  rintro e w13 ⟨rfl, B13⟩
  rw [show alike (less A []) A = true from (alike_iff (B12.nodup (i := 5) rfl) (B12.nodup (i := 0) rfl)).2 (fun m => by simp [mem_less])]
  clear B12
  go_wp2_with fail
  obtain ⟨bm, D, S⟩ := B13.at (i := 0) rfl
  refine (bag_nil B13 (both_any S (by omega) (NN w13))).mono ?_
  rintro e w14 ⟨s6, rfl, B14⟩
  change Bag w w14 [(s0, A), (s1, []), (s2, []), (s3, []), (s4, []), (s5, less A []), (s6, both A [])] [] at B14
  clear B13 S
  go_wp2_with fail
  refine (bag_len B14 (i := 6) rfl).mono ?_
  rintro e w' ⟨rfl, hw⟩
  obtain rfl := hw.symm
  rw [show (both A []).length = 0 from by rw [List.length_eq_zero_iff, List.eq_nil_iff_forall_not_mem]; intro m hm; simpa using (mem_both.1 hm).2]
  go_wp2_with fail
  refine (wakes_any (B14.gl G)).mono ?_
  rintro e w99 ⟨rfl, hb99⟩
  have hold := B14.old.trans (hb99.mono B14.old.size)
  clear B14 hb99
  go_wp2_with fail
  go_ret
  exact ⟨rfl, hold⟩
end
end Go.Proofs.YtdpbbgfceagofaaDoor
