/- wakes: sets that are known. -/
import Derived.Test.YtdpbbgfceagofaaDoorBagOps
namespace Go.Proofs.YtdpbbgfceagofaaDoor
open Go.RowKit Go.Maps

/-- A block of numbers, as a slice. -/
theorem rd_block {w : World} {b : Nat} {t : TypeId} {xs : List Int} {cs : Array Value} {fr : Nat × Nat} (hb : w.heap[b]? = some (.cells cs t fr)) (hc : cs.toList = xs.map encI) (n c : Nat) (hn : n = xs.length) : RdI w (.slice (some ⟨b, 0, none⟩) n c) xs := by
  subst hn
  refine Or.inr ⟨b, 0, c, by simp, (Array.getElem?_eq_some_iff.1 hb).1, fun i u hu => ?_⟩
  rw [Nat.zero_add, blk_cell hb]
  rw [← hc, Array.getElem?_toList] at hu
  exact hu

theorem rising_13 {rs : List Nat} (h1 : rs.Pairwise (· < ·)) (h2 : ∀ n, n ∈ rs ↔ n ∈ [3, 1]) : rs = [1, 3] :=
  rising_eq h1 (by decide) (fun n => by rw [h2]; simp; omega)

set_option maxHeartbeats 1000000 in
theorem wakes_any {w : World} (G : Gl w) : Calls Tryd.prog 10 #[] w fun e w' => e = .returned (.bool true) ∧ Below w.heap.size w w' := by
  have B0 := Bag.init w
  go_enter Tryd.func10, Tryd.ntmps10
  go_wp2_with fail
  have b1 : Below w.heap.size w (w.alloc (.cells #[.int .i64 3, .int .i64 1, .int .i64 3, .int .i64 (-1)] 3)) := (Below.refl _ _).alloc (Nat.le_refl _) _
  refine (bag_of (B0.below b1) (xs := [3, 1, 3, -1]) (rd_block (heap_alloc_new w _) rfl 4 4 rfl) (by decide) (by decide)).mono ?_
  rintro e w1 ⟨s, rfl, B1⟩
  change Bag w w1 [(s, [3, 1])] [] at B1
  clear b1 B0
  go_wp2_with fail
  refine (bag_len B1 (i := 0) rfl).mono ?_
  rintro e w' ⟨rfl, hw⟩
  obtain rfl := hw.symm
  go_wp2_with fail
  refine (bag_list B1 G (i := 0) rfl (by decide)).mono ?_
  rintro e w2 ⟨v, rs, rfl, h1, h2, hown, hb, B2⟩
  obtain rfl := rising_13 h1 h2
  have hv := (B2.rows v (ints [1, 3]) (by simp)).1
  clear B1 h1 h2 hown hb
  go_wp2_with fail
  have B3 := B2.below ((Below.refl _ w2).alloc (Nat.le_refl _) (.cells #[.int .i64 1, .int .i64 3] 3))
  refine (same_any (xs := ints [1, 3]) (ys := [1, 3]) (hv.below ((Below.refl _ w2).alloc (Nat.le_refl _) (.cells #[.int .i64 1, .int .i64 3] 3))) (rd_block (heap_alloc_new w2 _) rfl 2 2 rfl) (by decide)).mono ?_
  rintro e w3 ⟨rfl, n3, rfl⟩
  replace B3 := B3.drawn n3
  generalize ((w2.alloc (.cells #[.int .i64 1, .int .i64 3] 3)).drewN n3) = w3 at B3 ⊢
  rw [show decide (ints [1, 3] = [1, 3]) = true from rfl]
  clear B2 hv
  go_wp2_with fail
  refine (bag_has B3 (i := 0) rfl (x := 3) (by decide)).mono ?_
  rintro e w' ⟨rfl, hw⟩
  obtain rfl := hw.symm
  rw [show decide (0 ≤ (3 : Int) ∧ (3 : Int).toNat ∈ [3, 1]) = true from rfl]
  go_wp2_with fail
  refine (bag_has B3 (i := 0) rfl (x := -1) (by decide)).mono ?_
  rintro e w' ⟨rfl, hw⟩
  obtain rfl := hw.symm
  rw [show decide (0 ≤ (-1 : Int) ∧ (-1 : Int).toNat ∈ [3, 1]) = false from rfl]
  go_wp2_with fail
  refine (bag_add B3 (i := 0) rfl (x := 2) (by decide) (by decide)).mono ?_
  rintro e w4 ⟨rfl, B4⟩
  rw [show decide (0 ≤ (2 : Int) ∧ (2 : Int).toNat ∉ [3, 1]) = true from rfl]
  change Bag w w4 [(s, [3, 1, 2])] _ at B4
  clear B3
  go_wp2_with fail
  refine (bag_add B4 (i := 0) rfl (x := 2) (by decide) (by decide)).mono ?_
  rintro e w5 ⟨rfl, B5⟩
  rw [show decide (0 ≤ (2 : Int) ∧ (2 : Int).toNat ∉ [3, 1, 2]) = false from rfl]
  change Bag w w5 [(s, [3, 1, 2])] _ at B5
  clear B4
  go_wp2_with fail
  have B6 := B5.below ((Below.refl _ w5).alloc (Nat.le_refl _) (.cells #[.int .i64 1099511627776] 3))
  refine (bag_of B6 (xs := [1099511627776]) (rd_block (heap_alloc_new w5 _) rfl 1 1 rfl) (by decide) (by decide)).mono ?_
  rintro e w7 ⟨s7, rfl, B7⟩
  change Bag w w7 [(s, [3, 1, 2]), (s7, [1099511627776])] _ at B7
  clear B5 B6
  go_wp2_with fail
  refine (bag_union B7 (i := 0) (j := 1) rfl rfl (by decide) (by decide)).mono ?_
  rintro e w8 ⟨rfl, B8⟩
  rw [show decide (([3, 1, 2] : List Nat).length < (uni [3, 1, 2] [1099511627776]).length) = true from by decide]
  change Bag w w8 [(s, uni [3, 1, 2] [1099511627776]), (s7, [1099511627776])] _ at B8
  rw [show uni [3, 1, 2] [1099511627776] = [3, 1, 2, 1099511627776] from by decide] at B8
  go_wp2_with fail
  refine (bag_len B8 (i := 0) rfl).mono ?_
  rintro e w' ⟨rfl, hw⟩
  obtain rfl := hw.symm
  have hold := B8.old
  go_wp2_with fail
  go_ret
  exact ⟨rfl, hold⟩
end Go.Proofs.YtdpbbgfceagofaaDoor
