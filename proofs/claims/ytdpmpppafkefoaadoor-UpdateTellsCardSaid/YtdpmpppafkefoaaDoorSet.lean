/- A set of numbers as it lies in memory; Len, word, Has. -/
import Derived.Test.YtdpmpppafkefoaaDoorOnes
import Derived.Deep.QuietTactic
import Derived.BigQuiet
import Derived.Maps.OwnSet
namespace Go.Proofs.YtdpmpppafkefoaaDoor
open Go.RowKit Go.Maps

theorem law : Keyed Tryd.prog 3 := int_keyed Tryd.underlying3
theorem zeroU (w : World) : (zeroValue 55).run Tryd.prog w = .ok (.int .u64 0) w := by kernel_rfl
noncomputable abbrev elemU := plainElem (H := Unit) Tryd.prog 55

/-- THE SET: a struct in block sb (its map in block bm), in a world w, with just the numbers of l. -/
structure SetAt (w : World) (sb bm : Nat) (D : DataW Unit) (l : List Nat) : Prop where
  blk : ∃ mo : Int, w.heap[sb]? = some (.cells #[.map (some bm), .int .i64 l.length, .int .i64 mo] 50 (0, 0))
  map : w.ownsMap Tryd.prog 3 elemU bm (size D) D
  words : Words D l
  nodup : l.Nodup
  small : ∀ n ∈ l, n < 9223372036854775808

/-- The blocks that a set has. -/
def Mine (sb bm : Nat) (k : Nat) : Prop := k = sb ∨ k = bm

section
variable {w w' : World} {sb bm : Nat} {D : DataW Unit} {l l' : List Nat}

theorem size_own {n : Nat} (h : w.ownsMap Tryd.prog 3 elemU bm n D) : w.ownsMap Tryd.prog 3 elemU bm (size D) D := by
  obtain ⟨es, clock, hb, F, hs, rfl⟩ := h
  refine ⟨es, clock, hb, F, ?_, rfl⟩
  rw [size_eq, length_sorted]
  simp

theorem SetAt.ne (S : SetAt w sb bm D l) : sb ≠ bm := by
  obtain ⟨mo, h⟩ := S.blk
  obtain ⟨es, clock, hb, _⟩ := S.map
  rintro rfl
  rw [h] at hb
  cases hb
theorem SetAt.lts (S : SetAt w sb bm D l) : sb < w.heap.size := by
  obtain ⟨mo, h⟩ := S.blk
  exact (Array.getElem?_eq_some_iff.1 h).1
theorem SetAt.ltm (S : SetAt w sb bm D l) : bm < w.heap.size := S.map.lt
theorem SetAt.lt (S : SetAt w sb bm D l) : ∀ k, Mine sb bm k → k < w.heap.size := by
  rintro k (rfl | rfl)
  · exact S.lts
  · exact S.ltm

theorem own_of_block {n : Nat} (h : w.ownsMap Tryd.prog 3 elemU bm n D) (hb : w'.heap[bm]? = w.heap[bm]?) : w'.ownsMap Tryd.prog 3 elemU bm n D := by
  obtain ⟨es, clock, h1, h2⟩ := h
  exact ⟨es, clock, hb.trans h1, h2⟩

/-- A set stays what it is where none of its blocks turns. -/
theorem SetAt.kept {Q : Nat → Prop} (S : SetAt w sb bm D l) (h : Touch w w' Q) (hd : ∀ k, Mine sb bm k → ¬ Q k) : SetAt w' sb bm D l := by
  obtain ⟨mo, hb⟩ := S.blk
  exact ⟨⟨mo, (h.block sb S.lts (hd sb (Or.inl rfl))).trans hb⟩, own_of_block S.map (h.block bm S.ltm (hd bm (Or.inr rfl))), S.words, S.nodup, S.small⟩
theorem SetAt.below (S : SetAt w sb bm D l) (h : Below w.heap.size w w') : SetAt w' sb bm D l := S.kept (Touch.of_below h (fun _ => False)) (fun _ _ h => h)
theorem SetAt.alloc (S : SetAt w sb bm D l) (o : Obj) : SetAt (w.alloc o) sb bm D l := S.below ((Below.refl _ w).alloc (Nat.le_refl _) o)
theorem SetAt.drewN (S : SetAt w sb bm D l) (n : Nat) : SetAt (w.drewN n) sb bm D l := S.kept (Touch.drewN w n (fun _ => False)) (fun _ _ h => h)

/-- In whatever order the numbers are told. -/
theorem SetAt.congr (S : SetAt w sb bm D l) (hn : l'.Nodup) (hm : ∀ n, n ∈ l ↔ n ∈ l') : SetAt w sb bm D l' := by
  obtain ⟨mo, hb⟩ := S.blk
  have := nodup_len_eq S.nodup hn hm
  exact ⟨⟨mo, by rw [← this]; exact hb⟩, S.map, S.words.congr hm, hn, fun n h => S.small n ((hm n).2 h)⟩

theorem SetAt.size_le (S : SetAt w sb bm D l) : size D ≤ l.length := S.words.size_le (S.map.canon law)

theorem SetAt.look (S : SetAt w sb bm D l) {c k : Nat} (hb : Bit c k l) (hk : k < 9223372036854775808) : (Instr.lookup 48 (.map (some bm)) (.int .i64 k) false).run Tryd.prog w = .ok (.int .u64 c) w := by
  obtain ⟨d, h1, h2, _⟩ := S.map.lookup_int law Tryd.underlying48 Tryd.underlying55 (zeroU w) (keyOf_int_mk Tryd.underlying3 (a := (k : Int)) (WalkArith.wf_i64 (by omega)))
  have h3 := (S.words.at hb).2
  have h4 : (wd c : DataW Unit) = .lit (.int .u64 d) := h3.symm.trans h2
  simp only [wd, DataW.lit.injEq, Lit.int.injEq, true_and] at h4
  rw [h1, h4]

theorem SetAt.look_less (S : SetAt w sb bm D l) {k : Int} (hk : k < 0) (h0 : -9223372036854775808 ≤ k) : (Instr.lookup 48 (.map (some bm)) (.int .i64 k) false).run Tryd.prog w = .ok (.int .u64 0) w := by
  obtain ⟨d, h1, h2, _⟩ := S.map.lookup_int law Tryd.underlying48 Tryd.underlying55 (zeroU w) (keyOf_int_mk Tryd.underlying3 (a := k) (WalkArith.wf_i64 (by omega)))
  have h3 : has D (.int .i64 k) = false := by
    cases e : has D (.int .i64 k)
    · rfl
    · obtain ⟨k', hk'⟩ := S.words.keys _ e
      simp only [key, Lit.int.injEq, true_and] at hk'
      omega
  rw [atKey_of_not_has h3] at h2
  simp only [DataW.lit.injEq, Lit.int.injEq, true_and] at h2
  rw [h1, ← h2]

theorem len_nil (w : World) : Calls Tryd.prog 16 #[.pointer none] w fun e w' => e = .returned (.int .i64 0) ∧ w' = w := by
  go_enter Tryd.func16, Tryd.ntmps16
  go_wp2
  go_ret
  exact ⟨rfl, rfl⟩

theorem len_any (S : SetAt w sb bm D l) : Calls Tryd.prog 16 #[.pointer (some ⟨sb, 0, none⟩)] w fun e w' => e = .returned (.int .i64 l.length) ∧ w' = w := by
  obtain ⟨mo, hb⟩ := S.blk
  have c1 : w.cell? ⟨sb, 1, none⟩ = some (.int .i64 l.length) := blk_cell hb 1
  clear S hb
  go_enter Tryd.func16, Tryd.ntmps16
  go_wp2
  go_ret
  exact ⟨rfl, rfl⟩

theorem word_nil (k : Int) (w : World) : Calls Tryd.prog 31 #[.pointer none, .int .i64 k] w fun e w' => e = .returned (.int .u64 0) ∧ w' = w := by
  go_enter Tryd.func31, Tryd.ntmps31
  go_wp2
  go_ret
  exact ⟨rfl, rfl⟩

theorem word_any (S : SetAt w sb bm D l) {c k : Nat} (hb : Bit c k l) (hk : k < 9223372036854775808) : Calls Tryd.prog 31 #[.pointer (some ⟨sb, 0, none⟩), .int .i64 k] w fun e w' => e = .returned (.int .u64 c) ∧ w' = w := by
  obtain ⟨mo, hbl⟩ := S.blk
  have c0 : w.cell? ⟨sb, 0, none⟩ = some (.map (some bm)) := blk_cell hbl 0
  have hl := S.look hb hk
  clear S hbl hb
  go_enter Tryd.func31, Tryd.ntmps31
  go_wp2
  go_ret
  exact ⟨rfl, rfl⟩
end
end Go.Proofs.YtdpmpppafkefoaaDoor
