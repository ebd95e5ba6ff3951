/- Add, Of. -/
import Derived.Test.YtdpmpppafkefoaaDoorHas
namespace Go.Proofs.YtdpmpppafkefoaaDoor
open Go.RowKit Go.Maps

/-- A list with a number more, if it is one and new. -/
def plusN (l : List Nat) (i : Int) : List Nat := if 0 ≤ i ∧ i.toNat ∉ l then l ++ [i.toNat] else l

section
variable {w w' : World} {sb bm : Nat} {D : DataW Unit} {l l' : List Nat}

theorem add_nil (i : Int) (w : World) : Calls Tryd.prog 15 #[.pointer none, .int .i64 i] w fun e w' => e = .returned (.bool false) ∧ w' = w := by
  go_enter Tryd.func15, Tryd.ntmps15
  go_wp2
  go_ret
  exact ⟨rfl, rfl⟩

theorem add_less {i : Int} (hi : i < 0) (a : Addr) : Calls Tryd.prog 15 #[.pointer (some a), .int .i64 i] w fun e w' => e = .returned (.bool false) ∧ w' = w := by
  have hd : decide (i < 0) = true := by simpa using hi
  go_enter Tryd.func15, Tryd.ntmps15
  go_wp2
  go_ret
  exact ⟨rfl, rfl⟩

theorem add_in (S : SetAt w sb bm D l) {i : Nat} (hi : i < 9223372036854775808) (h : i ∈ l) : Calls Tryd.prog 15 #[.pointer (some ⟨sb, 0, none⟩), .int .i64 i] w fun e w' => e = .returned (.bool false) ∧ w' = w := by
  have hd : decide ((i : Int) < 0) = false := by simp
  have hh := has_any S hi
  rw [decide_eq_true h] at hh
  replace hh := Lib.hid hh
  clear S
  go_enter Tryd.func15, Tryd.ntmps15
  go_wp2_with (go_at_call 18; refine hh.out.mono ?_; rintro e w' ⟨rfl, rfl⟩)
  go_ret
  exact ⟨rfl, rfl⟩

theorem bits_pow {j : Nat} (hj : j < 64) : bitsOf 64 (2 ^ j) = [j] := by
  have h : ∀ j, j < 64 → bitsOf 64 (2 ^ j) = [j] := by decide +kernel
  exact h j hj

theorem add_new (S : SetAt w sb bm D l) {i : Nat} (hi : i < 9223372036854775808) (h : i ∉ l) (hlen : l.length ≤ 1000000) : Calls Tryd.prog 15 #[.pointer (some ⟨sb, 0, none⟩), .int .i64 i] w fun e w' => e = .returned (.bool true) ∧ (∃ D', SetAt w' sb bm D' (l ++ [i])) ∧ Touch w w' (Mine sb bm) := by
  have hd : decide ((i : Int) < 0) = false := by simp
  have hh := has_any S hi
  rw [decide_eq_false h] at hh
  replace hh := Lib.hid hh
  obtain ⟨c, hb, -, -⟩ := S.words.word (i / 64)
  have hj : i % 64 < 64 := by omega
  have hp : 2 ^ (i % 64) < 18446744073709551616 := Nat.pow_lt_pow_of_lt (by decide : 1 < 2) hj
  have hput := put_any S hb (by omega) hp (Nat.ne_of_gt (Nat.two_pow_pos _)) hlen
  have hn : nums (i / 64) (2 ^ (i % 64) &&& (18446744073709551615 - c)) = [i] := by
    have h1 : 2 ^ (i % 64) &&& (18446744073709551615 - c) = 2 ^ (i % 64) := by
      refine bits_ext (less_lt hp) hp (fun j hj' => ?_)
      rw [tb_less hb.1 hj', Nat.testBit_two_pow]
      by_cases e : i % 64 = j
      · subst e
        cases e : c.testBit (i % 64)
        · simp
        · exact absurd ((hb.2 _ hj').1 e) (by rw [Nat.div_add_mod]; exact h)
      · simp [e]
    rw [h1, nums, bits_pow hj, List.map_cons, List.map_nil, Nat.div_add_mod]
  rw [hn] at hput
  rw [Int.natCast_ediv, show ((64 : Nat) : Int) = 64 from rfl] at hput
  have he : ((2 ^ (i % 64) : Nat) : Int) = IntKind.u64.wrap (2 ^ (i % 64)) := by
    have h1 : ((2 : Int) ^ (i % 64)) = ((2 ^ (i % 64) : Nat) : Int) := by simp
    rw [h1, wrap_nat hp]
  rw [he] at hput
  replace hput := Lib.hid hput
  clear hn hb S he hp
  go_enter Tryd.func15, Tryd.ntmps15
  go_wp2_with (first | (go_at_call 18; refine hh.out.mono ?_; rintro e w' ⟨rfl, rfl⟩) | (go_at_call 25; refine hput.out.mono ?_; rintro e w1 ⟨rfl, hS, ht⟩))
  go_ret
  exact ⟨rfl, hS, ht⟩

theorem nodup_plusN (i : Int) (h : l.Nodup) : (plusN l i).Nodup := by
  unfold plusN
  split
  · rename_i hc
    rw [List.nodup_append]
    exact ⟨h, by simp, fun a ha b hb e => hc.2 (by simp at hb; rw [← hb, ← e]; exact ha)⟩
  · exact h

theorem add_any (S : SetAt w sb bm D l) {i : Int} (hi : i < 9223372036854775808) (hlen : l.length ≤ 1000000) : Calls Tryd.prog 15 #[.pointer (some ⟨sb, 0, none⟩), .int .i64 i] w fun e w' =>
    e = .returned (.bool (decide (0 ≤ i ∧ i.toNat ∉ l))) ∧ (∃ D', SetAt w' sb bm D' (plusN l i)) ∧ Touch w w' (Mine sb bm) := by
  by_cases h0 : 0 ≤ i
  · obtain ⟨n, rfl⟩ := Int.eq_ofNat_of_zero_le h0
    by_cases h : n ∈ l
    · refine (add_in S (i := n) (by omega) h).mono ?_
      rintro e w' ⟨rfl, rfl⟩
      exact ⟨by simp [h], ⟨D, by unfold plusN; rw [if_neg (by simp [h])]; exact S⟩, Touch.refl _ _⟩
    · refine (add_new S (i := n) (by omega) h hlen).mono ?_
      rintro e w' ⟨rfl, hS, ht⟩
      exact ⟨by simp [h], by unfold plusN; rw [if_pos (by simp [h])]; exact hS, ht⟩
  · refine (add_less (by omega) _).mono ?_
    rintro e w' ⟨rfl, rfl⟩
    exact ⟨by simp [h0], ⟨D, by unfold plusN; rw [if_neg (by simp [h0])]; exact S⟩, Touch.refl _ _⟩

/-- A set of which nothing is in. -/
theorem SetAt.fresh (w : World) : SetAt ((w.alloc (.map #[] 0)).alloc (.cells #[.map (some w.heap.size), .int .i64 0, .int .i64 0] 50)) (w.heap.size + 1) w.heap.size (.map []) [] ∧
    Below w.heap.size w ((w.alloc (.map #[] 0)).alloc (.cells #[.map (some w.heap.size), .int .i64 0, .int .i64 0] 50)) := by
  refine ⟨⟨⟨0, by have := heap_alloc_new (w.alloc (.map #[] 0)) (.cells #[.map (some w.heap.size), .int .i64 0, .int .i64 0] 50); rwa [World.size_alloc] at this⟩, ?_, words_none, List.nodup_nil, by simp⟩, ((Below.refl _ _).alloc (Nat.le_refl _) _).alloc (by simp) _⟩
  exact (World.ownsMap_made w Tryd.prog 3 _).alloc _

/-- The numbers that a list has, each once. -/
def numsOf (xs : List Int) : List Nat := xs.foldl plusN []
theorem numsOf_snoc (xs : List Int) (x : Int) : numsOf (xs ++ [x]) = plusN (numsOf xs) x := by simp [numsOf]
theorem plusN_len (l : List Nat) (i : Int) : (plusN l i).length ≤ l.length + 1 := by unfold plusN; split <;> simp
theorem numsOf_len (xs : List Int) : (numsOf xs).length ≤ xs.length := by
  refine snoc_ind (Q := fun xs => (numsOf xs).length ≤ xs.length) (Nat.le_refl _) (fun l x ih => ?_) xs
  rw [numsOf_snoc, List.length_append]
  exact Nat.le_trans (plusN_len _ _) (by simpa using ih)
theorem mem_plusN (l : List Nat) (i : Int) (n : Nat) : n ∈ plusN l i ↔ n ∈ l ∨ (n : Int) = i := by
  unfold plusN
  split
  · rename_i h
    rw [List.mem_append, List.mem_singleton]
    exact or_congr Iff.rfl (by omega)
  · rename_i h
    constructor
    · exact Or.inl
    · rintro (h1 | h1)
      · exact h1
      · subst h1
        have : n ∈ l := by
          apply Classical.byContradiction
          intro hn
          exact h ⟨by omega, by simpa using hn⟩
        exact this
theorem mem_numsOf (xs : List Int) (n : Nat) : n ∈ numsOf xs ↔ (n : Int) ∈ xs := by
  refine snoc_ind (Q := fun xs => n ∈ numsOf xs ↔ (n : Int) ∈ xs) (by simp [numsOf]) (fun l x ih => ?_) xs
  rw [numsOf_snoc, mem_plusN, ih, List.mem_append, List.mem_singleton]
theorem nodup_numsOf (xs : List Int) : (numsOf xs).Nodup := by
  refine snoc_ind (Q := fun xs => (numsOf xs).Nodup) List.nodup_nil (fun l x ih => ?_) xs
  rw [numsOf_snoc]
  exact nodup_plusN x ih

def encI (x : Int) : Value := .int .i64 x

theorem of_any {s : Value} {xs : List Int} (hs : Rd w s (xs.map encI)) (hx : ∀ x ∈ xs, x < 9223372036854775808) (hlen : xs.length ≤ 1000000) :
    Calls Tryd.prog 6 #[s] w fun e w' => e = .returned (.pointer (some ⟨w.heap.size + 1, 0, none⟩)) ∧ (∃ D', SetAt w' (w.heap.size + 1) w.heap.size D' (numsOf xs)) ∧ Below w.heap.size w w' := by
  obtain ⟨a, c, rfl⟩ := hs.form
  have hmm := @run_makeMap Tryd.prog
  rw [List.length_map] at *
  go_enter Tryd.func6, Tryd.ntmps6
  go_wp2
  obtain ⟨hf, hbf⟩ := SetAt.fresh w
  go_loopw [11] (fun i wr => ∃ j : Nat, j ≤ xs.length ∧ i = .int .i64 j ∧ (∃ D', SetAt wr (w.heap.size + 1) w.heap.size D' (numsOf (xs.take j))) ∧ Below w.heap.size w wr) (fun i _ => xs.length - (intOf i).toNat)
  case atStart =>
    exact ⟨0, Nat.zero_le _, rfl, ⟨_, hf⟩, hbf⟩
  case round =>
    obtain ⟨j, hj, rfl, ⟨D', S⟩, hb⟩ := hrel
    clear hf hbf
    by_cases hlt : j < xs.length
    · obtain ⟨k, hk⟩ : ∃ k, xs[j]? = some k := ⟨_, List.getElem?_eq_getElem hlt⟩
      obtain ⟨b, off, cap, e, _, hc⟩ := (hs.below hb).at (i := j) (u := encI k) (by simp [hk])
      simp only [Value.slice.injEq] at e
      obtain ⟨rfl, -, rfl⟩ := e
      have hkl := hx k (List.mem_of_getElem? hk)
      have hln : (numsOf (xs.take j)).length ≤ 1000000 := Nat.le_trans (numsOf_len _) (by simp; omega)
      have hts := Lib.hid (take_snoc hk)
      have hadd := Lib.hid (add_any S hkl hln)
      clear hk hs hx S hmm
      unfold encI at hc
      go_wp2_with (go_at_call 15; refine hadd.out.mono ?_; rintro e w2 ⟨rfl, ⟨D2, S2⟩, ht⟩)
      rw [← numsOf_snoc, ← hts.out] at S2
      go_roundw
      case rel => exact ⟨j + 1, by omega, by go_num, ⟨D2, S2⟩, hb.trans (ht.below (Nat.le_trans (Nat.le_refl _) hb.size) (fun x hx ho => by rcases ho with rfl | rfl <;> omega))⟩
      case measure => simp [intOf]; omega
    · have : j = xs.length := by omega
      subst this
      rw [List.take_length] at S
      replace S := Lib.hid S
      go_wp2
      go_ret
      exact ⟨rfl, ⟨D', S.out⟩, hb⟩
end
end Go.Proofs.YtdpmpppafkefoaaDoor
