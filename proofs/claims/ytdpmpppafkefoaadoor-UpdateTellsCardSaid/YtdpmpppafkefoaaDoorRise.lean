/- The words of a set, rising; the numbers that they make. -/
import Derived.Test.YtdpmpppafkefoaaDoorSorted
namespace Go.Proofs.YtdpmpppafkefoaaDoor
open Go.RowKit Go.Maps Go.Sort Go.Shelf

theorem bit_ex (k : Nat) : ∀ l : List Nat, ∃ c, Bit c k l
  | [] => ⟨0, by decide, fun j _ => by simp⟩
  | x :: r => by
    obtain ⟨c, hc⟩ := bit_ex k r
    by_cases e : x / 64 = k
    · have hp : 2 ^ (x % 64) < 18446744073709551616 := Nat.pow_lt_pow_of_lt (by decide : 1 < 2) (show x % 64 < 64 by omega)
      refine ⟨c ||| 2 ^ (x % 64), or_lt hc.1 hp, fun j hj => ?_⟩
      rw [Nat.testBit_or, Bool.or_eq_true, hc.2 j hj, Nat.testBit_two_pow, List.mem_cons, decide_eq_true_iff]
      have : x % 64 = j ↔ 64 * k + j = x := by omega
      rw [this]
      exact Or.comm
    · refine ⟨c, hc.1, fun j hj => ?_⟩
      rw [hc.2 j hj, List.mem_cons]
      have : 64 * k + j ≠ x := by omega
      simp [this]

/-- Word k of a list of numbers. -/
noncomputable def wordOf (l : List Nat) (k : Nat) : Nat := Classical.choose (bit_ex k l)
theorem wordOf_bit (l : List Nat) (k : Nat) : Bit (wordOf l k) k l := Classical.choose_spec (bit_ex k l)

/-- The numbers of the words ks of l. -/
noncomputable def rise (l ks : List Nat) : List Nat := ks.flatMap (fun k => nums k (wordOf l k))

theorem mem_rise {l ks : List Nat} {n : Nat} : n ∈ rise l ks ↔ n / 64 ∈ ks ∧ n ∈ l := by
  unfold rise
  rw [List.mem_flatMap]
  constructor
  · rintro ⟨k, hk, hn⟩
    obtain ⟨rfl, hb⟩ := mem_nums.1 hn
    refine ⟨hk, ?_⟩
    have := ((wordOf_bit l (n / 64)).2 (n % 64) (by omega)).1 hb
    rwa [Nat.div_add_mod] at this
  · rintro ⟨hk, hn⟩
    exact ⟨n / 64, hk, mem_nums.2 ⟨rfl, ((wordOf_bit l (n / 64)).2 (n % 64) (by omega)).2 (by rw [Nat.div_add_mod]; exact hn)⟩⟩

theorem rising_nums (k c : Nat) : (nums k c).Pairwise (· < ·) := by
  unfold nums
  rw [List.pairwise_map]
  exact (rising_bitsOf 64 c).imp (fun h => by omega)

theorem rising_rise (l : List Nat) : ∀ {ks : List Nat}, ks.Pairwise (· < ·) → (rise l ks).Pairwise (· < ·)
  | [], _ => List.Pairwise.nil
  | k :: r, h => by
    obtain ⟨h1, h2⟩ := List.pairwise_cons.1 h
    have e : rise l (k :: r) = nums k (wordOf l k) ++ rise l r := by simp [rise]
    rw [e, List.pairwise_append]
    refine ⟨rising_nums _ _, rising_rise l h2, fun a ha b hb => ?_⟩
    have h3 := (mem_nums.1 ha).1
    have h4 := h1 _ (mem_rise.1 hb).1
    omega

/-- Two rising lists with the same members are one. -/
theorem rising_eq : ∀ {a b : List Nat}, a.Pairwise (· < ·) → b.Pairwise (· < ·) → (∀ n, n ∈ a ↔ n ∈ b) → a = b
  | [], [], _, _, _ => rfl
  | [], y :: s, _, _, h => by have := (h y).2 (by simp); simp at this
  | x :: r, [], _, _, h => by have := (h x).1 (by simp); simp at this
  | x :: r, y :: s, h1, h2, h => by
    obtain ⟨a1, a2⟩ := List.pairwise_cons.1 h1
    obtain ⟨b1, b2⟩ := List.pairwise_cons.1 h2
    have hxy : x = y := by
      rcases List.mem_cons.1 ((h x).1 (by simp)) with e | hx
      · exact e
      · rcases List.mem_cons.1 ((h y).2 (by simp)) with e | hy
        · exact e.symm
        · have := a1 y hy; have := b1 x hx; omega
    subst hxy
    rw [rising_eq a2 b2 (fun n => ⟨fun hn => by
      rcases List.mem_cons.1 ((h n).1 (by simp [hn])) with rfl | h3
      · have := a1 n hn; omega
      · exact h3, fun hn => by
      rcases List.mem_cons.1 ((h n).2 (by simp [hn])) with rfl | h3
      · have := b1 n hn; omega
      · exact h3⟩)]

/-- The keys of a set's map, rising. -/
theorem keys_rise {D : DataW Unit} {l : List Nat} (W : Words D l) (hc : Canon D) {ss : List Int} (hp : ss.Perm (intKeys D)) : ∃ ks : List Nat, ss.mergeSort (fun x y => decide (x ≤ y)) = ks.map (fun k : Nat => (k : Int)) ∧ ks.Pairwise (· < ·) ∧ ∀ k, k ∈ ks ↔ has D (key k) = true := by
  obtain ⟨es, rfl, hs, hk⟩ := hc
  have hin : ∀ x, x ∈ ss.mergeSort (fun x y => decide (x ≤ y)) ↔ ∃ k : Nat, x = k ∧ has (.map es) (key k) = true := fun x => by
    rw [List.mem_mergeSort, hp.mem_iff]
    show x ∈ es.map (fun p => _root_.Go.intOf p.1) ↔ _
    rw [List.mem_map]
    constructor
    · rintro ⟨p, hp, rfl⟩
      have hh : has (.map es) p.1 = true := by rw [has_eq]; exact List.any_eq_true.2 ⟨p, hp, WideAt.sameKey_self (hk p hp)⟩
      obtain ⟨k, e⟩ := W.keys _ hh
      rw [e] at hh ⊢
      exact ⟨k, rfl, hh⟩
    · rintro ⟨k, rfl, hh⟩
      rw [has_eq] at hh
      obtain ⟨p, hp, hs⟩ := List.any_eq_true.1 hh
      exact ⟨p, hp, by rw [WideAt.sameKey_eq hs]; rfl⟩
  have hnd : (intKeys (.map es)).Nodup := by
    show (es.map (fun p => _root_.Go.intOf p.1)).Nodup
    rw [List.Nodup, List.pairwise_map]
    refine (apart_of_rising hs).imp_of_mem (fun {p q} hp hq hne e => hne ?_)
    have h1 : ∀ p ∈ es, ∃ k : Nat, p.1 = key k := fun p hp => W.keys _ (by rw [has_eq]; exact List.any_eq_true.2 ⟨p, hp, WideAt.sameKey_self (hk p hp)⟩)
    obtain ⟨a, ea⟩ := h1 p hp
    obtain ⟨b, eb⟩ := h1 q hq
    rw [ea, eb] at e ⊢
    have : (a : Int) = (b : Int) := e
    rw [show a = b by omega]
  have hsort : (ss.mergeSort (fun x y => decide (x ≤ y))).Pairwise (fun x y => x < y) := by
    have h1 := List.pairwise_mergeSort (le := fun (x y : Int) => decide (x ≤ y)) (fun a b c h1 h2 => by simp at *; omega) (fun a b => by simp; omega) ss
    have h2 : (ss.mergeSort (fun x y => decide (x ≤ y))).Nodup := ((List.mergeSort_perm ss _).trans hp).nodup_iff.2 hnd
    exact (h1.and h2).imp (fun {a b} h => by obtain ⟨h3, h4⟩ := h; simp at h3; omega)
  have hcast : (ss.mergeSort (fun x y => decide (x ≤ y))) = ((ss.mergeSort (fun x y => decide (x ≤ y))).map Int.toNat).map (fun k : Nat => (k : Int)) := by
    rw [List.map_map]
    conv => lhs; rw [← List.map_id (ss.mergeSort _)]
    apply List.map_congr_left
    intro x hx
    obtain ⟨k, rfl, _⟩ := (hin x).1 hx
    simp
  refine ⟨_, hcast, ?_, fun k => ?_⟩
  · rw [List.pairwise_map]
    refine hsort.imp_of_mem (fun {a b} ha hb h => ?_)
    obtain ⟨k, rfl, _⟩ := (hin a).1 ha
    obtain ⟨k', rfl, _⟩ := (hin b).1 hb
    simp
    omega
  · rw [List.mem_map]
    constructor
    · rintro ⟨x, hx, rfl⟩
      obtain ⟨k, rfl, hh⟩ := (hin x).1 hx
      simpa using hh
    · intro hh
      exact ⟨(k : Int), (hin _).2 ⟨k, rfl, hh⟩, by simp⟩
end Go.Proofs.YtdpmpppafkefoaaDoor
