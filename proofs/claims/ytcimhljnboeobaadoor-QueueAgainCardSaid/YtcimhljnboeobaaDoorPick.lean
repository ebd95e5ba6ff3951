/- pick, Minus, Both, Copy. -/
import Derived.Test.YtcimhljnboeobaaDoorUnion
import Derived.Shelf.Abstract
namespace Go.Proofs.YtcimhljnboeobaaDoor
open Go.RowKit Go.Maps

theorem mem_put {m : List Nat} {cs v k : Nat} (hs : Bit cs k m) (n : Nat) : n ∈ m ++ nums k (v &&& (18446744073709551615 - cs)) ↔ n ∈ m ∨ (n / 64 = k ∧ v.testBit (n % 64) = true) := by
  have hj : n % 64 < 64 := by omega
  rw [List.mem_append, mem_nums, tb_less hs.1 hj]
  by_cases e : n / 64 = k
  · subst e
    have h1 := hs.2 (n % 64) hj
    rw [Nat.div_add_mod] at h1
    by_cases hn : n ∈ m
    · simp [hn]
    · have : cs.testBit (n % 64) = false := by
        cases e : cs.testBit (n % 64)
        · rfl
        · exact absurd (h1.1 e) hn
      simp [hn, this]
  · simp [e]

theorem pick_step {l m : List Nat} {q : Nat → Bool} {left : Lit → Bool} {cs d v k : Nat} (hm : ∀ n, n ∈ m ↔ n ∈ l ∧ q n = true ∧ left (key (n / 64)) = false) (hs : Bit cs k m) (hd : Bit d k l) (hv : ∀ j, j < 64 → v.testBit j = (d.testBit j && q (64 * k + j))) (n : Nat) :
    n ∈ m ++ nums k (v &&& (18446744073709551615 - cs)) ↔ n ∈ l ∧ q n = true ∧ (left (key (n / 64)) && !(key (n / 64)).sameKey (key k)) = false := by
  rw [mem_put hs, strike_key, hm]
  have hj : n % 64 < 64 := by omega
  by_cases e : n / 64 = k
  · subst e
    have h2 := hd.2 (n % 64) hj
    rw [hv _ hj]
    rw [Nat.div_add_mod] at h2 ⊢
    rw [Bool.and_eq_true, h2]
    constructor
    · rintro (⟨a, b, _⟩ | ⟨_, h⟩)
      · exact ⟨a, b, Or.inr rfl⟩
      · exact ⟨h.1, h.2, Or.inr rfl⟩
    · rintro ⟨a, b, _⟩
      exact Or.inr ⟨rfl, a, b⟩
  · simp [e]

theorem bits_zero {v k : Nat} {d : Nat} {q : Nat → Bool} (hv : ∀ j, j < 64 → v.testBit j = (d.testBit j && q (64 * k + j))) (h0 : v = 0) (cs : Nat) : nums k (v &&& (18446744073709551615 - cs)) = [] := by
  subst h0
  rw [Nat.zero_and]
  simp [nums, bits_none]

section
variable {w w' : World} {sb bm so bo : Nat} {D Do : DataW Unit} {l l' o : List Nat}

theorem rd_none (w : World) : Rd w (.slice none 0 0) ([] : List Value) := Or.inl ⟨rfl, Or.inl rfl⟩

end
end Go.Proofs.YtcimhljnboeobaaDoor
