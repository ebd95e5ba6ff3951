/- pick, Minus, Both, Copy. -/
import Derived.Test.YtdpmpppafkefoaaDoorUnion
import Derived.Shelf.Abstract
namespace Go.Proofs.YtdpmpppafkefoaaDoor
open Go.RowKit Go.Maps

/-- A set, or none. -/
def ASet (w : World) (v : Value) (l : List Nat) : Prop := (v = .pointer none ∧ l = []) ∨ ∃ sb bm D, v = .pointer (some ⟨sb, 0, none⟩) ∧ SetAt w sb bm D l

theorem ASet.below {w w' : World} {v : Value} {l : List Nat} (h : ASet w v l) (hb : Below w.heap.size w w') : ASet w' v l :=
  or_map h id (fun ⟨sb, bm, D, e, S⟩ => ⟨sb, bm, D, e, S.below hb⟩)
theorem ASet.nodup {w : World} {v : Value} {l : List Nat} (h : ASet w v l) : l.Nodup := by
  rcases h with ⟨_, rfl⟩ | ⟨_, _, _, _, S⟩
  · exact List.nodup_nil
  · exact S.nodup
theorem ASet.bit {w : World} {v : Value} {l : List Nat} (h : ASet w v l) (k : Nat) : ∃ c, Bit c k l := by
  rcases h with ⟨_, rfl⟩ | ⟨_, _, _, _, S⟩
  · exact ⟨0, by decide, fun j _ => by simp⟩
  · obtain ⟨c, hb, _⟩ := S.words.word k
    exact ⟨c, hb⟩
theorem ASet.form {w : World} {v : Value} {l : List Nat} (h : ASet w v l) : v = .pointer none ∨ ∃ a, v = .pointer (some a) := by
  rcases h with ⟨rfl, _⟩ | ⟨_, _, _, rfl, _⟩
  · exact Or.inl rfl
  · exact Or.inr ⟨_, rfl⟩

theorem word_a {w : World} {v : Value} {l : List Nat} (h : ASet w v l) {c k : Nat} (hb : Bit c k l) (hk : k < 9223372036854775808) : Calls Tryd.prog 31 #[v, .int .i64 k] w fun e w' => e = .returned (.int .u64 c) ∧ w' = w := by
  rcases h with ⟨rfl, rfl⟩ | ⟨_, _, _, rfl, S⟩
  · obtain rfl : c = 0 := hb.zero.2 (by simp)
    exact word_nil _ _
  · exact word_any S hb hk
theorem len_a {w : World} {v : Value} {l : List Nat} (h : ASet w v l) : Calls Tryd.prog 16 #[v] w fun e w' => e = .returned (.int .i64 l.length) ∧ w' = w := by
  rcases h with ⟨rfl, rfl⟩ | ⟨_, _, _, rfl, S⟩
  · exact len_nil _
  · exact len_any S

theorem mem_put {m : List Nat} {cs v k : Nat} (hs : Bit cs k m) (n : Nat) : n ∈ m ++ nums k (v &&& (18446744073709551615 - cs)) ↔ n ∈ m ∨ (n / 64 = k ∧ v.testBit (n % 64) = true) := by
  have hj : n % 64 < 64 := by omega
  rw [List.mem_append, mem_nums, tb_less hs.1 hj]
  by_cases e : n / 64 = k
  · subst e
    have h1 := hs.2 (n % 64) hj
    rw [Nat.div_add_mod] at h1
    by_cases hn : n ∈ m
    · simp [hn]
    · have : cs.testBit (n % 64) = false := by
        cases e : cs.testBit (n % 64)
        · rfl
        · exact absurd (h1.1 e) hn
      simp [hn, this]
  · simp [e]

theorem pick_step {l m : List Nat} {q : Nat → Bool} {left : Lit → Bool} {cs d v k : Nat} (hm : ∀ n, n ∈ m ↔ n ∈ l ∧ q n = true ∧ left (key (n / 64)) = false) (hs : Bit cs k m) (hd : Bit d k l) (hv : ∀ j, j < 64 → v.testBit j = (d.testBit j && q (64 * k + j))) (n : Nat) :
    n ∈ m ++ nums k (v &&& (18446744073709551615 - cs)) ↔ n ∈ l ∧ q n = true ∧ (left (key (n / 64)) && !(key (n / 64)).sameKey (key k)) = false := by
  rw [mem_put hs, strike_key, hm]
  have hj : n % 64 < 64 := by omega
  by_cases e : n / 64 = k
  · subst e
    have h2 := hd.2 (n % 64) hj
    rw [hv _ hj]
    rw [Nat.div_add_mod] at h2 ⊢
    rw [Bool.and_eq_true, h2]
    constructor
    · rintro (⟨a, b, _⟩ | ⟨_, h⟩)
      · exact ⟨a, b, Or.inr rfl⟩
      · exact ⟨h.1, h.2, Or.inr rfl⟩
    · rintro ⟨a, b, _⟩
      exact Or.inr ⟨rfl, a, b⟩
  · simp [e]

theorem bits_zero {v k : Nat} {d : Nat} {q : Nat → Bool} (hv : ∀ j, j < 64 → v.testBit j = (d.testBit j && q (64 * k + j))) (h0 : v = 0) (cs : Nat) : nums k (v &&& (18446744073709551615 - cs)) = [] := by
  subst h0
  rw [Nat.zero_and]
  simp [nums, bits_none]

section
variable {w w' : World} {sb bm so bo : Nat} {D Do : DataW Unit} {l l' o : List Nat}

theorem rd_none (w : World) : Rd w (.slice none 0 0) ([] : List Value) := Or.inl ⟨rfl, Or.inl rfl⟩

theorem of_none (w : World) : Calls Tryd.prog 6 #[.slice none 0 0] w fun e w' => e = .returned (.pointer (some ⟨w.heap.size + 1, 0, none⟩)) ∧ (∃ D', SetAt w' (w.heap.size + 1) w.heap.size D' []) ∧ Below w.heap.size w w' :=
  of_any (xs := []) (rd_none w) (by simp) (by simp)

end
end Go.Proofs.YtdpmpppafkefoaaDoor
