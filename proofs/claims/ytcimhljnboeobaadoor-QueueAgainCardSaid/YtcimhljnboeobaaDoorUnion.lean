/- Union. -/
import Derived.Test.YtcimhljnboeobaaDoorAdd
import Derived.Maps.RangeWalk
import Derived.LaidEqlPtr
namespace Go.Proofs.YtcimhljnboeobaaDoor
open Go.RowKit Go.Maps

theorem ranges_touch {P : Program} {k : TypeId} {R : Value → Option (DataW Unit × List MemPlace)} {w w' : World} {b r n : Nat} {D : DataW Unit} {left : Lit → Bool} {cnt : Nat} {Q : Nat → Prop} (h : w.ranges P k R b r n D left cnt) (ht : Touch w w' Q) (hb' : ¬ Q b) (hr' : ¬ Q r) : w'.ranges P k R b r n D left cnt := by
  have h1 := h.owns.lt
  have h2 := h.lt
  obtain ⟨es, clock, since, seen, c0, hb, F, hs, hD, hr, rest⟩ := h
  exact ⟨es, clock, since, seen, c0, (ht.block b h1 hb').trans hb, F, hs, hD, (ht.block r h2 hr').trans hr, rest⟩

/-- A list with those of another one that it lacks. -/
def uni (l o : List Nat) : List Nat := l ++ o.filter (fun n => !decide (n ∈ l))
theorem mem_uni {l o : List Nat} {n : Nat} : n ∈ uni l o ↔ n ∈ l ∨ n ∈ o := by
  unfold uni
  rw [List.mem_append, List.mem_filter]
  by_cases h : n ∈ l <;> simp [h]
theorem nodup_uni {l o : List Nat} (hl : l.Nodup) (ho : o.Nodup) : (uni l o).Nodup := by
  unfold uni
  rw [List.nodup_append]
  refine ⟨hl, ho.sublist List.filter_sublist, fun a ha b hb e => ?_⟩
  subst e
  simp [List.mem_filter] at hb
  exact hb.2 ha

/-- An entry of a set's map is a word of it. -/
theorem entry_word {D : DataW Unit} {l : List Nat} (h : Words D l) (hs : ∀ n ∈ l, n < 9223372036854775808) {x c : Int} (hat : ∀ zd, D.atKey (.int .i64 x) zd = .lit (.int .u64 c)) :
    ∃ k d : Nat, x = k ∧ c = d ∧ Bit d k l ∧ d ≠ 0 ∧ k < 144115188075855872 := by
  have hh := has_true_of_atKey hat
  obtain ⟨k, hk⟩ := h.keys _ hh
  obtain ⟨d, hb, h1, h2⟩ := h.word k
  rw [hk] at hh
  rw [hh] at h1
  have hd : d ≠ 0 := of_decide_eq_true h1.symm
  have h3 := hat (wd 0)
  rw [hk, h2] at h3
  simp only [wd, DataW.lit.injEq, Lit.int.injEq, true_and] at h3
  simp only [key, Lit.int.injEq, true_and] at hk
  refine ⟨k, d, hk, h3.symm, hb, hd, ?_⟩
  have h4 : ¬ ∀ n ∈ l, n / 64 ≠ k := fun e => hd (hb.zero.2 e)
  obtain ⟨n, hn, he⟩ : ∃ n, n ∈ l ∧ n / 64 = k := by
    apply Classical.byContradiction
    intro hne
    exact h4 (fun n hn e => hne ⟨n, hn, e⟩)
  have := hs n hn
  omega

theorem strike_key {left : Lit → Bool} {k k' : Nat} : (left (key k') && !(key k').sameKey (key k)) = false ↔ left (key k') = false ∨ k' = k := by
  by_cases e : k' = k
  · subst e
    rw [WideAt.sameKey_self (key_lit k')]
    simp
  · have : (key k').sameKey (key k) = false := sameKey_ne (fun h => e (key_inj h))
    rw [this]
    simp [e]

theorem Words.has_of_mem {D : DataW Unit} {l : List Nat} (h : Words D l) {n : Nat} (hn : n ∈ l) : has D (key (n / 64)) = true := by
  obtain ⟨c, hb, h1, _⟩ := h.word (n / 64)
  rw [h1]
  have : c ≠ 0 := fun e => hb.zero.1 e n hn rfl
  simp [this]

theorem union_step {l m o : List Nat} {left : Lit → Bool} {cs d k : Nat} (hm : ∀ n, n ∈ m ↔ n ∈ l ∨ (n ∈ o ∧ left (key (n / 64)) = false)) (hs : Bit cs k m) (hd : Bit d k o) (n : Nat) :
    n ∈ m ++ nums k (d &&& (18446744073709551615 - cs)) ↔ n ∈ l ∨ (n ∈ o ∧ (left (key (n / 64)) && !(key (n / 64)).sameKey (key k)) = false) := by
  rw [List.mem_append, mem_nums, strike_key]
  have hj : n % 64 < 64 := by omega
  rw [tb_less hs.1 hj]
  by_cases e : n / 64 = k
  · subst e
    have h1 := hs.2 (n % 64) hj
    have h2 := hd.2 (n % 64) hj
    rw [Nat.div_add_mod] at h1 h2
    rw [Bool.and_eq_true, h2, Bool.not_eq_true']
    have h3 := hm n
    by_cases hn : n ∈ m
    · have := h3.1 hn
      constructor
      · intro _
        rcases this with h | ⟨h, _⟩
        · exact Or.inl h
        · exact Or.inr ⟨h, Or.inr rfl⟩
      · intro _; exact Or.inl hn
    · have hc : cs.testBit (n % 64) = false := by
        cases e : cs.testBit (n % 64)
        · rfl
        · exact absurd (h1.1 e) hn
      constructor
      · rintro (h | ⟨_, h, _⟩)
        · exact absurd h hn
        · exact Or.inr ⟨h, Or.inr rfl⟩
      · rintro (h | ⟨h, _⟩)
        · exact absurd (h3.2 (Or.inl h)) hn
        · exact Or.inr ⟨rfl, h, hc⟩
  · rw [hm n]
    constructor
    · rintro (h | ⟨h, _⟩)
      · exact h.imp id (fun ⟨a, b⟩ => ⟨a, Or.inl b⟩)
      · exact absurd h e
    · rintro (h | ⟨h, h' | h'⟩)
      · exact Or.inl (Or.inl h)
      · exact Or.inl (Or.inr ⟨h, h'⟩)
      · exact absurd h' e

section
variable {w w' : World} {sb bm so bo : Nat} {D Do : DataW Unit} {l l' o : List Nat}

theorem _root_.Go.Proofs.YtcimhljnboeobaaDoor.Touch.next {a b c : World} {Q Q' : Nat → Prop} (h : Touch a b Q) (g : Touch b c Q') (hs : ∀ k, Q' k → a.heap.size ≤ k ∨ Q k) : Touch a c Q :=
  ⟨g.os.trans h.os, g.tape.trans h.tape, g.output.trans h.output, Nat.le_trans h.size g.size, fun k hk hn => (g.block k (Nat.lt_of_lt_of_le hk h.size) (fun e => by
    rcases hs k e with h1 | h1
    · omega
    · exact hn h1)).trans (h.block k hk hn)⟩

end
end Go.Proofs.YtcimhljnboeobaaDoor
