/- A map from numbers to words as the set of numbers that its words' bits are. -/
import Derived.Test.YtcimhljnboeobaaDoorPop
import Derived.Test.YtcimhljnboeobaaDoorTab
import Derived.Maps.Ext
namespace Go.Proofs.YtcimhljnboeobaaDoor
open Go.Maps

/-- No member twice, all among those of another list: no longer than it. -/
theorem nodup_len_le {α : Type} : ∀ {a b : List α}, a.Nodup → (∀ x ∈ a, x ∈ b) → a.length ≤ b.length
  | [], b, _, _ => Nat.zero_le _
  | x :: r, b, hn, hs => by
    classical
    rw [List.nodup_cons] at hn
    have hx : x ∈ b := hs x (by simp)
    have h1 : r.length ≤ (b.erase x).length := nodup_len_le hn.2 (fun y hy => by
      have hne : y ≠ x := fun e => hn.1 (e ▸ hy)
      exact (List.mem_erase_of_ne hne).2 (hs y (by simp [hy])))
    rw [List.length_erase_of_mem hx] at h1
    have : 0 < b.length := List.length_pos_of_mem hx
    simp only [List.length_cons]
    omega

/-- Two lists with no member twice and the same members: as long as each other. -/
theorem nodup_len_eq {α : Type} {a b : List α} (ha : a.Nodup) (hb : b.Nodup) (h : ∀ x, x ∈ a ↔ x ∈ b) : a.length = b.length :=
  Nat.le_antisymm (nodup_len_le ha (fun x hx => (h x).1 hx)) (nodup_len_le hb (fun x hx => (h x).2 hx))

/-- c is word k of the numbers of l. -/
def Bit (c k : Nat) (l : List Nat) : Prop := c < 18446744073709551616 ∧ ∀ j, j < 64 → (c.testBit j = true ↔ 64 * k + j ∈ l)

theorem bits_ext {a b : Nat} (ha : a < 18446744073709551616) (hb : b < 18446744073709551616) (h : ∀ j, j < 64 → a.testBit j = b.testBit j) : a = b := by
  apply Nat.eq_of_testBit_eq
  intro j
  by_cases hj : j < 64
  · exact h j hj
  · have e : (18446744073709551616 : Nat) = 2 ^ 64 := rfl
    have hp : 2 ^ 64 ≤ 2 ^ j := Nat.pow_le_pow_right (by decide) (by omega)
    rw [Nat.testBit_lt_two_pow (by omega), Nat.testBit_lt_two_pow (by omega)]

theorem Bit.uniq {c c' k : Nat} {l : List Nat} (h : Bit c k l) (h' : Bit c' k l) : c = c' :=
  bits_ext h.1 h'.1 (fun j hj => by
    have := (h.2 j hj).trans (h'.2 j hj).symm
    cases e : c.testBit j <;> cases e' : c'.testBit j <;> simp_all)

theorem Bit.zero {c k : Nat} {l : List Nat} (h : Bit c k l) : c = 0 ↔ ∀ n ∈ l, n / 64 ≠ k := by
  constructor
  · rintro rfl n hn e
    have := (h.2 (n % 64) (by omega)).2 (by rw [← e, Nat.div_add_mod]; exact hn)
    simp at this
  · intro hn
    refine bits_ext h.1 (by decide) (fun j hj => ?_)
    rw [Nat.zero_testBit]
    cases e : c.testBit j
    · rfl
    · exact absurd (by omega) (hn _ ((h.2 j hj).1 e))

theorem Bit.congr {c k : Nat} {l l' : List Nat} (h : Bit c k l) (hm : ∀ n, n / 64 = k → (n ∈ l ↔ n ∈ l')) : Bit c k l' :=
  ⟨h.1, fun j hj => (h.2 j hj).trans (hm _ (by omega))⟩

section
variable {H : Type}
def key (k : Nat) : Lit := .int .i64 k
def wd (c : Nat) : DataW H := .lit (.int .u64 c)
theorem key_inj {a b : Nat} (h : key a = key b) : a = b := by
  unfold key at h
  simp only [Lit.int.injEq, true_and] at h
  omega
theorem wd_inj {a b : Nat} (h : (wd a : DataW H) = wd b) : a = b := by
  unfold wd at h
  simp only [DataW.lit.injEq, Lit.int.injEq, true_and] at h
  omega
theorem key_lit (k : Nat) : WideAt.IsKeyLit (key k) := trivial

/-- D holds, word by word, just the numbers of l; no word is nought. -/
structure Words (D : DataW H) (l : List Nat) : Prop where
  keys : ∀ kl, has D kl = true → ∃ k : Nat, kl = key k
  word : ∀ k : Nat, ∃ c : Nat, Bit c k l ∧ has D (key k) = decide (c ≠ 0) ∧ D.atKey (key k) (wd 0) = wd c

theorem Words.at {D : DataW H} {l : List Nat} (h : Words D l) {c k : Nat} (hb : Bit c k l) : has D (key k) = decide (c ≠ 0) ∧ D.atKey (key k) (wd 0) = wd c := by
  obtain ⟨c', hb', h1, h2⟩ := h.word k
  obtain rfl := hb.uniq hb'
  exact ⟨h1, h2⟩

theorem words_none : Words (.map [] : DataW H) [] :=
  ⟨fun _ h => (by cases h), fun k => ⟨0, ⟨by decide, fun j _ => by simp⟩, rfl, rfl⟩⟩

/-- One word has turned. -/
theorem Words.turn {D D' : DataW H} {l l' : List Nat} (h : Words D l) {c k : Nat} (hb : Bit c k l') (hh : has D' (key k) = decide (c ≠ 0)) (ha : D'.atKey (key k) (wd 0) = wd c)
    (hoh : ∀ kl, kl ≠ key k → has D' kl = has D kl) (hoa : ∀ kl, kl ≠ key k → D'.atKey kl (wd 0) = D.atKey kl (wd 0)) (hl : ∀ n, n / 64 ≠ k → (n ∈ l' ↔ n ∈ l)) : Words D' l' := by
  refine ⟨fun kl hk => ?_, fun k' => ?_⟩
  · by_cases e : kl = key k
    · exact ⟨k, e⟩
    · rw [hoh kl e] at hk
      exact h.keys kl hk
  · by_cases e : k' = k
    · subst e
      exact ⟨c, hb, hh, ha⟩
    · have hne : key k' ≠ key k := fun x => e (key_inj x)
      obtain ⟨c', hb', h1, h2⟩ := h.word k'
      exact ⟨c', hb'.congr (fun n hn => (hl n (by omega)).symm), by rw [hoh _ hne]; exact h1, by rw [hoa _ hne]; exact h2⟩

theorem Words.put {D : DataW H} {l l' : List Nat} (h : Words D l) (hm : IsMap D) {c k : Nat} (hb : Bit c k l') (hc : c ≠ 0) (hl : ∀ n, n / 64 ≠ k → (n ∈ l' ↔ n ∈ l)) : Words (D.put (key k) (wd c)) l' :=
  h.turn hb (by rw [has_put_same hm (key_lit k)]; simp [hc]) (atKey_put_same hm (key_lit k) _ _) (fun kl e => has_put_other e _) (fun kl e => atKey_put_other e _ _) hl

theorem Words.putdel {D : DataW H} {l l' : List Nat} (h : Words D l) {k : Nat} (d : DataW H) (hb : Bit 0 k l') (hl : ∀ n, n / 64 ≠ k → (n ∈ l' ↔ n ∈ l)) : Words ((D.put (key k) d).del (key k)) l' :=
  h.turn hb (by rw [has_del_same]; rfl) (atKey_del_same _) (fun kl e => by rw [has_del_other e, has_put_other e]) (fun kl e => by rw [atKey_del_other e, atKey_put_other e]) hl

theorem Words.congr {D : DataW H} {l l' : List Nat} (h : Words D l) (hm : ∀ n, n ∈ l ↔ n ∈ l') : Words D l' :=
  ⟨h.keys, fun k => by obtain ⟨c, hb, h1, h2⟩ := h.word k; exact ⟨c, hb.congr (fun n _ => hm n), h1, h2⟩⟩

/-- No more words than numbers. -/
theorem Words.size_le {D : DataW H} {l : List Nat} (h : Words D l) (ht : Canon D) : size D ≤ l.length := by
  obtain ⟨es, rfl, hp, hk⟩ := ht
  rw [size_eq]
  have h1 : es.length = (es.map (fun p => p.1)).length := by simp
  have h2 : l.length = (l.map (fun n => key (n / 64))).length := by simp
  rw [h1, h2]
  refine nodup_len_le ?_ (fun x hx => ?_)
  · rw [List.Nodup, List.pairwise_map]
    exact apart_of_rising hp
  · obtain ⟨p, hp, rfl⟩ := List.mem_map.1 hx
    have hh : has (.map es) p.1 = true := by rw [has_eq]; exact List.any_eq_true.2 ⟨p, hp, WideAt.sameKey_self (hk p hp)⟩
    obtain ⟨k, hk⟩ := h.keys _ hh
    obtain ⟨c, hb, h3, _⟩ := h.word k
    rw [hk] at hh
    rw [hh] at h3
    have hc : c ≠ 0 := of_decide_eq_true h3.symm
    have h4 : ¬ ∀ n ∈ l, n / 64 ≠ k := fun e => hc (hb.zero.2 e)
    obtain ⟨n, hn, he⟩ : ∃ n, n ∈ l ∧ n / 64 = k := by
      apply Classical.byContradiction
      intro hne
      exact h4 (fun n hn e => hne ⟨n, hn, e⟩)
    exact List.mem_map.2 ⟨n, hn, by rw [he, hk]⟩
end

/-! ### words of numbers -/
theorem tb_small {a : Nat} (h : a < 18446744073709551616) {j : Nat} (hj : 64 ≤ j) : a.testBit j = false := by
  have hp : 2 ^ 64 ≤ 2 ^ j := Nat.pow_le_pow_right (by decide) hj
  exact Nat.testBit_lt_two_pow (by omega)

/-- 'a &^ b': the bits of a that b lacks. -/
theorem tb_less {a b : Nat} (hb : b < 18446744073709551616) {j : Nat} (hj : j < 64) : (a &&& (18446744073709551615 - b)).testBit j = (a.testBit j && !b.testBit j) := by
  rw [Nat.testBit_and]
  have e : (18446744073709551615 - b) = 2 ^ 64 - (b + 1) := by omega
  rw [e, Nat.testBit_two_pow_sub_succ (by omega)]
  simp [hj]

theorem less_lt {a b : Nat} (ha : a < 18446744073709551616) : a &&& b < 18446744073709551616 := Nat.lt_of_le_of_lt Nat.and_le_left ha
theorem or_lt {a b : Nat} (ha : a < 18446744073709551616) (hb : b < 18446744073709551616) : a ||| b < 18446744073709551616 := Nat.or_lt_two_pow (n := 64) ha hb

theorem less_zero {a b : Nat} (ha : a < 18446744073709551616) (hb : b < 18446744073709551616) : a &&& (18446744073709551615 - b) = 0 ↔ ∀ j, j < 64 → a.testBit j = true → b.testBit j = true := by
  constructor
  · intro h j hj h1
    have h2 := tb_less (a := a) hb hj
    rw [h, Nat.zero_testBit, h1] at h2
    simpa using h2
  · intro h
    refine bits_ext (less_lt ha) (by decide) (fun j hj => ?_)
    rw [tb_less hb hj, Nat.zero_testBit]
    cases e : a.testBit j
    · rfl
    · rw [h j hj e]; rfl

/-- The numbers of a word. -/
def nums (k c : Nat) : List Nat := (bitsOf 64 c).map (fun j => 64 * k + j)
theorem mem_nums {k c n : Nat} : n ∈ nums k c ↔ n / 64 = k ∧ c.testBit (n % 64) = true := by
  unfold nums
  rw [List.mem_map]
  constructor
  · rintro ⟨j, hj, rfl⟩
    obtain ⟨h1, h2⟩ := mem_bitsOf.1 hj
    refine ⟨by omega, ?_⟩
    rw [show (64 * k + j) % 64 = j by omega]
    exact h2
  · rintro ⟨rfl, h⟩
    exact ⟨n % 64, mem_bitsOf.2 ⟨by omega, h⟩, by omega⟩
theorem nodup_nums (k c : Nat) : (nums k c).Nodup := by
  unfold nums List.Nodup
  rw [List.pairwise_map]
  exact (nodup_bitsOf 64 c).imp (fun h e => h (by omega))
theorem len_nums (k c : Nat) : (nums k c).length = cnt 64 c := by simp [nums, cnt]
theorem cnt_le (c : Nat) : cnt 64 c ≤ 64 := by
  unfold cnt bitsOf
  have := List.length_filter_le (fun j => c.testBit j) (List.range 64)
  simpa using this

/-- A word laid over another: what is there behind. -/
theorem Bit.put {c k v : Nat} {l : List Nat} (h : Bit c k l) (hv : v < 18446744073709551616) : Bit (c ||| v) k (l ++ nums k (v &&& (18446744073709551615 - c))) := by
  refine ⟨or_lt h.1 hv, fun j hj => ?_⟩
  rw [List.mem_append, mem_nums, ← h.2 j hj, show (64 * k + j) % 64 = j by omega, show (64 * k + j) / 64 = k by omega, tb_less h.1 hj, Nat.testBit_or]
  cases c.testBit j <;> cases v.testBit j <;> simp

theorem nodup_put {c k v : Nat} {l : List Nat} (h : Bit c k l) (hn : l.Nodup) : (l ++ nums k (v &&& (18446744073709551615 - c))).Nodup := by
  rw [List.nodup_append]
  refine ⟨hn, nodup_nums _ _, fun a ha b hb e => ?_⟩
  subst e
  obtain ⟨rfl, h2⟩ := mem_nums.1 hb
  have hj : a % 64 < 64 := by omega
  rw [tb_less h.1 hj] at h2
  have := (h.2 _ hj).2 (by rw [Nat.div_add_mod]; exact ha)
  rw [this] at h2
  simp at h2
end Go.Proofs.YtcimhljnboeobaaDoor
