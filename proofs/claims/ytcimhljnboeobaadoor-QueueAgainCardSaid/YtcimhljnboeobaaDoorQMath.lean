/- Queues: levels of words. -/
import Derived.Test.YtcimhljnboeobaaDoorLeast
import Derived.Test.YtcimhljnboeobaaDoorRFun
namespace Go.Proofs.YtcimhljnboeobaaDoor
open Go.RowKit Go.Maps

theorem bit_exQ (k : Nat) : ∀ l : List Nat, ∃ c, Bit c k l
  | [] => ⟨0, by decide, fun j _ => by simp⟩
  | x :: r => by
    obtain ⟨c, hc⟩ := bit_exQ k r
    by_cases e : x / 64 = k
    · have hp : 2 ^ (x % 64) < 18446744073709551616 := Nat.pow_lt_pow_of_lt (by decide : 1 < 2) (show x % 64 < 64 by omega)
      refine ⟨c ||| 2 ^ (x % 64), or_lt hc.1 hp, fun j hj => ?_⟩
      rw [Nat.testBit_or, Bool.or_eq_true, hc.2 j hj, Nat.testBit_two_pow, List.mem_cons, decide_eq_true_iff]
      have : x % 64 = j ↔ 64 * k + j = x := by omega
      rw [this]
      exact Or.comm
    · refine ⟨c, hc.1, fun j hj => ?_⟩
      rw [hc.2 j hj, List.mem_cons]
      have : 64 * k + j ≠ x := by omega
      simp [this]
noncomputable def wordQ (l : List Nat) (k : Nat) : Nat := Classical.choose (bit_exQ k l)
theorem wordQ_bit (l : List Nat) (k : Nat) : Bit (wordQ l k) k l := Classical.choose_spec (bit_exQ k l)
theorem rising_numsQ (k c : Nat) : (nums k c).Pairwise (· < ·) := by
  unfold nums
  rw [List.pairwise_map]
  exact (rising_bitsOf 64 c).imp (fun h => by omega)
/-- What a level has. -/
def up (j : Nat) (l : List Nat) : List Nat := l.map (fun x => x / 64 ^ j)
theorem mem_up {j y : Nat} {l : List Nat} : y ∈ up j l ↔ ∃ x ∈ l, x / 64 ^ j = y := by unfold up; exact List.mem_map
theorem up_zero {l : List Nat} {y : Nat} : y ∈ up 0 l ↔ y ∈ l := by rw [mem_up]; simp
theorem div_next (x j : Nat) : x / 64 ^ (j + 1) = x / 64 ^ j / 64 := by rw [Nat.pow_succ, Nat.div_div_eq_div_mul]
/-- The pairs of words below a node. -/
noncomputable def seqW (l : List Nat) : Nat → Nat → List (Nat × Nat)
  | 0, k => [(k, wordQ (up 0 l) k)]
  | j + 1, k => (bitsOf 64 (wordQ (up (j + 1) l) k)).flatMap (fun b => seqW l j (64 * k + b))
def tookQ (xs : List (Nat × Nat)) : List Nat := xs.flatMap (fun x => nums x.1 x.2)
theorem tookQ_app (a b : List (Nat × Nat)) : tookQ (a ++ b) = tookQ a ++ tookQ b := by simp [tookQ]
theorem mem_tookQ_flat {f : Nat → List (Nat × Nat)} {bs : List Nat} {y : Nat} : y ∈ tookQ (bs.flatMap f) ↔ ∃ b ∈ bs, y ∈ tookQ (f b) := by
  unfold tookQ
  rw [List.flatMap_assoc, List.mem_flatMap]
theorem mem_seq {l : List Nat} : ∀ {j k y : Nat}, y ∈ tookQ (seqW l j k) ↔ y ∈ l ∧ y / 64 ^ (j + 1) = k
  | 0, k, y => by
    unfold seqW tookQ
    rw [List.flatMap_singleton, mem_nums]
    constructor
    · rintro ⟨rfl, h⟩
      have := ((wordQ_bit (up 0 l) (y / 64)).2 (y % 64) (by omega)).1 h
      rw [Nat.div_add_mod, up_zero] at this
      exact ⟨this, by simp⟩
    · rintro ⟨h, e⟩
      have e : y / 64 = k := by simpa using e
      subst e
      exact ⟨rfl, ((wordQ_bit (up 0 l) (y / 64)).2 (y % 64) (by omega)).2 (by rw [Nat.div_add_mod, up_zero]; exact h)⟩
  | j + 1, k, y => by
    unfold seqW
    rw [mem_tookQ_flat]
    constructor
    · rintro ⟨b, hb, hy⟩
      obtain ⟨h1, h2⟩ := mem_seq.1 hy
      have hb2 := (mem_bitsOf.1 hb).1
      exact ⟨h1, by rw [div_next, h2]; omega⟩
    · rintro ⟨h1, h2⟩
      rw [div_next] at h2
      refine ⟨y / 64 ^ (j + 1) % 64, mem_bitsOf.2 ⟨by omega, ?_⟩, mem_seq.2 ⟨h1, by omega⟩⟩
      refine ((wordQ_bit (up (j + 1) l) k).2 _ (by omega)).2 ?_
      rw [show 64 * k + y / 64 ^ (j + 1) % 64 = y / 64 ^ (j + 1) by omega]
      exact mem_up.2 ⟨y, h1, rfl⟩
theorem rising_seq {l : List Nat} : ∀ {j k : Nat}, (tookQ (seqW l j k)).Pairwise (· < ·)
  | 0, k => by
    unfold seqW tookQ
    rw [List.flatMap_singleton]
    exact rising_numsQ _ _
  | j + 1, k => by
    unfold seqW
    have key : ∀ bs : List Nat, bs.Pairwise (· < ·) → (tookQ (bs.flatMap (fun b => seqW l j (64 * k + b)))).Pairwise (· < ·) := by
      intro bs
      induction bs with
      | nil => intro _; exact List.Pairwise.nil
      | cons b bs ih =>
        intro h
        obtain ⟨h1, h2⟩ := List.pairwise_cons.1 h
        rw [List.flatMap_cons, tookQ_app, List.pairwise_append]
        refine ⟨rising_seq, ih h2, fun x hx y hy => ?_⟩
        obtain ⟨b', hb', hy⟩ := mem_tookQ_flat.1 hy
        have e1 := (mem_seq.1 hx).2
        have e2 := (mem_seq.1 hy).2
        have := h1 b' hb'
        rcases Nat.lt_or_ge x y with h | h
        · exact h
        · have := Nat.div_le_div_right (c := 64 ^ (j + 1)) h
          omega
    exact key _ (rising_bitsOf 64 _)
theorem seq_bound {l : List Nat} : ∀ {j k : Nat} {x : Nat × Nat}, x ∈ seqW l j k → x.1 < (k + 1) * 64 ^ j ∧ x.2 < 18446744073709551616
  | 0, k, x, h => by
    unfold seqW at h
    rw [List.mem_singleton] at h
    subst h
    exact ⟨by simp, (wordQ_bit (up 0 l) k).1⟩
  | j + 1, k, x, h => by
    unfold seqW at h
    obtain ⟨b, hb, hx⟩ := List.mem_flatMap.1 h
    obtain ⟨h1, h2⟩ := seq_bound hx
    have hb2 := (mem_bitsOf.1 hb).1
    refine ⟨Nat.lt_of_lt_of_le h1 ?_, h2⟩
    rw [Nat.pow_succ, Nat.mul_comm (64 ^ j) 64, ← Nat.mul_assoc]
    exact Nat.mul_le_mul_right _ (by omega)
/-- Two rising lists with the same members are one. -/
theorem rising_eqQ : ∀ {a b : List Nat}, a.Pairwise (· < ·) → b.Pairwise (· < ·) → (∀ n, n ∈ a ↔ n ∈ b) → a = b
  | [], [], _, _, _ => rfl
  | [], y :: s, _, _, h => by have := (h y).2 (by simp); simp at this
  | x :: r, [], _, _, h => by have := (h x).1 (by simp); simp at this
  | x :: r, y :: s, h1, h2, h => by
    obtain ⟨a1, a2⟩ := List.pairwise_cons.1 h1
    obtain ⟨b1, b2⟩ := List.pairwise_cons.1 h2
    have hxy : x = y := by
      rcases List.mem_cons.1 ((h x).1 (by simp)) with e | hx
      · exact e
      · rcases List.mem_cons.1 ((h y).2 (by simp)) with e | hy
        · exact e.symm
        · have := a1 y hy; have := b1 x hx; omega
    subst hxy
    rw [rising_eqQ a2 b2 (fun n => ⟨fun hn => by
      rcases List.mem_cons.1 ((h n).1 (by simp [hn])) with rfl | h3
      · have := a1 n hn; omega
      · exact h3, fun hn => by
      rcases List.mem_cons.1 ((h n).2 (by simp [hn])) with rfl | h3
      · have := b1 n hn; omega
      · exact h3⟩)]
/-- All words of a queue, from the top. -/
theorem all_words {l : List Nat} {m : Nat} (hr : l.Pairwise (· < ·)) (hl : ∀ x ∈ l, x < 64 ^ (m + 1)) : tookQ (seqW l m 0) = l :=
  rising_eqQ rising_seq hr (fun n => by rw [mem_seq]; exact ⟨fun h => h.1, fun h => ⟨h, Nat.div_eq_of_lt (hl n h)⟩⟩)
/-- A level with one more. -/
theorem bit_add {c j x : Nat} {l : List Nat} (h : Bit c (x / 64 ^ j / 64) (up j l)) : Bit (c ||| 2 ^ (x / 64 ^ j % 64)) (x / 64 ^ j / 64) (up j (x :: l)) := by
  have hp : 2 ^ (x / 64 ^ j % 64) < 18446744073709551616 := Nat.pow_lt_pow_of_lt (by decide : 1 < 2) (show x / 64 ^ j % 64 < 64 by omega)
  refine ⟨or_lt h.1 hp, fun b hb => ?_⟩
  rw [Nat.testBit_or, Bool.or_eq_true, h.2 b hb, Nat.testBit_two_pow, decide_eq_true_iff]
  unfold up
  rw [List.map_cons, List.mem_cons]
  generalize x / 64 ^ j = i
  have : i % 64 = b ↔ 64 * (i / 64) + b = i := by omega
  rw [this]
  exact Or.comm
theorem up_other {j x n : Nat} {l : List Nat} (h : n / 64 ≠ x / 64 ^ j / 64) : n ∈ up j (x :: l) ↔ n ∈ up j l := by
  unfold up
  rw [List.map_cons, List.mem_cons]
  constructor
  · rintro (rfl | h2)
    · exact absurd rfl h
    · exact h2
  · exact .inr
/-- Above a word that had something a level stays. -/
theorem up_same {j x : Nat} {l : List Nat} {c : Nat} (h : Bit c (x / 64 ^ j / 64) (up j l)) (hc : c ≠ 0) {i : Nat} (hi : j < i) {n : Nat} : n ∈ up i (x :: l) ↔ n ∈ up i l := by
  have h0 := (not_congr h.zero).1 hc
  obtain ⟨y, hy, e⟩ : ∃ y ∈ up j l, y / 64 = x / 64 ^ j / 64 := by
    apply Classical.byContradiction
    intro hn
    exact h0 (fun y hy e => hn ⟨y, hy, e⟩)
  obtain ⟨z, hz, rfl⟩ := mem_up.1 hy
  have key : z / 64 ^ i = x / 64 ^ i := by
    obtain ⟨t, rfl⟩ : ∃ t, i = j + 1 + t := ⟨i - (j + 1), by omega⟩
    rw [Nat.pow_add, ← Nat.div_div_eq_div_mul, ← Nat.div_div_eq_div_mul, div_next, div_next, e]
  rw [mem_up, mem_up]
  constructor
  · rintro ⟨u, hu, rfl⟩
    rcases List.mem_cons.1 hu with rfl | hu
    · exact ⟨z, hz, key⟩
    · exact ⟨u, hu, rfl⟩
  · rintro ⟨u, hu, rfl⟩
    exact ⟨u, List.mem_cons_of_mem _ hu, rfl⟩
/-- A level with one less: where no node below its word is left. -/
theorem bit_less {c j x : Nat} {l l' : List Nat} (h : Bit c (x / 64 ^ j / 64) (up j l)) (hl : ∀ y, y ∈ l ↔ y = x ∨ y ∈ l') (hx : x / 64 ^ j ∉ up j l') : Bit (c &&& (18446744073709551615 - 2 ^ (x / 64 ^ j % 64))) (x / 64 ^ j / 64) (up j l') := by
  have hp : 2 ^ (x / 64 ^ j % 64) < 18446744073709551616 := Nat.pow_lt_pow_of_lt (by decide : 1 < 2) (show x / 64 ^ j % 64 < 64 by omega)
  refine ⟨less_lt h.1, fun b hb => ?_⟩
  rw [tb_less hp hb, Bool.and_eq_true, h.2 b hb, Nat.testBit_two_pow]
  have hm : ∀ n, n ∈ up j l ↔ n = x / 64 ^ j ∨ n ∈ up j l' := by
    intro n
    rw [mem_up, mem_up]
    constructor
    · rintro ⟨u, hu, rfl⟩
      rcases (hl u).1 hu with rfl | hu
      · exact .inl rfl
      · exact .inr ⟨u, hu, rfl⟩
    · rintro (rfl | ⟨u, hu, rfl⟩)
      · exact ⟨x, (hl x).2 (.inl rfl), rfl⟩
      · exact ⟨u, (hl u).2 (.inr hu), rfl⟩
  rw [hm]
  generalize x / 64 ^ j = i at hx
  constructor
  · rintro ⟨h1 | h1, h2⟩
    · exfalso
      have : i % 64 = b := by omega
      simp [this] at h2
    · exact h1
  · intro h1
    refine ⟨.inr h1, ?_⟩
    have : i % 64 ≠ b := by
      rintro rfl
      rw [Nat.div_add_mod] at h1
      exact hx h1
    simp [this]
theorem less_other {j x n : Nat} {l l' : List Nat} (hl : ∀ y, y ∈ l ↔ y = x ∨ y ∈ l') (h : n / 64 ≠ x / 64 ^ j / 64) : n ∈ up j l' ↔ n ∈ up j l := by
  rw [mem_up, mem_up]
  constructor
  · rintro ⟨u, hu, rfl⟩
    exact ⟨u, (hl u).2 (.inr hu), rfl⟩
  · rintro ⟨u, hu, rfl⟩
    rcases (hl u).1 hu with rfl | hu
    · exact absurd rfl h
    · exact ⟨u, hu, rfl⟩
/-- Where something is left in a word, all levels above stay; where not, its node goes too. -/
theorem less_same {c j x : Nat} {l l' : List Nat} (h : Bit c (x / 64 ^ j / 64) (up j l')) (hl : ∀ y, y ∈ l ↔ y = x ∨ y ∈ l') (hc : c ≠ 0) {i : Nat} (hi : j < i) {n : Nat} : n ∈ up i l' ↔ n ∈ up i l := by
  rw [← up_same h hc hi, mem_up, mem_up]
  constructor
  · rintro ⟨u, hu, rfl⟩
    exact ⟨u, (hl u).2 (List.mem_cons.1 hu), rfl⟩
  · rintro ⟨u, hu, rfl⟩
    exact ⟨u, List.mem_cons.2 ((hl u).1 hu), rfl⟩
theorem less_next {j x : Nat} {l' : List Nat} (h : Bit 0 (x / 64 ^ j / 64) (up j l')) : x / 64 ^ (j + 1) ∉ up (j + 1) l' := by
  rw [mem_up]
  rintro ⟨u, hu, e⟩
  rw [div_next, div_next] at e
  exact (h.zero.1 rfl) _ (mem_up.2 ⟨u, hu, rfl⟩) e
theorem Words.delQ {D : DataW Unit} {l l' : List Nat} (h : Words D l) {k : Nat} (hb : Bit 0 k l') (hl : ∀ n, n / 64 ≠ k → (n ∈ l' ↔ n ∈ l)) : Words (D.del (key k)) l' :=
  h.turn hb (by rw [has_del_same]; rfl) (atKey_del_same _) (fun kl e => has_del_other e) (fun kl e => atKey_del_other e _) hl
end Go.Proofs.YtcimhljnboeobaaDoor
