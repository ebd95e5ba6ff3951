/- The bits of a word: their number, as math/bits reckons it; the least one, and what is left without it. -/
import Derived.Lib.TrailingZeros
namespace Go.Proofs.YtcimhljnboeobaaDoor

/-- The places below n at which c has a bit. -/
def bitsOf (n c : Nat) : List Nat := (List.range n).filter (fun j => c.testBit j)
def cnt (n c : Nat) : Nat := (bitsOf n c).length

/-- n times the byte b. -/
def rep (b : Nat) : Nat → Nat
  | 0 => 0
  | n + 1 => 2 ^ 8 * rep b n + b

theorem and_bytes {a b : Nat} (ha : a < 2 ^ 8) (hb : b < 2 ^ 8) (y z : Nat) : (2 ^ 8 * y + a) &&& (2 ^ 8 * z + b) = 2 ^ 8 * (y &&& z) + (a &&& b) := by
  apply Nat.eq_of_testBit_eq
  intro i
  have hab : a &&& b < 2 ^ 8 := Nat.lt_of_le_of_lt Nat.and_le_left ha
  rw [Nat.testBit_and, Nat.testBit_two_pow_mul_add _ ha, Nat.testBit_two_pow_mul_add _ hb, Nat.testBit_two_pow_mul_add _ hab]
  split <;> rw [Nat.testBit_and]

def s1 (n x : Nat) : Nat := (x / 2 &&& rep 85 n) + (x &&& rep 85 n)
def s2 (n x : Nat) : Nat := (x / 4 &&& rep 51 n) + (x &&& rep 51 n)
def s3 (n x : Nat) : Nat := (x / 16 + x) &&& rep 15 n
def g1 (a : Nat) : Nat := (a / 2 &&& 85) + (a &&& 85)
def g2 (a : Nat) : Nat := (a / 4 &&& 51) + (a &&& 51)
def g3 (a : Nat) : Nat := a / 16 + a % 16

set_option maxRecDepth 100000 in
theorem d1 : ∀ a, a < 256 → ∀ e, e < 2 → (a / 2 + 128 * e) &&& 85 = a / 2 &&& 85 := by decide +kernel
set_option maxRecDepth 100000 in
theorem d2 : ∀ a, a < 256 → ∀ e, e < 4 → (a / 4 + 64 * e) &&& 51 = a / 4 &&& 51 := by decide +kernel
set_option maxRecDepth 100000 in
theorem d3 : ∀ a, a < 256 → g1 a < 256 ∧ g2 (g1 a) < 256 ∧ g2 (g1 a) / 16 ≤ 4 ∧ g2 (g1 a) % 16 ≤ 4 := by decide +kernel
set_option maxRecDepth 100000 in
theorem d4 : ∀ a, a < 256 → g3 (g2 (g1 a)) = cnt 8 a ∧ cnt 8 a ≤ 8 := by decide +kernel

theorem s1_step {a : Nat} (ha : a < 256) (n y : Nat) : s1 (n + 1) (2 ^ 8 * y + a) = 2 ^ 8 * s1 n y + g1 a := by
  unfold s1 g1
  have e : (2 ^ 8 * y + a) / 2 = 2 ^ 8 * (y / 2) + (a / 2 + 128 * (y % 2)) := by omega
  rw [e, show rep 85 (n + 1) = 2 ^ 8 * rep 85 n + 85 from rfl, and_bytes (by omega) (by decide), and_bytes (by omega) (by decide), d1 a ha _ (by omega)]
  omega
theorem s2_step {a : Nat} (ha : a < 256) (n y : Nat) : s2 (n + 1) (2 ^ 8 * y + a) = 2 ^ 8 * s2 n y + g2 a := by
  unfold s2 g2
  have e : (2 ^ 8 * y + a) / 4 = 2 ^ 8 * (y / 4) + (a / 4 + 64 * (y % 4)) := by omega
  rw [e, show rep 51 (n + 1) = 2 ^ 8 * rep 51 n + 51 from rfl, and_bytes (by omega) (by decide), and_bytes (by omega) (by decide), d2 a ha _ (by omega)]
  omega
theorem mask15 (x : Nat) : x &&& 15 = x % 16 := Nat.and_two_pow_sub_one_eq_mod x 4
theorem s3_step {a : Nat} (ha : a < 256) (h1 : a / 16 ≤ 4) (h2 : a % 16 ≤ 4) (n y : Nat) (hy : y % 16 ≤ 4) : s3 (n + 1) (2 ^ 8 * y + a) = 2 ^ 8 * s3 n y + g3 a := by
  unfold s3 g3
  have e : (2 ^ 8 * y + a) / 16 + (2 ^ 8 * y + a) = 2 ^ 8 * (y / 16 + y) + (a / 16 + 16 * (y % 16) + a) := by omega
  rw [e, show rep 15 (n + 1) = 2 ^ 8 * rep 15 n + 15 from rfl, and_bytes (by omega) (by decide), mask15]
  omega

theorem s2_low (n y : Nat) : s2 n (s1 n y) % 16 ≤ 4 := by
  cases n with
  | zero => simp [s2, s1, rep]
  | succ n =>
    have e : y = 2 ^ 8 * (y / 256) + y % 256 := by omega
    have ha : y % 256 < 256 := by omega
    obtain ⟨h1, h2, h3, h4⟩ := d3 _ ha
    rw [e, s1_step ha, s2_step h1]
    omega

theorem full_step {a : Nat} (ha : a < 256) (n y : Nat) : s3 (n + 1) (s2 (n + 1) (s1 (n + 1) (2 ^ 8 * y + a))) = 2 ^ 8 * s3 n (s2 n (s1 n y)) + cnt 8 a := by
  obtain ⟨h1, h2, h3, h4⟩ := d3 _ ha
  rw [s1_step ha, s2_step h1, s3_step h2 h3 h4 _ _ (s2_low n y), (d4 a ha).1]

theorem cnt_step {a : Nat} (ha : a < 256) (m y : Nat) : cnt (8 + m) (2 ^ 8 * y + a) = cnt 8 a + cnt m y := by
  unfold cnt bitsOf
  rw [List.range_add, List.filter_append, List.length_append, List.filter_map, List.length_map]
  congr 1
  · congr 1
    apply List.filter_congr
    intro j hj
    rw [List.mem_range] at hj
    rw [Nat.testBit_two_pow_mul_add _ ha, if_pos hj]
  · congr 1
    apply List.filter_congr
    intro j _
    show (2 ^ 8 * y + a).testBit (8 + j) = y.testBit j
    rw [Nat.testBit_two_pow_mul_add _ ha, if_neg (by omega)]
    congr 1
    omega

theorem full8 (x : Nat) (hx : x < 2 ^ 64) : ∃ p : Nat → Nat, (∀ i, p i ≤ 8) ∧ s3 8 (s2 8 (s1 8 x)) = p 0 + 256 * p 1 + 65536 * p 2 + 16777216 * p 3 + 4294967296 * p 4 + 1099511627776 * p 5 + 281474976710656 * p 6 + 72057594037927936 * p 7 ∧
    cnt 64 x = p 0 + p 1 + p 2 + p 3 + p 4 + p 5 + p 6 + p 7 := by
  have hs : ∀ y, y = 2 ^ 8 * (y / 256) + y % 256 := fun y => by omega
  have hm : ∀ y, y % 256 < 256 := fun y => by omega
  have hf : ∀ n y, s3 (n + 1) (s2 (n + 1) (s1 (n + 1) y)) = 2 ^ 8 * s3 n (s2 n (s1 n (y / 256))) + cnt 8 (y % 256) := fun n y => by
    conv => lhs; rw [hs y]
    exact full_step (hm y) n _
  have hc : ∀ m y, cnt (8 + m) y = cnt 8 (y % 256) + cnt m (y / 256) := fun m y => by
    conv => lhs; rw [hs y]
    exact cnt_step (hm y) m _
  have h0 : s3 0 (s2 0 (s1 0 (x / 256 / 256 / 256 / 256 / 256 / 256 / 256 / 256))) = 0 := by simp [s3, rep]
  have c0 : ∀ y, cnt 0 y = 0 := fun y => rfl
  refine ⟨fun i => cnt 8 (x / 256 ^ i % 256), fun i => (d4 _ (hm _)).2, ?_, ?_⟩
  · rw [hf 7, hf 6, hf 5, hf 4, hf 3, hf 2, hf 1, hf 0, h0]
    simp only [Nat.div_div_eq_div_mul, Nat.reduceMul, Nat.reducePow, Nat.div_one]
    omega
  · rw [show (64 : Nat) = 8 + 56 from rfl, hc, show (56 : Nat) = 8 + 48 from rfl, hc, show (48 : Nat) = 8 + 40 from rfl, hc, show (40 : Nat) = 8 + 32 from rfl, hc, show (32 : Nat) = 8 + 24 from rfl, hc, show (24 : Nat) = 8 + 16 from rfl, hc, show (16 : Nat) = 8 + 8 from rfl, hc, show cnt 8 (x / 256 / 256 / 256 / 256 / 256 / 256 / 256) = cnt (8 + 0) (x / 256 / 256 / 256 / 256 / 256 / 256 / 256) from rfl, hc, c0]
    simp only [Nat.div_div_eq_div_mul, Nat.reduceMul, Nat.reducePow, Nat.div_one]
    omega

theorem div_of {f q r b : Nat} (h : f = b * q + r) (hr : r < b) : f / b = q := by
  rw [h, Nat.mul_add_div (Nat.lt_of_le_of_lt (Nat.zero_le _) hr), Nat.div_eq_of_lt hr, Nat.add_zero]

/-- How math/bits goes on from there. -/
theorem swar (x : Nat) (hx : x < 2 ^ 64) : let f := s3 8 (s2 8 (s1 8 x)); let e := f + f / 256; let g := e + e / 65536; (g + g / 4294967296) % 128 = cnt 64 x ∧ g + g / 4294967296 < 2 ^ 64 := by
  obtain ⟨p, hp, h1, h2⟩ := full8 x hx
  have q0 := hp 0; have q1 := hp 1; have q2 := hp 2; have q3 := hp 3; have q4 := hp 4; have q5 := hp 5; have q6 := hp 6; have q7 := hp 7
  rw [h2]
  dsimp only
  generalize s3 8 (s2 8 (s1 8 x)) = f at h1 ⊢
  generalize p 0 = a0 at *; generalize p 1 = a1 at *; generalize p 2 = a2 at *; generalize p 3 = a3 at *
  generalize p 4 = a4 at *; generalize p 5 = a5 at *; generalize p 6 = a6 at *; generalize p 7 = a7 at *
  clear h2 hp hx
  have e1 : f / 256 = a1 + 256 * a2 + 65536 * a3 + 16777216 * a4 + 4294967296 * a5 + 1099511627776 * a6 + 281474976710656 * a7 := by
    refine div_of (r := a0) ?_ (by clear h1; omega)
    rw [h1]; clear h1 q0 q1 q2 q3 q4 q5 q6 q7; omega
  have e2 : (f + f / 256) / 65536 = (a2 + a3) + 256 * (a3 + a4) + 65536 * (a4 + a5) + 16777216 * (a5 + a6) + 4294967296 * (a6 + a7) + 1099511627776 * a7 := by
    refine div_of (r := (a0 + a1) + 256 * (a1 + a2)) ?_ (by clear h1 e1; omega)
    rw [e1, h1]; clear e1 h1 q0 q1 q2 q3 q4 q5 q6 q7; omega
  have e3 : (f + f / 256 + (f + f / 256) / 65536) / 4294967296 = (a4 + a5 + a6 + a7) + 256 * (a5 + a6 + a7) + 65536 * (a6 + a7) + 16777216 * a7 := by
    refine div_of (r := (a0 + a1 + a2 + a3) + 256 * (a1 + a2 + a3 + a4) + 65536 * (a2 + a3 + a4 + a5) + 16777216 * (a3 + a4 + a5 + a6)) ?_ (by clear h1 e1 e2; omega)
    rw [e2, e1, h1]; clear e2 e1 h1 q0 q1 q2 q3 q4 q5 q6 q7; omega
  rw [e3, e2, e1, h1]
  clear e3 e2 e1 h1
  constructor
  · have e : a0 + 256 * a1 + 65536 * a2 + 16777216 * a3 + 4294967296 * a4 + 1099511627776 * a5 + 281474976710656 * a6 + 72057594037927936 * a7 + (a1 + 256 * a2 + 65536 * a3 + 16777216 * a4 + 4294967296 * a5 + 1099511627776 * a6 + 281474976710656 * a7) + ((a2 + a3) + 256 * (a3 + a4) + 65536 * (a4 + a5) + 16777216 * (a5 + a6) + 4294967296 * (a6 + a7) + 1099511627776 * a7) + ((a4 + a5 + a6 + a7) + 256 * (a5 + a6 + a7) + 65536 * (a6 + a7) + 16777216 * a7) =
        128 * (2 * a1 + 512 * a2 + 131072 * a3 + 33554432 * a4 + 8589934592 * a5 + 2199023255552 * a6 + 562949953421312 * a7 + 2 * a2 + 512 * a3 + 131072 * a4 + 33554432 * a5 + 8589934592 * a6 + 2199023255552 * a7 + 2 * (a3 + a4) + 512 * (a4 + a5) + 131072 * (a5 + a6) + 33554432 * (a6 + a7) + 8589934592 * a7 + 2 * (a5 + a6 + a7) + 512 * (a6 + a7) + 131072 * a7) + (a0 + a1 + a2 + a3 + a4 + a5 + a6 + a7) := by
      clear q0 q1 q2 q3 q4 q5 q6 q7; omega
    rw [e, Nat.mul_add_mod, Nat.mod_eq_of_lt (by clear e; omega)]
  · omega

theorem mem_bitsOf {n c j : Nat} : j ∈ bitsOf n c ↔ j < n ∧ c.testBit j = true := by
  unfold bitsOf
  rw [List.mem_filter, List.mem_range]
theorem nodup_bitsOf (n c : Nat) : (bitsOf n c).Nodup := List.Nodup.sublist List.filter_sublist List.nodup_range
theorem rising_bitsOf (n c : Nat) : (bitsOf n c).Pairwise (· < ·) := List.Pairwise.sublist List.filter_sublist List.pairwise_lt_range

theorem lowest_split {w : Nat} (h0 : w ≠ 0) (h : w < 2 ^ 64) : ∃ t, t = Lib.ctz 64 w ∧ t < 64 ∧ w.testBit t = true ∧ (∀ j, j < t → w.testBit j = false) ∧ ∀ j, (w &&& (w - 1)).testBit j = (w.testBit j && decide (j ≠ t)) := by
  obtain ⟨m, hm, ht⟩ := Lib.ctzFrom_spec 64 w (by omega) h
  have e : Lib.ctz 64 w = Lib.ctzFrom 64 w := by simp [Lib.ctz, h0]
  refine ⟨_, rfl, by rw [e]; exact ht, ?_⟩
  rw [e]
  generalize Lib.ctzFrom 64 w = t at hm ht
  subst hm
  have hp : 0 < 2 ^ t := Nat.two_pow_pos t
  have e1 : 2 ^ t * (2 * m + 1) - 1 = 2 ^ t * (2 * m) + (2 ^ t - 1) := by rw [Nat.mul_add]; omega
  have b1 : ∀ j, (2 ^ t * (2 * m + 1)).testBit j = if j < t then false else (2 * m + 1).testBit (j - t) := fun j => by
    have := Nat.testBit_two_pow_mul_add (2 * m + 1) (b := 0) (i := t) hp j
    simpa using this
  have b2 : ∀ j, (2 ^ t * (2 * m) + (2 ^ t - 1)).testBit j = if j < t then (2 ^ t - 1).testBit j else (2 * m).testBit (j - t) := fun j => Nat.testBit_two_pow_mul_add (2 * m) (by omega) j
  refine ⟨?_, fun j hj => by rw [b1, if_pos hj], fun j => ?_⟩
  · rw [b1, if_neg (by omega), Nat.sub_self, Nat.testBit_zero]
    simp
  · rw [Nat.testBit_and, e1, b1, b2]
    by_cases hj : j < t
    · simp [hj]
    · rw [if_neg hj, if_neg hj]
      by_cases hjt : j = t
      · subst hjt
        simp [Nat.testBit_zero]
      · have : ∃ d, j - t = d + 1 := ⟨j - t - 1, by omega⟩
        obtain ⟨d, hd⟩ := this
        rw [hd, Nat.testBit_succ, Nat.testBit_succ]
        have q1 : (2 * m + 1) / 2 = m := by omega
        have q2 : 2 * m / 2 = m := by omega
        rw [q1, q2]
        simp [hjt]

/-- The least bit first, then those that are left without it. -/
theorem bits_cons {w : Nat} (h0 : w ≠ 0) (h : w < 2 ^ 64) : bitsOf 64 w = Lib.ctz 64 w :: bitsOf 64 (w &&& (w - 1)) := by
  obtain ⟨t, ht, hlt, hb, hlow, hand⟩ := lowest_split h0 h
  rw [← ht]
  have hr : List.range 64 = List.range t ++ (t :: ((List.range (63 - t)).map (fun j => t + 1 + j))) := by
    have e1 : (64 : Nat) = t + (1 + (63 - t)) := by omega
    rw [e1, List.range_add, List.range_add]
    congr 1
    simp [Function.comp_def, Nat.add_assoc]
  unfold bitsOf
  rw [hr, List.filter_append, List.filter_append, List.filter_cons, List.filter_cons, if_pos hb]
  have hn : ¬ (w &&& (w - 1)).testBit t = true := by rw [hand]; simp
  rw [if_neg hn]
  have z1 : (List.range t).filter (fun j => w.testBit j) = [] := by
    rw [List.filter_eq_nil_iff]
    intro j hj
    rw [hlow j (List.mem_range.1 hj)]
    simp
  have z2 : (List.range t).filter (fun j => (w &&& (w - 1)).testBit j) = [] := by
    rw [List.filter_eq_nil_iff]
    intro j hj
    rw [hand, hlow j (List.mem_range.1 hj)]
    simp
  rw [z1, z2, List.nil_append, List.nil_append]
  congr 1
  apply List.filter_congr
  intro j hj
  obtain ⟨d, _, rfl⟩ := List.mem_map.1 hj
  rw [hand]
  simp
  intro _
  omega

theorem bits_none {w : Nat} (h : w < 2 ^ 64) : bitsOf 64 w = [] ↔ w = 0 := by
  constructor
  · intro hw
    by_cases h0 : w = 0
    · exact h0
    · rw [bits_cons h0 h] at hw
      cases hw
  · rintro rfl
    decide
end Go.Proofs.YtcimhljnboeobaaDoor
