/- Who dominates whom, over places of a walk's order: the tree that is mended until nothing changes. -/
import Derived.Test.YteipncggndefmaaGBackM
namespace Go.Proofs.Yteipncggndefmaa

/-- A tree by each place's parent: who stands above whom. -/
inductive Anc (T : Nat → Nat) : Nat → Nat → Prop
  | refl (j : Nat) : Anc T j j
  | up {x j : Nat} : 0 < j → Anc T x (T j) → Anc T x j
def Down (T : Nat → Nat) : Prop := ∀ j, 0 < j → T j < j
theorem Anc.le {T : Nat → Nat} (hT : Down T) {x j : Nat} (h : Anc T x j) : x ≤ j := by
  induction h with
  | refl => exact Nat.le_refl _
  | up hj _ ih => have := hT _ hj; omega
theorem Anc.trans {T : Nat → Nat} {x y j : Nat} (h : Anc T x y) (k : Anc T y j) : Anc T x j := by
  induction k with
  | refl => exact h
  | up hj _ ih => exact .up hj ih
theorem Anc.cut {T : Nat → Nat} {x j : Nat} (h : Anc T x j) (hx : x ≠ j) : 0 < j ∧ Anc T x (T j) := by
  cases h with
  | refl => exact absurd rfl hx
  | up hj h => exact ⟨hj, h⟩
theorem Anc.root {T : Nat → Nat} (hT : Down T) : ∀ j, Anc T 0 j := by
  intro j
  induction j using Nat.strongRecOn with
  | ind j ih =>
    rcases Nat.eq_zero_or_pos j with rfl | hj
    · exact .refl 0
    · exact .up hj (ih _ (hT j hj))
/-- Two that stand above one stand above each other. -/
theorem Anc.both {T : Nat → Nat} (hT : Down T) {x y j : Nat} (h : Anc T x j) (k : Anc T y j) (hle : x ≤ y) : Anc T x y := by
  induction k with
  | refl => exact h
  | @up j hj k ih =>
    by_cases e : x = j
    · subst e
      have := k.le hT
      have := hT _ hj
      omega
    · exact ih (h.cut e).2
theorem Anc.zero {T : Nat → Nat} (hT : Down T) {x : Nat} (h : Anc T x 0) : x = 0 := by have := h.le hT; omega
/-- Where two ways up meet. -/
def Meet (T : Nat → Nat) (a b c : Nat) : Prop := ∀ x, Anc T x c ↔ Anc T x a ∧ Anc T x b
theorem Meet.self (T : Nat → Nat) (a : Nat) : Meet T a a a := fun x => by simp
theorem Meet.swap {T : Nat → Nat} {a b c : Nat} (h : Meet T a b c) : Meet T b a c := fun x => by rw [h x, and_comm]
theorem Meet.step {T : Nat → Nat} (hT : Down T) {a b c : Nat} (h : Meet T (T a) b c) (hlt : b < a) : Meet T a b c := by
  intro x
  rw [h x]
  constructor
  · rintro ⟨h1, h2⟩
    exact ⟨.up (by omega) h1, h2⟩
  · rintro ⟨h1, h2⟩
    have := h2.le hT
    exact ⟨(h1.cut (by omega)).2, h2⟩
theorem anc_inj {T : Nat → Nat} (hT : Down T) {a b : Nat} (h : ∀ x, Anc T x a ↔ Anc T x b) : a = b := by
  have h1 := ((h a).1 (.refl a)).le hT
  have h2 := ((h b).2 (.refl b)).le hT
  omega

/-- One place gets another parent. -/
def setT (T : Nat → Nat) (k u : Nat) : Nat → Nat := fun j => if j = k then u else T j
theorem setT_at (T : Nat → Nat) (k u : Nat) : setT T k u k = u := by simp [setT]
theorem setT_ne {T : Nat → Nat} {k u j : Nat} (h : j ≠ k) : setT T k u j = T j := by simp [setT, h]
theorem setT_id (T : Nat → Nat) (k : Nat) : setT T k (T k) = T := by
  funext j
  by_cases h : j = k
  · rw [h, setT_at]
  · rw [setT_ne h]
theorem Down.set {T : Nat → Nat} (hT : Down T) {k u : Nat} (hu : u < k) : Down (setT T k u) := by
  intro j hj
  by_cases h : j = k
  · rw [h, setT_at]; exact hu
  · rw [setT_ne h]; exact hT j hj
theorem anc_below {T : Nat → Nat} (hT : Down T) {k u x y : Nat} (hy : y < k) : Anc (setT T k u) x y ↔ Anc T x y := by
  induction y using Nat.strongRecOn with
  | ind y ih =>
    constructor
    · intro h
      by_cases e : x = y
      · rw [e]; exact .refl y
      · obtain ⟨h0, h1⟩ := h.cut e
        rw [setT_ne (by omega)] at h1
        exact .up h0 ((ih _ (hT y h0) (by have := hT y h0; omega)).1 h1)
    · intro h
      by_cases e : x = y
      · rw [e]; exact .refl y
      · obtain ⟨h0, h1⟩ := h.cut e
        refine .up h0 ?_
        rw [setT_ne (by omega)]
        exact (ih _ (hT y h0) (by have := hT y h0; omega)).2 h1
theorem anc_less {T : Nat → Nat} (hT : Down T) {k u x y : Nat} (hu : u < k) (hup : Anc T u (T k)) (h : Anc (setT T k u) x y) : Anc T x y := by
  induction h with
  | refl => exact .refl _
  | @up j hj h ih =>
    by_cases e : j = k
    · subst e
      rw [setT_at] at ih h
      exact .up hj (ih.trans hup)
    · rw [setT_ne e] at ih
      exact .up hj ih
theorem anc_stays {T : Nat → Nat} (hT : Down T) {k u x y : Nat} (hu : u < k) (h : Anc T x y) : Anc (setT T k u) x y ∨ (Anc T k y ∧ x < k ∧ ¬ Anc T x u) := by
  induction h with
  | refl => exact .inl (.refl _)
  | @up j hj h ih =>
    by_cases e : j = k
    · subst e
      by_cases hx : Anc T x u
      · refine .inl (.up hj ?_)
        rw [setT_at]
        exact (anc_below hT hu).2 hx
      · exact .inr ⟨.refl _, by have := h.le hT; have := hT j hj; omega, hx⟩
    · rcases ih with h1 | ⟨h1, h2, h3⟩
      · refine .inl (.up hj ?_)
        rw [setT_ne e]
        exact h1
      · exact .inr ⟨.up hj h1, h2, h3⟩

section
variable {m : Nat} {E : Nat → Nat → Prop} {d : Nat → Nat}
/-- Ways from the first place that avoid one. -/
inductive Av (m : Nat) (E : Nat → Nat → Prop) (x : Nat) : Nat → Prop
  | start : 0 ≠ x → Av m E x 0
  | step {p q : Nat} : Av m E x p → p < m → q < m → E p q → q ≠ x → Av m E x q
/-- Every place but the first has one ahead from which an edge leads. -/
structure Led (m : Nat) (E : Nat → Nat → Prop) (d : Nat → Nat) : Prop where
  down : Down d
  edge : ∀ j, 0 < j → j < m → E (d j) j
theorem Led.av (hd : Led m E d) {x k j : Nat} (h : Anc d k j) (hj : j < m) (hx : x < k) (ha : Av m E x k) : Av m E x j := by
  induction h with
  | refl => exact ha
  | @up j h0 h ih =>
    have h1 := hd.down j h0
    have h2 := h.le hd.down
    exact .step (ih (by omega)) (by omega) hj (hd.edge j h0 hj) (by omega)
/-- What holds while the tree is mended: K places are known, those ahead of k are done in this round. -/
structure Mend (m : Nat) (E : Nat → Nat → Prop) (d : Nat → Nat) (K k : Nat) (T : Nat → Nat) : Prop where
  down : Down T
  led : ∀ j, j < K → ∀ x, Anc T x j → Anc d x j
  dom : ∀ j, j < K → ∀ x, ¬ Av m E x j → Anc T x j
  inv : ∀ j, 0 < j → j < K → ∀ x, (∀ p, p < K → E p j → Anc T x p) → Anc T x (T j)
  done : ∀ j, 0 < j → j < k → j < K → Anc T (T j) (d j)
  wait : ∀ j, 0 < j → j < K → k ≤ T j → Anc T (T j) (d j)
/-- What is reckoned for a place: where the ways up of all that lead to it meet. -/
def MeetAll (E : Nat → Nat → Prop) (K : Nat) (T : Nat → Nat) (k u : Nat) : Prop := ∀ x, Anc T x u ↔ ∀ p, p < K → E p k → Anc T x p

theorem Mend.begin : Mend m E d 1 1 (fun _ => 0) := by
  refine ⟨fun j hj => hj, fun j hj x h => ?_, fun j hj x h => ?_, fun j h0 h1 => by omega, fun j h0 h1 => by omega, fun j h0 h1 => by omega⟩
  · obtain rfl : j = 0 := by omega
    cases h with
    | refl => exact .refl _
    | up h => omega
  · obtain rfl : j = 0 := by omega
    by_cases hx : 0 = x
    · subst hx; exact .refl 0
    · exact absurd (.start hx) h
theorem MeetAll.lt {K k u : Nat} {T : Nat → Nat} (hd : Led m E d) (hT : Down T) (h : MeetAll E K T k u) (h0 : 0 < k) (hk : k < m) (hK : k ≤ K) : u ≤ d k ∧ u < k := by
  have h1 := hd.down k h0
  have h2 := ((h u).1 (.refl u) (d k) (by omega) (hd.edge k h0 hk)).le hT
  omega
/-- In the first round. -/
theorem Mend.first (hd : Led m E d) {k u : Nat} {T : Nat → Nat} (h : Mend m E d k k T) (h0 : 0 < k) (hk : k < m) (hu : MeetAll E k T k u) : Mend m E d (k + 1) (k + 1) (setT T k u) := by
  obtain ⟨hud, huk⟩ := hu.lt hd h.down h0 hk (Nat.le_refl _)
  have hT := h.down
  have hb : ∀ {x y : Nat}, y < k → (Anc (setT T k u) x y ↔ Anc T x y) := fun hy => anc_below hT hy
  have hdk := hd.down k h0
  refine ⟨hT.set huk, fun j hj x hx => ?_, fun j hj x hx => ?_, fun j hj0 hj x hx => ?_, fun j hj0 hj _ => ?_, fun j hj0 hj hjk => ?_⟩
  · rcases Nat.lt_or_eq_of_le (Nat.lt_succ_iff.1 hj) with hj | rfl
    · exact h.led j hj x ((hb hj).1 hx)
    · by_cases e : x = j
      · rw [e]; exact .refl j
      · obtain ⟨-, h1⟩ := hx.cut e
        rw [setT_at, hb huk, hu x] at h1
        exact .up h0 (h.led _ hdk x (h1 (d j) hdk (hd.edge j h0 hk)))
  · rcases Nat.lt_or_eq_of_le (Nat.lt_succ_iff.1 hj) with hj | rfl
    · exact (hb hj).2 (h.dom j hj x hx)
    · by_cases e : x = j
      · rw [e]; exact .refl j
      · refine .up h0 ?_
        rw [setT_at, hb huk, hu x]
        exact fun p hp hpe => h.dom p hp x (fun ha => hx (.step ha (by omega) hk hpe (fun e' => e e'.symm)))
  · rcases Nat.lt_or_eq_of_le (Nat.lt_succ_iff.1 hj) with hj | rfl
    · rw [setT_ne (by omega), hb (by have := hT j hj0; omega)]
      exact h.inv j hj0 hj x (fun p hp hpe => (hb hp).1 (hx p (by omega) hpe))
    · rw [setT_at, hb huk, hu x]
      exact fun p hp hpe => (hb hp).1 (hx p (by omega) hpe)
  · rcases Nat.lt_or_eq_of_le (Nat.lt_succ_iff.1 hj) with hj | rfl
    · rw [setT_ne (by omega), hb (by have := hd.down j hj0; omega)]
      exact h.done j hj0 hj hj
    · rw [setT_at, hb hdk]
      exact (hu u).1 (.refl u) _ hdk (hd.edge j h0 hk)
  · have := hT.set huk j hj0
    omega
/-- In a later round: the tree only gets flatter. -/
theorem Mend.up (hd : Led m E d) {k u : Nat} {T : Nat → Nat} (h : Mend m E d m k T) (h0 : 0 < k) (hk : k < m) (hu : MeetAll E m T k u) : Anc T u (T k) :=
  h.inv k h0 hk u (fun p hp hpe => (hu u).1 (.refl u) p hp hpe)
theorem Mend.later (hd : Led m E d) {k u : Nat} {T : Nat → Nat} (h : Mend m E d m k T) (h0 : 0 < k) (hk : k < m) (hu : MeetAll E m T k u) : Mend m E d m (k + 1) (setT T k u) := by
  obtain ⟨hud, huk⟩ := hu.lt hd h.down h0 hk (Nat.le_of_lt hk)
  have hT := h.down
  have hup := h.up hd h0 hk hu
  have hb : ∀ {x y : Nat}, y < k → (Anc (setT T k u) x y ↔ Anc T x y) := fun hy => anc_below hT hy
  have hl : ∀ {x y : Nat}, Anc (setT T k u) x y → Anc T x y := fun hy => anc_less hT huk hup hy
  have hT' := hT.set huk
  have hdk := hd.down k h0
  refine ⟨hT', fun j hj x hx => h.led j hj x (hl hx), fun j hj x hx => ?_, fun j hj0 hj x hx => ?_, fun j hj0 hjk hj => ?_, fun j hj0 hj hjk => ?_⟩
  · rcases anc_stays hT huk (h.dom j hj x hx) with h1 | ⟨h1, h2, h3⟩
    · exact h1
    · refine absurd ((hu x).2 (fun p hp hpe => h.dom p hp x (fun ha => hx ?_))) h3
      exact hd.av (h.led j hj k h1) hj h2 (.step ha hp hk hpe (by omega))
  · by_cases e : j = k
    · subst e
      rw [setT_at, hb huk, hu x]
      exact fun p hp hpe => hl (hx p hp hpe)
    · rw [setT_ne e]
      rcases anc_stays hT huk (h.inv j hj0 hj x (fun p hp hpe => hl (hx p hp hpe))) with h1 | ⟨h1, h2, h3⟩
      · exact h1
      · have h4 := h.wait j hj0 hj (h1.le hT)
        have h5 : Anc T k (d j) := h1.trans h4
        have h6 : Anc (setT T k u) k (d j) := by
          rcases anc_stays hT huk h5 with h6 | ⟨_, h6, _⟩
          · exact h6
          · omega
        have h7 := hx (d j) (by have := hd.down j hj0; omega) (hd.edge j hj0 hj)
        have h8 := h7.both hT' h6 (by omega)
        have h9 := (h8.cut (by omega)).2
        rw [setT_at, hb huk] at h9
        exact absurd h9 h3
  · rcases Nat.lt_or_eq_of_le (Nat.lt_succ_iff.1 hjk) with hjk | rfl
    · rw [setT_ne (by omega), hb (by have := hd.down j hj0; omega)]
      exact h.done j hj0 hjk hj
    · rw [setT_at, hb hdk]
      exact (hu u).1 (.refl u) _ (by omega) (hd.edge j h0 hk)
  · by_cases e : j = k
    · subst e
      rw [setT_at] at hjk
      omega
    · rw [setT_ne e] at hjk ⊢
      rcases anc_stays hT huk (h.wait j hj0 hj (by omega)) with h1 | ⟨_, h1, _⟩
      · exact h1
      · omega
theorem Mend.again {K k : Nat} {T : Nat → Nat} (h : Mend m E d m K T) (hK : m ≤ K) : Mend m E d m k T :=
  ⟨h.down, h.led, h.dom, h.inv, fun j h0 _ hj => h.done j h0 (by omega) hj, fun j h0 hj _ => h.done j h0 (by omega) hj⟩
/-- Where nothing changes, just those stand above that every way goes through. -/
theorem Mend.fixed {K : Nat} {T : Nat → Nat} (h : Mend m E d m K T) (hf : ∀ j, 0 < j → j < m → MeetAll E m T j (T j)) {x j : Nat} (hj : j < m) : Anc T x j ↔ ¬ Av m E x j := by
  refine ⟨fun hx ha => ?_, h.dom j hj x⟩
  induction ha with
  | start h0 =>
    have := hx.zero h.down
    omega
  | @step p q hp hpm hq he hqx ih =>
    obtain ⟨h0, h1⟩ := hx.cut (fun e => hqx e.symm)
    exact ih hpm ((hf q h0 hq x).1 h1 p hpm he)
end
end Go.Proofs.Yteipncggndefmaa
