/- A graph turned round, as lists. -/
import Derived.Test.YteipncggndefmaaGWay
namespace Go.Proofs.Yteipncggndefmaa

def push (B : List (List Int)) (i : Nat) (x : Int) : List (List Int) := B.set x.toNat ((B[x.toNat]?.getD []) ++ [(i : Int)])
def pushRow (B : List (List Int)) (i : Nat) (r : List Int) : List (List Int) := r.foldl (fun B x => push B i x) B
def backTo (N : List (List Int)) : Nat → List (List Int)
  | 0 => List.replicate N.length []
  | k + 1 => pushRow (backTo N k) k (N[k]?.getD [])
def backL (L : List (List Int)) : List (List Int) := backTo (normL L) L.length
theorem pushRow_snoc (B : List (List Int)) (i : Nat) (r : List Int) (x : Int) : pushRow B i (r ++ [x]) = push (pushRow B i r) i x := by simp [pushRow]
theorem push_len (B : List (List Int)) (i : Nat) (x : Int) : (push B i x).length = B.length := by simp [push]
theorem pushRow_len (i : Nat) : ∀ (r : List Int) (B : List (List Int)), (pushRow B i r).length = B.length
  | [], _ => rfl
  | x :: r, B => by
    show (pushRow (push B i x) i r).length = _
    rw [pushRow_len i r, push_len]
theorem backTo_len (N : List (List Int)) : ∀ k, (backTo N k).length = N.length
  | 0 => by simp [backTo]
  | k + 1 => by rw [backTo, pushRow_len, backTo_len N k]
/-- No row is longer than so many. -/
def Low (B : List (List Int)) (m : Nat) : Prop := ∀ r ∈ B, r.length ≤ m
theorem Low.push {B : List (List Int)} {m : Nat} (h : Low B m) (i : Nat) (x : Int) : Low (push B i x) (m + 1) := by
  intro r hr
  unfold Go.Proofs.Yteipncggndefmaa.push at hr
  rcases List.mem_or_eq_of_mem_set hr with hr | rfl
  · exact Nat.le_succ_of_le (h r hr)
  · rw [List.length_append]
    cases hx : B[x.toNat]? with
    | none => simp
    | some r => simpa using h r (List.mem_of_getElem? hx)
theorem Low.row {i : Nat} : ∀ {r : List Int} {B : List (List Int)} {m : Nat}, Low B m → Low (pushRow B i r) (m + r.length)
  | [], _, _, h => h
  | x :: r, B, m, h => by
    have := (h.push i x).row (r := r) (i := i)
    rw [List.length_cons, Nat.add_comm r.length 1, ← Nat.add_assoc]
    exact this
theorem Low.back {N : List (List Int)} {M : Nat} (h : ∀ r ∈ N, r.length ≤ M) : ∀ k, Low (backTo N k) (k * M)
  | 0 => by
    intro r hr
    rw [List.eq_of_mem_replicate hr]
    simp
  | k + 1 => by
    have h1 := (Low.back h k).row (r := N[k]?.getD []) (i := k)
    intro r hr
    have h2 := h1 r hr
    have h3 : (N[k]?.getD []).length ≤ M := by
      cases hx : N[k]? with
      | none => simp
      | some r => simpa using h r (List.mem_of_getElem? hx)
    rw [Nat.succ_mul]
    omega

theorem push_mem {B : List (List Int)} {i : Nat} {x : Int} (hx : 0 ≤ x) {y z : Nat} : (∃ r, (push B i x)[y]? = some r ∧ (z : Int) ∈ r) ↔ (∃ r, B[y]? = some r ∧ (z : Int) ∈ r) ∨ (z = i ∧ (y : Int) = x ∧ y < B.length) := by
  unfold push
  by_cases h : x.toNat = y
  · subst h
    by_cases hl : x.toNat < B.length
    · rw [List.getElem?_set_self hl, List.getElem?_eq_getElem hl]
      constructor
      · rintro ⟨r, e, hz⟩
        obtain rfl := Option.some.inj e
        rcases List.mem_append.1 hz with hz | hz
        · exact .inl ⟨_, rfl, by simpa using hz⟩
        · exact .inr ⟨by have := List.mem_singleton.1 hz; omega, by omega, hl⟩
      · rintro (⟨r, e, hz⟩ | ⟨rfl, -, -⟩)
        · obtain rfl := Option.some.inj e
          exact ⟨_, rfl, List.mem_append.2 (.inl (by simpa using hz))⟩
        · exact ⟨_, rfl, List.mem_append.2 (.inr (List.Mem.head _))⟩
    · rw [List.getElem?_eq_none (by simpa using hl), List.getElem?_eq_none (by omega)]
      constructor
      · rintro ⟨r, e, -⟩; cases e
      · rintro (⟨r, e, -⟩ | ⟨-, -, h⟩)
        · cases e
        · exact absurd h hl
  · rw [List.getElem?_set_ne h]
    constructor
    · exact .inl
    · rintro (h' | ⟨-, h', -⟩)
      · exact h'
      · omega
theorem pushRow_mem {i : Nat} : ∀ {r : List Int} {B : List (List Int)}, (∀ x ∈ r, 0 ≤ x) → ∀ {y z : Nat}, (∃ s, (pushRow B i r)[y]? = some s ∧ (z : Int) ∈ s) ↔ (∃ s, B[y]? = some s ∧ (z : Int) ∈ s) ∨ (z = i ∧ (y : Int) ∈ r ∧ y < B.length)
  | [], B, _, y, z => by simp [pushRow]
  | x :: r, B, h, y, z => by
    show (∃ s, (pushRow (push B i x) i r)[y]? = some s ∧ (z : Int) ∈ s) ↔ _
    rw [pushRow_mem (fun x hx => h x (List.Mem.tail _ hx)), push_mem (h x (List.Mem.head _)), push_len, List.mem_cons]
    constructor
    · rintro ((h1 | ⟨h1, h2, h3⟩) | ⟨h1, h2, h3⟩)
      · exact .inl h1
      · exact .inr ⟨h1, .inl h2, h3⟩
      · exact .inr ⟨h1, .inr h2, h3⟩
    · rintro (h1 | ⟨h1, h2 | h2, h3⟩)
      · exact .inl (.inl h1)
      · exact .inl (.inr ⟨h1, h2, h3⟩)
      · exact .inr ⟨h1, h2, h3⟩
theorem backTo_mem {N : List (List Int)} (h : ∀ r ∈ N, ∀ x ∈ r, 0 ≤ x) : ∀ (k : Nat) {y z : Nat}, (∃ s, (backTo N k)[y]? = some s ∧ (z : Int) ∈ s) ↔ z < k ∧ y < N.length ∧ ∃ r, N[z]? = some r ∧ (y : Int) ∈ r
  | 0, y, z => by
    simp only [backTo]
    constructor
    · rintro ⟨s, hs, hz⟩
      rw [List.eq_of_mem_replicate (List.mem_of_getElem? hs)] at hz
      cases hz
    · rintro ⟨hz, -⟩
      omega
  | k + 1, y, z => by
    rw [backTo, pushRow_mem (by
      intro x hx
      cases hk : N[k]? with
      | none => rw [hk] at hx; simp at hx
      | some r => rw [hk] at hx; exact h r (List.mem_of_getElem? hk) x (by simpa using hx)), backTo_mem h k, backTo_len]
    constructor
    · rintro (⟨h1, h2, h3⟩ | ⟨rfl, h2, h3⟩)
      · exact ⟨by omega, h2, h3⟩
      · cases hk : N[z]? with
        | none => rw [hk] at h2; simp at h2
        | some r => rw [hk] at h2; exact ⟨by omega, h3, r, rfl, by simpa using h2⟩
    · rintro ⟨h1, h2, r, hr, hm⟩
      by_cases hz : z < k
      · exact .inl ⟨hz, h2, r, hr, hm⟩
      · obtain rfl : z = k := by omega
        exact .inr ⟨rfl, by rw [hr]; exact hm, h2⟩
theorem norm_low (L : List (List Int)) : ∀ r ∈ normL L, ∀ x ∈ r, 0 ≤ x := by
  intro r hr x hx
  obtain ⟨s, _, rfl⟩ := List.mem_map.1 hr
  exact (mem_rowL.1 hx).2.1
theorem backL_len (L : List (List Int)) : (backL L).length = L.length := by rw [backL, backTo_len, normL_len]
theorem edge_back {L : List (List Int)} {a b : Nat} : Edge (backL L) a b ↔ Edge L b a := by
  rw [← edge_norm (L := L)]
  unfold Edge
  rw [backL_len, normL_len]
  constructor
  · rintro ⟨h1, h2⟩
    have h3 := (backTo_mem (norm_low L) L.length).1 h2
    rw [normL_len] at h3
    exact ⟨h3.2.1, h3.2.2⟩
  · rintro ⟨h1, r, hr, hm⟩
    have hb : b < L.length := by have := (List.getElem?_eq_some_iff.1 hr).1; rwa [normL_len] at this
    exact ⟨hb, (backTo_mem (norm_low L) L.length).2 ⟨hb, by rw [normL_len]; exact h1, r, hr, hm⟩⟩
theorem way_back {L : List (List Int)} {a b : Nat} (h : Way L a b) : Way (backL L) b a := by
  induction h with
  | refl h => exact .refl (by rw [backL_len]; exact h)
  | step _ e ih => exact Way.head (edge_back.2 e) ih
theorem way_back_iff {L : List (List Int)} {a b : Nat} : Way (backL L) a b ↔ Way L b a := by
  constructor
  · intro h
    induction h with
    | refl h => exact .refl (by rw [backL_len] at h; exact h)
    | step _ e ih => exact Way.head (edge_back.1 e) ih
  · exact way_back

/-- Rows rise. -/
theorem rise_push {B : List (List Int)} {i : Nat} {x : Int} (h : ∀ (y : Nat) (r : List Int), B[y]? = some r → r.Pairwise (· < ·) ∧ ((y : Int) = x → ∀ z ∈ r, z < i)) : ∀ (y : Nat) (r : List Int), (push B i x)[y]? = some r → 0 ≤ x → r.Pairwise (· < ·) := by
  intro y r hr hx
  unfold push at hr
  by_cases e : x.toNat = y
  · subst e
    by_cases hl : x.toNat < B.length
    · rw [List.getElem?_set_self hl, List.getElem?_eq_getElem hl] at hr
      obtain rfl := Option.some.inj hr
      obtain ⟨h1, h2⟩ := h x.toNat _ (List.getElem?_eq_getElem hl)
      rw [List.pairwise_append]
      refine ⟨by simpa using h1, by simp, fun a ha b hb => ?_⟩
      rw [List.mem_singleton.1 hb]
      exact h2 (by omega) a (by simpa using ha)
    · rw [List.getElem?_eq_none (by simpa using hl)] at hr
      cases hr
  · rw [List.getElem?_set_ne e] at hr
    exact (h y r hr).1
theorem rise_pushRow {i : Nat} : ∀ {r : List Int} {B : List (List Int)}, r.Pairwise (· < ·) → (∀ x ∈ r, 0 ≤ x) → (∀ (y : Nat) (s : List Int), B[y]? = some s → s.Pairwise (· < ·) ∧ ((y : Int) ∈ r → ∀ z ∈ s, z < i)) → ∀ (y : Nat) (s : List Int), (pushRow B i r)[y]? = some s → s.Pairwise (· < ·)
  | [], B, _, _, h, y, s, hs => (h y s hs).1
  | x :: r, B, hr, h0, h, y, s, hs => by
    rw [List.pairwise_cons] at hr
    refine rise_pushRow (B := push B i x) hr.2 (fun x hx => h0 x (List.Mem.tail _ hx)) (fun y' s' hs' => ⟨?_, fun hy' z hz => ?_⟩) y s hs
    · exact rise_push (fun y r hr => ⟨(h y r hr).1, fun e => (h y r hr).2 (e ▸ List.Mem.head _)⟩) y' s' hs' (h0 x (List.Mem.head _))
    · have hne : x.toNat ≠ y' := by
        rintro rfl
        have := hr.1 _ hy'
        have := h0 x (List.Mem.head _)
        omega
      unfold push at hs'
      rw [List.getElem?_set_ne hne] at hs'
      exact (h y' s' hs').2 (List.Mem.tail _ hy') z hz
theorem nat_of_mem {N : List (List Int)} {k : Nat} {y : Nat} {s : List Int} : (backTo N k)[y]? = some s → ∀ z ∈ s, ∃ m : Nat, z = m := by
  have key : ∀ (i : Nat) (r : List Int) (B : List (List Int)), (∀ t ∈ B, ∀ z ∈ t, ∃ m : Nat, z = m) → ∀ t ∈ pushRow B i r, ∀ z ∈ t, ∃ m : Nat, z = m := by
    intro i r
    induction r with
    | nil => exact fun _ h => h
    | cons x r ih =>
      intro B h
      refine ih (push B i x) (fun t ht z hz => ?_)
      rcases List.mem_or_eq_of_mem_set ht with ht | rfl
      · exact h t ht z hz
      · rcases List.mem_append.1 hz with hz | hz
        · cases hx : B[x.toNat]? with
          | none => rw [hx] at hz; simp at hz
          | some r => rw [hx] at hz; exact h r (List.mem_of_getElem? hx) z (by simpa using hz)
        · exact ⟨i, by simpa using hz⟩
  have all : ∀ k, ∀ t ∈ backTo N k, ∀ z ∈ t, ∃ m : Nat, z = m := by
    intro k
    induction k with
    | zero => intro t ht z hz; rw [List.eq_of_mem_replicate ht] at hz; cases hz
    | succ k ih => exact key k _ _ ih
  exact fun h z hz => all k s (List.mem_of_getElem? h) z hz
theorem rise_backTo {N : List (List Int)} (h : ∀ r ∈ N, r.Pairwise (· < ·)) (h0 : ∀ r ∈ N, ∀ x ∈ r, 0 ≤ x) : ∀ (k : Nat) (y : Nat) (s : List Int), (backTo N k)[y]? = some s → s.Pairwise (· < ·)
  | 0, y, s, hs => by rw [List.eq_of_mem_replicate (List.mem_of_getElem? hs)]; exact List.Pairwise.nil
  | k + 1, y, s, hs => by
    have hm : ∀ (P : List Int → Prop), P [] → (∀ r ∈ N, P r) → P (N[k]?.getD []) := by
      intro P h1 h2
      cases hk : N[k]? with
      | none => exact h1
      | some r => exact h2 r (List.mem_of_getElem? hk)
    refine rise_pushRow (hm (fun r => r.Pairwise (· < ·)) List.Pairwise.nil h) (hm (fun r => ∀ x ∈ r, 0 ≤ x) (by simp) h0) (fun y' s' hs' => ⟨rise_backTo h h0 k y' s' hs', fun _ z hz => ?_⟩) y s hs
    obtain ⟨m, rfl⟩ := nat_of_mem hs' z hz
    have := ((backTo_mem h0 k).1 ⟨s', hs', hz⟩).1
    omega
theorem norm_rise (L : List (List Int)) : ∀ r ∈ normL L, r.Pairwise (· < ·) := by
  intro r hr
  obtain ⟨s, _, rfl⟩ := List.mem_map.1 hr
  exact rise_rowL _ _
/-- Two graphs in form with the same edges are the same. -/
theorem form_ext {A B : List (List Int)} (hl : A.length = B.length) (ha : ∀ r ∈ A, r.Pairwise (· < ·) ∧ ∀ x ∈ r, 0 ≤ x ∧ x < A.length) (hb : ∀ r ∈ B, r.Pairwise (· < ·) ∧ ∀ x ∈ r, 0 ≤ x ∧ x < B.length)
    (he : ∀ a b, Edge A a b ↔ Edge B a b) : A = B := by
  apply List.ext_getElem hl
  intro i h1 h2
  have ra := ha _ (List.getElem_mem h1)
  have rb := hb _ (List.getElem_mem h2)
  refine rise_ext ra.1 rb.1 (fun x => ?_)
  constructor
  · intro hx
    obtain ⟨h0, hn⟩ := ra.2 x hx
    obtain ⟨m, rfl⟩ : ∃ m : Nat, x = m := ⟨x.toNat, by omega⟩
    obtain ⟨-, r, hr, hm⟩ := (he i m).1 ⟨by omega, _, List.getElem?_eq_getElem h1, hx⟩
    rw [List.getElem?_eq_getElem h2] at hr
    obtain rfl := Option.some.inj hr
    exact hm
  · intro hx
    obtain ⟨h0, hn⟩ := rb.2 x hx
    obtain ⟨m, rfl⟩ : ∃ m : Nat, x = m := ⟨x.toNat, by omega⟩
    obtain ⟨-, r, hr, hm⟩ := (he i m).2 ⟨by omega, _, List.getElem?_eq_getElem h2, hx⟩
    rw [List.getElem?_eq_getElem h1] at hr
    obtain rfl := Option.some.inj hr
    exact hm
theorem norm_form (L : List (List Int)) : ∀ r ∈ normL L, r.Pairwise (· < ·) ∧ ∀ x ∈ r, 0 ≤ x ∧ x < (normL L).length := by
  intro r hr
  rw [normL_len]
  obtain ⟨s, _, rfl⟩ := List.mem_map.1 hr
  exact ⟨rise_rowL _ _, fun x hx => (mem_rowL.1 hx).2⟩
theorem back_form (L : List (List Int)) : ∀ r ∈ backL L, r.Pairwise (· < ·) ∧ ∀ x ∈ r, 0 ≤ x ∧ x < (backL L).length := by
  intro r hr
  rw [backL_len]
  obtain ⟨y, hy, e⟩ := List.getElem_of_mem hr
  have hy' : (backTo (normL L) L.length)[y]? = some r := by rw [← e]; exact List.getElem?_eq_getElem hy
  refine ⟨rise_backTo (norm_rise L) (norm_low L) _ y r hy', fun x hx => ?_⟩
  obtain ⟨m, rfl⟩ := nat_of_mem hy' x hx
  have := ((backTo_mem (norm_low L) L.length).1 ⟨r, hy', hx⟩).1
  omega
/-- Turned round twice: in form. -/
theorem back_back (L : List (List Int)) : backL (backL L) = normL L :=
  form_ext (by rw [backL_len, backL_len, normL_len]) (back_form _) (norm_form _) (fun a b => by rw [edge_back, edge_back, edge_norm])
end Go.Proofs.Yteipncggndefmaa
