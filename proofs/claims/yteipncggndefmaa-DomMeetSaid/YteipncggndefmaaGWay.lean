/- Ways, and how a walk goes. -/
import Derived.Test.YteipncggndefmaaGMath
namespace Go.Proofs.Yteipncggndefmaa

/-- An edge leads from a node to another one. -/
def Edge (L : List (List Int)) (a b : Nat) : Prop := b < L.length ∧ ∃ r, L[a]? = some r ∧ (b : Int) ∈ r
inductive Way (L : List (List Int)) : Nat → Nat → Prop
  | refl {a : Nat} : a < L.length → Way L a a
  | step {a b c : Nat} : Way L a b → Edge L b c → Way L a c
theorem Edge.lt {L : List (List Int)} {a b : Nat} (h : Edge L a b) : a < L.length ∧ b < L.length := by
  obtain ⟨hb, r, hr, _⟩ := h
  exact ⟨(List.getElem?_eq_some_iff.1 hr).1, hb⟩
theorem Way.lt {L : List (List Int)} {a b : Nat} (h : Way L a b) : a < L.length ∧ b < L.length := by
  induction h with
  | refl h => exact ⟨h, h⟩
  | step _ e ih => exact ⟨ih.1, e.lt.2⟩
theorem Way.trans {L : List (List Int)} {a b c : Nat} (h : Way L a b) (k : Way L b c) : Way L a c := by
  induction k with
  | refl _ => exact h
  | step _ e ih => exact .step ih e
theorem Way.head {L : List (List Int)} {a b c : Nat} (e : Edge L a b) (k : Way L b c) : Way L a c := Way.trans (.step (.refl e.lt.1) e) k
theorem edge_norm {L : List (List Int)} {a b : Nat} : Edge (normL L) a b ↔ Edge L a b := by
  unfold Edge
  rw [normL_len]
  constructor
  · rintro ⟨h, r, hr, hm⟩
    unfold normL at hr
    rw [List.getElem?_map] at hr
    cases hx : L[a]? with
    | none => rw [hx] at hr; cases hr
    | some s =>
      rw [hx] at hr
      obtain rfl := Option.some.inj hr
      exact ⟨h, s, rfl, (mem_rowL.1 hm).1⟩
  · rintro ⟨h, r, hr, hm⟩
    exact ⟨h, _, normL_at hr, mem_rowL.2 ⟨hm, by omega, by omega⟩⟩
theorem way_of {L M : List (List Int)} (hl : L.length = M.length) (he : ∀ a b, Edge L a b → Edge M a b) {a b : Nat} (h : Way L a b) : Way M a b := by
  induction h with
  | refl h => exact .refl (hl ▸ h)
  | step _ e ih => exact .step ih (he _ _ e)
theorem way_norm {L : List (List Int)} {a b : Nat} : Way (normL L) a b ↔ Way L a b :=
  ⟨way_of (normL_len L) (fun _ _ => edge_norm.1), way_of (normL_len L).symm (fun _ _ => edge_norm.2)⟩
/-- Ways lead there from one of these. -/
def Reached (L : List (List Int)) (from' : List Int) (x : Nat) : Prop := ∃ f : Nat, (f : Int) ∈ from' ∧ Way L f x

/-- How a walk goes through a row of nodes: those seen, those left (the last one first), ahead and behind. -/
inductive Kids (L : List (List Int)) : List Int → List Nat → List Nat → List Nat → List Nat → Prop
  | nil {s o : List Nat} : Kids L [] s o s o
  | skip {y : Int} {ys : List Int} {s o s' o' : List Nat} : ((0 ≤ y ∧ y < L.length) → y.toNat ∈ s) → Kids L ys s o s' o' → Kids L (y :: ys) s o s' o'
  | go {y : Nat} {ys r : List Int} {s o s1 o1 s' o' : List Nat} : y < L.length → y ∉ s → L[y]? = some r → Kids L r (y :: s) o s1 o1 → Kids L ys s1 (y :: o1) s' o' → Kids L ((y : Int) :: ys) s o s' o'

theorem Kids.det {L : List (List Int)} {l : List Int} {s o s1 o1 : List Nat} (h : Kids L l s o s1 o1) : ∀ {s2 o2 : List Nat}, Kids L l s o s2 o2 → s2 = s1 ∧ o2 = o1 := by
  induction h with
  | nil => intro _ _ k; cases k; exact ⟨rfl, rfl⟩
  | skip hs _ ih =>
    intro _ _ k
    generalize hy : (_ :: _ : List Int) = l at k
    cases k with
    | nil => cases hy
    | skip _ k => obtain ⟨rfl, rfl⟩ := List.cons.inj hy; exact ih k
    | go h1 h2 _ _ _ =>
      obtain ⟨rfl, rfl⟩ := List.cons.inj hy
      exact absurd (hs ⟨by omega, by omega⟩) (by simpa using h2)
  | @go y ys r s o s1 o1 s' o' h1 h2 hr _ _ ih1 ih2 =>
    intro _ _ k
    generalize hy : ((y : Int) :: ys : List Int) = l at k
    cases k with
    | nil => cases hy
    | skip hs _ => obtain ⟨rfl, rfl⟩ := List.cons.inj hy; exact absurd (hs ⟨by omega, by omega⟩) (by simpa using h2)
    | go _ _ hr' k1 k2 =>
      obtain ⟨e, rfl⟩ := List.cons.inj hy
      obtain rfl := Int.ofNat_inj.1 e
      rw [hr] at hr'
      obtain rfl := Option.some.inj hr'
      obtain ⟨rfl, rfl⟩ := ih1 k1
      exact ih2 k2

/-- How many nodes are not seen yet. -/
def unseen (n : Nat) (s : List Nat) : Nat := ((List.range n).filter (fun x => !decide (x ∈ s))).length
theorem unseen_le {n : Nat} {s s' : List Nat} (h : ∀ x ∈ s, x ∈ s') : unseen n s' ≤ unseen n s := by
  unfold unseen
  generalize List.range n = l
  induction l with
  | nil => simp
  | cons x l ih =>
    rw [List.filter_cons, List.filter_cons]
    by_cases h1 : x ∈ s
    · simp [h1, h x h1]; exact ih
    · by_cases h2 : x ∈ s'
      · simp [h1, h2]; omega
      · simp [h1, h2]; exact ih
theorem unseen_lt {n y : Nat} {s : List Nat} (hy : y < n) (hs : y ∉ s) : unseen n (y :: s) < unseen n s := by
  have key : ∀ l : List Nat, (l.filter (fun x => !decide (x ∈ y :: s))).length ≤ (l.filter (fun x => !decide (x ∈ s))).length ∧ (y ∈ l → (l.filter (fun x => !decide (x ∈ y :: s))).length < (l.filter (fun x => !decide (x ∈ s))).length) := by
    intro l
    induction l with
    | nil => simp
    | cons x l ih =>
      rw [List.filter_cons, List.filter_cons]
      by_cases hx : x = y
      · subst hx
        simp [hs]
        have := ih.1
        simp at this
        omega
      · by_cases h1 : x ∈ s
        · simp [h1, hx]
          have := ih
          simp at this
          refine ⟨this.1, fun h => ?_⟩
          rcases h with h | h
          · exact absurd h.symm hx
          · exact this.2 h
        · simp [h1, hx]
          have := ih
          simp at this
          refine ⟨this.1, fun h => ?_⟩
          rcases h with h | h
          · exact absurd h.symm hx
          · exact this.2 h
  exact (key (List.range n)).2 (List.mem_range.2 hy)

theorem Kids.sub {L : List (List Int)} {l : List Int} {s o s' o' : List Nat} (h : Kids L l s o s' o') : ∀ x ∈ s, x ∈ s' := by
  induction h with
  | nil => exact fun _ h => h
  | skip _ _ ih => exact ih
  | go _ _ _ _ _ ih1 ih2 => exact fun x hx => ih2 x (ih1 x (List.Mem.tail _ hx))

theorem kids_all (L : List (List Int)) : ∀ (m : Nat) (l : List Int) (s o : List Nat), unseen L.length s ≤ m → ∃ s' o', Kids L l s o s' o' := by
  intro m
  induction m with
  | zero =>
    intro l
    induction l with
    | nil => exact fun s o _ => ⟨s, o, .nil⟩
    | cons y ys ih =>
      intro s o hm
      obtain ⟨s', o', h⟩ := ih s o hm
      refine ⟨s', o', .skip (fun ⟨h1, h2⟩ => ?_) h⟩
      by_cases hy : y.toNat ∈ s
      · exact hy
      · have := unseen_lt (n := L.length) (y := y.toNat) (by omega) hy
        omega
  | succ m ihm =>
    intro l
    induction l with
    | nil => exact fun s o _ => ⟨s, o, .nil⟩
    | cons y ys ih =>
      intro s o hm
      by_cases hv : (0 ≤ y ∧ y < L.length) ∧ y.toNat ∉ s
      · obtain ⟨⟨h1, h2⟩, h3⟩ := hv
        obtain ⟨k, rfl⟩ : ∃ k : Nat, y = k := ⟨y.toNat, by omega⟩
        have hk : k < L.length := by omega
        have h3' : k ∉ s := by simpa using h3
        have hlt := unseen_lt (n := L.length) hk h3'
        obtain ⟨s1, o1, g1⟩ := ihm L[k] (k :: s) o (by omega)
        obtain ⟨s', o', g2⟩ := ih s1 (k :: o1) (by have := unseen_le (n := L.length) g1.sub; omega)
        exact ⟨s', o', .go hk h3' (List.getElem?_eq_getElem hk) g1 g2⟩
      · obtain ⟨s', o', h⟩ := ih s o hm
        refine ⟨s', o', .skip (fun h1 => ?_) h⟩
        by_cases hy : y.toNat ∈ s
        · exact hy
        · exact absurd ⟨h1, hy⟩ hv
theorem Kids.total (L : List (List Int)) (l : List Int) (s o : List Nat) : ∃ s' o', Kids L l s o s' o' := kids_all L _ l s o (Nat.le_refl _)
end Go.Proofs.Yteipncggndefmaa
