/- Frontiers, as lists: how they are told row by row. -/
import Derived.Test.YteipncggndefmaaDTree
namespace Go.Proofs.Yteipncggndefmaa

/-- Frontiers told so far: of the nodes ahead of k all; of k itself those in D. -/
def FrAt (n : Nat) (P : Nat → Nat → Prop) (k : Nat) (D : Nat → Prop) (B : List (List Int)) : Prop :=
  B.length = n ∧ ∀ (a : Nat) (r : List Int), B[a]? = some r → r.Pairwise (· < ·) ∧ ∀ z : Int, z ∈ r ↔ ∃ y : Nat, z = y ∧ ((y < k ∧ P a y) ∨ (y = k ∧ D a))
section
variable {n k : Nat} {P : Nat → Nat → Prop} {D D' : Nat → Prop} {B : List (List Int)}
theorem FrAt.same (h : FrAt n P k D B) (hd : ∀ a, a < n → (D a ↔ D' a)) : FrAt n P k D' B := by
  refine ⟨h.1, fun a r hr => ?_⟩
  obtain ⟨h1, h2⟩ := h.2 a r hr
  have hl := (List.getElem?_eq_some_iff.1 hr).1
  rw [h.1] at hl
  exact ⟨h1, fun z => by rw [h2]; simp only [hd a hl]⟩
theorem FrAt.ends (h : FrAt n P k D B) {a : Nat} {r : List Int} (hr : B[a]? = some r) : endsL r (k : Int) = true ↔ D a := by
  obtain ⟨h1, h2⟩ := h.2 a r hr
  unfold endsL
  rw [decide_eq_true_eq]
  constructor
  · intro e
    obtain ⟨y, e1, e2 | e2⟩ := (h2 k).1 (List.mem_of_getLast? e)
    · omega
    · exact e2.2
  · intro hd
    have hm := (h2 k).2 ⟨k, rfl, .inr ⟨rfl, hd⟩⟩
    rcases List.eq_nil_or_concat r with e | ⟨l, x, e⟩
    · rw [e] at hm; cases hm
    · have e' : r = l ++ [x] := by simpa using e
      subst e'
      rw [List.getLast?_concat]
      rcases List.mem_append.1 hm with h3 | h3
      · have h4 := (List.pairwise_append.1 h1).2.2 _ h3 x (List.Mem.head _)
        obtain ⟨y, e1, e2⟩ := (h2 x).1 (List.mem_append.2 (.inr (List.Mem.head _)))
        omega
      · rw [List.mem_singleton.1 h3]
theorem FrAt.len (h : FrAt n P k D B) {a : Nat} {r : List Int} (hr : B[a]? = some r) : r.length ≤ k + 1 := by
  obtain ⟨h1, h2⟩ := h.2 a r hr
  have h3 : (r.map Int.toNat).Nodup := by
    rw [List.Nodup, List.pairwise_map]
    refine h1.imp_of_mem (fun {a b} ha hb hab => ?_)
    obtain ⟨y, e, -⟩ := (h2 a).1 ha
    obtain ⟨z, e', -⟩ := (h2 b).1 hb
    omega
  have h4 := h3.length_le_of_subset (l₂ := List.range (k + 1)) (fun x hx => by
    obtain ⟨z, hz, rfl⟩ := List.mem_map.1 hx
    obtain ⟨y, e, e2 | e2⟩ := (h2 z).1 hz <;> exact List.mem_range.2 (by omega))
  simpa using h4
theorem FrAt.mark (h : FrAt n P k D B) {a : Nat} {r : List Int} (hr : B[a]? = some r) (hd : ¬ D a) : FrAt n P k (fun b => D b ∨ b = a) (B.set a (r ++ [(k : Int)])) := by
  refine ⟨by rw [List.length_set]; exact h.1, fun b s hs => ?_⟩
  by_cases e : b = a
  · subst e
    obtain ⟨h1, h2⟩ := h.2 b r hr
    rw [List.getElem?_set_self (List.getElem?_eq_some_iff.1 hr).1] at hs
    obtain rfl := Option.some.inj hs
    refine ⟨?_, fun z => ?_⟩
    · rw [List.pairwise_append]
      refine ⟨h1, by simp, fun u hu v hv => ?_⟩
      rw [List.mem_singleton.1 hv]
      obtain ⟨y, e, e2 | e2⟩ := (h2 u).1 hu
      · omega
      · exact absurd e2.2 hd
    · rw [List.mem_append, h2, List.mem_singleton]
      constructor
      · rintro (⟨y, e, h3 | h3⟩ | e)
        · exact ⟨y, e, .inl h3⟩
        · exact ⟨y, e, .inr ⟨h3.1, .inl h3.2⟩⟩
        · exact ⟨k, e, .inr ⟨rfl, .inr rfl⟩⟩
      · rintro ⟨y, e, h3 | ⟨h3, h4⟩⟩
        · exact .inl ⟨y, e, .inl h3⟩
        · exact .inr (by rw [e, h3])
  · rw [List.getElem?_set_ne (fun e' => e e'.symm)] at hs
    obtain ⟨h1, h2⟩ := h.2 b s hs
    refine ⟨h1, fun z => ?_⟩
    rw [h2]
    simp [e]
theorem FrAt.next (h : FrAt n P k D B) (hd : ∀ a, a < n → (D a ↔ P a k)) : FrAt n P (k + 1) (fun _ => False) B := by
  refine ⟨h.1, fun a r hr => ?_⟩
  obtain ⟨h1, h2⟩ := h.2 a r hr
  have hl := (List.getElem?_eq_some_iff.1 hr).1
  rw [h.1] at hl
  refine ⟨h1, fun z => ?_⟩
  rw [h2]
  constructor
  · rintro ⟨y, e, h3 | ⟨h3, h4⟩⟩
    · exact ⟨y, e, .inl ⟨by omega, h3.2⟩⟩
    · subst h3; exact ⟨y, e, .inl ⟨by omega, (hd a hl).1 h4⟩⟩
  · rintro ⟨y, e, ⟨h3, h4⟩ | ⟨_, h3⟩⟩
    · by_cases e' : y = k
      · subst e'; exact ⟨y, e, .inr ⟨rfl, (hd a hl).2 h4⟩⟩
      · exact ⟨y, e, .inl ⟨by omega, h4⟩⟩
    · exact h3.elim
theorem FrAt.new (n : Nat) (P : Nat → Nat → Prop) : FrAt n P 0 (fun _ => False) (List.replicate n []) := by
  refine ⟨by simp, fun a r hr => ?_⟩
  obtain rfl := List.eq_of_mem_replicate (List.mem_of_getElem? hr)
  refine ⟨List.Pairwise.nil, fun z => ?_⟩
  simp
end

section
variable {L : List (List Int)} {y0 : Nat} {o : List Nat} {T : Nat → Nat} {t : List Int}
/-- y lies in the frontier of a, by x. -/
def FrBy (L : List (List Int)) (y0 y a x : Nat) : Prop := Dmn L y0 a x ∧ (a = y ∨ ¬ Dmn L y0 a y)
def FrP (L : List (List Int)) (y0 a y : Nat) : Prop := ∃ x, Edge L x y ∧ FrBy L y0 y a x
/-- .. of those that have been gone through. -/
def FrJ (L : List (List Int)) (y0 y : Nat) (r : List Int) (j : Nat) (a : Nat) : Prop := ∃ x : Nat, (x : Int) ∈ r.take j ∧ FrBy L y0 y a x
theorem FrJ.zero (y : Nat) (r : List Int) (a : Nat) : ¬ FrJ L y0 y r 0 a := fun ⟨x, h, _⟩ => by simp at h
theorem FrJ.all {y : Nat} {r : List Int} (hr : ∀ x : Nat, (x : Int) ∈ r ↔ Edge L x y) (a : Nat) : FrJ L y0 y r r.length a ↔ FrP L y0 a y := by
  unfold FrJ FrP
  rw [List.take_length]
  simp only [hr]
theorem FrJ.succ {y j x : Nat} {r : List Int} (hx : r[j]? = some (x : Int)) (a : Nat) : FrJ L y0 y r (j + 1) a ↔ FrJ L y0 y r j a ∨ FrBy L y0 y a x := by
  have ht : r.take (j + 1) = r.take j ++ [(x : Int)] := by rw [List.take_add_one, hx]; rfl
  unfold FrJ
  rw [ht]
  constructor
  · rintro ⟨z, h1, h2⟩
    rcases List.mem_append.1 h1 with h | h
    · exact .inl ⟨z, h, h2⟩
    · have : z = x := by have := List.mem_singleton.1 h; omega
      exact .inr (this ▸ h2)
  · rintro (⟨z, h1, h2⟩ | h)
    · exact ⟨z, List.mem_append.2 (.inl h1), h2⟩
    · exact ⟨x, List.mem_append.2 (.inr (List.Mem.head _)), h⟩
/-- A node that is not reached leads nowhere. -/
theorem FrJ.far {y j x : Nat} {r : List Int} (hx : r[j]? = some (x : Int)) (hn : ¬ Way L y0 x) (a : Nat) : FrJ L y0 y r (j + 1) a ↔ FrJ L y0 y r j a := by
  rw [FrJ.succ hx]
  exact ⟨fun h => h.elim id (fun h => absurd h.1.1 hn), .inl⟩

/-- How far one has gone up from x: to a place, or past the first one; and whom one met on the way. -/
inductive Up (L : List (List Int)) (y0 : Nat) (o : List Nat) (T : Nat → Nat) (q p : Nat) : Int → (Nat → Prop) → Prop
  | on {c z : Nat} : o[c]? = some z → Anc T c p → (0 < q → Anc T (T q) c) → Up L y0 o T q p z (fun a => ∃ c', o[c']? = some a ∧ Anc T c' p ∧ ¬ Anc T c' c)
  | past : q = 0 → Up L y0 o T q p (-1) (fun a => ∃ c', o[c']? = some a ∧ Anc T c' p)
theorem Tree.above (h : Tree L y0 o T t) {q p y x : Nat} (hq : o[q]? = some y) (hp : o[p]? = some x) (h0 : 0 < q) (he : Edge L x y) : Anc T (T q) p := by
  have hpl := (List.getElem?_eq_some_iff.1 hp).1
  have hql := (List.getElem?_eq_some_iff.1 hq).1
  rw [h.anc _ _ hpl]
  intro ha
  have hd := h.down q h0
  have h1 := (h.anc (T q) q hql).1 (.up h0 (.refl _))
  exact h1 (.step ha hpl hql ⟨x, y, hp, hq, he⟩ (by omega))
theorem Tree.by_ (h : Tree L y0 o T t) {q p y x c a : Nat} (hq : o[q]? = some y) (hp : o[p]? = some x) (hc : o[c]? = some a) : FrBy L y0 y a x ↔ Anc T c p ∧ ¬ (0 < q ∧ Anc T c (T q)) := by
  unfold FrBy
  rw [← h.anc_dmn hc hp, ← h.anc_dmn hc hq]
  have hcq : a = y ↔ c = q := by
    constructor
    · intro e; exact h.row.inj hc (e ▸ hq)
    · intro e; subst e; exact Option.some.inj (hc.symm.trans hq)
  rw [hcq]
  constructor
  · rintro ⟨h1, h2⟩
    refine ⟨h1, fun ⟨h3, h4⟩ => ?_⟩
    rcases h2 with e | h2
    · have := h4.le h.down
      have := h.down q h3
      omega
    · exact h2 (.up h3 h4)
  · rintro ⟨h1, h2⟩
    refine ⟨h1, ?_⟩
    by_cases e : c = q
    · exact .inl e
    · exact .inr (fun h3 => h2 (h3.cut e))
theorem Up.start (h : Tree L y0 o T t) {q p y x : Nat} (hq : o[q]? = some y) (hp : o[p]? = some x) (he : Edge L x y) : Up L y0 o T q p x (fun a => ∃ c', o[c']? = some a ∧ Anc T c' p ∧ ¬ Anc T c' p) :=
  .on hp (.refl p) (fun h0 => h.above hq hp h0 he)
def upN (o : List Nat) (u : Int) : Nat := if u = -1 then 0 else o.idxOf u.toNat + 1
theorem upN_at {c z : Nat} (hn : o.Nodup) (hc : o[c]? = some z) : upN o z = c + 1 := by
  unfold upN
  rw [if_neg (by omega), Int.toNat_natCast, idx_of hn hc]
/-- One step up. -/
theorem Up.go (h : Tree L y0 o T t) {q p y : Nat} {u tv : Int} {U : Nat → Prop} (hq : o[q]? = some y) (htv : t[y]? = some tv) (hU : Up L y0 o T q p u U) (hne : u ≠ tv) :
    ∃ (c z : Nat) (v : Int) (U' : Nat → Prop), u = z ∧ o[c]? = some z ∧ t[z]? = some v ∧ Up L y0 o T q p v U' ∧ (∀ a, U' a ↔ U a ∨ a = z) ∧ upN o v < upN o u := by
  have hql := (List.getElem?_eq_some_iff.1 hq).1
  have hnd := h.row.nodup
  cases hU with
  | past hq0 =>
    subst hq0
    rw [h.is.first y hq hql] at htv
    exact absurd (Option.some.inj htv) hne
  | @on c z hc hcp hTc =>
    have hcl := (List.getElem?_eq_some_iff.1 hc).1
    rcases Nat.eq_zero_or_pos c with rfl | hc0
    · have hq0 : q = 0 := by
        rcases Nat.eq_zero_or_pos q with e | e
        · exact e
        · exfalso
          have h1 := (hTc e).zero h.down
          obtain ⟨z', hz', htz⟩ := h.at_ hq e
          rw [htv] at htz
          rw [h1] at hz'
          obtain rfl := Option.some.inj (hc.symm.trans hz')
          exact hne (Option.some.inj htz).symm
      refine ⟨0, z, -1, _, rfl, hc, h.is.first z hc (by omega), .past hq0, fun a => ?_, ?_⟩
      · constructor
        · rintro ⟨c', h1, h2⟩
          by_cases e : c' = 0
          · subst e; exact .inr (Option.some.inj (h1.symm.trans hc))
          · exact .inl ⟨c', h1, h2, fun h3 => e (h3.zero h.down)⟩
        · rintro (⟨c', h1, h2, -⟩ | e)
          · exact ⟨c', h1, h2⟩
          · subst e; exact ⟨0, hc, hcp⟩
      · rw [upN_at hnd hc]
        simp [upN]
    · obtain ⟨z', hz', htz⟩ := h.at_ hc hc0
      have hup : Anc T (T c) p := Anc.trans (.up hc0 (.refl _)) hcp
      refine ⟨c, z, z', _, rfl, hc, htz, .on hz' hup (fun h0 => ?_), fun a => ?_, ?_⟩
      · refine ((hTc h0).cut (fun e => ?_)).2
        obtain ⟨z2, hz2, htz2⟩ := h.at_ hq h0
        rw [htv] at htz2
        rw [e] at hz2
        obtain rfl := Option.some.inj (hc.symm.trans hz2)
        exact hne (Option.some.inj htz2).symm
      · constructor
        · rintro ⟨c', h1, h2, h3⟩
          by_cases e : c' = c
          · subst e; exact .inr (Option.some.inj (h1.symm.trans hc))
          · exact .inl ⟨c', h1, h2, fun h4 => h3 (h4.cut e).2⟩
        · rintro (⟨c', h1, h2, h3⟩ | e)
          · exact ⟨c', h1, h2, fun h4 => h3 (.up hc0 h4)⟩
          · subst e
            exact ⟨c, hc, hcp, fun h4 => by have := h4.le h.down; have := h.down c hc0; omega⟩
      · rw [upN_at hnd hc, upN_at hnd hz']
        have := h.down c hc0
        omega
/-- The end, where the dominator is come to. -/
theorem Up.top (h : Tree L y0 o T t) {q p y x j : Nat} {u : Int} {U : Nat → Prop} {r : List Int} (hq : o[q]? = some y) (hp : o[p]? = some x) (hx : r[j]? = some (x : Int)) (hU : Up L y0 o T q p u U) (htv : t[y]? = some u) (a : Nat) (ha : a ∈ o) :
    (FrJ L y0 y r j a ∨ U a) ↔ FrJ L y0 y r (j + 1) a := by
  obtain ⟨ca, hca', eca⟩ := List.getElem_of_mem ha
  have hca : o[ca]? = some a := by rw [List.getElem?_eq_getElem hca', eca]
  have hql := (List.getElem?_eq_some_iff.1 hq).1
  rw [FrJ.succ hx, h.by_ hq hp hca]
  have hue : U a ↔ Anc T ca p ∧ ¬ (0 < q ∧ Anc T ca (T q)) := by
    cases hU with
    | past hq0 =>
      constructor
      · rintro ⟨c', h1, h2⟩
        obtain rfl := h.row.inj h1 hca
        exact ⟨h2, fun h3 => by omega⟩
      · rintro ⟨h1, -⟩
        exact ⟨ca, hca, h1⟩
    | @on c z hc hcp hTc =>
      have hq0 : 0 < q := by
        rcases Nat.eq_zero_or_pos q with e | e
        · subst e
          rw [h.is.first y hq hql] at htv
          have := Option.some.inj htv
          omega
        · exact e
      obtain ⟨z2, hz2, htz2⟩ := h.at_ hq hq0
      rw [htv] at htz2
      have hzz : z = z2 := by have := Option.some.inj htz2; omega
      subst hzz
      obtain rfl := h.row.inj hc hz2
      constructor
      · rintro ⟨c', h1, h2, h3⟩
        obtain rfl := h.row.inj h1 hca
        exact ⟨h2, fun h4 => h3 h4.2⟩
      · rintro ⟨h1, h2⟩
        exact ⟨ca, hca, h1, fun h3 => h2 ⟨hq0, h3⟩⟩
  rw [hue]
/-- .. or one that has the node already. -/
theorem Up.met (h : Tree L y0 o T t) {q p y x j c z : Nat} {U : Nat → Prop} {r : List Int} (hq : o[q]? = some y) (hp : o[p]? = some x) (hx : r[j]? = some (x : Int)) (hU : Up L y0 o T q p (z : Int) U) (hc : o[c]? = some z) (hm : FrJ L y0 y r j z ∨ U z) (hr : ∀ x : Nat, (x : Int) ∈ r → Edge L x y) (a : Nat) (ha : a ∈ o) :
    (FrJ L y0 y r j a ∨ U a) ↔ FrJ L y0 y r (j + 1) a := by
  obtain ⟨ca, hca', eca⟩ := List.getElem_of_mem ha
  have hca : o[ca]? = some a := by rw [List.getElem?_eq_getElem hca', eca]
  rw [FrJ.succ hx, h.by_ hq hp hca]
  generalize hz : (z : Int) = u at hU
  cases hU with
  | past => omega
  | @on c2 z2 hc2 hcp hTc =>
    have hzz : z = z2 := by omega
    subst hzz
    obtain rfl := h.row.inj hc hc2
    rcases hm with ⟨x', hx', hb'⟩ | ⟨c', h1, -, h3⟩
    · obtain ⟨p', hp', e'⟩ := List.getElem_of_mem ((h.row.mem x').2 hb'.1.1)
      have hpp : o[p']? = some x' := by rw [List.getElem?_eq_getElem hp', e']
      obtain ⟨k1, k2⟩ := (h.by_ hq hpp hc).1 hb'
      constructor
      · rintro (h1 | ⟨c', h1, h2, h3⟩)
        · exact .inl h1
        · obtain rfl := h.row.inj h1 hca
          exact .inr ⟨h2, fun ⟨h4, h5⟩ => h3 (h5.trans (hTc h4))⟩
      · rintro (h1 | ⟨h1, h2⟩)
        · exact .inl h1
        · by_cases h3 : Anc T ca c
          · exact .inl ⟨x', hx', (h.by_ hq hpp hca).2 ⟨h3.trans k1, h2⟩⟩
          · exact .inr ⟨ca, hca, h1, h3⟩
    · obtain rfl := h.row.inj h1 hc
      exact absurd (.refl _) h3
theorem FrJ.mem (h : Row L y0 o) {y j a : Nat} {r : List Int} (hj : FrJ L y0 y r j a) : a ∈ o := by
  obtain ⟨x, -, hb⟩ := hj
  exact (h.mem a).2 hb.1.reached
theorem Up.mem {q p a : Nat} {u : Int} {U : Nat → Prop} (h : Up L y0 o T q p u U) (hu : U a) : a ∈ o := by
  cases h with
  | past _ => obtain ⟨c', h1, _⟩ := hu; exact List.mem_of_getElem? h1
  | on _ _ _ => obtain ⟨c', h1, _⟩ := hu; exact List.mem_of_getElem? h1
theorem Up.close (h : Row L y0 o) {q p y j : Nat} {u : Int} {U : Nat → Prop} {r : List Int} (hU : Up L y0 o T q p u U) (he : ∀ a, a ∈ o → ((FrJ L y0 y r j a ∨ U a) ↔ FrJ L y0 y r (j + 1) a)) (a : Nat) : (FrJ L y0 y r j a ∨ U a) ↔ FrJ L y0 y r (j + 1) a := by
  by_cases ha : a ∈ o
  · exact he a ha
  · constructor
    · rintro (h1 | h1)
      · exact absurd (FrJ.mem h h1) ha
      · exact absurd (hU.mem h1) ha
    · intro h1
      exact absurd (FrJ.mem h h1) ha
end
end Go.Proofs.Yteipncggndefmaa
