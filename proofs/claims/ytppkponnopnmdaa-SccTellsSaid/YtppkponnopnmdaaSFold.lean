/- scc.Fold, walked. -/
import Derived.Test.YtppkponnopnmdaaSCyc
namespace Go.Proofs.Ytppkponnopnmdaa
open Go.RowKit Go.Maps Go.Shelf

/-- Which edges have been gone through. -/
def Done (N : List (List Int)) (k j i x : Nat) : Prop := ∃ r, N[i]? = some r ∧ ((i < k ∧ (x : Int) ∈ r) ∨ (i = k ∧ (x : Int) ∈ r.take j))
/-- The graph of components, as far as it is. -/
structure FI (N : List (List Int)) (f : Nat → Nat) (c n k j : Nat) (G : List (List Int)) : Prop where
  len : G.length = c
  edge : ∀ a b : Nat, (∃ r, G[a]? = some r ∧ (b : Int) ∈ r) ↔ a ≠ b ∧ ∃ i x, Done N k j i x ∧ f i = a ∧ f x = b
  val : ∀ r ∈ G, ∀ x ∈ r, 0 ≤ x ∧ x < c
  low : ∀ r ∈ G, r.length ≤ k * n + j
section
variable {N G : List (List Int)} {f : Nat → Nat} {c n k j : Nat}
theorem FI.start : FI N f c n 0 0 (List.replicate c []) := by
  refine ⟨by simp, fun a b => ⟨?_, ?_⟩, fun r hr => ?_, fun r hr => ?_⟩
  · rintro ⟨r, hr, hm⟩
    rw [List.eq_of_mem_replicate (List.mem_of_getElem? hr)] at hm
    cases hm
  · rintro ⟨_, i, x, ⟨r, _, ⟨h, _⟩ | ⟨_, h⟩⟩, _⟩
    · omega
    · simp at h
  · rw [List.eq_of_mem_replicate hr]; simp
  · rw [List.eq_of_mem_replicate hr]; simp
theorem done_succ {r : List Int} {x : Nat} (hr : N[k]? = some r) (hx : r[j]? = some (x : Int)) (i y : Nat) : Done N k (j + 1) i y ↔ Done N k j i y ∨ (i = k ∧ y = x) := by
  have ht : r.take (j + 1) = r.take j ++ [(x : Int)] := take_snoc hx
  constructor
  · rintro ⟨s, hs, ⟨h1, h2⟩ | ⟨rfl, h2⟩⟩
    · exact .inl ⟨s, hs, .inl ⟨h1, h2⟩⟩
    · rw [hr] at hs
      obtain rfl := Option.some.inj hs
      rw [ht] at h2
      rcases List.mem_append.1 h2 with h | h
      · exact .inl ⟨r, hr, .inr ⟨rfl, h⟩⟩
      · exact .inr ⟨rfl, Int.ofNat_inj.1 (List.mem_singleton.1 h)⟩
  · rintro (⟨s, hs, ⟨h1, h2⟩ | ⟨rfl, h2⟩⟩ | ⟨rfl, rfl⟩)
    · exact ⟨s, hs, .inl ⟨h1, h2⟩⟩
    · rw [hr] at hs
      obtain rfl := Option.some.inj hs
      exact ⟨r, hr, .inr ⟨rfl, by rw [ht]; exact List.mem_append_left _ h2⟩⟩
    · exact ⟨r, hr, .inr ⟨rfl, by rw [ht]; simp⟩⟩
theorem FI.skip (H : FI N f c n k j G) {r : List Int} {x : Nat} (hr : N[k]? = some r) (hx : r[j]? = some (x : Int)) (he : f k = f x) : FI N f c n k (j + 1) G := by
  refine ⟨H.len, fun a b => ?_, H.val, fun r hr => by have := H.low r hr; omega⟩
  rw [H.edge]
  constructor
  · rintro ⟨h1, i, y, h2, h3⟩
    exact ⟨h1, i, y, (done_succ hr hx i y).2 (.inl h2), h3⟩
  · rintro ⟨h1, i, y, h2, h3, h4⟩
    rcases (done_succ hr hx i y).1 h2 with h | ⟨rfl, rfl⟩
    · exact ⟨h1, i, y, h, h3, h4⟩
    · exact absurd (h3.symm.trans (he.trans h4)) h1
theorem FI.push (H : FI N f c n k j G) {r F : List Int} {x : Nat} (hr : N[k]? = some r) (hx : r[j]? = some (x : Int)) (hne : f k ≠ f x) (hF : G[f k]? = some F) (hc : f x < c) : FI N f c n k (j + 1) (G.set (f k) (F ++ [(f x : Int)])) := by
  have hlt := (List.getElem?_eq_some_iff.1 hF).1
  refine ⟨by rw [List.length_set, H.len], fun a b => ?_, fun s hs y hy => ?_, fun s hs => ?_⟩
  · have key : (∃ s, (G.set (f k) (F ++ [(f x : Int)]))[a]? = some s ∧ (b : Int) ∈ s) ↔ (∃ s, G[a]? = some s ∧ (b : Int) ∈ s) ∨ (a = f k ∧ b = f x) := by
      by_cases ha : f k = a
      · subst ha
        rw [List.getElem?_set_self hlt, hF]
        constructor
        · rintro ⟨s, hs, hm⟩
          obtain rfl := Option.some.inj hs
          rcases List.mem_append.1 hm with h | h
          · exact .inl ⟨F, rfl, h⟩
          · exact .inr ⟨rfl, Int.ofNat_inj.1 (List.mem_singleton.1 h)⟩
        · rintro (⟨s, hs, hm⟩ | ⟨_, rfl⟩)
          · obtain rfl := Option.some.inj hs
            exact ⟨_, rfl, List.mem_append_left _ hm⟩
          · exact ⟨_, rfl, by simp⟩
      · rw [List.getElem?_set_ne ha]
        constructor
        · exact .inl
        · rintro (h | ⟨rfl, _⟩)
          · exact h
          · exact absurd rfl ha
    rw [key, H.edge]
    constructor
    · rintro (⟨h1, i, y, h2, h3⟩ | ⟨rfl, rfl⟩)
      · exact ⟨h1, i, y, (done_succ hr hx i y).2 (.inl h2), h3⟩
      · exact ⟨hne, k, x, (done_succ hr hx k x).2 (.inr ⟨rfl, rfl⟩), rfl, rfl⟩
    · rintro ⟨h1, i, y, h2, h3, h4⟩
      rcases (done_succ hr hx i y).1 h2 with h | ⟨rfl, rfl⟩
      · exact .inl ⟨h1, i, y, h, h3, h4⟩
      · exact .inr ⟨h3.symm, h4.symm⟩
  · rcases List.mem_or_eq_of_mem_set hs with h | rfl
    · exact H.val s h y hy
    · rcases List.mem_append.1 hy with h | h
      · exact H.val F (List.mem_of_getElem? hF) y h
      · obtain rfl := List.mem_singleton.1 h; omega
  · rcases List.mem_or_eq_of_mem_set hs with h | rfl
    · have := H.low s h; omega
    · have := H.low F (List.mem_of_getElem? hF)
      rw [List.length_append, List.length_singleton]; omega
theorem FI.next (H : FI N f c n k j G) {r : List Int} (hr : N[k]? = some r) (hj : j = r.length) (hn : r.length ≤ n) : FI N f c n (k + 1) 0 G := by
  subst hj
  have hd : ∀ i y, Done N (k + 1) 0 i y ↔ Done N k r.length i y := by
    intro i y
    constructor
    · rintro ⟨s, hs, ⟨h1, h2⟩ | ⟨rfl, h2⟩⟩
      · by_cases hik : i = k
        · subst hik
          rw [hr] at hs
          obtain rfl := Option.some.inj hs
          exact ⟨r, hr, .inr ⟨rfl, by rw [List.take_length]; exact h2⟩⟩
        · exact ⟨s, hs, .inl ⟨by omega, h2⟩⟩
      · simp at h2
    · rintro ⟨s, hs, ⟨h1, h2⟩ | ⟨rfl, h2⟩⟩
      · exact ⟨s, hs, .inl ⟨by omega, h2⟩⟩
      · rw [hr] at hs
        obtain rfl := Option.some.inj hs
        exact ⟨r, hr, .inl ⟨by omega, by rwa [List.take_length] at h2⟩⟩
  refine ⟨H.len, fun a b => ?_, H.val, fun r hr => ?_⟩
  · rw [H.edge]
    simp only [hd]
  · have := H.low r hr
    rw [Nat.add_mul]; omega
end
theorem FI.fold {L G : List (List Int)} {m : Nat → Int} {f : Nat → Nat} {n : Nat} (H : FI (normL L) f (cntM m L.length) n L.length 0 G) (hf : ∀ x, x < L.length → numF L.length m x = (f x : Nat)) : FoldOf L m (normL G) := by
  refine ⟨by rw [normL_len, H.len], norm_form G, fun a b => ?_⟩
  rw [edge_norm]
  have h1 : Edge G a b ↔ ∃ r, G[a]? = some r ∧ (b : Int) ∈ r := by
    constructor
    · rintro ⟨_, h⟩; exact h
    · rintro ⟨r, hr, hm⟩
      exact ⟨by rw [H.len]; have := H.val r (List.mem_of_getElem? hr) b hm; omega, r, hr, hm⟩
  have h2 : ∀ i x, Done (normL L) L.length 0 i x ↔ Edge L i x := by
    intro i x
    rw [← edge_norm]
    constructor
    · rintro ⟨r, hr, ⟨_, h⟩ | ⟨_, h⟩⟩
      · exact ⟨by have := (norm_form L r (List.mem_of_getElem? hr)).2 x h; omega, r, hr, h⟩
      · simp at h
    · rintro ⟨_, r, hr, h⟩
      exact ⟨r, hr, .inl ⟨by have := (List.getElem?_eq_some_iff.1 hr).1; rwa [normL_len] at this, h⟩⟩
  rw [h1, H.edge]
  simp only [h2]
  constructor
  · rintro ⟨g1, i, x, g2, g3, g4⟩
    exact ⟨g1, i, x, g2, by rw [hf i g2.lt.1, g3], by rw [hf x g2.lt.2, g4]⟩
  · rintro ⟨g1, i, x, g2, g3, g4⟩
    rw [hf i g2.lt.1] at g3
    rw [hf x g2.lt.2] at g4
    exact ⟨g1, i, x, g2, by omega, by omega⟩
theorem Fill.drewN {w1 w : World} {base G : Nat} {vs : List Value} {B : List (List Int)} (hF : Fill w1 w base G vs B) (n : Nat) : Fill w1 (w.drewN n) base G vs B :=
  ⟨hF.M.kept (Touch.drewN w n (fun _ => False)) (fun h => h) (fun _ _ _ _ _ h => h), hF.fresh, hF.T.trans (Touch.drewN w n _)⟩
end Go.Proofs.Ytppkponnopnmdaa
