/- A walk from one node: the first place is the node's own; every other place has one ahead from which an edge leads. -/
import Derived.Test.YteipncggndefmaaDMath
import Derived.Test.YteipncggndefmaaGPost
namespace Go.Proofs.Yteipncggndefmaa

theorem Kids.led {L : List (List Int)} {l : List Int} {s o s' o' : List Nat} (h : Kids L l s o s' o') :
    ∃ new, o' = new ++ o ∧ ∀ (i x : Nat), new[i]? = some x → (x : Int) ∈ l ∨ ∃ j y, j < i ∧ new[j]? = some y ∧ Edge L y x := by
  induction h with
  | nil => exact ⟨[], rfl, by simp⟩
  | @skip y ys s o s' o' hs hk ih =>
    obtain ⟨new, h1, h2⟩ := ih
    refine ⟨new, h1, fun i x hx => ?_⟩
    rcases h2 i x hx with h | h
    · exact .inl (List.Mem.tail _ h)
    · exact .inr h
  | @go y ys r s o s1 o1 s' o' hy hs hr k1 k2 ih1 ih2 =>
    obtain ⟨n1, a1, a2⟩ := ih1
    obtain ⟨n2, b1, b2⟩ := ih2
    refine ⟨n2 ++ y :: n1, by rw [b1, a1]; simp, fun i x hx => ?_⟩
    rcases Nat.lt_or_ge i n2.length with hi | hi
    · rw [List.getElem?_append_left hi] at hx
      rcases b2 i x hx with h | ⟨j, z, h1, h2, h3⟩
      · exact .inl (List.Mem.tail _ h)
      · exact .inr ⟨j, z, h1, by rw [List.getElem?_append_left (by omega)]; exact h2, h3⟩
    · rw [List.getElem?_append_right hi] at hx
      obtain ⟨q, hq⟩ : ∃ q, q = i - n2.length := ⟨_, rfl⟩
      rw [← hq] at hx
      cases q with
      | zero =>
        simp at hx
        subst hx
        exact .inl (List.Mem.head _)
      | succ q =>
        simp at hx
        have hxn : x < L.length := by
          have h3 := k1.walked.news
          obtain ⟨new, e1, _, _, _, e2, _, _⟩ := h3
          have : new = n1 := by rw [a1] at e1; exact (List.append_cancel_right e1).symm
          subst this
          obtain ⟨f, _, hw⟩ := e2 x (List.mem_of_getElem? hx)
          exact hw.lt.2
        rcases a2 q x hx with h | ⟨j, z, h1, h2, h3⟩
        · exact .inr ⟨n2.length, y, by omega, by simp, hxn, r, hr, h⟩
        · refine .inr ⟨n2.length + 1 + j, z, by omega, ?_, h3⟩
          rw [List.getElem?_append_right (by omega), show n2.length + 1 + j - n2.length = j + 1 from by omega]
          simpa using h2

/-- A walk from one node: all that is reached, each once, the node itself first; every other one has one ahead that leads to it. -/
structure Row (L : List (List Int)) (y : Nat) (o : List Nat) : Prop where
  nodup : o.Nodup
  mem : ∀ x, x ∈ o ↔ Way L y x
  head : o[0]? = some y
  led : ∀ i x, 0 < i → o[i]? = some x → ∃ j z, j < i ∧ o[j]? = some z ∧ Edge L z x
theorem Kids.row {L : List (List Int)} {y : Nat} {s o : List Nat} (h : Kids L [(y : Int)] [] [] s o) (hy : y < L.length) : Row L y o := by
  obtain ⟨h1, h2, -⟩ := h.left
  have h3 := h.reached
  obtain ⟨new, e1, e2⟩ := h.led
  rw [List.append_nil] at e1
  subst e1
  have hm : ∀ x, x ∈ o ↔ Way L y x := fun x => by
    rw [h2, h3]
    constructor
    · rintro ⟨f, hf, hw⟩
      have : f = y := by have := List.mem_singleton.1 hf; omega
      exact this ▸ hw
    · exact fun hw => ⟨y, List.Mem.head _, hw⟩
  have hh : o[0]? = some y := by
    cases h with
    | skip hs _ => exact absurd (hs ⟨by omega, by omega⟩) (by simp)
    | @go y' _ r _ _ s1 o1 _ _ _ _ _ k1 k2 =>
      cases k2
      simp
  have hh : o[0]? = some y := by
    have hmem := (hm y).2 (.refl hy)
    cases o with
    | nil => cases hmem
    | cons x o => exact hh
  refine ⟨h1, hm, hh, fun i x hi hx => ?_⟩
  rcases e2 i x hx with h | h
  · have : x = y := by have := List.mem_singleton.1 h; omega
    subst this
    have h5 : i < o.length := (List.getElem?_eq_some_iff.1 hx).1
    have := (List.getElem?_inj h5 h1).1 (hx.trans hh.symm)
    omega
  · exact h
/-- The place of a node in a row. -/
def placeN (o : List Nat) (x : Nat) : Nat := o.idxOf x
end Go.Proofs.Yteipncggndefmaa
