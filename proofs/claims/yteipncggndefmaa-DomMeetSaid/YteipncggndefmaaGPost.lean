/- What a walk has seen, and in what order it left. -/
import Derived.Test.YteipncggndefmaaGWay
namespace Go.Proofs.Yteipncggndefmaa

/-- What a walk adds: it leaves just what it has newly seen, each once; all it newly sees is reached; edges of what it newly sees lead to what is seen; in the order in which it left (last first) edges go on, but where a way leads back. -/
structure Walked (L : List (List Int)) (l : List Int) (s o s' o' : List Nat) : Prop where
  news : ∃ new, o' = new ++ o ∧ new.Nodup ∧ (∀ x, x ∈ s' ↔ x ∈ new ∨ x ∈ s) ∧ (∀ x ∈ new, x ∉ s) ∧
    (∀ x ∈ new, Reached L l x) ∧ (∀ x ∈ new, ∀ y, Edge L x y → y ∈ s') ∧
    (∀ (i j x y : Nat), new[i]? = some x → new[j]? = some y → Edge L x y → j ≤ i → Way L y x)
  all : ∀ y ∈ l, 0 ≤ y → y < L.length → y.toNat ∈ s'

theorem Kids.walked {L : List (List Int)} {l : List Int} {s o s' o' : List Nat} (h : Kids L l s o s' o') : Walked L l s o s' o' := by
  induction h with
  | nil => exact ⟨⟨[], rfl, List.nodup_nil, by simp, by simp, by simp, by simp, by simp⟩, by simp⟩
  | @skip y ys s o s' o' hs hk ih =>
    obtain ⟨⟨new, h1, h2, h3, h4, h5, h6, h7⟩, h8⟩ := ih
    refine ⟨⟨new, h1, h2, h3, h4, fun x hx => ?_, h6, h7⟩, fun z hz h0 hn => ?_⟩
    · obtain ⟨f, hf, hw⟩ := h5 x hx
      exact ⟨f, List.Mem.tail _ hf, hw⟩
    · rcases List.mem_cons.1 hz with rfl | hz
      · exact (h3 _).2 (.inr (hs ⟨h0, hn⟩))
      · exact h8 z hz h0 hn
  | @go y ys r s o s1 o1 s' o' hy hs hr k1 k2 ih1 ih2 =>
    obtain ⟨⟨n1, a1, a2, a3, a4, a5, a6, a7⟩, a8⟩ := ih1
    obtain ⟨⟨n2, b1, b2, b3, b4, b5, b6, b7⟩, b8⟩ := ih2
    have hys1 : y ∈ s1 := (a3 y).2 (.inr (List.Mem.head _))
    have hyn1 : y ∉ n1 := fun h => a4 y h (List.Mem.head _)
    have hyk : ∀ z, Edge L y z → z ∈ s1 := by
      rintro z ⟨hz, r', hr', hm⟩
      rw [hr] at hr'
      obtain rfl := Option.some.inj hr'
      simpa using a8 (z : Int) hm (by omega) (by omega)
    have hw1 : ∀ x ∈ n1, Way L y x := by
      intro x hx
      obtain ⟨f, hf, hw⟩ := a5 x hx
      exact Way.head ⟨hw.lt.1, r, hr, hf⟩ hw
    have hk1 : ∀ x ∈ y :: n1, ∀ z, Edge L x z → z ∈ s1 := by
      intro x hx z e
      rcases List.mem_cons.1 hx with rfl | hx
      · exact hyk z e
      · exact a6 x hx z e
    have hin1 : ∀ x ∈ y :: n1, x ∈ s1 := by
      intro x hx
      rcases List.mem_cons.1 hx with rfl | hx
      · exact hys1
      · exact (a3 x).2 (.inl hx)
    refine ⟨⟨n2 ++ y :: n1, ?_, ?_, fun x => ?_, fun x hx => ?_, fun x hx => ?_, fun x hx z e => ?_, fun i j x z hi hj e hle => ?_⟩, fun z hz h0 hn => ?_⟩
    · rw [b1, a1]; simp
    · rw [List.nodup_append]
      refine ⟨b2, List.nodup_cons.2 ⟨hyn1, a2⟩, fun u hu v hv e => ?_⟩
      subst e
      exact b4 u hu (hin1 u hv)
    · rw [b3, a3, List.mem_append, List.mem_cons, List.mem_cons]
      constructor
      · rintro (h | h | h | h)
        · exact .inl (.inl h)
        · exact .inl (.inr (.inr h))
        · exact .inl (.inr (.inl h))
        · exact .inr h
      · rintro ((h | h | h) | h)
        · exact .inl h
        · exact .inr (.inr (.inl h))
        · exact .inr (.inl h)
        · exact .inr (.inr (.inr h))
    · rcases List.mem_append.1 hx with hx | hx
      · exact fun h => b4 x hx ((a3 x).2 (.inr (List.Mem.tail _ h)))
      · rcases List.mem_cons.1 hx with rfl | hx
        · exact hs
        · exact fun h => a4 x hx (List.Mem.tail _ h)
    · rcases List.mem_append.1 hx with hx | hx
      · obtain ⟨f, hf, hw⟩ := b5 x hx
        exact ⟨f, List.Mem.tail _ hf, hw⟩
      · rcases List.mem_cons.1 hx with rfl | hx
        · exact ⟨x, List.Mem.head _, .refl hy⟩
        · exact ⟨y, List.Mem.head _, hw1 x hx⟩
    · rcases List.mem_append.1 hx with hx | hx
      · exact b6 x hx z e
      · exact (b3 z).2 (.inr (hk1 x hx z e))
    · have hxs : i < n2.length ∨ n2.length ≤ i := Nat.lt_or_ge _ _
      rcases hxs with hi2 | hi2
      · rw [List.getElem?_append_left hi2] at hi
        rw [List.getElem?_append_left (by omega)] at hj
        exact b7 i j x z hi hj e hle
      · rw [List.getElem?_append_right hi2] at hi
        have hx := List.mem_of_getElem? hi
        rcases Nat.lt_or_ge j n2.length with hj2 | hj2
        · rw [List.getElem?_append_left hj2] at hj
          exact absurd (hk1 x hx z e) (b4 z (List.mem_of_getElem? hj))
        · rw [List.getElem?_append_right hj2] at hj
          obtain ⟨p, hp⟩ : ∃ p, p = i - n2.length := ⟨_, rfl⟩
          obtain ⟨q, hq⟩ : ∃ q, q = j - n2.length := ⟨_, rfl⟩
          rw [← hp] at hi
          rw [← hq] at hj
          have hqp : q ≤ p := by omega
          cases q with
          | zero =>
            simp at hj
            subst hj
            rcases List.mem_cons.1 hx with rfl | hx
            · exact .refl hy
            · exact hw1 x hx
          | succ q =>
            obtain ⟨p', rfl⟩ : ∃ p', p = p' + 1 := ⟨p - 1, by omega⟩
            simp at hi hj
            exact a7 p' q x z hi hj e (by omega)
    · rcases List.mem_cons.1 hz with rfl | hz
      · exact (b3 _).2 (.inr (by simpa using hys1))
      · exact b8 z hz h0 hn

/-- From nothing: what is seen is just what is reached. -/
theorem Kids.reached {L : List (List Int)} {l : List Int} {s' o' : List Nat} (h : Kids L l [] [] s' o') (x : Nat) : x ∈ s' ↔ Reached L l x := by
  obtain ⟨⟨new, h1, h2, h3, h4, h5, h6, h7⟩, h8⟩ := h.walked
  constructor
  · intro hx
    rcases (h3 x).1 hx with hx | hx
    · exact h5 x hx
    · cases hx
  · rintro ⟨f, hf, hw⟩
    induction hw with
    | refl hlt => simpa using h8 _ hf (by omega) (by omega)
    | @step b c hw e ih =>
      rcases (h3 _).1 ih with hb | hb
      · exact h6 _ hb _ e
      · cases hb
theorem Kids.left {L : List (List Int)} {l : List Int} {s' o' : List Nat} (h : Kids L l [] [] s' o') : o'.Nodup ∧ (∀ x, x ∈ o' ↔ x ∈ s') ∧ ∀ (i j x y : Nat), o'[i]? = some x → o'[j]? = some y → Edge L x y → j ≤ i → Way L y x := by
  obtain ⟨⟨new, h1, h2, h3, h4, h5, h6, h7⟩, h8⟩ := h.walked
  rw [List.append_nil] at h1
  subst h1
  exact ⟨h2, fun x => by rw [h3]; simp, h7⟩
end Go.Proofs.Yteipncggndefmaa
