/- What came in, read: strings, integers, slices of strings. -/
import Derived.Test.YtjblhiekccjdcaaRLaw
import Derived.Test.YtjblhiekccjdcaaRTab
import Derived.Deep.Strs
import Derived.Deep.Slices
namespace Go.Proofs.YtjblhiekccjdcaaR
open Go.RowKit Go.WideShapes Go.ChangeShapes Go.ChangeAt Go.Deep

section
variable {H : Type} {enc : TypeId × Value → H} {P : Program} {w : World}

theorem spot_none {a : Addr} {v : Value} (h : w.cell? a = some v) : a.spot = none := by
  obtain ⟨b, o, s⟩ := a
  cases s with
  | none => rfl
  | some s =>
    simp only [World.cell?, Option.isSome_some, if_true] at h
    split at h <;> cases h

/-- A slice that came in, one cell an element. -/
theorem rd_of {v : Value} {a : Addr} {len cap m : Nat} {X : Nat → Value} (hv : v = .slice (some a) len cap) (hm : len ≤ m) (h : ∀ i, i < m → w.cell? (a.add i) = some (X i)) (hlt : a.block < w.heap.size ∨ len = 0) :
    Rd w v ((List.range len).map X) := by
  subst hv
  by_cases h0 : len = 0
  · subst h0
    exact Or.inl ⟨rfl, Or.inr ⟨_, _, rfl⟩⟩
  · obtain ⟨b, o, s⟩ := a
    have hs : s = none := by
      have h1 := spot_none (h 0 (by omega))
      have h2 : ((⟨b, o, s⟩ : Addr).add 0).spot = s := by simp [Addr.add]
      exact h2.symm.trans h1
    subst hs
    refine Or.inr ⟨b, o, cap, by simp, hlt.resolve_right h0, fun i u hu => ?_⟩
    have hi : i < len := by have := (List.getElem?_eq_some_iff.1 hu).1; simpa using this
    simp [hi] at hu
    subst hu
    have := h i (by omega)
    unfold Addr.add at this
    split at this
    · rename_i e; subst e; simpa using this
    · simpa using this

theorem rd_strings {t e : TypeId} {v : Value} {d : DataW H} {ps : List MemPlace} {base : Nat} (ht : P.underlying t = some (.slice e)) (he : P.underlying e = some .string) (hc : P.cellsOf e = 1)
    (hval : Value.okWide P w .any base t v) (h : DataW.Trod enc P w 0 (fun _ => true) true t v d ps) : ∃ ss : List ByteArray, Rd w v (ss.map Value.string) ∧ ∀ s ∈ ss, s.size ≤ maxLen := by
  obtain ⟨a, len, cap, rfl⟩ := okWide_slice ht hval
  obtain ⟨n, hn⟩ := h
  rcases open_strs ht he hc hn with ⟨e1, _⟩ | ⟨a', len', cap', m, Sx, e1, _, hl, hm, hmm, _, hx⟩
  · simp [Value.cells] at e1
    obtain ⟨rfl, rfl, rfl⟩ := e1
    exact ⟨[], Or.inl ⟨rfl, Or.inl rfl⟩, by simp⟩
  · simp [Value.cells] at e1
    obtain ⟨rfl, rfl, rfl⟩ := e1
    simp only [if_true] at hmm
    refine ⟨(List.range len).map Sx, ?_, ?_⟩
    · have := rd_of (w := w) (v := .slice (some a') len cap) (X := fun i => .string (Sx i)) rfl (by omega : len ≤ m) (fun i hi => (hx i hi).1) (by
        by_cases h0 : len = 0
        · exact Or.inr h0
        · left
          have h1 := (hx 0 (by omega)).1
          unfold World.cell? at h1
          split at h1
          · rename_i h2
            have := (Array.getElem?_eq_some_iff.1 h2).1
            unfold Addr.add at this
            split at this <;> simpa using this
          · cases h1)
      rwa [List.map_map]
    · intro s hs
      obtain ⟨i, hi, rfl⟩ := List.mem_map.1 hs
      exact (hx i (by have := List.mem_range.1 hi; omega)).2
theorem len_le {t e : TypeId} {v : Value} {d : DataW H} {ps : List MemPlace} {base : Nat} (ht : P.underlying t = some (.slice e))
    (hval : Value.okWide P w .any base t v) (h : DataW.Trod enc P w 0 (fun _ => true) true t v d ps) : ∀ a len cap, v = .slice a len cap → len ≤ maxLen := by
  rintro a len cap rfl
  obtain ⟨n, hn⟩ := h
  rcases open_slice ht hn with ⟨e1, _⟩ | ⟨a', len', cap', m, n', D, Pl, e1, _, hl, hm, _⟩
  · simp [Value.cells] at e1
    omega
  · simp [Value.cells] at e1
    omega
theorem okWide_len {t e : TypeId} {v : Value} {d : DataW H} {ps : List MemPlace} {base : Nat} (ht : P.underlying t = some (.slice e))
    (hval : Value.okWide P w .any base t v) (h : DataW.Trod enc P w 0 (fun _ => true) true t v d ps) {α : Type} {f : α → Value} : ∀ l : List α, Rd w v (l.map f) → l.length ≤ maxLen := by
  intro l hr
  obtain ⟨a, c, e1⟩ := hr.form
  have := len_le ht hval h a _ c e1
  simpa using this
end
end Go.Proofs.YtjblhiekccjdcaaR
