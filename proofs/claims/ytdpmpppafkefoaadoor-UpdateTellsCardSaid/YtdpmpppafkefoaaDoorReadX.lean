/- What came in, read: the law's exits, and slices of numbers that stand in a cell. -/
import Derived.Test.YtdpmpppafkefoaaDoorUpdG
namespace Go.Proofs.YtdpmpppafkefoaaDoor
open Go.RowKit Go.WideShapes Go.ChangeShapes Go.ChangeAt Go.Deep

section
variable {H : Type} {enc : TypeId × Value → H} {P : Program} {w : World}

/-- A slice of numbers in a cell. -/
theorem rd_ints_at {t e : TypeId} {n : Nat} {cs : List Value} {x : DataW H × List MemPlace} (ht : P.underlying t = some (.slice e)) (he : P.underlying e = some (.int .i64)) (hc : P.cellsOf e = 1)
    (hn : DataW.trod enc P w 0 (fun _ => true) true n t cs = some x) : ∃ v xs, cs = [v] ∧ RdI w v xs ∧ Small xs ∧ xs.length ≤ maxLen := by
  rcases open_ints ht he hc hn with ⟨e1, _⟩ | ⟨a', len, cap, zs, e1, _, hl, hm, hmm, _, hx, hw⟩
  · exact ⟨_, [], e1, Or.inl ⟨rfl, Or.inl rfl⟩, (fun x h => by cases h), Nat.zero_le _⟩
  · simp only [if_true] at hmm
    refine ⟨_, (List.range len).map (fun i => zs.getD i 0), e1, ?_, fun x hx' => ?_, by simp; omega⟩
    · have := rd_of (w := w) (v := .slice (some a') len cap) (X := fun i => .int .i64 (zs.getD i 0)) rfl (by omega : len ≤ zs.length) (fun i hi => hx i hi) (by
        by_cases h0 : len = 0
        · exact Or.inr h0
        · left
          have h1 := hx 0 (by omega)
          unfold World.cell? at h1
          split at h1
          · rename_i h2
            have := (Array.getElem?_eq_some_iff.1 h2).1
            unfold Addr.add at this
            split at this <;> simpa using this
          · cases h1)
      rw [RdI, List.map_map]
      exact this
    · obtain ⟨i, hi, rfl⟩ := List.mem_map.1 hx'
      rw [List.mem_range] at hi
      refine wf_bounds (hw _ ?_)
      have hlt : i < zs.length := by omega
      simp [List.getD, hlt]

theorem rd_exits {t e : TypeId} {f0 f1 : Field} {ti : TypeId} {v : Value} {d : DataW H} {ps : List MemPlace} {base : Nat} (ht : P.underlying t = some (.slice e)) (he : P.underlying e = some (.struct #[f0, f1])) (hce : P.cellsOf e = 2)
    (g0 : f0.offset = 0 ∧ P.cellsOf f0.type = 1 ∧ P.underlying f0.type = some .bool) (g1 : f1.offset = 1 ∧ P.cellsOf f1.type = 1 ∧ P.underlying f1.type = some (.slice ti)) (hi : P.underlying ti = some (.int .i64)) (hci : P.cellsOf ti = 1)
    (hval : Value.okWide P w .any base t v) (h : DataW.Trod enc P w 0 (fun _ => true) true t v d ps) : ∃ ls : List Lx, RowL w v ls := by
  rcases rd_elems ht hce (by decide) hval h with h0 | ⟨b, off, len, cap, rfl, hb, hl, hx⟩
  · exact ⟨[], Or.inl ⟨rfl, h0⟩, by simp⟩
  · have hx' : ∀ i, i < len → ∃ x : Lx, (w.cell? ⟨b, off + i * 2, none⟩ = some (.bool x.1) ∧ w.cell? ⟨b, off + i * 2 + 1, none⟩ = some x.2.1) ∧ RdI w x.2.1 x.2.2 ∧ ∀ z ∈ x.2.2, z < 9223372036854775808 := by
      intro i hi'
      obtain ⟨cs', n, y, hlen, hce, htr⟩ := hx i hi'
      obtain ⟨y0, y1, n', _, _, t0, t1⟩ := trod_struct2 he htr
      rw [g0.1, g0.2.1] at t0
      rw [g1.1, g1.2.1] at t1
      obtain ⟨x0, e0, _⟩ := DataW.trod_bool g0.2.2 t0
      obtain ⟨x1, xs, e1, r1, s1, _⟩ := rd_ints_at g1.2.2 hi hci t1
      match cs', hlen with
      | [c0, c1], _ =>
        simp at e0 e1
        subst e0; subst e1
        exact ⟨(x0, c1, xs), ⟨hce 0 (by omega), hce 1 (by omega)⟩, r1, fun z hz => (s1 z hz).2⟩
    refine ⟨(List.range len).attach.map fun i => (hx' i.1 (List.mem_range.1 i.2)).choose, Or.inr ⟨b, off, cap, by simp, hb, fun i m p l hu => ?_⟩, fun m p l hu => ?_⟩
    · have hlt : i < len := by have := (List.getElem?_eq_some_iff.1 hu).1; simpa using this
      have hs := (hx' i hlt).choose_spec
      simp [hlt] at hu
      rw [hu] at hs
      exact hs.1
    · obtain ⟨⟨i, hi'⟩, _, e⟩ := List.mem_map.1 hu
      have hs := (hx' i (List.mem_range.1 hi')).choose_spec
      simp only at e
      rw [e] at hs
      exact hs.2
end
end Go.Proofs.YtdpmpppafkefoaaDoor
