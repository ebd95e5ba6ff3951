/- What came in, read: slices of acts. -/
import Derived.Test.YtdeoclapamknfaaRead
import Derived.Test.YtdeoclapamknfaaPlaysS
import Derived.DataReads
namespace Go.Proofs.Ytdeoclapamknfaa
open Go.RowKit Go.WideShapes Go.ChangeShapes Go.ChangeAt Go.Deep

section
variable {H : Type} {enc : TypeId × Value → H} {P : Program} {w : World}

theorem add_add {b o i j : Nat} : ((⟨b, o, none⟩ : Addr).add i).add j = ⟨b, o + i + j, none⟩ := by
  unfold Addr.add
  split <;> split <;> simp_all

/-- A slice that came in: each element's cells read as an element. -/
theorem rd_elems {t e : TypeId} {v : Value} {d : DataW H} {ps : List MemPlace} {base c : Nat} (ht : P.underlying t = some (.slice e)) (hc : P.cellsOf e = c) (hc0 : 0 < c)
    (hval : Value.okWide P w .any base t v) (h : DataW.Trod enc P w 0 (fun _ => true) true t v d ps) :
    (v = .slice none 0 0 ∨ ∃ a k, v = .slice (some a) 0 k) ∨ ∃ b off len cap, v = .slice (some ⟨b, off, none⟩) len cap ∧ b < w.heap.size ∧ len ≤ maxLen ∧
      ∀ i, i < len → ∃ cs n y, cs.length = c ∧ (∀ j, j < c → w.cell? ⟨b, off + i * c + j, none⟩ = cs[j]?) ∧ DataW.trod enc P w 0 (fun _ => true) true n e cs = some y := by
  subst hc
  obtain ⟨a, len, cap, rfl⟩ := okWide_slice ht hval
  obtain ⟨n, hn⟩ := h
  rcases open_slice ht hn with ⟨e1, _⟩ | ⟨a', len', cap', m, n', D, Pl, e1, _, hl, hm, hmm, _, hx⟩
  · simp [Value.cells] at e1
    obtain ⟨rfl, rfl, rfl⟩ := e1
    exact Or.inl (Or.inl rfl)
  · simp [Value.cells] at e1
    obtain ⟨rfl, rfl, rfl⟩ := e1
    simp only [if_true] at hmm
    by_cases h0 : len = 0
    · subst h0
      exact Or.inl (Or.inr ⟨_, _, rfl⟩)
    · right
      obtain ⟨b, o, s⟩ := a'
      obtain ⟨cs0, hcs0, _⟩ := hx 0 (by omega)
      obtain ⟨_, hlen0, hce0⟩ := World.cells?_some hcs0
      have h1 : ∃ u, w.cell? (((⟨b, o, s⟩ : Addr).add (0 * P.cellsOf e)).add 0) = some u := by
        rw [hce0 0 (by omega)]
        exact ⟨_, List.getElem?_eq_getElem (by omega)⟩
      obtain ⟨u, hu⟩ := h1
      have hs : s = none := by
        have h2 := spot_none hu
        have h3 : (((⟨b, o, s⟩ : Addr).add (0 * P.cellsOf e)).add 0).spot = s := by simp [Addr.add]
        exact h3.symm.trans h2
      subst hs
      have hb : b < w.heap.size := by
        rw [add_add] at hu
        unfold World.cell? at hu
        split at hu
        · rename_i h4
          exact (Array.getElem?_eq_some_iff.1 h4).1
        · cases hu
      refine ⟨b, o, len, cap, rfl, hb, by omega, fun i hi => ?_⟩
      obtain ⟨cs, hcs, htr⟩ := hx i (by omega)
      obtain ⟨_, hlen, hce⟩ := World.cells?_some hcs
      refine ⟨cs, n', _, hlen, fun j hj => ?_, htr⟩
      rw [← hce j hj, add_add]

theorem rd_acts {t e i64 str : TypeId} {f0 f1 f2 : Field} {v : Value} {d : DataW H} {ps : List MemPlace} {base : Nat} (ht : P.underlying t = some (.slice e)) (hc : P.cellsOf e = 3) (he : P.underlying e = some (.struct #[f0, f1, f2]))
    (g0 : f0.type = i64 ∧ f0.offset = 0) (g1 : f1.type = i64 ∧ f1.offset = 1) (g2 : f2.type = str ∧ f2.offset = 2) (hi : P.underlying i64 = some (.int .i64)) (hs : P.underlying str = some .string) (ci : P.cellsOf i64 = 1) (cs : P.cellsOf str = 1)
    (hval : Value.okWide P w .any base t v) (h : DataW.Trod enc P w 0 (fun _ => true) true t v d ps) :
    ∃ acts : List (Int × Int × ByteArray), RdA w v acts ∧ (∀ x ∈ acts, x.2.2.size ≤ maxLen) ∧ acts.length ≤ maxLen := by
  rcases rd_elems ht hc (by decide) hval h with h0 | ⟨b, off, len, cap, rfl, hb, hl, hx⟩
  · exact ⟨[], Or.inl ⟨rfl, h0⟩, by simp, Nat.zero_le _⟩
  · have hx' : ∀ i, i < len → ∃ x : Int × Int × ByteArray, (w.cell? ⟨b, off + i * 3, none⟩ = some (.int .i64 x.1) ∧ w.cell? ⟨b, off + i * 3 + 1, none⟩ = some (.int .i64 x.2.1) ∧ w.cell? ⟨b, off + i * 3 + 2, none⟩ = some (.string x.2.2)) ∧ x.2.2.size ≤ maxLen := by
      intro i hi'
      obtain ⟨cs', n, y, hlen, hce, htr⟩ := hx i hi'
      obtain ⟨y0, y1, y2, n', _, _, t0, t1, t2⟩ := trod_struct3 he htr
      rw [g0.1, g0.2, ci] at t0
      rw [g1.1, g1.2, ci] at t1
      rw [g2.1, g2.2, cs] at t2
      obtain ⟨x0, e0, _⟩ := DataW.trod_int hi t0
      obtain ⟨x1, e1, _⟩ := DataW.trod_int hi t1
      obtain ⟨x2, e2, _, hz⟩ := DataW.trod_string hs t2
      match cs', hlen with
      | [c0, c1, c2], _ =>
        simp at e0 e1 e2
        subst e0; subst e1; subst e2
        exact ⟨(x0, x1, x2), ⟨hce 0 (by omega), hce 1 (by omega), hce 2 (by omega)⟩, hz⟩
    refine ⟨(List.range len).attach.map fun i => (hx' i.1 (List.mem_range.1 i.2)).choose, Or.inr ⟨b, off, cap, by simp, hb, fun i x hi' => ?_⟩, fun x hx2 => ?_, by simpa using hl⟩
    · have hlt : i < len := by have := (List.getElem?_eq_some_iff.1 hi').1; simpa using this
      simp [hlt] at hi'
      subst hi'
      exact (hx' i hlt).choose_spec.1
    · obtain ⟨i, _, rfl⟩ := List.mem_map.1 hx2
      exact (hx' i.1 (List.mem_range.1 i.2)).choose_spec.2
end
end Go.Proofs.Ytdeoclapamknfaa
