/- What came in, read: slices of elements of several cells. -/
import Derived.Test.YtjblhiekccjdcaaRRead
import Derived.DataReads
namespace Go.Proofs.YtjblhiekccjdcaaR
open Go.RowKit Go.WideShapes Go.ChangeShapes Go.ChangeAt Go.Deep

section
variable {H : Type} {enc : TypeId × Value → H} {P : Program} {w : World}

theorem add_add {b o i j : Nat} : ((⟨b, o, none⟩ : Addr).add i).add j = ⟨b, o + i + j, none⟩ := by
  unfold Addr.add
  split <;> split <;> simp_all

/-- A slice that came in: each element's cells read as an element. -/
theorem rd_elems {t e : TypeId} {v : Value} {d : DataW H} {ps : List MemPlace} {base c : Nat} (ht : P.underlying t = some (.slice e)) (hc : P.cellsOf e = c) (hc0 : 0 < c)
    (hval : Value.okWide P w .any base t v) (h : DataW.Trod enc P w 0 (fun _ => true) true t v d ps) :
    (v = .slice none 0 0 ∨ ∃ a k, v = .slice (some a) 0 k) ∨ ∃ b off len cap, v = .slice (some ⟨b, off, none⟩) len cap ∧ b < w.heap.size ∧ len ≤ maxLen ∧
      ∀ i, i < len → ∃ cs n y, cs.length = c ∧ (∀ j, j < c → w.cell? ⟨b, off + i * c + j, none⟩ = cs[j]?) ∧ DataW.trod enc P w 0 (fun _ => true) true n e cs = some y := by
  subst hc
  obtain ⟨a, len, cap, rfl⟩ := okWide_slice ht hval
  obtain ⟨n, hn⟩ := h
  rcases open_slice ht hn with ⟨e1, _⟩ | ⟨a', len', cap', m, n', D, Pl, e1, _, hl, hm, hmm, _, hx⟩
  · simp [Value.cells] at e1
    obtain ⟨rfl, rfl, rfl⟩ := e1
    exact Or.inl (Or.inl rfl)
  · simp [Value.cells] at e1
    obtain ⟨rfl, rfl, rfl⟩ := e1
    simp only [if_true] at hmm
    by_cases h0 : len = 0
    · subst h0
      exact Or.inl (Or.inr ⟨_, _, rfl⟩)
    · right
      obtain ⟨b, o, s⟩ := a'
      obtain ⟨cs0, hcs0, _⟩ := hx 0 (by omega)
      obtain ⟨_, hlen0, hce0⟩ := World.cells?_some hcs0
      have h1 : ∃ u, w.cell? (((⟨b, o, s⟩ : Addr).add (0 * P.cellsOf e)).add 0) = some u := by
        rw [hce0 0 (by omega)]
        exact ⟨_, List.getElem?_eq_getElem (by omega)⟩
      obtain ⟨u, hu⟩ := h1
      have hs : s = none := by
        have h2 := spot_none hu
        have h3 : (((⟨b, o, s⟩ : Addr).add (0 * P.cellsOf e)).add 0).spot = s := by simp [Addr.add]
        exact h3.symm.trans h2
      subst hs
      have hb : b < w.heap.size := by
        rw [add_add] at hu
        unfold World.cell? at hu
        split at hu
        · rename_i h4
          exact (Array.getElem?_eq_some_iff.1 h4).1
        · cases hu
      refine ⟨b, o, len, cap, rfl, hb, by omega, fun i hi => ?_⟩
      obtain ⟨cs, hcs, htr⟩ := hx i (by omega)
      obtain ⟨_, hlen, hce⟩ := World.cells?_some hcs
      refine ⟨cs, n', _, hlen, fun j hj => ?_, htr⟩
      rw [← hce j hj, add_add]
end
end Go.Proofs.YtjblhiekccjdcaaR
