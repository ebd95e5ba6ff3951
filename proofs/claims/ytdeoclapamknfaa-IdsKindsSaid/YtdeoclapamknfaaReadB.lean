/- What came in, read: slices of bytes. -/
import Derived.Test.YtdeoclapamknfaaReadA
import Derived.Test.YtdeoclapamknfaaKindsW
namespace Go.Proofs.Ytdeoclapamknfaa
open Go.RowKit Go.WideShapes Go.ChangeShapes Go.ChangeAt Go.Deep

section
variable {H : Type} {enc : TypeId × Value → H} {P : Program} {w : World}

theorem rd_bytes {t e : TypeId} {v : Value} {d : DataW H} {ps : List MemPlace} {base : Nat} (ht : P.underlying t = some (.slice e)) (he : P.underlying e = some (.int .u8)) (hc : P.cellsOf e = 1)
    (hval : Value.okWide P w .any base t v) (h : DataW.Trod enc P w 0 (fun _ => true) true t v d ps) : ∃ l : List UInt8, Rd w v (bytesOf l) ∧ l.length ≤ maxLen := by
  rcases rd_elems ht hc (by decide) hval h with h0 | ⟨b, off, len, cap, rfl, hb, hl, hx⟩
  · exact ⟨[], Or.inl ⟨rfl, h0⟩, Nat.zero_le _⟩
  · have hx' : ∀ i, i < len → ∃ x : UInt8, w.cell? ⟨b, off + i, none⟩ = some (.int .u8 (fU x)) := by
      intro i hi'
      obtain ⟨cs', n, y, hlen, hce, htr⟩ := hx i hi'
      obtain ⟨x0, e0, _, w0⟩ := DataW.trod_int he htr
      subst e0
      have h0 := hce 0 (by omega)
      have hr : 0 ≤ x0 ∧ x0 < 256 := by
        simp [Lit.wf, IntKind.min, IntKind.max, IntKind.signed, IntKind.bits] at w0
        omega
      refine ⟨UInt8.ofNat x0.toNat, ?_⟩
      have hn : (UInt8.ofNat x0.toNat).toNat = x0.toNat := by
        rw [UInt8.toNat_ofNat']
        omega
      unfold fU
      rw [hn, Int.toNat_of_nonneg hr.1]
      simpa using h0
    refine ⟨(List.range len).attach.map fun i => (hx' i.1 (List.mem_range.1 i.2)).choose, Or.inr ⟨b, off, cap, by simp [bytesOf], hb, fun i u hu => ?_⟩, by simpa using hl⟩
    have hlt : i < len := by have := (List.getElem?_eq_some_iff.1 hu).1; simpa [bytesOf] using this
    simp [bytesOf, hlt] at hu
    subst hu
    exact (hx' i hlt).choose_spec
end
end Go.Proofs.Ytdeoclapamknfaa
