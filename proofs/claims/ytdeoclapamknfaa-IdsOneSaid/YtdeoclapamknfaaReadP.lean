/- What came in, read: slices of points. -/
import Derived.Test.YtdeoclapamknfaaReadA
import Derived.Test.YtdeoclapamknfaaPtB
namespace Go.Proofs.Ytdeoclapamknfaa
open Go.RowKit Go.WideShapes Go.ChangeShapes Go.ChangeAt Go.Deep

section
variable {H : Type} {enc : TypeId × Value → H} {w : World}

theorem rd_points {f0 f1 f2 : Field} {v : Value} {d : DataW H} {ps : List MemPlace} {base : Nat} (he : Try.prog.underlying 47 = some (.struct #[f0, f1, f2]))
    (g0 : f0.type = 3 ∧ f0.offset = 0) (g1 : f1.type = 3 ∧ f1.offset = 1) (g2 : f2.type = 3 ∧ f2.offset = 2)
    (hval : Value.okWide Try.prog w .any base 43 v) (h : DataW.Trod enc Try.prog w 0 (fun _ => true) true 43 v d ps) :
    ∃ l : List (Int × Int × Int), Pt.RdK w v l ∧ (∀ k ∈ l, Pt.ok k) ∧ l.length ≤ maxLen := by
  rcases rd_elems Try.underlying43 Pt.cellsK (by decide) hval h with h0 | ⟨b, off, len, cap, rfl, hb, hl, hx⟩
  · exact ⟨[], Or.inl ⟨rfl, h0⟩, by simp, Nat.zero_le _⟩
  · have hx' : ∀ i, i < len → ∃ x : Int × Int × Int, (w.cell? ⟨b, off + i * 3, none⟩ = some (.int .i64 x.1) ∧ w.cell? ⟨b, off + i * 3 + 1, none⟩ = some (.int .i64 x.2.1) ∧ w.cell? ⟨b, off + i * 3 + 2, none⟩ = some (.int .i64 x.2.2)) ∧ Pt.ok x := by
      intro i hi'
      obtain ⟨cs', n, y, hlen, hce, htr⟩ := hx i hi'
      obtain ⟨y0, y1, y2, n', _, _, t0, t1, t2⟩ := trod_struct3 he htr
      rw [g0.1, g0.2, Pt.cellsI] at t0
      rw [g1.1, g1.2, Pt.cellsI] at t1
      rw [g2.1, g2.2, Pt.cellsI] at t2
      obtain ⟨x0, e0, _, w0⟩ := DataW.trod_int Try.underlying3 t0
      obtain ⟨x1, e1, _, w1⟩ := DataW.trod_int Try.underlying3 t1
      obtain ⟨x2, e2, _, w2⟩ := DataW.trod_int Try.underlying3 t2
      match cs', hlen with
      | [c0, c1, c2], _ =>
        simp at e0 e1 e2
        subst e0; subst e1; subst e2
        exact ⟨(x0, x1, x2), ⟨hce 0 (by omega), hce 1 (by omega), hce 2 (by omega)⟩, ⟨w0, w1, w2⟩⟩
    refine ⟨(List.range len).attach.map fun i => (hx' i.1 (List.mem_range.1 i.2)).choose, Or.inr ⟨b, off, cap, by simp, hb, fun i x hi' => ?_⟩, fun x hx2 => ?_, by simpa using hl⟩
    · have hlt : i < len := by have := (List.getElem?_eq_some_iff.1 hi').1; simpa using this
      simp [hlt] at hi'
      subst hi'
      exact (hx' i hlt).choose_spec.1
    · obtain ⟨i, _, rfl⟩ := List.mem_map.1 hx2
      exact (hx' i.1 (List.mem_range.1 i.2)).choose_spec.2
end
end Go.Proofs.Ytdeoclapamknfaa
