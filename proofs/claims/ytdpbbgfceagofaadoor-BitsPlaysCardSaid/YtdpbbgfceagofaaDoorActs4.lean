/- What came in, read: slices of acts of four numbers. -/
import Derived.Test.YtdpbbgfceagofaaDoorReadI
import Derived.Test.YtdpbbgfceagofaaDoorReadE
import Derived.Test.YtdpbbgfceagofaaDoorPlayA
import Derived.Lib.SmallJoins
namespace Go.Proofs.YtdpbbgfceagofaaDoor
open Go.RowKit Go.WideShapes Go.ChangeShapes Go.ChangeAt Go.Deep Go.Joins

section
variable {H : Type} {enc : TypeId × Value → H} {P : Program} {w : World}

theorem rd_acts4 {t e i64 : TypeId} {f0 f1 f2 f3 : Field} {v : Value} {d : DataW H} {ps : List MemPlace} {base : Nat} (ht : P.underlying t = some (.slice e)) (hc : P.cellsOf e = 4) (he : P.underlying e = some (.struct #[f0, f1, f2, f3]))
    (g0 : f0.type = i64 ∧ f0.offset = 0) (g1 : f1.type = i64 ∧ f1.offset = 1) (g2 : f2.type = i64 ∧ f2.offset = 2) (g3 : f3.type = i64 ∧ f3.offset = 3) (hi : P.underlying i64 = some (.int .i64)) (ci : P.cellsOf i64 = 1)
    (hval : Value.okWide P w .any base t v) (h : DataW.Trod enc P w 0 (fun _ => true) true t v d ps) :
    ∃ acts : List Act4, RdA w v acts ∧ ∀ x ∈ acts, x.ok := by
  rcases rd_elems ht hc (by decide) hval h with h0 | ⟨b, off, len, cap, rfl, hb, hl, hx⟩
  · exact ⟨[], Or.inl ⟨rfl, h0⟩, by simp⟩
  · have hx' : ∀ i, i < len → ∃ x : Act4, (w.cell? ⟨b, off + i * 4, none⟩ = some (.int .i64 x.1) ∧ w.cell? ⟨b, off + i * 4 + 1, none⟩ = some (.int .i64 x.2.1) ∧ w.cell? ⟨b, off + i * 4 + 2, none⟩ = some (.int .i64 x.2.2.1) ∧ w.cell? ⟨b, off + i * 4 + 3, none⟩ = some (.int .i64 x.2.2.2)) ∧ x.ok := by
      intro i hi'
      obtain ⟨cs', n, y, hlen, hce, htr⟩ := hx i hi'
      obtain ⟨y0, y1, y2, y3, n', _, _, t0, t1, t2, t3⟩ := trod_struct4 he htr
      rw [g0.1, g0.2, ci] at t0
      rw [g1.1, g1.2, ci] at t1
      rw [g2.1, g2.2, ci] at t2
      rw [g3.1, g3.2, ci] at t3
      obtain ⟨x0, e0, _, z0⟩ := DataW.trod_int hi t0
      obtain ⟨x1, e1, _, z1⟩ := DataW.trod_int hi t1
      obtain ⟨x2, e2, _, z2⟩ := DataW.trod_int hi t2
      obtain ⟨x3, e3, _, z3⟩ := DataW.trod_int hi t3
      match cs', hlen with
      | [c0, c1, c2, c3], _ =>
        simp at e0 e1 e2 e3
        subst e0; subst e1; subst e2; subst e3
        exact ⟨(x0, x1, x2, x3), ⟨hce 0 (by omega), hce 1 (by omega), hce 2 (by omega), hce 3 (by omega)⟩, wf_bounds z0, wf_bounds z1, wf_bounds z2, wf_bounds z3⟩
    refine ⟨(List.range len).attach.map fun i => (hx' i.1 (List.mem_range.1 i.2)).choose, Or.inr ⟨b, off, cap, by simp, hb, fun i x hi' => ?_⟩, fun x hx2 => ?_⟩
    · have hlt : i < len := by have := (List.getElem?_eq_some_iff.1 hi').1; simpa using this
      simp [hlt] at hi'
      subst hi'
      exact (hx' i hlt).choose_spec.1
    · obtain ⟨i, _, rfl⟩ := List.mem_map.1 hx2
      exact (hx' i.1 (List.mem_range.1 i.2)).choose_spec.2
end
end Go.Proofs.YtdpbbgfceagofaaDoor
