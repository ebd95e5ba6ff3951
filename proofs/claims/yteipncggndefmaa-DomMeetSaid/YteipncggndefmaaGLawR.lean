/- A slice of numbers that came in. -/
import Derived.Test.YteipncggndefmaaGLaw
namespace Go.Proofs.Yteipncggndefmaa
open Go.RowKit Go.WideShapes Go.ChangeShapes Go.ChangeAt Go.Deep
section
variable {H : Type} {enc : TypeId × Value → H} {P : Program} {w : World}
theorem rd_ints_law {t e : TypeId} {v : Value} {d : DataW H} {ps : List MemPlace} {base : Nat} (ht : P.underlying t = some (.slice e)) (he : P.underlying e = some (.int .i64)) (hc : P.cellsOf e = 1)
    (hval : Value.okWide P w .any base t v) (h : DataW.Trod enc P w 0 (fun _ => true) true t v d ps) : ∃ xs : List Int, RdI w v xs := by
  obtain ⟨a, len, cap, rfl⟩ := okWide_slice ht hval
  obtain ⟨n, hn⟩ := h
  obtain ⟨v', xs, e, h1, _⟩ := rd_ints_in ht he hc hn
  simp [Value.cells] at e
  subst e
  exact ⟨xs, h1⟩
end
end Go.Proofs.Yteipncggndefmaa
