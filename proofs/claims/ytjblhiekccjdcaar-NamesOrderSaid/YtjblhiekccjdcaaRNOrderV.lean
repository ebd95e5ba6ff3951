/- NamesOrder's arguments. -/
import Derived.Test.YtjblhiekccjdcaaRNOrderW
import Derived.Test.YtjblhiekccjdcaaRPrg
namespace Go.Proofs.YtjblhiekccjdcaaR
theorem u8_nat {y : Int} (h : (Lit.int .u8 y).wf = true) : ∃ r : Nat, y = r ∧ r < 256 := by
  have h2 : IntKind.u8.min ≤ y ∧ y ≤ IntKind.u8.max := by simpa [Lit.wf] using h
  have e1 : IntKind.u8.min = 0 := by decide
  have e2 : IntKind.u8.max = 255 := by decide
  rw [e1, e2] at h2
  exact ⟨y.toNat, by omega, by omega⟩
end Go.Proofs.YtjblhiekccjdcaaR
