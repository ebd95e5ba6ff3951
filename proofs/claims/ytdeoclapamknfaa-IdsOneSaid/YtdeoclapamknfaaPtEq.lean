/- Two keys of several cells held against each other. -/
import Derived.Test.YtdeoclapamknfaaPt
namespace Go.Proofs.Ytdeoclapamknfaa
open Go.RowKit

namespace Pt
theorem isStruct : Try.prog.underlying 47 = some (.struct (Try.prog.fieldsOf 47)) := by kernel_rfl
theorem noStood : Try.prog.stoodInHeld 47 = false := by kernel_rfl
theorem eq_agg (y k : (Int × Int × Int)) (w : World) : (binOp .eql 47 (.agg #[.int .i64 y.1, .int .i64 y.2.1, .int .i64 y.2.2]) (.agg #[.int .i64 k.1, .int .i64 k.2.1, .int .i64 k.2.2])).run Try.prog w = .ok (.bool (decide (y = k))) w := by
  rw [run_eql_struct, run_equalIn_agg (w := w) 9999 47 _ _ isStruct noStood]
  have hf := isStruct.symm.trans Try.underlying47
  simp only [Option.some.injEq, TypeDesc.struct.injEq] at hf
  rw [hf]
  have h1 : ∀ (a b : Int) (w : World) (d : Nat), (Op.equalIn (d + 1) 3 (.int .i64 a) (.int .i64 b)).run Try.prog w = .ok (a == b) w := fun a b w d => run_equalIn_int w d 3 .i64 .i64 a b Try.underlying3
  have h2 : decide (y = k) = (y.1 == k.1 && (y.2.1 == k.2.1 && y.2.2 == k.2.2)) := by
    rw [Bool.eq_iff_iff]
    simp [Prod.ext_iff]
  rw [h2]
  cases e0 : y.1 == k.1 <;> cases e1 : y.2.1 == k.2.1 <;> cases e2 : y.2.2 == k.2.2 <;> simp [Op.eqFields, go_sem, h1, e0, e1, e2]
theorem equal_agg (y k : (Int × Int × Int)) (w : World) : (Op.equalIn 10000 47 (.agg #[.int .i64 y.1, .int .i64 y.2.1, .int .i64 y.2.2]) (.agg #[.int .i64 k.1, .int .i64 k.2.1, .int .i64 k.2.2])).run Try.prog w = .ok (decide (y = k)) w := by
  have h := eq_agg y k w
  rw [run_eql_struct] at h
  cases e : (Op.equalIn 10000 47 (.agg #[.int .i64 y.1, .int .i64 y.2.1, .int .i64 y.2.2]) (.agg #[.int .i64 k.1, .int .i64 k.2.1, .int .i64 k.2.2])).run Try.prog w with
  | ok b w' =>
    rw [e, Result.andThen_ok] at h
    simp only [Result.ok.injEq, Value.bool.injEq] at h
    rw [h.1, h.2]
  | _ => rw [e] at h; simp [Result.andThen] at h
end Pt
end Go.Proofs.Ytdeoclapamknfaa
