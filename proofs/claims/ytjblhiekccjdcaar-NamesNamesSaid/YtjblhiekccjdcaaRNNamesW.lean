/- names: the law of names, walked. -/
import Derived.Test.YtjblhiekccjdcaaRNRIs
namespace Go.Proofs.YtjblhiekccjdcaaR
open Go.RowKit Go.Maps Go.Shelf

theorem namesNames_any (s : ByteArray) (hs : s.size ≤ maxLen) (w : World) : Calls Try.prog 3 #[.string s] w fun e w' => e = .returned (.bool true) ∧ Below w.heap.size w w' := by
  have k1 := Lib.hid (fun w => nm_is_any s w hs)
  have k2 := Lib.hid (fun w => ris_any s w hs)
  by_cases h : s.size > 20000
  · have e2 : decide ((s.size : Int) > 20000) = true := by simp; omega
    have e2n : decide (20000 < s.size) = true := by simp; omega
    go_enter Try.func3, Try.ntmps3
    go_wp2_with fail
    go_ret
    exact ⟨rfl, Below.refl _ _⟩
  · have e2 : decide ((s.size : Int) > 20000) = false := by simp; omega
    have e2n : decide (20000 < s.size) = false := by simp; omega
    generalize isName s = q at k1 k2
    cases q <;> (
      go_enter Try.func3, Try.ntmps3
      go_wp2_with (first
        | (go_at_call 7; refine (k1.out _).mono ?_; rintro e w' ⟨rfl, rfl⟩)
        | (go_at_call 8; refine (k2.out _).mono ?_; rintro e w' ⟨rfl, rfl⟩)
        | (go_at_call 9; refine (checks_any _).mono ?_; rintro e w' ⟨rfl, hb⟩))
      go_ret
      exact ⟨rfl, hb⟩)
end Go.Proofs.YtjblhiekccjdcaaR
