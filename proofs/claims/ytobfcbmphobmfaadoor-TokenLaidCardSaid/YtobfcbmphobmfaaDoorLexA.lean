/- Kinds of bytes, as the program tells them. -/
import Derived.Test.YtobfcbmphobmfaaDoorLexM
import Derived.Test.YtobfcbmphobmfaaDoorTab
import Derived.WalkLawsBesides
import Derived.Deep.QuietTactic
import Derived.BigQuiet
namespace Go.Proofs.YtobfcbmphobmfaaDoor
open Go.RowKit

theorem eqB (b c : UInt8) : ((b.toNat : Int) == (c.toNat : Int)) = (b == c) := by
  rw [Bool.eq_iff_iff]
  simp
  constructor
  · intro h
    exact UInt8.toNat_inj.1 (by omega)
  · rintro rfl
    rfl
theorem geB (b c : UInt8) : decide ((b.toNat : Int) ≥ (c.toNat : Int)) = decide (c ≤ b) := by
  rw [Bool.eq_iff_iff]
  simp [UInt8.le_iff_toNat_le]
theorem leB (b c : UInt8) : decide ((b.toNat : Int) ≤ (c.toNat : Int)) = decide (b ≤ c) := by
  rw [Bool.eq_iff_iff]
  simp [UInt8.le_iff_toNat_le]

theorem blank_any (b : UInt8) (w : World) : Calls Tryd.prog 18 #[.int .u8 b.toNat] w fun e w' => e = .returned (.bool (blankB b)) ∧ w' = w := by
  have e1 : ((b.toNat : Int) == 32) = (b == 32) := eqB b 32
  have e2 : ((b.toNat : Int) == 9) = (b == 9) := eqB b 9
  have e3 : ((b.toNat : Int) == 13) = (b == 13) := eqB b 13
  unfold blankB
  generalize (b == 32) = q1 at *
  generalize (b == 9) = q2 at *
  generalize (b == 13) = q3 at *
  cases q1 <;> cases q2 <;> cases q3 <;> (go_enter Tryd.func18, Tryd.ntmps18; go_wp2; go_ret; exact ⟨rfl, rfl⟩)

theorem digit_any (b : UInt8) (w : World) : Calls Tryd.prog 24 #[.int .u8 b.toNat] w fun e w' => e = .returned (.bool (digitB b)) ∧ w' = w := by
  have e1 : decide ((b.toNat : Int) ≥ 48) = decide (48 ≤ b) := geB b 48
  have e2 : decide ((b.toNat : Int) ≤ 57) = decide (b ≤ 57) := leB b 57
  unfold digitB
  generalize decide (48 ≤ b) = q1 at *
  generalize decide (b ≤ 57) = q2 at *
  cases q1 <;> cases q2 <;> (go_enter Tryd.func24, Tryd.ntmps24; go_wp2; go_ret; exact ⟨rfl, rfl⟩)

theorem letter_any (b : UInt8) (w : World) : Calls Tryd.prog 21 #[.int .u8 b.toNat] w fun e w' => e = .returned (.bool (letterB b)) ∧ w' = w := by
  have e1 : decide ((b.toNat : Int) ≥ 97) = decide (97 ≤ b) := geB b 97
  have e2 : decide ((b.toNat : Int) ≤ 122) = decide (b ≤ 122) := leB b 122
  have e3 : decide ((b.toNat : Int) ≥ 65) = decide (65 ≤ b) := geB b 65
  have e4 : decide ((b.toNat : Int) ≤ 90) = decide (b ≤ 90) := leB b 90
  have e5 : ((b.toNat : Int) == 95) = (b == 95) := eqB b 95
  unfold letterB
  generalize decide (97 ≤ b) = q1 at *
  generalize decide (b ≤ 122) = q2 at *
  generalize decide (65 ≤ b) = q3 at *
  generalize decide (b ≤ 90) = q4 at *
  generalize (b == 95) = q5 at *
  cases q1 <;> cases q2 <;> cases q3 <;> cases q4 <;> cases q5 <;> (go_enter Tryd.func21, Tryd.ntmps21; go_wp2; go_ret; exact ⟨rfl, rfl⟩)

theorem part_any (b : UInt8) (w : World) : Calls Tryd.prog 23 #[.int .u8 b.toNat] w fun e w' => e = .returned (.bool (partB b)) ∧ w' = w := by
  have e1 : ((b.toNat : Int) == 46) = (b == 46) := eqB b 46
  have c1 := Lib.hid (letter_any b w)
  have c2 := Lib.hid (digit_any b w)
  unfold partB
  generalize (b == 46) = q1 at *
  generalize letterB b = q2 at *
  generalize digitB b = q3 at *
  cases q1 <;> cases q2 <;> cases q3 <;> (go_enter Tryd.func23, Tryd.ntmps23; go_wp2_with (first | (go_at_call 21; refine c1.out.mono ?_; rintro e w' ⟨rfl, hw⟩; obtain rfl := hw.symm) | (go_at_call 24; refine c2.out.mono ?_; rintro e w' ⟨rfl, hw⟩; obtain rfl := hw.symm)); go_ret; exact ⟨rfl, rfl⟩)

def lineB (b : UInt8) : Bool := b != 10
theorem line_any (b : UInt8) (w : World) : Calls Tryd.prog 20 #[.int .u8 b.toNat] w fun e w' => e = .returned (.bool (lineB b)) ∧ w' = w := by
  have e1 : ((b.toNat : Int) != 10) = (b != 10) := by unfold bne; rw [show ((b.toNat : Int) == 10) = (b == 10) from eqB b 10]
  unfold lineB
  generalize (b != 10) = q1 at *
  cases q1 <;> (go_enter Tryd.func20, Tryd.ntmps20; go_wp2; go_ret; exact ⟨rfl, rfl⟩)
end Go.Proofs.YtobfcbmphobmfaaDoor
