/- math/bits.OnesCount64: how many bits a word has. -/
import Derived.Test.YtcimhljnboeobaaDoorWords
import Derived.ProofKit
import Derived.Outline
import Derived.WalkSpells
import Derived.Laws.BitsAllLaws
import Derived.Laws.Bits128
namespace Go.Proofs.YtcimhljnboeobaaDoor
open Go.RowKit Go.Maps

theorem wrap_nat {n : Nat} (h : n < 18446744073709551616) : IntKind.u64.wrap (n : Int) = (n : Int) := by rw [IntKind.wrap_u64]; omega
theorem and_nat {a b : Nat} (ha : a < 18446744073709551616) (hb : b < 18446744073709551616) : bits .and .u64 (a : Int) (b : Int) = ((a &&& b : Nat) : Int) := u64_and_nat a b ha hb

theorem s1_lt {x : Nat} : s1 8 x < 18446744073709551616 := by
  have h1 : x / 2 &&& rep 85 8 ≤ rep 85 8 := Nat.and_le_right
  have h2 : x &&& rep 85 8 ≤ rep 85 8 := Nat.and_le_right
  have h3 : rep 85 8 = 6148914691236517205 := by decide
  unfold s1; omega
theorem s2_lt {x : Nat} : s2 8 x < 8000000000000000000 := by
  have h1 : x / 4 &&& rep 51 8 ≤ rep 51 8 := Nat.and_le_right
  have h2 : x &&& rep 51 8 ≤ rep 51 8 := Nat.and_le_right
  have h3 : rep 51 8 = 3689348814741910323 := by decide
  unfold s2; omega
theorem s3_lt {x : Nat} : s3 8 x < 2000000000000000000 := by
  have h1 : (x / 16 + x) &&& rep 15 8 ≤ rep 15 8 := Nat.and_le_right
  have h3 : rep 15 8 = 1085102592571150095 := by decide
  unfold s3; omega

theorem ones (c : Nat) (hc : c < 18446744073709551616) (w : World) :
    Calls Tryd.prog 19 #[.int .u64 c] w fun e w' => e = .returned (.int .i64 (cnt 64 c)) ∧ w' = w := by
  obtain ⟨r1, r2⟩ := swar c hc
  obtain ⟨x1, e1⟩ : ∃ x, x = s1 8 c := ⟨_, rfl⟩
  obtain ⟨x2, e2⟩ : ∃ x, x = s2 8 x1 := ⟨_, rfl⟩
  obtain ⟨x3, e3⟩ : ∃ x, x = s3 8 x2 := ⟨_, rfl⟩
  obtain ⟨x4, e4⟩ : ∃ x, x = x3 + x3 / 256 := ⟨_, rfl⟩
  obtain ⟨x5, e5⟩ : ∃ x, x = x4 + x4 / 65536 := ⟨_, rfl⟩
  obtain ⟨x6, e6⟩ : ∃ x, x = x5 + x5 / 4294967296 := ⟨_, rfl⟩
  rw [← e1, ← e2, ← e3, ← e4, ← e5, ← e6] at r1 r2
  have l1 : x1 < 18446744073709551616 := e1 ▸ s1_lt
  have l2 : x2 < 8000000000000000000 := e2 ▸ s2_lt
  have l3 : x3 < 2000000000000000000 := e3 ▸ s3_lt
  have q1 : IntKind.u64.wrap (bits BinOp.and IntKind.u64 ((c : Int) / 2) 6148914691236517205 + bits BinOp.and IntKind.u64 (c : Int) 6148914691236517205) = (x1 : Int) := by
    rw [show ((c : Int) / 2) = ((c / 2 : Nat) : Int) by omega, show (6148914691236517205 : Int) = ((6148914691236517205 : Nat) : Int) from rfl, and_nat (by omega) (by decide), and_nat hc (by decide), ← Int.natCast_add, e1]
    exact wrap_nat s1_lt
  have q2 : IntKind.u64.wrap (bits BinOp.and IntKind.u64 ((x1 : Int) / 4) 3689348814741910323 + bits BinOp.and IntKind.u64 (x1 : Int) 3689348814741910323) = (x2 : Int) := by
    rw [show ((x1 : Int) / 4) = ((x1 / 4 : Nat) : Int) by omega, show (3689348814741910323 : Int) = ((3689348814741910323 : Nat) : Int) from rfl, and_nat (by omega) (by decide), and_nat l1 (by decide), ← Int.natCast_add, e2]
    exact wrap_nat (Nat.lt_trans s2_lt (by decide))
  have q3 : bits BinOp.and IntKind.u64 (IntKind.u64.wrap ((x2 : Int) / 16 + (x2 : Int))) 1085102592571150095 = (x3 : Int) := by
    rw [show ((x2 : Int) / 16 + (x2 : Int)) = ((x2 / 16 + x2 : Nat) : Int) by omega, wrap_nat (by omega), show (1085102592571150095 : Int) = ((1085102592571150095 : Nat) : Int) from rfl, and_nat (by omega) (by decide), e3]
    rfl
  have q4 : IntKind.u64.wrap ((x3 : Int) + (x3 : Int) / 256) = (x4 : Int) := by
    rw [show ((x3 : Int) + (x3 : Int) / 256) = ((x4 : Nat) : Int) by omega, wrap_nat (by omega)]
  have q5 : IntKind.u64.wrap ((x4 : Int) + (x4 : Int) / 65536) = (x5 : Int) := by
    rw [show ((x4 : Int) + (x4 : Int) / 65536) = ((x5 : Nat) : Int) by omega, wrap_nat (by omega)]
  have q6 : IntKind.u64.wrap ((x5 : Int) + (x5 : Int) / 4294967296) = (x6 : Int) := by
    rw [show ((x5 : Int) + (x5 : Int) / 4294967296) = ((x6 : Nat) : Int) by omega, wrap_nat (by omega)]
  have q7 : (x6 : Int) % 128 = (cnt 64 c : Int) := by rw [← r1]; omega
  have l6 : x6 < 9223372036854775808 := by omega
  clear r1 r2 e1 e2 e3 e4 e5 e6 l1 l2 l3
  go_enter Tryd.func19, Tryd.ntmps19
  go_wp2
  go_ret
  refine ⟨?_, rfl⟩
  show Ending.returned (Value.int IntKind.i64 (bits BinOp.and IntKind.i64 (x6 : Int) 127)) = _
  rw [i64_and127, q7]
end Go.Proofs.YtcimhljnboeobaaDoor
