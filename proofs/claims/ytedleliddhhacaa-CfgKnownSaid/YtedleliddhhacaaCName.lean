/- CfgRing: a block's name, the ring. -/
import Derived.Test.YtedleliddhhacaaCLoops
import Derived.Test.YtedleliddhhacaaCLaw
namespace Go.Proofs.Ytedleliddhhacaa
open Go.RowKit Go.Maps

def nameB (i : Nat) : ByteArray := ⟨#[98, UInt8.ofNat (48 + i / 10), UInt8.ofNat (48 + i % 10)]⟩
set_option maxRecDepth 20000 in
theorem name_any {w : World} {i : Nat} (hi : i ≤ 60) : Calls Try.prog 16 #[.int .i64 i] w fun e w' => e = .returned (.string (nameB i)) ∧ Below w.heap.size w w' := by
  have d1 : (i : Int).tdiv 10 = ((i / 10 : Nat) : Int) := by rw [Int.tdiv_eq_ediv_of_nonneg (by omega)]; rfl
  have d2 : (i : Int).tmod 10 = ((i % 10 : Nat) : Int) := by rw [Int.tmod_eq_emod_of_nonneg (by omega)]; rfl
  have hb1 : (((UInt8.ofNat (48 + i / 10)).toNat : Nat) : Int) = 48 + (i : Int) / 10 := by
    rw [UInt8.toNat_ofNat', Nat.mod_eq_of_lt (by omega)]
    omega
  have hb2 : (((UInt8.ofNat (48 + i % 10)).toNat : Nat) : Int) = 48 + (i : Int) % 10 := by
    rw [UInt8.toNat_ofNat', Nat.mod_eq_of_lt (by omega)]
    omega
  obtain ⟨c1, hc1⟩ : ∃ c, c = UInt8.ofNat (48 + i / 10) := ⟨_, rfl⟩
  obtain ⟨c2, hc2⟩ : ∃ c, c = UInt8.ofNat (48 + i % 10) := ⟨_, rfl⟩
  rw [← hc1] at hb1
  rw [← hc2] at hb2
  have hconv : (convert 62 9 (.slice (some ⟨w.heap.size, 0, none⟩) 2 2)).run Try.prog (w.alloc (.cells #[.int .u8 (48 + (i : Int) / 10), .int .u8 (48 + (i : Int) % 10)] 5)) = .ok (.string ⟨#[c1, c2]⟩) (w.alloc (.cells #[.int .u8 (48 + (i : Int) / 10), .int .u8 (48 + (i : Int) % 10)] 5)) :=
    run_convert_bytes_back _ _ _ 5 _ 2 [c1, c2] Try.underlying62 Try.underlying5 Try.underlying9 (fun j hj => by
      have hj2 : j < 2 := by simpa using hj
      rw [add0, blk_cell (at_newC rfl)]
      rcases (by omega : j = 0 ∨ j = 1) with rfl | rfl
      · show some (Value.int .u8 (48 + (i : Int) / 10)) = some (.int .u8 ((c1.toNat : Nat) : Int))
        rw [hb1]
      · show some (Value.int .u8 (48 + (i : Int) % 10)) = some (.int .u8 ((c2.toNat : Nat) : Int))
        rw [hb2])
  have happ : Hid (((⟨#[98]⟩ : ByteArray) ++ ⟨#[c1, c2]⟩) = nameB i) := Lib.hid (by
    rw [nameB, ← hc1, ← hc2]
    apply ByteArray.ext
    rw [ByteArray.data_append]
    rfl)
  clear hb1 hb2 hc1 hc2
  go_enter Try.func16, Try.ntmps16
  go_wp2_with fail
  go_ret
  exact ⟨by rw [← happ.out]; rfl, (Below.refl _ _).alloc (Nat.le_refl _) _⟩
end Go.Proofs.Ytedleliddhhacaa
