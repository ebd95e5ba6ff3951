/- maps.Copy into a new map; shrink; Drop. -/
import Derived.Test.YtcimhljnboeobaaDoorIn
namespace Go.Proofs.YtcimhljnboeobaaDoor
open Go.RowKit Go.Maps

section
variable {w w' : World} {sb bm b2 : Nat} {D : DataW Unit} {l : List Nat}

theorem makeHint (n : Int) (w : World) : (Instr.makeMap 38 (some (.int .i64 n))).run Tryd.prog w = .ok (.map (some w.heap.size)) (w.alloc (.map #[] 0)) := by
  simp [Instr.makeMap, run_underlying Tryd.underlying38, asInt]
  rfl

theorem Bit.drop {c i : Nat} (h : Bit c (i / 64) l) (hn : l.Nodup) : Bit (c &&& (18446744073709551615 - 2 ^ (i % 64))) (i / 64) (l.erase i) := by
  have hp : 2 ^ (i % 64) < 18446744073709551616 := Nat.pow_lt_pow_of_lt (by decide : 1 < 2) (show i % 64 < 64 by omega)
  refine ⟨less_lt h.1, fun j hj => ?_⟩
  rw [tb_less hp hj, Bool.and_eq_true, h.2 j hj, Nat.testBit_two_pow, hn.mem_erase_iff]
  by_cases e : i % 64 = j
  · have : 64 * (i / 64) + j = i := by omega
    simp [e, this]
  · have : 64 * (i / 64) + j ≠ i := by omega
    simp [e, this]

theorem look_own {n : Nat} (h : w.ownsMap Tryd.prog 3 elemU bm n D) {c k : Nat} (ha : D.atKey (key k) (wd 0) = wd c) (hk : k < 9223372036854775808) : (Instr.lookup 38 (.map (some bm)) (.int .i64 k) false).run Tryd.prog w = .ok (.int .u64 c) w := by
  obtain ⟨d, h1, h2, _⟩ := h.lookup_int law Tryd.underlying38 Tryd.underlying39 (zeroU w) (keyOf_int_mk Tryd.underlying3 (a := (k : Int)) (WalkArith.wf_i64 (by omega)))
  have h4 : (wd c : DataW Unit) = .lit (.int .u64 d) := ha.symm.trans h2
  simp only [wd, DataW.lit.injEq, Lit.int.injEq, true_and] at h4
  rw [h1, h4]

theorem erase_other {i n : Nat} (hn : l.Nodup) (h : n / 64 ≠ i / 64) : n ∈ l.erase i ↔ n ∈ l := by
  rw [hn.mem_erase_iff]
  have : n ≠ i := fun e => h (by rw [e])
  simp [this]

/-- A list without a number. -/
def lessN (l : List Nat) (i : Int) : List Nat := if 0 ≤ i then l.erase i.toNat else l

end
end Go.Proofs.YtcimhljnboeobaaDoor
