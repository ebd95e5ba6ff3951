/- A number, round; slices of numbers. -/
import Derived.Test.YtdpbbgfceagofaaDoorWakes
namespace Go.Proofs.YtdpbbgfceagofaaDoor
open Go.RowKit Go.Maps

theorem place_any {i : Int} {n : Nat} (h0 : -9223372036854775808 ≤ i) (h1 : i < 9223372036854775808) (hn : 0 < n) (hn1 : n ≤ 1000000) (w : World) : Calls Tryd.prog 12 #[.int .i64 i, .int .i64 n] w fun e w' => (∃ k : Nat, k < n ∧ (k : Int) = i % (n : Int) ∧ e = .returned (.int .i64 k)) ∧ w' = w := by
  have hz : ((n : Int) == 0) = false := by simp; omega
  have ha := Int.emod_nonneg i (show (n : Int) ≠ 0 by omega)
  have hb := Int.emod_lt_of_pos i (show (0 : Int) < n by omega)
  obtain ⟨k, hk⟩ := Int.eq_ofNat_of_zero_le ha
  have hkn : k < n := by omega
  have htm := Int.tmod_eq_emod (a := i) (b := (n : Int))
  by_cases hneg : i.tmod n < 0
  · have hd : decide (i.tmod (n : Int) < 0) = true := decide_eq_true hneg
    have hk2 : i.tmod n + (n : Int) = (k : Int) := by
      rw [htm] at hneg ⊢
      split at hneg
      · omega
      · rename_i hc
        rw [if_neg hc]
        rw [Int.natAbs_natCast] 
        omega
    have hw : wrap64 (i.tmod n + (n : Int)) = (k : Int) := by rw [hk2]; unfold wrap64; omega
    replace hk := Lib.hid hk
    clear htm ha hb
    go_enter Tryd.func12, Tryd.ntmps12
    go_wp2
    go_ret
    exact ⟨⟨k, hkn, hk.out.symm, rfl⟩, rfl⟩
  · have hd : decide (i.tmod (n : Int) < 0) = false := decide_eq_false hneg
    have hk2 : i.tmod n = (k : Int) := by
      rw [htm] at hneg ⊢
      split at hneg
      · rename_i hc
        rw [if_pos hc]
        omega
      · rename_i hc
        rw [if_neg hc]
        omega
    replace hk := Lib.hid hk
    clear htm ha hb
    go_enter Tryd.func12, Tryd.ntmps12
    go_wp2
    go_ret
    exact ⟨⟨k, hkn, hk.out.symm, rfl⟩, rfl⟩

/-- Numbers of the kind int. -/
def Small (xs : List Int) : Prop := ∀ x ∈ xs, -9223372036854775808 ≤ x ∧ x < 9223372036854775808

theorem RdI.cell {w : World} {s : Value} {xs : List Int} (h : RdI w s xs) {i : Nat} {x : Int} (hi : xs[i]? = some x) : ∃ b off cap, s = .slice (some ⟨b, off, none⟩) xs.length cap ∧ w.cell? ⟨b, off + i, none⟩ = some (.int .i64 x) := by
  obtain ⟨b, off, cap, e, _, hc⟩ := Rd.at h (i := i) (u := encI x) (by simp [hi])
  rw [List.length_map] at e
  exact ⟨b, off, cap, e, hc⟩

theorem RdI.open {w : World} {s : Value} {xs : List Int} (h : RdI w s xs) (h0 : 0 < xs.length) : ∃ b off cap, s = .slice (some ⟨b, off, none⟩) xs.length cap ∧ ∀ w', Below w.heap.size w w' → ∀ (i : Nat) (x : Int), xs[i]? = some x → w'.cell? ⟨b, off + i, none⟩ = some (.int .i64 x) := by
  rcases h with ⟨h, _⟩ | ⟨b, off, cap, e, hlt, hc⟩
  · rw [List.map_eq_nil_iff] at h
    subst h
    simp at h0
  · rw [List.length_map] at e
    exact ⟨b, off, cap, e, fun w' hb i x hi => (hb.cell (p := ⟨b, off + i, none⟩) hlt).trans (hc i (encI x) (by simp [hi]))⟩

theorem row_cell {w : World} {b off n cap : Nat} {xs : List Int} (h : RdI w (.slice (some ⟨b, off, none⟩) n cap) xs) {j : Nat} {x : Int} (hj : xs[j]? = some x) : w.cell? ⟨b, off + j, none⟩ = some (.int .i64 x) := by
  obtain ⟨b', off', cap', e, hc⟩ := RdI.cell h hj
  simp only [Value.slice.injEq, Option.some.injEq, Addr.mk.injEq] at e
  obtain ⟨⟨rfl, rfl, -⟩, rfl, rfl⟩ := e
  exact hc

theorem nat_len {l : List Nat} {xs : List Int} (hn : l.Nodup) (hm : ∀ m ∈ l, (m : Int) ∈ xs) : l.length ≤ xs.length :=
  Nat.le_trans (nodup_len_le hn (fun m h => (mem_numsOf xs m).2 (hm m h))) (numsOf_len xs)

end Go.Proofs.YtdpbbgfceagofaaDoor
