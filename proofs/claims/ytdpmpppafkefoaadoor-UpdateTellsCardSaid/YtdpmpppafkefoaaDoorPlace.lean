/- A number, round; slices of numbers. -/
import Derived.Test.YtdpmpppafkefoaaDoorWakes
namespace Go.Proofs.YtdpmpppafkefoaaDoor
open Go.RowKit Go.Maps

/-- Numbers of the kind int. -/
def Small (xs : List Int) : Prop := ∀ x ∈ xs, -9223372036854775808 ≤ x ∧ x < 9223372036854775808

theorem RdI.cell {w : World} {s : Value} {xs : List Int} (h : RdI w s xs) {i : Nat} {x : Int} (hi : xs[i]? = some x) : ∃ b off cap, s = .slice (some ⟨b, off, none⟩) xs.length cap ∧ w.cell? ⟨b, off + i, none⟩ = some (.int .i64 x) := by
  obtain ⟨b, off, cap, e, _, hc⟩ := Rd.at h (i := i) (u := encI x) (by simp [hi])
  rw [List.length_map] at e
  exact ⟨b, off, cap, e, hc⟩

theorem RdI.open {w : World} {s : Value} {xs : List Int} (h : RdI w s xs) (h0 : 0 < xs.length) : ∃ b off cap, s = .slice (some ⟨b, off, none⟩) xs.length cap ∧ ∀ w', Below w.heap.size w w' → ∀ (i : Nat) (x : Int), xs[i]? = some x → w'.cell? ⟨b, off + i, none⟩ = some (.int .i64 x) := by
  rcases h with ⟨h, _⟩ | ⟨b, off, cap, e, hlt, hc⟩
  · rw [List.map_eq_nil_iff] at h
    subst h
    simp at h0
  · rw [List.length_map] at e
    exact ⟨b, off, cap, e, fun w' hb i x hi => (hb.cell (p := ⟨b, off + i, none⟩) hlt).trans (hc i (encI x) (by simp [hi]))⟩

theorem row_cell {w : World} {b off n cap : Nat} {xs : List Int} (h : RdI w (.slice (some ⟨b, off, none⟩) n cap) xs) {j : Nat} {x : Int} (hj : xs[j]? = some x) : w.cell? ⟨b, off + j, none⟩ = some (.int .i64 x) := by
  obtain ⟨b', off', cap', e, hc⟩ := RdI.cell h hj
  simp only [Value.slice.injEq, Option.some.injEq, Addr.mk.injEq] at e
  obtain ⟨⟨rfl, rfl, -⟩, rfl, rfl⟩ := e
  exact hc

theorem nat_len {l : List Nat} {xs : List Int} (hn : l.Nodup) (hm : ∀ m ∈ l, (m : Int) ∈ xs) : l.length ≤ xs.length :=
  Nat.le_trans (nodup_len_le hn (fun m h => (mem_numsOf xs m).2 (hm m h))) (numsOf_len xs)

end Go.Proofs.YtdpmpppafkefoaaDoor
