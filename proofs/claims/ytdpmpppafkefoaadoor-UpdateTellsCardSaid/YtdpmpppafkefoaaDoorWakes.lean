/- wakes: sets that are known. -/
import Derived.Test.YtdpmpppafkefoaaDoorBagOps
namespace Go.Proofs.YtdpmpppafkefoaaDoor
open Go.RowKit Go.Maps

/-- A block of numbers, as a slice. -/
theorem rd_block {w : World} {b : Nat} {t : TypeId} {xs : List Int} {cs : Array Value} {fr : Nat × Nat} (hb : w.heap[b]? = some (.cells cs t fr)) (hc : cs.toList = xs.map encI) (n c : Nat) (hn : n = xs.length) : RdI w (.slice (some ⟨b, 0, none⟩) n c) xs := by
  subst hn
  refine Or.inr ⟨b, 0, c, by simp, (Array.getElem?_eq_some_iff.1 hb).1, fun i u hu => ?_⟩
  rw [Nat.zero_add, blk_cell hb]
  rw [← hc, Array.getElem?_toList] at hu
  exact hu

theorem rising_13 {rs : List Nat} (h1 : rs.Pairwise (· < ·)) (h2 : ∀ n, n ∈ rs ↔ n ∈ [3, 1]) : rs = [1, 3] :=
  rising_eq h1 (by decide) (fun n => by rw [h2]; simp; omega)

end Go.Proofs.YtdpmpppafkefoaaDoor
