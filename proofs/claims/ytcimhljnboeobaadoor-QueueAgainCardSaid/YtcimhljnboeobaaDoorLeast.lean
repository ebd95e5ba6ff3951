/- Least. -/
import Derived.Test.YtcimhljnboeobaaDoorShrink
namespace Go.Proofs.YtcimhljnboeobaaDoor
open Go.RowKit Go.Maps

/-- The library's table lies where it lies. -/
structure Gl (w : World) : Prop where
  tab : Tabs w
  lt : 0 < w.heap.size

theorem Gl.touch {w w' : World} {Q : Nat → Prop} (h : Gl w) (ht : Touch w w' Q) (hn : ¬ Q 0) : Gl w' := ⟨h.tab.touch h.lt ht hn, Nat.lt_of_lt_of_le h.lt ht.size⟩
theorem Gl.below {w w' : World} {B : Nat} (h : Gl w) (hb : Below B w w') (hB : 0 < B) : Gl w' :=
  ⟨fun j hj => (hb.cell (p := ⟨0, j, none⟩) hB).trans (h.tab j hj), Nat.lt_of_lt_of_le h.lt hb.size⟩

/-- m is the least number of l. -/
def Min (l : List Nat) (m : Nat) : Prop := m ∈ l ∧ ∀ n ∈ l, m ≤ n

section
variable {w w' : World} {sb bm : Nat} {D : DataW Unit} {l : List Nat}

theorem min_of (W : Words D l) {c k0 : Nat} (hb : Bit c k0 l) (hc : c ≠ 0) (hk : ∀ k, has D (key k) = true → k0 ≤ k) : Min l (64 * k0 + Lib.ctz 64 c) ∧ Lib.ctz 64 c < 64 := by
  obtain ⟨t, ht, hlt, hbt, hlow, _⟩ := lowest_split hc hb.1
  rw [← ht]
  refine ⟨⟨(hb.2 t hlt).1 hbt, fun n hn => ?_⟩, hlt⟩
  have h1 := hk _ (W.has_of_mem hn)
  by_cases e : n / 64 = k0
  · have h2 : c.testBit (n % 64) = true := (hb.2 _ (by omega)).2 (by rw [← e, Nat.div_add_mod]; exact hn)
    have h3 : ¬ n % 64 < t := fun hlt => by rw [hlow _ hlt] at h2; cases h2
    omega
  · omega

end
end Go.Proofs.YtcimhljnboeobaaDoor
