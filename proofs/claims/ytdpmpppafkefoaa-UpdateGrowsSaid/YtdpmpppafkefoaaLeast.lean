/- Least. -/
import Derived.Test.YtdpmpppafkefoaaShrink
namespace Go.Proofs.Ytdpmpppafkefoaa
open Go.RowKit Go.Maps

/-- m is the least number of l. -/
def Min (l : List Nat) (m : Nat) : Prop := m ∈ l ∧ ∀ n ∈ l, m ≤ n

section
variable {w w' : World} {sb bm : Nat} {D : DataW Unit} {l : List Nat}

theorem min_of (W : Words D l) {c k0 : Nat} (hb : Bit c k0 l) (hc : c ≠ 0) (hk : ∀ k, has D (key k) = true → k0 ≤ k) : Min l (64 * k0 + Lib.ctz 64 c) ∧ Lib.ctz 64 c < 64 := by
  obtain ⟨t, ht, hlt, hbt, hlow, _⟩ := lowest_split hc hb.1
  rw [← ht]
  refine ⟨⟨(hb.2 t hlt).1 hbt, fun n hn => ?_⟩, hlt⟩
  have h1 := hk _ (W.has_of_mem hn)
  by_cases e : n / 64 = k0
  · have h2 : c.testBit (n % 64) = true := (hb.2 _ (by omega)).2 (by rw [← e, Nat.div_add_mod]; exact hn)
    have h3 : ¬ n % 64 < t := fun hlt => by rw [hlow _ hlt] at h2; cases h2
    omega
  · omega

end
end Go.Proofs.Ytdpmpppafkefoaa
