/- Minus, Both, Copy. -/
import Derived.Test.YtdpmpppafkefoaaPick
namespace Go.Proofs.Ytdpmpppafkefoaa
open Go.RowKit Go.Maps

section
variable {w w' : World} {sb bm so bo : Nat} {D Do : DataW Unit} {l l' o : List Nat}

theorem cell_new0 (w : World) (ov : Value) : (w.alloc (.cells #[ov] 26)).cell? ⟨w.heap.size, 0, none⟩ = some ov := by
  have := cell_one_new w ov 26 0 ov rfl
  rwa [add0] at this

/-- A set in new blocks. -/
def NewSet (w w' : World) (e : Ending) (l : List Nat) : Prop := ∃ sb bm D, e = .returned (.pointer (some ⟨sb, 0, none⟩)) ∧ w.heap.size ≤ sb ∧ w.heap.size ≤ bm ∧ SetAt w' sb bm D l ∧ Below w.heap.size w w'

def less (l o : List Nat) : List Nat := l.filter (fun n => !decide (n ∈ o))
def both (l o : List Nat) : List Nat := l.filter (fun n => decide (n ∈ o))

theorem testBit_eq {c k : Nat} {l : List Nat} (h : Bit c k l) {j : Nat} (hj : j < 64) : c.testBit j = decide (64 * k + j ∈ l) := by
  rw [Bool.eq_iff_iff, decide_eq_true_iff]
  exact h.2 j hj

theorem copy_nil (w : World) : Calls Try.prog 12 #[.pointer none] w fun e w' => e = .returned (.pointer none) ∧ w' = w := by
  go_enter Try.func12, Try.ntmps12
  go_wp2
  go_ret
  exact ⟨rfl, rfl⟩

theorem copy_any (S : SetAt w sb bm D l) (hlen : l.length ≤ 1000000) : Calls Try.prog 12 #[.pointer (some ⟨sb, 0, none⟩)] w fun e w' => NewSet w w' e l := by
  have ho := Lib.hid (of_none w)
  have hs := S.lts
  have hm := S.ltm
  go_enter Try.func12, Try.ntmps12
  go_wp2_with (first
    | (go_at_call 8; refine ho.out.mono ?_; rintro e w0 ⟨rfl, ⟨D0, N0⟩, hb0⟩; have hU := Lib.hid (union_any N0 (S.below hb0) (by omega) (by omega) (by simpa using hlen)); clear N0)
    | (go_at_call 13; refine hU.out.mono ?_; rintro e w1 ⟨rfl, ⟨D1, N1⟩, ht1⟩))
  have N2 : SetAt w1 (w.heap.size + 1) w.heap.size D1 l := N1.congr S.nodup (fun n => by rw [mem_uni]; simp)
  go_ret
  exact ⟨_, _, D1, rfl, by omega, Nat.le_refl _, N2, hb0.trans (ht1.below hb0.size (fun k hk h => by rcases h with h | h <;> omega))⟩
end
end Go.Proofs.Ytdpmpppafkefoaa
