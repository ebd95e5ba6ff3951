/- The known text. -/
import Derived.Test.YtobfcbmphobmfaaDoorLexQ
namespace Go.Proofs.YtobfcbmphobmfaaDoor
open Go.RowKit Go.Shelf

theorem lex_known : lex [97, 46, 49, 61, 55, 59, 120, 10, 40] 1 1 = .ok [⟨1, [97, 46, 49], 0, 1, 1⟩, ⟨3, [61], 0, 1, 4⟩, ⟨2, [55], 7, 1, 5⟩, ⟨3, [40], 0, 2, 1⟩, ⟨4, [], 0, 2, 2⟩] := by kernel_rfl

set_option maxHeartbeats 1000000 in
theorem lexes_any (w : World) : Calls Tryd.prog 11 #[] w fun e w' => e = .returned (.bool true) ∧ Below w.heap.size w w' := by
  have hn := Lib.hid (fun w : World => lex_any (w := w) (s := ⟨#[97, 46, 49, 61, 55, 59, 120, 10, 40]⟩) (by decide))
  go_enter Tryd.func11, Tryd.ntmps11
  go_wp2_with fail
  refine (hn.out _).mono ?_
  clear hn
  intro e w1 h
  unfold LexPost at h
  rw [lex_known] at h
  obtain ⟨⟨v, rfl, hr⟩, hb⟩ := h
  have hrd := hr.rd
  obtain ⟨a, c, rfl⟩ := hrd.form
  obtain ⟨g, cap, e, hg, c0, c1, c2, c3, c4⟩ := hrd.at (i := 2) rfl
  obtain ⟨g2, cap2, e2, hg2, d0, d1, d2, d3, d4⟩ := hrd.at (i := 4) rfl
  simp only [Value.slice.injEq] at e e2
  obtain ⟨rfl, -, rfl⟩ := e
  obtain ⟨e2, -, -⟩ := e2
  obtain rfl : g = g2 := by simpa using e2
  have hq := fun w => eq_tokT ⟨2, [55], 7, 1, 5⟩ ⟨2, [55], 7, 1, 5⟩ w
  have hq2 := fun w => eq_tokT ⟨4, [], 0, 2, 2⟩ ⟨4, [], 0, 2, 2⟩ w
  simp only [tokB_refl] at hq hq2
  simp at hq hq2 c0 c1 c2 c3 c4 d0 d1 d2 d3 d4
  clear hr hrd e2
  simp only [List.length_cons, List.length_nil, Nat.zero_add, Nat.reduceAdd]
  go_wp2_with fail
  go_ret
  exact ⟨rfl, hb.alloc hb.size _⟩
end Go.Proofs.YtobfcbmphobmfaaDoor
