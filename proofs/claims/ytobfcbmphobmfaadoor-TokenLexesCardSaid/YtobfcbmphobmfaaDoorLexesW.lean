/- TokenLexes: the walk. -/
import Derived.Test.YtobfcbmphobmfaaDoorTold
namespace Go.Proofs.YtobfcbmphobmfaaDoor
open Go.RowKit Go.Shelf


theorem eql_spotT (w : World) (a b : Nat) : (Op.equalIn 10000 24 (.agg #[.int .i64 a, .int .i64 b]) (.agg #[.int .i64 a, .int .i64 b])).run Tryd.prog w = .ok true w := by
  rw [eq_spotT]
  simp

set_option maxRecDepth 20000 in
set_option maxHeartbeats 4000000 in
theorem lexes_law {w : World} {s : ByteArray} (h63 : s.size ≤ maxLen) : Calls Tryd.prog 3 #[.string s] w fun e w' => e = .returned (.bool true) ∧ Below w.heap.size w w' := by
  have hk := Lib.hid lexes_any
  have h63' : s.size < 9223372036854775808 := by unfold maxLen at h63; omega
  by_cases h0 : 1500 < s.size ∧ s.size ≤ 1048576
  · obtain ⟨h1, h2⟩ := h0
    have d1 : decide ((s.size : Int) > 1500) = true := by simp; omega
    have d2 : decide ((s.size : Int) ≤ 1048576) = true := by simp; omega
    go_enter Tryd.func3, Tryd.ntmps3
    go_wp2_with fail
    go_ret
    exact ⟨rfl, Below.refl _ _⟩
  · have hL := Lib.hid (fun w => lex_told s w h63)
    have hR := Lib.hid (fun w => ref_told s w h63)
    have hS := Lib.hid (told_len s)
    have hq : (decide ((s.size : Int) > 1500) = false) ∨ (decide ((s.size : Int) > 1500) = true ∧ decide ((s.size : Int) ≤ 1048576) = false) := by
      simp
      omega
    clear h0
    rcases hq with d1 | ⟨d1, d2⟩
    all_goals
      go_enter Tryd.func3, Tryd.ntmps3
      go_wp2_with fail
      refine (hL.out _).mono ?_
      rintro e1 w1 ⟨va, l, c, er, rfl, hra, hwh, hb1⟩
      obtain ⟨a1, c1, rfl⟩ := hra.form
      have hlt1 : w.heap.size ≤ w1.heap.size := hb1.size
      replace hwh := Lib.hid hwh
      go_upto_region 4 with fail
      have hb2 := hb1.alloc hb1.size (.cells #[.int .i64 l, .int .i64 c] 24)
      have x0 : (w1.alloc (.cells #[.int .i64 l, .int .i64 c] 24)).cell? ⟨w1.heap.size, 0, none⟩ = some (.int .i64 l) := by simp
      have x1 : (w1.alloc (.cells #[.int .i64 l, .int .i64 c] 24)).cell? ⟨w1.heap.size, 1, none⟩ = some (.int .i64 c) := by simp
      have hra2 := hra.below ((Below.refl _ w1).alloc (Nat.le_refl _) (.cells #[.int .i64 l, .int .i64 c] 24))
      have hltx : w1.heap.size < (w1.alloc (.cells #[.int .i64 l, .int .i64 c] 24)).heap.size := by simp
      generalize (w1.alloc (.cells #[.int .i64 l, .int .i64 c] 24)) = wx at *
      clear hra hb1
      go_wp2_with fail
      refine (hR.out _).mono ?_
      rintro e2 w2 ⟨vb, l2, c2, er2, rfl, hrb, hwh2, hb3⟩
      obtain ⟨rfl, rfl, rfl⟩ : l = l2 ∧ c = c2 ∧ er = er2 := by have := hwh.out.symm.trans hwh2; simpa using this
      obtain ⟨a2, c3, rfl⟩ := hrb.form
      have y0 := (hb3.cell (p := ⟨w1.heap.size, 0, none⟩) hltx).trans x0
      have y1 := (hb3.cell (p := ⟨w1.heap.size, 1, none⟩) hltx).trans x1
      clear x0 x1
      go_upto_region 5 with fail
      have hb4 := (hb2.trans (hb3.mono (by omega))).alloc (Nat.le_trans hb2.size hb3.size) (.cells #[.int .i64 l, .int .i64 c] 24)
      have hra3 := (hra2.below hb3).below ((Below.refl _ w2).alloc (Nat.le_refl _) (.cells #[.int .i64 l, .int .i64 c] 24))
      have hrb2 := hrb.below ((Below.refl _ w2).alloc (Nat.le_refl _) (.cells #[.int .i64 l, .int .i64 c] 24))
      have hlt2 : w1.heap.size < w2.heap.size := Nat.lt_of_lt_of_le hltx hb3.size
      have z0 : (w2.alloc (.cells #[.int .i64 l, .int .i64 c] 24)).cell? ⟨w1.heap.size, 0, none⟩ = some (.int .i64 l) := (World.cell?_alloc_past _ _ _ hlt2).trans y0
      have z1 : (w2.alloc (.cells #[.int .i64 l, .int .i64 c] 24)).cell? ⟨w1.heap.size, 1, none⟩ = some (.int .i64 c) := (World.cell?_alloc_past _ _ _ hlt2).trans y1
      have z2 : (w2.alloc (.cells #[.int .i64 l, .int .i64 c] 24)).cell? ⟨w2.heap.size, 0, none⟩ = some (.int .i64 l) := by simp
      have z3 : (w2.alloc (.cells #[.int .i64 l, .int .i64 c] 24)).cell? ⟨w2.heap.size, 1, none⟩ = some (.int .i64 c) := by simp
      have hlty : w2.heap.size < (w2.alloc (.cells #[.int .i64 l, .int .i64 c] 24)).heap.size := by simp
      generalize (w2.alloc (.cells #[.int .i64 l, .int .i64 c] 24)) = wy at *
      have hsame := Lib.hid (same_yes hra3 hrb2 (by have := hS.out; omega))
      have hq := fun w => eql_spotT w l c
      clear hra2 hra3 hrb hrb2 hb2 hb3 y0 y1 hL hR hS
      go_wp2_with fail
      refine hsame.out.mono ?_
      rintro e3 w3 ⟨rfl, hb5⟩
      have t0 := (hb5.cell (p := ⟨w1.heap.size, 0, none⟩) (by simp; omega)).trans z0
      have t1 := (hb5.cell (p := ⟨w1.heap.size, 1, none⟩) (by simp; omega)).trans z1
      have t2 := (hb5.cell (p := ⟨w2.heap.size, 0, none⟩) hlty).trans z2
      have t3 := (hb5.cell (p := ⟨w2.heap.size, 1, none⟩) hlty).trans z3
      have hb6 := hb4.trans (hb5.mono hb4.size)
      clear z0 z1 z2 z3 hb5 hb4 hsame
      go_wp2_with fail
      refine (hk.out _).mono ?_
      rintro e4 w4 ⟨rfl, hb7⟩
      have hb8 := hb6.trans (hb7.mono hb6.size)
      clear hb6 hb7
      go_wp2_with fail
      go_ret
      exact ⟨rfl, hb8⟩
end Go.Proofs.YtobfcbmphobmfaaDoor
