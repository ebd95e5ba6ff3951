/- TokenCovers: a text that is none. -/
import Derived.Test.YtobfcbmphobmfaaDoorLines
import Derived.Deep.RegionHeld3
namespace Go.Proofs.YtobfcbmphobmfaaDoor
open Go.RowKit Go.Shelf

/-- A slice that reads as these numbers, none of them away. -/
theorem ints_at {w : World} {base : Nat} {v : Value} {l : List Nat} (h : w.ownsRow base 3 1 v l.length (intsOf l)) (h0 : 0 < l.length) : ∃ g cap, v = .slice (some ⟨g, 0, none⟩) l.length cap ∧ base ≤ g ∧ g < w.heap.size ∧ ∀ (i x : Nat), l[i]? = some x → w.cell? ⟨g, i, none⟩ = some (.int .i64 x) := by
  obtain ⟨g, cap, rfl, hg⟩ : ∃ g cap, v = .slice (some ⟨g, 0, none⟩) l.length cap ∧ base ≤ g := by
    rcases h.2 with ⟨_, e⟩ | ⟨g, cap, cur, e, hb, _⟩
    · omega
    · exact ⟨g, cap, e, hb⟩
  refine ⟨g, cap, rfl, hg, (h.lt g rfl).2, fun i x hi => ?_⟩
  have hlt : i < l.length := by
    rcases Nat.lt_or_ge i l.length with h | h
    · exact h
    · rw [List.getElem?_eq_none h] at hi; cases hi
  rw [h.cellAt i (by omega)]
  unfold intsOf
  rw [List.getElem?_map, hi]
  rfl

set_option maxRecDepth 20000 in
set_option maxHeartbeats 8000000 in
theorem covers_long {w : World} {s : ByteArray} (h : 5000 < s.size) (h63 : s.size ≤ maxLen) : Calls Tryd.prog 4 #[.string s] w fun e w' => e = .returned (.bool true) ∧ Below w.heap.size w w' := by
  unfold maxLen at h63
  have d1 : decide ((s.size : Int) > 5000) = true := by simp; omega
  go_enter Tryd.func4, Tryd.ntmps4
  go_wp2_with fail
  go_ret
  exact ⟨rfl, Below.refl _ _⟩

set_option maxRecDepth 20000 in
set_option maxHeartbeats 8000000 in
theorem covers_bad {w : World} {s : ByteArray} (h : s.size ≤ 5000) {l c er : Nat} (ht : told s = .error (l, c, er)) : Calls Tryd.prog 4 #[.string s] w fun e w' => e = .returned (.bool true) ∧ Below w.heap.size w w' := by
  have hk := Lib.hid lexes_any
  have hL := Lib.hid (fun s (h : s.size ≤ 5000) w => lex_told s w (by unfold maxLen; omega))
  have hB := Lib.hid (fun w => lines_any (w := w) h)
  have d1 : decide ((s.size : Int) > 5000) = false := by simp; omega
  have hlx : lex s.data.toList 1 1 = .error (l, c, er) := by rw [← told_short (by omega)]; exact ht
  obtain ⟨m, hm, hsp, her, out, hpre⟩ := first_bad _ s.data.toList 1 1 l c er (Nat.le_refl _) hlx
  have hms : m < s.size := by simpa using hm
  have hsp' : spotOf (s.data.toList.take m) = (l, c) := hsp
  obtain ⟨p1, p2, p3, x, p4, p5⟩ := place_of_spot s.data.toList (m := m) (by omega)
  have hbl := begin_len s.data.toList
  rw [hsp'] at p1 p2 p3 p4 p5
  simp only at p1 p2 p3 p4 p5
  have hsub : told (s.extract 0 m) = .ok out := by
    have he : (s.extract 0 m).data.toList = s.data.toList.take m := by
      rw [ByteArray.data_extract]
      simp [List.extract_eq_take_drop]
    rw [told_short (by simp; omega), he]
    exact hpre
  have hsz : (s.extract 0 m).size ≤ 5000 := by simp; omega
  replace ht := Lib.hid ht
  replace hsub := Lib.hid hsub
  have hszl : s.data.toList.length = s.size := by simp
  rw [hszl] at hbl
  clear hlx hpre hsp hsp' hm hszl
  go_enter Tryd.func4, Tryd.ntmps4
  go_wp2_with fail
  refine (hL.out s h _).mono ?_
  rintro e1 w1 ⟨va, l1, k1, r1, rfl, hra, hwa, hb1⟩
  rw [ht.out] at hra hwa
  obtain ⟨rfl, rfl, rfl⟩ : l = l1 ∧ c = k1 ∧ er = r1 := by simpa [where'] using hwa
  obtain ⟨a1, ca1, rfl⟩ := hra.form
  simp only [toks, List.length_nil]
  go_upto_region 4 with fail
  have hbx := hb1.alloc hb1.size (.cells #[.int .i64 l, .int .i64 c] 24)
  have hltx : w1.heap.size < (w1.alloc (.cells #[.int .i64 l, .int .i64 c] 24)).heap.size := by simp
  have y0 : (w1.alloc (.cells #[.int .i64 l, .int .i64 c] 24)).cell? ⟨w1.heap.size, 0, none⟩ = some (.int .i64 l) := by simp
  have y1 : (w1.alloc (.cells #[.int .i64 l, .int .i64 c] 24)).cell? ⟨w1.heap.size, 1, none⟩ = some (.int .i64 c) := by simp
  generalize (w1.alloc (.cells #[.int .i64 l, .int .i64 c] 24)) = wx at *
  clear hra hwa hb1
  go_wp2_with fail
  refine (hB.out _).mono ?_
  rintro e2 w2 ⟨vb, rfl, hrow, hb2⟩
  obtain ⟨gb, capb, rfl, hgb, hgbl, hcell⟩ := ints_at hrow (by omega)
  obtain ⟨y, rfl⟩ : ∃ y, l = y + 1 := ⟨l - 1, by omega⟩
  obtain ⟨d, rfl⟩ : ∃ d, c = d + 1 := ⟨c - 1, by omega⟩
  have x0 := hcell y x (by simpa using p4)
  have z0 := (hb2.cell (p := ⟨w1.heap.size, 0, none⟩) hltx).trans y0
  have z1 := (hb2.cell (p := ⟨w1.heap.size, 1, none⟩) hltx).trans y1
  have hby := hbx.trans (hb2.mono hbx.size)
  have hlt12 : w1.heap.size < w2.heap.size := Nat.lt_of_lt_of_le hltx hb2.size
  have bd1 : y ≤ 6000 := by omega
  have bd2 : d ≤ 6000 := by omega
  have bd3 : x ≤ 6000 := by omega
  have wr1 : IntKind.i64.wrap (y : Int) = (y : Int) := wrap_small _ (by omega) (by omega)
  have wr2 : IntKind.i64.wrap ((x : Int) + ((d : Int) + 1)) = (x : Int) + ((d : Int) + 1) := wrap_small _ (by omega) (by omega)
  have wr3 : IntKind.i64.wrap (m : Int) = (m : Int) := wrap_small _ (by omega) (by omega)
  have hz2 : (x : Int) + ((d : Int) + 1) - 1 = (m : Int) := by omega
  rw [Int.natCast_add, Int.natCast_one] at z0 z1
  have i1 : (y : Int) < ((beginL s.data.toList).length : Int) := by omega
  have i2 : (m : Int) ≤ (s.size : Int) := by omega
  have g1 : ((er : Int) != 0) = true := by simp; omega
  have g2 : decide ((y : Int) + 1 < 1) = false := by simp; omega
  have g3 : decide ((y : Int) + 1 > ((beginL s.data.toList).length : Int)) = false := by simp; omega
  have g3n : decide ((beginL s.data.toList).length < y + 1) = false := by simp; omega
  have g5n : decide (s.size ≤ m) = false := by simp; omega
  have g4 : decide ((d : Int) + 1 < 1) = false := by simp; omega
  have g5 : decide ((m : Int) ≥ (s.size : Int)) = false := by simp; omega
  replace p4 := Lib.hid p4
  generalize (beginL s.data.toList).length = nb at *
  clear y0 y1 hbx hb2 hrow hcell hB
  have hq : (((er : Int) != 30) = false) ∨ (((er : Int) != 30) = true ∧ ((er : Int) != 31) = false) := by
    rcases her with rfl | rfl
    · exact .inl rfl
    · exact .inr ⟨rfl, rfl⟩
  rcases hq with q1 | ⟨q1, q2⟩
  all_goals
    go_wp2_with fail
    go_quiet (fail)
    go_wp2_with fail
    have qn0 : ∀ n, ((w2.drewN n).alloc (.cells #[.int .i64 0, .int .i64 0] 24)).cell? ⟨w2.heap.size, 0, none⟩ = some (.int .i64 0) := fun n => blk_cell (heap_alloc_new (w2.drewN n) (.cells #[.int .i64 0, .int .i64 0] 24)) 0
    have qn1 : ∀ n, ((w2.drewN n).alloc (.cells #[.int .i64 0, .int .i64 0] 24)).cell? ⟨w2.heap.size, 1, none⟩ = some (.int .i64 0) := fun n => blk_cell (heap_alloc_new (w2.drewN n) (.cells #[.int .i64 0, .int .i64 0] 24)) 1
    have fn0 : ∀ n i, ((w2.drewN n).alloc (.cells #[.int .i64 0, .int .i64 0] 24)).frozen? ⟨w2.heap.size, i, none⟩ = false := fun n i => by
      have h := heap_alloc_new (w2.drewN n) (.cells #[.int .i64 0, .int .i64 0] 24)
      have h : ((w2.drewN n).alloc (.cells #[.int .i64 0, .int .i64 0] 24)).heap[w2.heap.size]? = some (.cells #[.int .i64 0, .int .i64 0] 24) := h
      unfold World.frozen?
      simp only [h]
      simp
    have zz0 : ∀ n o, ((w2.drewN n).alloc o).cell? ⟨w1.heap.size, 0, none⟩ = some (.int .i64 ((y : Int) + 1)) := fun n o => (World.cell?_alloc_past (w := w2.drewN n) o _ _ hlt12).trans z0
    have zz1 : ∀ n o, ((w2.drewN n).alloc o).cell? ⟨w1.heap.size, 1, none⟩ = some (.int .i64 ((d : Int) + 1)) := fun n o => (World.cell?_alloc_past (w := w2.drewN n) o _ _ hlt12).trans z1
    have zx0 : ∀ n o, ((w2.drewN n).alloc o).cell? ⟨gb, y, none⟩ = some (.int .i64 x) := fun n o => (World.cell?_alloc_past (w := w2.drewN n) o _ _ hgbl).trans x0
    have ne1 : w1.heap.size ≠ w2.heap.size := by omega
    have ne2 : w2.heap.size ≠ w1.heap.size := by omega
    have ne3 : gb ≠ w2.heap.size := by omega
    have ne4 : w2.heap.size ≠ gb := by omega
    go_region_held3 (fun w' => w'.cell? ⟨w1.heap.size, 0, none⟩ = some (.int .i64 ((y : Int) + 1)) ∧ w'.cell? ⟨w1.heap.size, 1, none⟩ = some (.int .i64 ((d : Int) + 1)) ∧ w'.cell? ⟨gb, y, none⟩ = some (.int .i64 x)) (go_keep)
      (first
        | (go_at_call 8; refine Calls.mono (hL.out _ hsz _) ?_; rintro e3 w3 ⟨v3, l3, k3, r3, rfl, hr3, hw3, hb3⟩; have u0 := hb3.cell (p := ⟨w1.heap.size, 0, none⟩); have u1 := hb3.cell (p := ⟨w1.heap.size, 1, none⟩); have u2 := hb3.cell (p := ⟨gb, y, none⟩); have q0 := hb3.cell (p := ⟨w2.heap.size, 0, none⟩); have q1 := hb3.cell (p := ⟨w2.heap.size, 1, none⟩); have f0 := hb3.frozen (p := ⟨w2.heap.size, 0, none⟩); have f1 := hb3.frozen (p := ⟨w2.heap.size, 1, none⟩); simp [hlt12, hgbl, zz0, zz1, zx0, z0, z1, x0, Nat.lt_succ_of_lt hlt12, Nat.lt_succ_of_lt hgbl] at u0 u1 u2 q0 q1 f0 f1))
    all_goals
      have hw3' := hw3
      rw [hsub.out] at hw3'
      obtain ⟨rfl, rfl, rfl⟩ : 0 = l3 ∧ 0 = k3 ∧ 0 = r3 := by simpa [where'] using hw3'
      have hbw : Below w.heap.size w w3 := by
        first
          | exact (below_drawn hby _).trans (hb3.mono hby.size)
          | exact ((below_drawn hby _).alloc hby.size _).trans (hb3.mono (by simp; exact Nat.le_succ_of_le hby.size))
      have hle2 : w.heap.size ≤ w2.heap.size := hby.size
      clear hw3'
      go_wp2_with fail
      refine (hk.out _).mono ?_
      rintro e4 w4 ⟨rfl, hb4⟩
      have hb4' := hb4.mono (B' := w.heap.size) (by first | exact hbw.size | (simp; exact hbw.size) | (simp; exact Nat.le_succ_of_le hbw.size))
      clear hb4
      go_wp2_with fail
      go_ret
      refine ⟨rfl, Below.trans ?_ hb4'⟩
      first | exact ((hbw.setCell hle2 _).setCell hle2 _) | exact hbw.alloc hbw.size _
end Go.Proofs.YtobfcbmphobmfaaDoor
