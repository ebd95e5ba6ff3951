/- QueueNil: the walk. -/
import Derived.Test.YtcimhljnboeobaaDoorQAgain
import Derived.Laws.OwnMore
namespace Go.Proofs.YtcimhljnboeobaaDoor
open Go.RowKit Go.Maps

theorem made_oneQ (z : Value) (n : Nat) : (madeCells #[z] n).toList = List.replicate n z := by
  refine List.ext_getElem? (fun i => ?_)
  simp only [madeCells, Array.toList_map, Array.toList_range, List.getElem?_map, List.getElem?_replicate, List.getElem?_range]
  by_cases h : i < n
  · simp [h, Nat.mod_one]
  · simp [h]
theorem set_endQ {α : Type} (z o : α) (n : Nat) : ((List.replicate (n + 2) z).set (n + 1) o).set n o = List.replicate n z ++ [o, o] := by
  rw [show List.replicate (n + 2) z = List.replicate n z ++ [z, z] from List.replicate_append_replicate.symm, List.set_append_right _ _ (by simp), List.set_append_right _ _ (by simp)]
  simp
section
variable {W w : World} {qb N : Nat}
theorem qn_row {base b : Nat} {cs : List Value} (h : w.ownsRow base 3 1 (.slice (some ⟨b, 0, none⟩) (N + 2) (N + 2)) (N + 2) cs) (hc : cs = ((List.replicate (N + 2) (encQ 0)).set (N + 1) (encQ 1)).set N (encQ 1)) : RdQ w (.slice (some ⟨b, 0, none⟩) (N + 2) (N + 2)) (List.replicate N 0 ++ [1, 1]) := by
  have h1 := (row_rdQ h).1
  rw [hc, set_endQ] at h1
  unfold RdQ
  rw [List.map_append, List.map_replicate]
  exact h1
theorem qn0 {v : Value} (hb : Below W.heap.size W w) (G : Gl W) (hR : RdQ w v (List.replicate N 0 ++ [1, 1])) (hN : N = 65535) (hcap : ∀ a m c, v = .slice (some a) m c → m ≤ c) : Calls Tryd.prog 11 #[.int .i64 3, v] w fun e w' => ∃ qb, e = .returned (.pointer (some ⟨qb, 0, none⟩)) ∧ QSt W w' qb 3 [] (List.replicate N 0 ++ [1]) 0 := by
  have h := qs_new (n' := 3) hb G hR hcap (by simp; omega) (by decide) (by decide)
  rw [show (65536 : Nat) = N + 1 by omega, show List.take (N + 1) (List.replicate N (0 : Int) ++ [1, 1]) = List.replicate N 0 ++ [1] by rw [List.take_append, List.length_replicate, List.take_of_length_le (by simp), show N + 1 - N = 1 by omega]; rfl] at h
  exact h
theorem qn1 {ps : List Int} {k : Nat} (h : QSt W w qb 3 [] ps k) : Calls Tryd.prog 7 #[.pointer (some ⟨qb, 0, none⟩), .int .i64 0] w fun e w' => e = .returned (.bool true) ∧ QSt W w' qb 3 [0] ps k := qs_yes h (x := 0) (by decide) (by decide)
theorem qn2 {ps : List Int} {k : Nat} (h : QSt W w qb 3 [0] ps k) : Calls Tryd.prog 7 #[.pointer (some ⟨qb, 0, none⟩), .int .i64 1] w fun e w' => e = .returned (.bool true) ∧ QSt W w' qb 3 [0, 1] ps k := qs_yes h (x := 1) (by decide) (by decide)
theorem qn3 {ps : List Int} {k : Nat} (h : QSt W w qb 3 [0] (0 :: ps) k) (hk : k ≤ 1000000000) (hl : ps.length < 1000000) : Calls Tryd.prog 6 #[.pointer (some ⟨qb, 0, none⟩)] w fun e w' => e = .returned (.tuple #[.int .i64 0, .bool true]) ∧ QSt W w' qb 3 [] ps (k + 1) := qs_take h hk (by rw [List.length_cons]; omega) (y := 0) rfl
theorem qn4 {k : Nat} (h : QSt W w qb 3 [0, 1] [1] k) (hk : k ≤ 1000000000) : Calls Tryd.prog 6 #[.pointer (some ⟨qb, 0, none⟩)] w fun e w' => e = .returned (.tuple #[.int .i64 1, .bool true]) ∧ QSt W w' qb 3 [0] [] (k + 1) := qs_take h hk (by decide) (y := 1) rfl
theorem qn5 {k : Nat} (h : QSt W w qb 3 [0, 1] [] k) (hk : k ≤ 1000000000) : Calls Tryd.prog 6 #[.pointer (some ⟨qb, 0, none⟩)] w fun e w' => e = .returned (.tuple #[.int .i64 0, .bool true]) ∧ QSt W w' qb 3 [1] [] (k + 1) := qs_take h hk (by decide) (y := 0) rfl
set_option maxRecDepth 100000 in
set_option maxHeartbeats 4000000 in
theorem qnil_any {n : Int} (G : Gl W) : Calls Tryd.prog 3 #[.int .i64 n] W fun e w' => e = .returned (.bool true) ∧ Below W.heap.size W w' := by
  obtain ⟨i0, hi0, hz0, hz1, hz2⟩ := info_parts infoQI
  obtain ⟨wm, hmk0, hown0, hgr0⟩ := run_make_full (P := Tryd.prog) W W.heap.size 27 3 i0 (.int .i64 0) 1 Tryd.underlying27 hi0 hz0 hz1 .i64 .i64 65537 (by rw [hz2]; decide) (by unfold maxLen; decide) (Nat.le_refl _)
  have hmk : (Instr.makeSlice 27 (.int .i64 65537) (.int .i64 65537)).run Tryd.prog W = .ok (.slice (some ⟨W.heap.size, 0, none⟩) 65537 65537) wm := hmk0
  have hbm : Below W.heap.size W wm := (Touch.of_grown hgr0 (S := fun _ => False) (fun k e => by cases e)).below (Nat.le_refl _) (fun _ _ h => h)
  have hgm : W.heap.size < wm.heap.size := (hown0.lt _ rfl).2
  have fm : ∀ k, wm.frozen? ⟨W.heap.size, k, none⟩ = false := fun k => hown0.frozenAt k
  obtain ⟨hown1, hgr1⟩ := hown0.stored 65536 (.int .i64 1)
  have fm1 : ∀ k, (wm.setCell ⟨W.heap.size, 65536, none⟩ (.int .i64 1)).frozen? ⟨W.heap.size, k, none⟩ = false := fun k => hown1.frozenAt k
  obtain ⟨hown2, hgr2⟩ := hown1.stored 65535 (.int .i64 1)
  have cm : wm.cell? ⟨W.heap.size, 65536, none⟩ = some (.int .i64 0) := (hown0.cellAt 65536 (by decide)).trans (by rw [show (madeCells (Value.int .i64 0).cells (65537 * 1)).toList = List.replicate 65537 (encQ 0) from made_oneQ _ _, List.getElem?_replicate]; rfl)
  have cm1 : (wm.setCell ⟨W.heap.size, 65536, none⟩ (.int .i64 1)).cell? ⟨W.heap.size, 65535, none⟩ = some (.int .i64 0) := (hown1.cellAt 65535 (by decide)).trans (by rw [show (madeCells (Value.int .i64 0).cells (65537 * 1)).toList = List.replicate 65537 (encQ 0) from made_oneQ _ _, List.getElem?_set_ne (by decide), List.getElem?_replicate]; rfl)
  have hb3 : Below W.heap.size W ((wm.setCell ⟨W.heap.size, 65536, none⟩ (.int .i64 1)).setCell ⟨W.heap.size, 65535, none⟩ (.int .i64 1)) := (hbm.setCell (p := ⟨W.heap.size, 65536, none⟩) (Nat.le_refl _) _).setCell (p := ⟨W.heap.size, 65535, none⟩) (Nat.le_refl _) _
  have hR := qn_row (N := 65535) hown2 (by rw [show (madeCells (Value.int .i64 0).cells (65537 * 1)).toList = List.replicate 65537 (encQ 0) from made_oneQ _ _]; rfl)
  obtain ⟨N, hN⟩ : ∃ N, N = 65535 := ⟨_, rfl⟩
  have hnew := qn0 hb3 G (N := N) (by rw [hN]; exact hR) hN (fun a m c e => by cases e; exact Nat.le_refl _)
  replace hnew := Lib.hid hnew
  have hG := Lib.hid G
  replace hN := Lib.hid hN
  clear hown0 hgr0 hmk0 hown1 hown2 hgr1 hgr2 hR hb3 G hbm
  have k1 := Lib.hid (qtake_nil W)
  have k2 := Lib.hid (qadd_nil n W)
  have k3 := Lib.hid (qwaits_nil n W)
  have k4 := Lib.hid (qlen_nil W)
  have k5 := Lib.hid (qtaken_nil W)
  go_enter Tryd.func3, Tryd.ntmps3
  go_wp2_with (first
    | (go_at_call 6; refine k1.out.mono ?_; rintro e w' ⟨rfl, hw9⟩; obtain rfl := hw9.symm)
    | (go_at_call 7; refine k2.out.mono ?_; rintro e w' ⟨rfl, hw9⟩; obtain rfl := hw9.symm)
    | (go_at_call 8; refine k3.out.mono ?_; rintro e w' ⟨rfl, hw9⟩; obtain rfl := hw9.symm)
    | (go_at_call 9; refine k4.out.mono ?_; rintro e w' ⟨rfl, hw9⟩; obtain rfl := hw9.symm)
    | (go_at_call 10; refine k5.out.mono ?_; rintro e w' ⟨rfl, hw9⟩; obtain rfl := hw9.symm)
    | (go_at_call 11; refine hnew.out.mono ?_; rintro e w2 ⟨qb, rfl, hQ0⟩)
    | fail)
  clear k1 k2 k3 k4 k5 hnew hmk fm fm1 cm cm1
  go_loopw [7] (fun i wr => ∃ j : Nat, j ≤ N ∧ i = .int .i64 j ∧ Hid (QSt W wr qb 3 [] (List.replicate (N - j) 0 ++ [1]) j)) (fun v _ => N - (intOf v).toNat)
  case atStart => exact ⟨0, Nat.zero_le _, rfl, Lib.hid hQ0⟩
  case round =>
    clear hQ0 hgm
    obtain ⟨j, hj, rfl, hQ⟩ := hrel
    have hN2 := hN.out
    by_cases hjl : j < N
    · have j1 : (j : Int) < 65535 := by omega
      have j2 : decide ((j : Int) < 65535) = true := by simp; omega
      have hq2 : Hid (QSt W wr qb 3 [] (0 :: (List.replicate (N - (j + 1)) 0 ++ [1])) j) := Lib.hid (by
        have := hQ.out
        rwa [show N - j = (N - (j + 1)) + 1 by omega, List.replicate_succ, List.cons_append] at this)
      have hpl : (List.replicate (N - (j + 1)) (0 : Int) ++ [1]).length < 1000000 := by simp; omega
      generalize hps : List.replicate (N - (j + 1)) (0 : Int) ++ [1] = ps at hq2 hpl
      replace hps := Lib.hid hps
      clear hQ
      go_wp2_with (first
        | (go_at_call 7; refine (qn1 hq2.out).mono ?_; rintro e w3 ⟨rfl, hQ1⟩)
        | (go_at_call 6; refine (qn3 hQ1 (by omega) hpl).mono ?_; rintro e w4 ⟨rfl, hQ2⟩)
        | fail)
      go_roundw
      case rel => exact ⟨j + 1, by omega, by first | rfl | go_num, Lib.hid (by rw [hps.out]; exact hQ2)⟩
      case measure => simp [intOf]; omega
    · have j1 : ¬ (j : Int) < 65535 := by omega
      have j2 : decide ((j : Int) < 65535) = false := by simp; omega
      obtain rfl : j = N := by omega
      have hq2 : Hid (QSt W wr qb 3 [] [1] j) := Lib.hid (by
        have := hQ.out
        rwa [Nat.sub_self] at this)
      clear hQ
      go_wp2_with (first
        | (go_at_call 7; first
          | (refine (qn1 hq2.out).mono ?_; rintro e w3 ⟨rfl, hQ1⟩; clear hq2)
          | (refine (qn2 hQ1).mono ?_; rintro e w4 ⟨rfl, hQ2⟩; clear hQ1)
          | (refine (qn2 hQ3).mono ?_; rintro e w6 ⟨rfl, hQ4⟩; clear hQ3))
        | (go_at_call 6; first
          | (refine (qn4 hQ2 (by omega)).mono ?_; rintro e w5 ⟨rfl, hQ3⟩; clear hQ2)
          | (refine (qn5 hQ4 (by omega)).mono ?_; rintro e w7 ⟨rfl, hQ5⟩; clear hQ4; have hwk := Lib.hid (wakes_any (hG.out.below hQ5.bel hG.out.lt)))
          )
        | (go_at_call 12; refine hwk.out.mono ?_; rintro e w9 ⟨rfl, hb9⟩)
        | fail)
      go_ret
      exact ⟨rfl, hQ5.bel.trans (hb9.mono hQ5.bel.size)⟩
end
end Go.Proofs.YtcimhljnboeobaaDoor
