/- QueueAgain: the walk. -/
import Derived.Test.YtcimhljnboeobaaDoorQReadI
namespace Go.Proofs.YtcimhljnboeobaaDoor
open Go.RowKit Go.Maps

section
variable {W : World} {s : Value} {xs : List Int} {n : Int}
theorem again_great (G : Gl W) (hs : RdI W s xs) (h : 300 < xs.length ∨ 100000 < n) : Calls Tryd.prog 5 #[.int .i64 n, s] W fun e w' => e = .returned (.bool true) ∧ Below W.heap.size W w' := by
  obtain ⟨a, c, rfl⟩ := hs.form
  rw [List.length_map]
  have hw := Lib.hid (wakes_any G)
  by_cases h1 : 300 < xs.length
  · have hd : decide ((xs.length : Int) > 300) = true := by simp; omega
    go_enter Tryd.func5, Tryd.ntmps5
    go_wp2_with (first | (go_at_call 12; refine hw.out.mono ?_; rintro e w' ⟨rfl, hb⟩) | fail)
    go_ret
    exact ⟨rfl, hb⟩
  · have hd : decide ((xs.length : Int) > 300) = false := by simp; omega
    have hd2 : decide (n > 100000) = true := by simp; omega
    go_enter Tryd.func5, Tryd.ntmps5
    go_wp2_with (first | (go_at_call 12; refine hw.out.mono ?_; rintro e w' ⟨rfl, hb⟩) | fail)
    go_ret
    exact ⟨rfl, hb⟩
set_option maxRecDepth 100000 in
set_option maxHeartbeats 4000000 in
theorem again_any (G : Gl W) (hs : RdI W s xs) (hx : Small xs) (hl : xs.length ≤ 300) (hn : n ≤ 100000) (hn0 : -9223372036854775808 ≤ n) : Calls Tryd.prog 5 #[.int .i64 n, s] W fun e w' => e = .returned (.bool true) ∧ Below W.heap.size W w' := by
  obtain ⟨a, c, rfl⟩ := hs.form
  rw [List.length_map] at hs ⊢
  have hd : decide ((xs.length : Int) > 300) = false := by simp; omega
  have hd2 : decide (n > 100000) = false := by simp; omega
  have hnew := Lib.hid (qs_new (W := W) (w := W) (ps := []) (n' := n) (v := .slice none 0 0) (Below.refl _ _) G (.inl ⟨rfl, .inl rfl⟩) (fun a m c e => by cases e) (by decide) (by omega) hn0)
  have hG := Lib.hid G
  clear G
  go_enter Tryd.func5, Tryd.ntmps5
  go_wp2_with (first | (go_at_call 11; refine hnew.out.mono ?_; rintro e w2 ⟨qb, rfl, hQ0⟩; have hQ0 : QSt W w2 qb n.toNat [] [] 0 := hQ0) | fail)
  clear hnew
  go_loopw [6, 7] (fun c6 i wr => ∃ j cn : Nat, j ≤ xs.length ∧ cn ≤ j ∧ i = .int .i64 j ∧ c6 = .int .i64 cn ∧ Hid (QSt W wr qb n.toNat [] [] cn)) (fun _ v _ => xs.length - (intOf v).toNat)
  case atStart => exact ⟨0, 0, Nat.zero_le _, Nat.le_refl _, rfl, rfl, Lib.hid hQ0⟩
  case round =>
    clear hQ0
    obtain ⟨j, cn, hj, hcn, rfl, rfl, hQ⟩ := hrel
    by_cases hjl : j < xs.length
    · have j1 : decide ((j : Int) < (xs.length : Int)) = true := by simp; omega
      have j2 : decide (j < xs.length) = true := by simp; omega
      obtain ⟨x, hxj⟩ : ∃ x, xs[j]? = some x := ⟨_, List.getElem?_eq_getElem hjl⟩
      obtain ⟨hx1, hx2⟩ := hx x (List.mem_of_getElem? hxj)
      obtain ⟨b, off, cap, e, hc0⟩ := hs.cell hxj
      simp only [Value.slice.injEq] at e
      obtain ⟨rfl, -, rfl⟩ := e
      have hbl : b < W.heap.size := by
        unfold World.cell? at hc0
        split at hc0
        · rename_i h2
          exact (Array.getElem?_eq_some_iff.1 h2).1
        · cases hc0
      have kc : ∀ w', Below W.heap.size W w' → w'.cell? ⟨b, off + j, none⟩ = some (.int .i64 x) := fun w' h => (h.cell (p := ⟨b, off + j, none⟩) hbl).trans hc0
      have kc := Lib.hid kc
      have cr : wr.cell? ⟨b, off + j, none⟩ = some (.int .i64 x) := kc.out _ hQ.out.bel
      clear hc0
      by_cases hin : 0 ≤ x ∧ x < n
      · have x1 : decide (x ≥ 0) = true := by simp; omega
        have x2 : decide (x < n) = true := by simp; omega
        obtain ⟨y, rfl⟩ : ∃ y : Nat, x = y := ⟨x.toNat, by omega⟩
        have hy : y < n.toNat := by omega
        go_wp2_with (first
          | (go_at_call 7; first
            | (refine (qs_yes hQ.out hy (by simp)).mono ?_; rintro e w3 ⟨rfl, hQ1⟩; have hQ1 : Hid (QSt W w3 qb n.toNat [y] [] cn) := Lib.hid hQ1; clear hQ; have c3 : w3.cell? ⟨b, off + j, none⟩ = some (.int .i64 (y : Int)) := kc.out _ hQ1.out.bel)
            | (refine (qs_no hQ1.out (i := (y : Int)) (.inr (.inr (by simp [waitsB])))).mono ?_; rintro e w4 ⟨rfl, hw9⟩; obtain rfl := hw9.symm))
          | (go_at_call 6; refine (qs_take hQ1.out (y := y) (by omega) (by simp) rfl).mono ?_; rintro e w5 ⟨rfl, hQ2⟩; have hQ2 : Hid (QSt W w5 qb n.toNat [] [] (cn + 1)) := Lib.hid (by simpa [remQ] using hQ2); clear hQ1; have c5 : w5.cell? ⟨b, off + j, none⟩ = some (.int .i64 (y : Int)) := kc.out _ hQ2.out.bel)
          | fail)
        go_roundw
        case rel => exact ⟨j + 1, cn + 1, by omega, by omega, by first | rfl | go_num, by first | rfl | go_num, hQ2⟩
        case measure => simp [intOf]; omega
      · have hb : x < 0 ∨ (n.toNat : Int) ≤ x ∨ waitsB [] x = true := by omega
        by_cases h0 : 0 ≤ x
        · have x1 : decide (x ≥ 0) = true := by simp; omega
          have x2 : decide (x < n) = false := by simp; omega
          go_wp2_with (first | (go_at_call 7; refine (qs_no hQ.out hb).mono ?_; rintro e w4 ⟨rfl, hw9⟩; obtain rfl := hw9.symm) | fail)
          go_roundw
          case rel => exact ⟨j + 1, cn, by omega, by omega, by first | rfl | go_num, rfl, hQ⟩
          case measure => simp [intOf]; omega
        · have x1 : decide (x ≥ 0) = false := by simp; omega
          go_wp2_with (first | (go_at_call 7; refine (qs_no hQ.out hb).mono ?_; rintro e w4 ⟨rfl, hw9⟩; obtain rfl := hw9.symm) | fail)
          go_roundw
          case rel => exact ⟨j + 1, cn, by omega, by omega, by first | rfl | go_num, rfl, hQ⟩
          case measure => simp [intOf]; omega
    · have j1 : decide ((j : Int) < (xs.length : Int)) = false := by simp; omega
      have j2 : decide (j < xs.length) = false := by simp; omega
      have hwk := Lib.hid (wakes_any (W := wr) (hG.out.below hQ.out.bel hG.out.lt))
      go_wp2_with (first
        | (go_at_call 10; refine (qs_taken hQ.out).mono ?_; rintro e w4 ⟨rfl, hw9⟩; obtain rfl := hw9.symm)
        | (go_at_call 9; refine (qs_len hQ.out).mono ?_; rintro e w4 ⟨rfl, hw9⟩; obtain rfl := hw9.symm)
        | (go_at_call 12; refine hwk.out.mono ?_; rintro e w9 ⟨rfl, hb9⟩)
        | fail)
      go_ret
      exact ⟨rfl, hQ.out.bel.trans (hb9.mono hQ.out.bel.size)⟩
end
end Go.Proofs.YtcimhljnboeobaaDoor
