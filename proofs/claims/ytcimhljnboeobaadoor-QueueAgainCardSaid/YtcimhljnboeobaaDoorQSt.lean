/- A queue of a caller's. -/
import Derived.Test.YtcimhljnboeobaaDoorQTake
import Derived.Test.YtcimhljnboeobaaDoorQNewW
namespace Go.Proofs.YtcimhljnboeobaaDoor
open Go.RowKit Go.Maps

/-- A queue that was made behind W. -/
def QSt (W w : World) (qb n : Nat) (l : List Nat) (ps : List Int) (taken : Nat) : Prop := ∃ lb cap bs pv, QAt w qb lb cap bs n l pv ps taken ∧ Below W.heap.size W w ∧ (∀ k, QBl qb lb bs pv k → W.heap.size ≤ k) ∧ Gl W
section
variable {W w w' : World} {qb n taken : Nat} {l : List Nat} {ps : List Int}
theorem QSt.below (h : QSt W w qb n l ps taken) (hb : Below w.heap.size w w') : QSt W w' qb n l ps taken := by
  obtain ⟨lb, cap, bs, pv, h1, h2, h3, h4⟩ := h
  exact ⟨lb, cap, bs, pv, h1.below hb, h2.trans (hb.mono h2.size), h3, h4⟩
theorem QSt.bel (h : QSt W w qb n l ps taken) : Below W.heap.size W w := by
  obtain ⟨lb, cap, bs, pv, h1, h2, h3, h4⟩ := h
  exact h2
theorem QSt.rise (h : QSt W w qb n l ps taken) : l.Pairwise (· < ·) := by
  obtain ⟨lb, cap, bs, pv, h1, h2, h3, h4⟩ := h
  exact h1.rise
theorem QSt.lt (h : QSt W w qb n l ps taken) : ∀ x ∈ l, x < n := by
  obtain ⟨lb, cap, bs, pv, h1, h2, h3, h4⟩ := h
  exact h1.lt
theorem QSt.nle (h : QSt W w qb n l ps taken) : n ≤ 262144 := by
  obtain ⟨lb, cap, bs, pv, h1, h2, h3, h4⟩ := h
  exact h1.nle3
theorem qs_new {v : Value} {n' : Int} (hb : Below W.heap.size W w) (G : Gl W) (h : RdQ w v ps) (hcap : ∀ a m c, v = .slice (some a) m c → m ≤ c) (hl : ps.length ≤ 1000000) (hn : n' ≤ 262144) (hn0 : -9223372036854775808 ≤ n') :
    Calls Tryd.prog 11 #[.int .i64 n', v] w fun e w' => ∃ qb, e = .returned (.pointer (some ⟨qb, 0, none⟩)) ∧ QSt W w' qb n'.toNat [] (ps.take 65536) 0 := by
  refine (qnew_any h hcap hl hn hn0).mono ?_
  rintro e w' ⟨qb, lb, cap, bs, pv, rfl, h1, h2, h3⟩
  exact ⟨qb, rfl, lb, cap, bs, pv, h1, hb.trans (h3.mono hb.size), fun k hk => Nat.le_trans hb.size (h2 k hk), G⟩
theorem qs_yes (h : QSt W w qb n l ps taken) {x : Nat} (hx : x < n) (hl : x ∉ l) : Calls Tryd.prog 7 #[.pointer (some ⟨qb, 0, none⟩), .int .i64 x] w fun e w' => e = .returned (.bool true) ∧ QSt W w' qb n (insQ l x) ps taken := by
  obtain ⟨lb, cap, bs, pv, h1, h2, h3, h4⟩ := h
  refine (qadd_yes h1 hx hl).mono ?_
  rintro e w' ⟨rfl, g1, g2⟩
  exact ⟨rfl, lb, cap, bs, pv, g1, h2.trans (g2.below h2.size (fun k hk hs => by
    have := h3 k (hs.elim .inl (fun h => .inr (.inr (.inl h))))
    omega)), h3, h4⟩
theorem qs_no (h : QSt W w qb n l ps taken) {i : Int} (hi : i < 0 ∨ (n : Int) ≤ i ∨ waitsB l i = true) : Calls Tryd.prog 7 #[.pointer (some ⟨qb, 0, none⟩), .int .i64 i] w fun e w' => e = .returned (.bool false) ∧ w' = w := by
  obtain ⟨lb, cap, bs, pv, h1, h2, h3, h4⟩ := h
  exact qadd_no h1 hi
theorem qs_none (h : QSt W w qb n [] ps taken) : Calls Tryd.prog 6 #[.pointer (some ⟨qb, 0, none⟩)] w fun e w' => e = .returned (.tuple #[.int .i64 0, .bool false]) ∧ w' = w := by
  obtain ⟨lb, cap, bs, pv, h1, h2, h3, h4⟩ := h
  exact qtake_none h1
theorem qs_take (h : QSt W w qb n l ps taken) (htk : taken ≤ 1000000000) (hpl : ps.length ≤ 1000000) {y : Nat} (hy : l[rankQ ps l.length]? = some y) : Calls Tryd.prog 6 #[.pointer (some ⟨qb, 0, none⟩)] w fun e w' => e = .returned (.tuple #[.int .i64 y, .bool true]) ∧ QSt W w' qb n (remQ l y) ps.tail (taken + 1) := by
  obtain ⟨lb, cap, bs, pv, h1, h2, h3, h4⟩ := h
  have hg := h4.lt
  have hq := h3 qb (.inl rfl)
  refine (qtake_any h1 (h4.below h2 hg) (by omega) htk hpl hy).mono ?_
  rintro e w' ⟨rfl, pv', g1, g3, g2⟩
  exact ⟨rfl, lb, cap, bs, pv', g1, h2.trans (g2.below h2.size (fun k hk hs => by
    have := h3 k (hs.elim .inl (fun h => .inr (.inr (.inl h))))
    omega)), fun k hk => h3 k (g3 k hk), h4⟩
theorem qs_len (h : QSt W w qb n l ps taken) : Calls Tryd.prog 9 #[.pointer (some ⟨qb, 0, none⟩)] w fun e w' => e = .returned (.int .i64 l.length) ∧ w' = w := by
  obtain ⟨lb, cap, bs, pv, h1, h2, h3, h4⟩ := h
  exact qlen_any h1
theorem qs_taken (h : QSt W w qb n l ps taken) : Calls Tryd.prog 10 #[.pointer (some ⟨qb, 0, none⟩)] w fun e w' => e = .returned (.int .i64 taken) ∧ w' = w := by
  obtain ⟨lb, cap, bs, pv, h1, h2, h3, h4⟩ := h
  exact qtaken_any h1
theorem qs_waits (h : QSt W w qb n l ps taken) (i : Int) : Calls Tryd.prog 8 #[.pointer (some ⟨qb, 0, none⟩), .int .i64 i] w fun e w' => e = .returned (.bool (waitsB l i)) ∧ w' = w := by
  obtain ⟨lb, cap, bs, pv, h1, h2, h3, h4⟩ := h
  exact qwaits_any h1 i
end
section
variable {W w : World} {qb : Nat}
theorem wk1 (h : QSt W w qb 9 [] [1, 5, -1] 0) : Calls Tryd.prog 7 #[.pointer (some ⟨qb, 0, none⟩), .int .i64 3] w fun e w' => e = .returned (.bool true) ∧ QSt W w' qb 9 [3] [1, 5, -1] 0 := qs_yes h (x := 3) (by decide) (by decide)
theorem wk2 (h : QSt W w qb 9 [3] [1, 5, -1] 0) : Calls Tryd.prog 7 #[.pointer (some ⟨qb, 0, none⟩), .int .i64 1] w fun e w' => e = .returned (.bool true) ∧ QSt W w' qb 9 [1, 3] [1, 5, -1] 0 := qs_yes h (x := 1) (by decide) (by decide)
theorem wk3 (h : QSt W w qb 9 [1, 3] [1, 5, -1] 0) : Calls Tryd.prog 7 #[.pointer (some ⟨qb, 0, none⟩), .int .i64 7] w fun e w' => e = .returned (.bool true) ∧ QSt W w' qb 9 [1, 3, 7] [1, 5, -1] 0 := qs_yes h (x := 7) (by decide) (by decide)
theorem wk4 (h : QSt W w qb 9 [1, 3, 7] [1, 5, -1] 0) : Calls Tryd.prog 7 #[.pointer (some ⟨qb, 0, none⟩), .int .i64 3] w fun e w' => e = .returned (.bool false) ∧ QSt W w' qb 9 [1, 3, 7] [1, 5, -1] 0 := (qs_no h (.inr (.inr (by decide)))).mono (fun e w' ⟨h1, h2⟩ => ⟨h1, h2 ▸ h⟩)
theorem wk5 (h : QSt W w qb 9 [1, 3, 7] [1, 5, -1] 0) : Calls Tryd.prog 6 #[.pointer (some ⟨qb, 0, none⟩)] w fun e w' => e = .returned (.tuple #[.int .i64 3, .bool true]) ∧ QSt W w' qb 9 [1, 7] [5, -1] 1 := qs_take h (by decide) (by decide) (y := 3) (by decide)
theorem wk6 (h : QSt W w qb 9 [1, 7] [5, -1] 1) : Calls Tryd.prog 6 #[.pointer (some ⟨qb, 0, none⟩)] w fun e w' => e = .returned (.tuple #[.int .i64 1, .bool true]) ∧ QSt W w' qb 9 [7] [-1] 2 := qs_take h (by decide) (by decide) (y := 1) (by decide)
theorem wk7 (h : QSt W w qb 9 [7] [-1] 2) : Calls Tryd.prog 9 #[.pointer (some ⟨qb, 0, none⟩)] w fun e w' => e = .returned (.int .i64 1) ∧ w' = w := qs_len h
theorem wk8 (h : QSt W w qb 9 [7] [-1] 2) : Calls Tryd.prog 10 #[.pointer (some ⟨qb, 0, none⟩)] w fun e w' => e = .returned (.int .i64 2) ∧ w' = w := qs_taken h
theorem wk9 (h : QSt W w qb 9 [7] [-1] 2) : Calls Tryd.prog 8 #[.pointer (some ⟨qb, 0, none⟩), .int .i64 7] w fun e w' => e = .returned (.bool true) ∧ w' = w := qs_waits h 7
end
set_option maxRecDepth 100000 in
set_option maxHeartbeats 4000000 in
theorem wakes_any {W : World} (G : Gl W) : Calls Tryd.prog 12 #[] W fun e w' => e = .returned (.bool true) ∧ Below W.heap.size W w' := by
  obtain ⟨w1, hw1⟩ : ∃ w1, w1 = W.alloc (.cells #[.int .i64 1, .int .i64 5, .int .i64 (-1)] 3) := ⟨_, rfl⟩
  have hb1 : Below W.heap.size W w1 := by rw [hw1]; exact (Below.refl _ _).alloc (Nat.le_refl _) _
  have hat : w1.heap[W.heap.size]? = some (.cells #[.int .i64 1, .int .i64 5, .int .i64 (-1)] 3 (0, 0)) := by rw [hw1]; exact at_newN rfl
  have hR : RdQ w1 (.slice (some ⟨W.heap.size, 0, none⟩) 3 3) [1, 5, -1] := by
    refine .inr ⟨W.heap.size, 0, 3, rfl, (Array.getElem?_eq_some_iff.1 hat).1, fun i u hu => ?_⟩
    rw [blk_cell hat]
    match i, hu with
    | 0, hu => exact hu
    | 1, hu => exact hu
    | 2, hu => exact hu
    | i + 3, hu => simp at hu
  have hnew := Lib.hid (qs_new (n' := 9) hb1 G hR (fun a m c e => by cases e; exact Nat.le_refl _) (by decide) (by decide) (by decide))
  have hnew : Hid (Calls Tryd.prog 11 #[.int .i64 9, .slice (some ⟨W.heap.size, 0, none⟩) 3 3] w1 fun e w' => ∃ qb, e = .returned (.pointer (some ⟨qb, 0, none⟩)) ∧ QSt W w' qb 9 [] [1, 5, -1] 0) := hnew
  clear hb1 hat hR
  go_enter Tryd.func12, Tryd.ntmps12
  go_wp2_with (first
    | (go_at_call 11; rw [← hw1]; refine hnew.out.mono ?_; rintro e w2 ⟨qb, rfl, hQ0⟩; clear hw1 hnew)
    | (go_at_call 7; first
      | (refine (wk1 hQ0).mono ?_; rintro e w3 ⟨rfl, hQ1⟩; clear hQ0)
      | (refine (wk2 hQ1).mono ?_; rintro e w4 ⟨rfl, hQ2⟩; clear hQ1)
      | (refine (wk3 hQ2).mono ?_; rintro e w5 ⟨rfl, hQ3⟩; clear hQ2)
      | (refine (wk4 hQ3).mono ?_; rintro e w6 ⟨rfl, hQ4⟩; clear hQ3))
    | (go_at_call 6; first
      | (refine (wk5 hQ4).mono ?_; rintro e w7 ⟨rfl, hQ5⟩; clear hQ4)
      | (refine (wk6 hQ5).mono ?_; rintro e w8 ⟨rfl, hQ6⟩; clear hQ5))
    | (go_at_call 9; refine (wk7 hQ6).mono ?_; rintro e w9 ⟨rfl, hw9⟩; obtain rfl := hw9.symm)
    | (go_at_call 10; refine (wk8 hQ6).mono ?_; rintro e w9 ⟨rfl, hw9⟩; obtain rfl := hw9.symm)
    | (go_at_call 8; refine (wk9 hQ6).mono ?_; rintro e w9 ⟨rfl, hw9⟩; obtain rfl := hw9.symm)
    | fail)
  go_ret
  exact ⟨rfl, hQ6.bel⟩
end Go.Proofs.YtcimhljnboeobaaDoor
