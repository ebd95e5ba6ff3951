/- take: how far the lexer goes on. -/
import Derived.Test.YtobfcbmphobmfaaDoorLexA
import Derived.Outline
import Derived.Deep.Draws
import Derived.Deep.LoopGhost
namespace Go.Proofs.YtobfcbmphobmfaaDoor
open Go.RowKit

/-- The lexer in block lb: its line, column and place, its text, its words. -/
def LexAt (w : World) (lb : Nat) (s : ByteArray) (ln cl i : Nat) (v : Value) : Prop := w.heap[lb]? = some (.cells #[.int .i64 ln, .int .i64 cl, .int .i64 i, .string s, v] 49 (0, 0))

section
variable {w w' : World} {lb ln cl i : Nat} {s : ByteArray} {v : Value}

theorem LexAt.lt (h : LexAt w lb s ln cl i v) : lb < w.heap.size := (Array.getElem?_eq_some_iff.1 h).1
theorem LexAt.c0 (h : LexAt w lb s ln cl i v) : w.cell? ⟨lb, 0, none⟩ = some (.int .i64 ln) := blk_cell h 0
theorem LexAt.c1 (h : LexAt w lb s ln cl i v) : w.cell? ⟨lb, 1, none⟩ = some (.int .i64 cl) := blk_cell h 1
theorem LexAt.c2 (h : LexAt w lb s ln cl i v) : w.cell? ⟨lb, 2, none⟩ = some (.int .i64 i) := blk_cell h 2
theorem LexAt.c3 (h : LexAt w lb s ln cl i v) : w.cell? ⟨lb, 3, none⟩ = some (.string s) := blk_cell h 3
theorem LexAt.c4 (h : LexAt w lb s ln cl i v) : w.cell? ⟨lb, 4, none⟩ = some v := blk_cell h 4
theorem LexAt.fr (h : LexAt w lb s ln cl i v) (j : Nat) : w.frozen? ⟨lb, j, none⟩ = false := by
  unfold LexAt at h
  simp [World.frozen?, h]
theorem LexAt.touch {Q : Nat → Prop} (h : LexAt w lb s ln cl i v) (ht : Touch w w' Q) (hn : ¬ Q lb) : LexAt w' lb s ln cl i v := (ht.block lb h.lt hn).trans h
theorem LexAt.drawn (h : LexAt w lb s ln cl i v) (n : Nat) : LexAt (w.drewN n) lb s ln cl i v := h
theorem LexAt.below (h : LexAt w lb s ln cl i v) (hb : Below w.heap.size w w') : LexAt w' lb s ln cl i v := (hb.block lb h.lt).trans h
theorem LexAt.step (h : LexAt w lb s ln cl i v) : LexAt ((w.setCell ⟨lb, 2, none⟩ (.int .i64 ((i : Int) + 1))).setCell ⟨lb, 1, none⟩ (.int .i64 ((cl : Int) + 1))) lb s ln (cl + 1) (i + 1) v := by
  have h1 := blk_set (i := 1) (.int .i64 ((cl : Int) + 1)) (blk_set (i := 2) (.int .i64 ((i : Int) + 1)) h)
  unfold LexAt
  rw [h1]
  rfl

/-- The bytes from a place on. -/
def rest (s : ByteArray) (i : Nat) : List UInt8 := s.data.toList.drop i
theorem rest_at {s : ByteArray} {i : Nat} (h : i < s.size) : rest s i = s[i] :: rest s (i + 1) := by
  unfold rest
  exact List.drop_eq_getElem_cons (by simpa using h)
theorem rest_end {s : ByteArray} {i : Nat} (h : s.size ≤ i) : rest s i = [] := by
  unfold rest
  exact List.drop_eq_nil_of_le (by simpa using h)
/-- How many bytes from a place on are of a kind. -/
def run (p : UInt8 → Bool) (s : ByteArray) (i : Nat) : Nat := ((rest s i).takeWhile p).length
theorem run_yes {p : UInt8 → Bool} {s : ByteArray} {i : Nat} (h : i < s.size) (hp : p s[i] = true) : run p s i = run p s (i + 1) + 1 := by
  unfold run
  rw [rest_at h, List.takeWhile_cons, if_pos hp, List.length_cons]
theorem run_no {p : UInt8 → Bool} {s : ByteArray} {i : Nat} (h : i < s.size) (hp : p s[i] = false) : run p s i = 0 := by
  unfold run
  rw [rest_at h, List.takeWhile_cons, if_neg (by rw [hp]; simp)]
  rfl
theorem run_end {p : UInt8 → Bool} {s : ByteArray} {i : Nat} (h : s.size ≤ i) : run p s i = 0 := by
  unfold run
  rw [rest_end h]
  rfl
theorem run_le (p : UInt8 → Bool) (s : ByteArray) (i : Nat) : run p s i ≤ s.size - i := by
  unfold run rest
  have := List.Sublist.length_le (List.takeWhile_sublist p (l := s.data.toList.drop i))
  simpa using this

set_option maxHeartbeats 4000000 in
theorem take_blank (h : LexAt w lb s ln cl i v) (hi : i ≤ s.size) (hs : s.size ≤ 2000000) (hc : cl ≤ 4000000) :
    Calls Tryd.prog 19 #[.pointer (some ⟨lb, 0, none⟩), .func (.func 18) #[] #[]] w fun e w' => e = .returned (.string (s.extract i (i + run blankB s i))) ∧ LexAt w' lb s ln (cl + run blankB s i) (i + run blankB s i) v ∧ Touch w w' (fun k => k = lb) := by
  have c2 := h.c2
  obtain ⟨K, hK⟩ : ∃ K, K = run blankB s i := ⟨_, rfl⟩
  have hKl := run_le blankB s i
  rw [← hK] at hKl ⊢
  replace hK := Lib.hid hK
  go_enter Tryd.func19, Tryd.ntmps19
  go_wp2_with fail
  go_loopg [] K (fun k wr => ∃ m c : Nat, Hid (m + k = i + K ∧ c + i = cl + m ∧ k = run blankB s m) ∧ i ≤ m ∧ m ≤ s.size ∧ c ≤ 8000000 ∧ LexAt wr lb s ln c m v ∧ Touch w wr (fun k => k = lb))
  case atStart => exact ⟨i, cl, Lib.hid ⟨rfl, by omega, hK.out⟩, Nat.le_refl _, hi, by omega, h, Touch.refl _ _⟩
  case round =>
    obtain ⟨m, c, hr, him, hm, hcb, hL, ht⟩ := hrel
    clear c2 h
    have c2 := hL.c2
    have c3 := hL.c3
    have c1 := hL.c1
    have f1 := hL.fr 1
    have f2 := hL.fr 2
    by_cases hlt : m < s.size
    · cases hb : blankB s[m] with
      | true =>
        have hcc := Lib.hid (blank_any s[m])
        rw [hb] at hcc
        have i1 : (m : Int) < (s.size : Int) := by omega
        have hr2 := Lib.hid (run_yes hlt hb)
        clear hb
        go_wp2_with fail
        go_quiet ((go_at_call 18; exact Calls.quiet_of_same (hcc.out _)))
        have hL2 := hL.drawn nq
        have ht2 := ht.trans (Touch.drewN wr nq _)
        clear hL ht c1 c2 c3 f1 f2
        generalize wr.drewN nq = wx at hL2 ht2 ⊢
        have c1 := hL2.c1
        have c2 := hL2.c2
        have f1 := hL2.fr 1
        have f2 := hL2.fr 2
        have b1 : (c : Int) + 1 < 9223372036854775808 := by omega
        go_wp2_with fail
        have hL3 := hL2.step
        have ht3 := (ht2.setCell (a := ⟨lb, 2, none⟩) (fun _ => rfl) (.int .i64 ((m : Int) + 1))).setCell (a := ⟨lb, 1, none⟩) (fun _ => rfl) (.int .i64 ((c : Int) + 1))
        obtain ⟨e1, e2, e3⟩ := hr.out
        have e4 := hr2.out
        go_roundg (gk - 1)
        case rel => exact ⟨m + 1, c + 1, Lib.hid ⟨by omega, by omega, by omega⟩, by omega, by omega, by omega, hL3, ht3⟩
        case measure => omega
      | false =>
        have hcc := Lib.hid (blank_any s[m])
        rw [hb] at hcc
        have i1 : (m : Int) < (s.size : Int) := by omega
        have hr2 := Lib.hid (run_no hlt hb)
        clear hb
        go_wp2_with fail
        go_quiet ((go_at_call 18; exact Calls.quiet_of_same (hcc.out _)))
        have hL2 := hL.drawn nq
        have ht2 := ht.trans (Touch.drewN wr nq _)
        clear hL ht c1 c2 c3 f1 f2
        generalize wr.drewN nq = wx at hL2 ht2 ⊢
        have c2 := hL2.c2
        have c3 := hL2.c3
        have b2 : (i : Int) ≤ (m : Int) := by omega
        have b3 : (m : Int) ≤ (s.size : Int) := by omega
        go_wp2_with fail
        go_quiet (fail)
        go_wp2_with fail
        obtain ⟨e1, e2, e3⟩ := hr.out
        have e4 := hr2.out
        obtain rfl : m = i + K := by omega
        obtain rfl : c = cl + K := by omega
        go_ret
        exact ⟨rfl, hL2.drawn nq, ht2.trans (Touch.drewN wx nq _)⟩
    · have hr2 := Lib.hid (run_end (p := blankB) (s := s) (i := m) (by omega))
      have g1 : decide ((m : Int) < (s.size : Int)) = false := by simp; omega
      go_wp2_with fail
      go_quiet (fail)
      have hL2 := hL.drawn nq
      have ht2 := ht.trans (Touch.drewN wr nq _)
      clear hL ht c1 c2 c3 f1 f2
      generalize wr.drewN nq = wx at hL2 ht2 ⊢
      have c2 := hL2.c2
      have c3 := hL2.c3
      have b2 : (i : Int) ≤ (m : Int) := by omega
      have b3 : (m : Int) ≤ (s.size : Int) := by omega
      go_wp2_with fail
      go_quiet (fail)
      go_wp2_with fail
      obtain ⟨e1, e2, e3⟩ := hr.out
      have e4 := hr2.out
      obtain rfl : m = i + K := by omega
      obtain rfl : c = cl + K := by omega
      go_ret
      exact ⟨rfl, hL2.drawn nq, ht2.trans (Touch.drewN wx nq _)⟩

set_option maxHeartbeats 4000000 in
theorem take_line (h : LexAt w lb s ln cl i v) (hi : i ≤ s.size) (hs : s.size ≤ 2000000) (hc : cl ≤ 4000000) :
    Calls Tryd.prog 19 #[.pointer (some ⟨lb, 0, none⟩), .func (.func 20) #[] #[]] w fun e w' => e = .returned (.string (s.extract i (i + run lineB s i))) ∧ LexAt w' lb s ln (cl + run lineB s i) (i + run lineB s i) v ∧ Touch w w' (fun k => k = lb) := by
  have c2 := h.c2
  obtain ⟨K, hK⟩ : ∃ K, K = run lineB s i := ⟨_, rfl⟩
  have hKl := run_le lineB s i
  rw [← hK] at hKl ⊢
  replace hK := Lib.hid hK
  go_enter Tryd.func19, Tryd.ntmps19
  go_wp2_with fail
  go_loopg [] K (fun k wr => ∃ m c : Nat, Hid (m + k = i + K ∧ c + i = cl + m ∧ k = run lineB s m) ∧ i ≤ m ∧ m ≤ s.size ∧ c ≤ 8000000 ∧ LexAt wr lb s ln c m v ∧ Touch w wr (fun k => k = lb))
  case atStart => exact ⟨i, cl, Lib.hid ⟨rfl, by omega, hK.out⟩, Nat.le_refl _, hi, by omega, h, Touch.refl _ _⟩
  case round =>
    obtain ⟨m, c, hr, him, hm, hcb, hL, ht⟩ := hrel
    clear c2 h
    have c2 := hL.c2
    have c3 := hL.c3
    have c1 := hL.c1
    have f1 := hL.fr 1
    have f2 := hL.fr 2
    by_cases hlt : m < s.size
    · cases hb : lineB s[m] with
      | true =>
        have hcc := Lib.hid (line_any s[m])
        rw [hb] at hcc
        have i1 : (m : Int) < (s.size : Int) := by omega
        have hr2 := Lib.hid (run_yes hlt hb)
        clear hb
        go_wp2_with fail
        go_quiet ((go_at_call 20; exact Calls.quiet_of_same (hcc.out _)))
        have hL2 := hL.drawn nq
        have ht2 := ht.trans (Touch.drewN wr nq _)
        clear hL ht c1 c2 c3 f1 f2
        generalize wr.drewN nq = wx at hL2 ht2 ⊢
        have c1 := hL2.c1
        have c2 := hL2.c2
        have f1 := hL2.fr 1
        have f2 := hL2.fr 2
        have b1 : (c : Int) + 1 < 9223372036854775808 := by omega
        go_wp2_with fail
        have hL3 := hL2.step
        have ht3 := (ht2.setCell (a := ⟨lb, 2, none⟩) (fun _ => rfl) (.int .i64 ((m : Int) + 1))).setCell (a := ⟨lb, 1, none⟩) (fun _ => rfl) (.int .i64 ((c : Int) + 1))
        obtain ⟨e1, e2, e3⟩ := hr.out
        have e4 := hr2.out
        go_roundg (gk - 1)
        case rel => exact ⟨m + 1, c + 1, Lib.hid ⟨by omega, by omega, by omega⟩, by omega, by omega, by omega, hL3, ht3⟩
        case measure => omega
      | false =>
        have hcc := Lib.hid (line_any s[m])
        rw [hb] at hcc
        have i1 : (m : Int) < (s.size : Int) := by omega
        have hr2 := Lib.hid (run_no hlt hb)
        clear hb
        go_wp2_with fail
        go_quiet ((go_at_call 20; exact Calls.quiet_of_same (hcc.out _)))
        have hL2 := hL.drawn nq
        have ht2 := ht.trans (Touch.drewN wr nq _)
        clear hL ht c1 c2 c3 f1 f2
        generalize wr.drewN nq = wx at hL2 ht2 ⊢
        have c2 := hL2.c2
        have c3 := hL2.c3
        have b2 : (i : Int) ≤ (m : Int) := by omega
        have b3 : (m : Int) ≤ (s.size : Int) := by omega
        go_wp2_with fail
        go_quiet (fail)
        go_wp2_with fail
        obtain ⟨e1, e2, e3⟩ := hr.out
        have e4 := hr2.out
        obtain rfl : m = i + K := by omega
        obtain rfl : c = cl + K := by omega
        go_ret
        exact ⟨rfl, hL2.drawn nq, ht2.trans (Touch.drewN wx nq _)⟩
    · have hr2 := Lib.hid (run_end (p := lineB) (s := s) (i := m) (by omega))
      have g1 : decide ((m : Int) < (s.size : Int)) = false := by simp; omega
      go_wp2_with fail
      go_quiet (fail)
      have hL2 := hL.drawn nq
      have ht2 := ht.trans (Touch.drewN wr nq _)
      clear hL ht c1 c2 c3 f1 f2
      generalize wr.drewN nq = wx at hL2 ht2 ⊢
      have c2 := hL2.c2
      have c3 := hL2.c3
      have b2 : (i : Int) ≤ (m : Int) := by omega
      have b3 : (m : Int) ≤ (s.size : Int) := by omega
      go_wp2_with fail
      go_quiet (fail)
      go_wp2_with fail
      obtain ⟨e1, e2, e3⟩ := hr.out
      have e4 := hr2.out
      obtain rfl : m = i + K := by omega
      obtain rfl : c = cl + K := by omega
      go_ret
      exact ⟨rfl, hL2.drawn nq, ht2.trans (Touch.drewN wx nq _)⟩

set_option maxHeartbeats 4000000 in
theorem take_part (h : LexAt w lb s ln cl i v) (hi : i ≤ s.size) (hs : s.size ≤ 2000000) (hc : cl ≤ 4000000) :
    Calls Tryd.prog 19 #[.pointer (some ⟨lb, 0, none⟩), .func (.func 23) #[] #[]] w fun e w' => e = .returned (.string (s.extract i (i + run partB s i))) ∧ LexAt w' lb s ln (cl + run partB s i) (i + run partB s i) v ∧ Touch w w' (fun k => k = lb) := by
  have c2 := h.c2
  obtain ⟨K, hK⟩ : ∃ K, K = run partB s i := ⟨_, rfl⟩
  have hKl := run_le partB s i
  rw [← hK] at hKl ⊢
  replace hK := Lib.hid hK
  go_enter Tryd.func19, Tryd.ntmps19
  go_wp2_with fail
  go_loopg [] K (fun k wr => ∃ m c : Nat, Hid (m + k = i + K ∧ c + i = cl + m ∧ k = run partB s m) ∧ i ≤ m ∧ m ≤ s.size ∧ c ≤ 8000000 ∧ LexAt wr lb s ln c m v ∧ Touch w wr (fun k => k = lb))
  case atStart => exact ⟨i, cl, Lib.hid ⟨rfl, by omega, hK.out⟩, Nat.le_refl _, hi, by omega, h, Touch.refl _ _⟩
  case round =>
    obtain ⟨m, c, hr, him, hm, hcb, hL, ht⟩ := hrel
    clear c2 h
    have c2 := hL.c2
    have c3 := hL.c3
    have c1 := hL.c1
    have f1 := hL.fr 1
    have f2 := hL.fr 2
    by_cases hlt : m < s.size
    · cases hb : partB s[m] with
      | true =>
        have hcc := Lib.hid (part_any s[m])
        rw [hb] at hcc
        have i1 : (m : Int) < (s.size : Int) := by omega
        have hr2 := Lib.hid (run_yes hlt hb)
        clear hb
        go_wp2_with fail
        go_quiet ((go_at_call 23; exact Calls.quiet_of_same (hcc.out _)))
        have hL2 := hL.drawn nq
        have ht2 := ht.trans (Touch.drewN wr nq _)
        clear hL ht c1 c2 c3 f1 f2
        generalize wr.drewN nq = wx at hL2 ht2 ⊢
        have c1 := hL2.c1
        have c2 := hL2.c2
        have f1 := hL2.fr 1
        have f2 := hL2.fr 2
        have b1 : (c : Int) + 1 < 9223372036854775808 := by omega
        go_wp2_with fail
        have hL3 := hL2.step
        have ht3 := (ht2.setCell (a := ⟨lb, 2, none⟩) (fun _ => rfl) (.int .i64 ((m : Int) + 1))).setCell (a := ⟨lb, 1, none⟩) (fun _ => rfl) (.int .i64 ((c : Int) + 1))
        obtain ⟨e1, e2, e3⟩ := hr.out
        have e4 := hr2.out
        go_roundg (gk - 1)
        case rel => exact ⟨m + 1, c + 1, Lib.hid ⟨by omega, by omega, by omega⟩, by omega, by omega, by omega, hL3, ht3⟩
        case measure => omega
      | false =>
        have hcc := Lib.hid (part_any s[m])
        rw [hb] at hcc
        have i1 : (m : Int) < (s.size : Int) := by omega
        have hr2 := Lib.hid (run_no hlt hb)
        clear hb
        go_wp2_with fail
        go_quiet ((go_at_call 23; exact Calls.quiet_of_same (hcc.out _)))
        have hL2 := hL.drawn nq
        have ht2 := ht.trans (Touch.drewN wr nq _)
        clear hL ht c1 c2 c3 f1 f2
        generalize wr.drewN nq = wx at hL2 ht2 ⊢
        have c2 := hL2.c2
        have c3 := hL2.c3
        have b2 : (i : Int) ≤ (m : Int) := by omega
        have b3 : (m : Int) ≤ (s.size : Int) := by omega
        go_wp2_with fail
        go_quiet (fail)
        go_wp2_with fail
        obtain ⟨e1, e2, e3⟩ := hr.out
        have e4 := hr2.out
        obtain rfl : m = i + K := by omega
        obtain rfl : c = cl + K := by omega
        go_ret
        exact ⟨rfl, hL2.drawn nq, ht2.trans (Touch.drewN wx nq _)⟩
    · have hr2 := Lib.hid (run_end (p := partB) (s := s) (i := m) (by omega))
      have g1 : decide ((m : Int) < (s.size : Int)) = false := by simp; omega
      go_wp2_with fail
      go_quiet (fail)
      have hL2 := hL.drawn nq
      have ht2 := ht.trans (Touch.drewN wr nq _)
      clear hL ht c1 c2 c3 f1 f2
      generalize wr.drewN nq = wx at hL2 ht2 ⊢
      have c2 := hL2.c2
      have c3 := hL2.c3
      have b2 : (i : Int) ≤ (m : Int) := by omega
      have b3 : (m : Int) ≤ (s.size : Int) := by omega
      go_wp2_with fail
      go_quiet (fail)
      go_wp2_with fail
      obtain ⟨e1, e2, e3⟩ := hr.out
      have e4 := hr2.out
      obtain rfl : m = i + K := by omega
      obtain rfl : c = cl + K := by omega
      go_ret
      exact ⟨rfl, hL2.drawn nq, ht2.trans (Touch.drewN wx nq _)⟩

set_option maxHeartbeats 4000000 in
theorem take_digit (h : LexAt w lb s ln cl i v) (hi : i ≤ s.size) (hs : s.size ≤ 2000000) (hc : cl ≤ 4000000) :
    Calls Tryd.prog 19 #[.pointer (some ⟨lb, 0, none⟩), .func (.func 24) #[] #[]] w fun e w' => e = .returned (.string (s.extract i (i + run digitB s i))) ∧ LexAt w' lb s ln (cl + run digitB s i) (i + run digitB s i) v ∧ Touch w w' (fun k => k = lb) := by
  have c2 := h.c2
  obtain ⟨K, hK⟩ : ∃ K, K = run digitB s i := ⟨_, rfl⟩
  have hKl := run_le digitB s i
  rw [← hK] at hKl ⊢
  replace hK := Lib.hid hK
  go_enter Tryd.func19, Tryd.ntmps19
  go_wp2_with fail
  go_loopg [] K (fun k wr => ∃ m c : Nat, Hid (m + k = i + K ∧ c + i = cl + m ∧ k = run digitB s m) ∧ i ≤ m ∧ m ≤ s.size ∧ c ≤ 8000000 ∧ LexAt wr lb s ln c m v ∧ Touch w wr (fun k => k = lb))
  case atStart => exact ⟨i, cl, Lib.hid ⟨rfl, by omega, hK.out⟩, Nat.le_refl _, hi, by omega, h, Touch.refl _ _⟩
  case round =>
    obtain ⟨m, c, hr, him, hm, hcb, hL, ht⟩ := hrel
    clear c2 h
    have c2 := hL.c2
    have c3 := hL.c3
    have c1 := hL.c1
    have f1 := hL.fr 1
    have f2 := hL.fr 2
    by_cases hlt : m < s.size
    · cases hb : digitB s[m] with
      | true =>
        have hcc := Lib.hid (digit_any s[m])
        rw [hb] at hcc
        have i1 : (m : Int) < (s.size : Int) := by omega
        have hr2 := Lib.hid (run_yes hlt hb)
        clear hb
        go_wp2_with fail
        go_quiet ((go_at_call 24; exact Calls.quiet_of_same (hcc.out _)))
        have hL2 := hL.drawn nq
        have ht2 := ht.trans (Touch.drewN wr nq _)
        clear hL ht c1 c2 c3 f1 f2
        generalize wr.drewN nq = wx at hL2 ht2 ⊢
        have c1 := hL2.c1
        have c2 := hL2.c2
        have f1 := hL2.fr 1
        have f2 := hL2.fr 2
        have b1 : (c : Int) + 1 < 9223372036854775808 := by omega
        go_wp2_with fail
        have hL3 := hL2.step
        have ht3 := (ht2.setCell (a := ⟨lb, 2, none⟩) (fun _ => rfl) (.int .i64 ((m : Int) + 1))).setCell (a := ⟨lb, 1, none⟩) (fun _ => rfl) (.int .i64 ((c : Int) + 1))
        obtain ⟨e1, e2, e3⟩ := hr.out
        have e4 := hr2.out
        go_roundg (gk - 1)
        case rel => exact ⟨m + 1, c + 1, Lib.hid ⟨by omega, by omega, by omega⟩, by omega, by omega, by omega, hL3, ht3⟩
        case measure => omega
      | false =>
        have hcc := Lib.hid (digit_any s[m])
        rw [hb] at hcc
        have i1 : (m : Int) < (s.size : Int) := by omega
        have hr2 := Lib.hid (run_no hlt hb)
        clear hb
        go_wp2_with fail
        go_quiet ((go_at_call 24; exact Calls.quiet_of_same (hcc.out _)))
        have hL2 := hL.drawn nq
        have ht2 := ht.trans (Touch.drewN wr nq _)
        clear hL ht c1 c2 c3 f1 f2
        generalize wr.drewN nq = wx at hL2 ht2 ⊢
        have c2 := hL2.c2
        have c3 := hL2.c3
        have b2 : (i : Int) ≤ (m : Int) := by omega
        have b3 : (m : Int) ≤ (s.size : Int) := by omega
        go_wp2_with fail
        go_quiet (fail)
        go_wp2_with fail
        obtain ⟨e1, e2, e3⟩ := hr.out
        have e4 := hr2.out
        obtain rfl : m = i + K := by omega
        obtain rfl : c = cl + K := by omega
        go_ret
        exact ⟨rfl, hL2.drawn nq, ht2.trans (Touch.drewN wx nq _)⟩
    · have hr2 := Lib.hid (run_end (p := digitB) (s := s) (i := m) (by omega))
      have g1 : decide ((m : Int) < (s.size : Int)) = false := by simp; omega
      go_wp2_with fail
      go_quiet (fail)
      have hL2 := hL.drawn nq
      have ht2 := ht.trans (Touch.drewN wr nq _)
      clear hL ht c1 c2 c3 f1 f2
      generalize wr.drewN nq = wx at hL2 ht2 ⊢
      have c2 := hL2.c2
      have c3 := hL2.c3
      have b2 : (i : Int) ≤ (m : Int) := by omega
      have b3 : (m : Int) ≤ (s.size : Int) := by omega
      go_wp2_with fail
      go_quiet (fail)
      go_wp2_with fail
      obtain ⟨e1, e2, e3⟩ := hr.out
      have e4 := hr2.out
      obtain rfl : m = i + K := by omega
      obtain rfl : c = cl + K := by omega
      go_ret
      exact ⟨rfl, hL2.drawn nq, ht2.trans (Touch.drewN wx nq _)⟩
end
end Go.Proofs.YtobfcbmphobmfaaDoor
