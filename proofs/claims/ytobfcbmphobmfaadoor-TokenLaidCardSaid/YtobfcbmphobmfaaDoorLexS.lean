/- take, of just one byte. -/
import Derived.Test.YtobfcbmphobmfaaDoorLexT
namespace Go.Proofs.YtobfcbmphobmfaaDoor
open Go.RowKit

section
variable {w w' : World} {lb ln cl i m pl pf : Nat} {s : ByteArray} {v : Value}

theorem one_any (hp : w.cell? ⟨pl, 0, none⟩ = some (.pointer (some ⟨lb, 0, none⟩))) (hf : w.cell? ⟨pf, 0, none⟩ = some (.int .i64 i)) (h : LexAt w lb s ln cl m v) (x : Int) {q : Bool} (hq : decide (m = i) = q) :
    Calls Tryd.prog 27 #[.int .u8 x, .pointer (some ⟨pl, 0, none⟩), .pointer (some ⟨pf, 0, none⟩)] w fun e w' => e = .returned (.bool q) ∧ ∃ n, w' = w.drewN n := by
  have c2 := h.c2
  have e1 : ((m : Int) == (i : Int)) = q := by rw [← hq, Bool.eq_iff_iff]; simp; omega
  clear hq h
  go_enter Tryd.func27, Tryd.ntmps27
  go_wp2_with fail
  go_quiet (fail)
  go_wp2_with fail
  go_ret
  exact ⟨rfl, _, rfl⟩

set_option maxHeartbeats 4000000 in
theorem take_one (h : LexAt w lb s ln cl i v) (hi : i < s.size) (hs : s.size ≤ 2000000) (hc : cl ≤ 4000000) (hp : w.cell? ⟨pl, 0, none⟩ = some (.pointer (some ⟨lb, 0, none⟩))) (hf : w.cell? ⟨pf, 0, none⟩ = some (.int .i64 i)) (n1 : pl ≠ lb) (n2 : pf ≠ lb) (l1 : pl < w.heap.size) (l2 : pf < w.heap.size) :
    Calls Tryd.prog 19 #[.pointer (some ⟨lb, 0, none⟩), .func (.func 27) #[] #[.pointer (some ⟨pl, 0, none⟩), .pointer (some ⟨pf, 0, none⟩)]] w fun e w' => e = .returned (.string (s.extract i (i + 1))) ∧ LexAt w' lb s ln (cl + 1) (i + 1) v ∧ Touch w w' (fun k => k = lb) := by
  have c2 := h.c2
  go_enter Tryd.func19, Tryd.ntmps19
  go_wp2_with fail
  go_loopg [] 1 (fun k wr => ∃ m c : Nat, Hid (m + k = i + 1 ∧ c + i = cl + m) ∧ m ≤ i + 1 ∧ i ≤ m ∧ m ≤ s.size ∧ c ≤ 8000000 ∧ LexAt wr lb s ln c m v ∧ Touch w wr (fun k => k = lb))
  case atStart => exact ⟨i, cl, Lib.hid ⟨rfl, by omega⟩, by omega, Nat.le_refl _, by omega, by omega, h, Touch.refl _ _⟩
  case round =>
    obtain ⟨m, c, hr, hmi, him, hm, hcb, hL, ht⟩ := hrel
    have hp2 := (World.cell?_of_block (w := w) (ht.block pl l1 n1)).trans hp
    have hf2 := (World.cell?_of_block (w := w) (ht.block pf l2 n2)).trans hf
    clear c2 h hp hf
    have c2 := hL.c2
    have c3 := hL.c3
    have c1 := hL.c1
    have f1 := hL.fr 1
    have f2 := hL.fr 2
    by_cases hlt : m < s.size
    · have i1 : (m : Int) < (s.size : Int) := by omega
      by_cases he : m = i
      · have hcc : ∀ n', Calls Tryd.prog 27 #[.int .u8 s[m].toNat, .pointer (some ⟨pl, 0, none⟩), .pointer (some ⟨pf, 0, none⟩)] (wr.drewN n') fun e w'' => e = .returned (.bool true) ∧ ∃ n, w'' = wr.drewN n := fun n' => (one_any (w := wr.drewN n') hp2 hf2 (hL.drawn n') _ (decide_eq_true he)).mono fun _ _ ⟨e, n, h⟩ => ⟨e, n' + n, h.trans (World.drewN_drewN _ _ _)⟩
        replace hcc := Lib.hid hcc
        replace he := Lib.hid he
        clear hp2 hf2
        go_wp2_with fail
        go_quiet ((go_at_call 27; exact hcc.out _))
        have hL2 := hL.drawn nq
        have ht2 := ht.trans (Touch.drewN wr nq _)
        clear hL ht c1 c2 c3 f1 f2 hcc
        generalize wr.drewN nq = wx at hL2 ht2 ⊢
        have c1 := hL2.c1
        have c2 := hL2.c2
        have f1 := hL2.fr 1
        have f2 := hL2.fr 2
        have b1 : (c : Int) + 1 < 9223372036854775808 := by omega
        go_wp2_with fail
        have hL3 := hL2.step
        have ht3 := (ht2.setCell (a := ⟨lb, 2, none⟩) (fun _ => rfl) (.int .i64 ((m : Int) + 1))).setCell (a := ⟨lb, 1, none⟩) (fun _ => rfl) (.int .i64 ((c : Int) + 1))
        obtain ⟨e1, e2⟩ := hr.out
        have e4 := he.out
        go_roundg (gk - 1)
        case rel => exact ⟨m + 1, c + 1, Lib.hid ⟨by omega, by omega⟩, by omega, by omega, by omega, by omega, hL3, ht3⟩
        case measure => omega
      · have hcc : ∀ n', Calls Tryd.prog 27 #[.int .u8 s[m].toNat, .pointer (some ⟨pl, 0, none⟩), .pointer (some ⟨pf, 0, none⟩)] (wr.drewN n') fun e w'' => e = .returned (.bool false) ∧ ∃ n, w'' = wr.drewN n := fun n' => (one_any (w := wr.drewN n') hp2 hf2 (hL.drawn n') _ (decide_eq_false he)).mono fun _ _ ⟨e, n, h⟩ => ⟨e, n' + n, h.trans (World.drewN_drewN _ _ _)⟩
        replace hcc := Lib.hid hcc
        have he' : m = i + 1 := by omega
        replace he' := Lib.hid he'
        clear hp2 hf2 he
        go_wp2_with fail
        go_quiet ((go_at_call 27; exact hcc.out _))
        have hL2 := hL.drawn nq
        have ht2 := ht.trans (Touch.drewN wr nq _)
        clear hL ht c1 c2 c3 f1 f2 hcc
        generalize wr.drewN nq = wx at hL2 ht2 ⊢
        have c2 := hL2.c2
        have c3 := hL2.c3
        have b2 : (i : Int) ≤ (m : Int) := by omega
        have b3 : (m : Int) ≤ (s.size : Int) := by omega
        go_wp2_with fail
        go_quiet (fail)
        go_wp2_with fail
        obtain ⟨e1, e2⟩ := hr.out
        obtain rfl := he'.out
        obtain rfl : c = cl + 1 := by omega
        go_ret
        exact ⟨rfl, hL2.drawn nq, ht2.trans (Touch.drewN wx nq _)⟩
    · have g1 : decide ((m : Int) < (s.size : Int)) = false := by simp; omega
      have he' : m = i + 1 := by omega
      replace he' := Lib.hid he'
      clear hp2 hf2
      go_wp2_with fail
      go_quiet (fail)
      have hL2 := hL.drawn nq
      have ht2 := ht.trans (Touch.drewN wr nq _)
      clear hL ht c1 c2 c3 f1 f2
      generalize wr.drewN nq = wx at hL2 ht2 ⊢
      have c2 := hL2.c2
      have c3 := hL2.c3
      have b2 : (i : Int) ≤ (m : Int) := by omega
      have b3 : (m : Int) ≤ (s.size : Int) := by omega
      go_wp2_with fail
      go_quiet (fail)
      go_wp2_with fail
      obtain ⟨e1, e2⟩ := hr.out
      obtain rfl := he'.out
      obtain rfl : c = cl + 1 := by omega
      go_ret
      exact ⟨rfl, hL2.drawn nq, ht2.trans (Touch.drewN wx nq _)⟩
end
end Go.Proofs.YtobfcbmphobmfaaDoor
