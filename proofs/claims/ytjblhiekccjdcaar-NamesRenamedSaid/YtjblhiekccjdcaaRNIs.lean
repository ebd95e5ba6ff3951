/- names.Is: what a name is. -/
import Derived.Test.YtjblhiekccjdcaaRApi
import Derived.WalkLawsBesides
import Derived.Deep.QuietTactic
import Derived.BigQuiet
import Derived.Lib.SlBytesConst
import Derived.Deep.CutRange
import Derived.Deep.CutBlock
import Derived.Outline
import Derived.Lib.Bytes
namespace Go.Proofs.YtjblhiekccjdcaaR
open Go.RowKit Go.Maps

theorem nm_eqB (b c : UInt8) : ((b.toNat : Int) == (c.toNat : Int)) = (b == c) := by
  rw [Bool.eq_iff_iff]
  simp
  constructor
  · intro h
    exact UInt8.toNat_inj.1 (by omega)
  · rintro rfl
    rfl
theorem nm_geB (b c : UInt8) : decide ((b.toNat : Int) ≥ (c.toNat : Int)) = decide (c ≤ b) := by
  rw [Bool.eq_iff_iff]
  simp [UInt8.le_iff_toNat_le]
theorem nm_leB (b c : UInt8) : decide ((b.toNat : Int) ≤ (c.toNat : Int)) = decide (b ≤ c) := by
  rw [Bool.eq_iff_iff]
  simp [UInt8.le_iff_toNat_le]
def nmLetterB (b : UInt8) : Bool := ((decide (97 ≤ b) && decide (b ≤ 122)) || (decide (65 ≤ b) && decide (b ≤ 90))) || (b == 95)
def nmOkB (b : UInt8) : Bool := nmLetterB b || ((b == 46) || (decide (48 ≤ b) && decide (b ≤ 57)))
def nmHeadB (l : List UInt8) : Bool := match l with | c :: _ => nmLetterB c | [] => false
/-- What Is tells. -/
def isName (s : ByteArray) : Bool := decide (s.size ≤ 64) && (!(s.toList == [110, 117, 108, 108]) && (nmHeadB s.data.toList && s.data.toList.all nmOkB))

theorem nm_letter_any (b : UInt8) (w : World) : Calls Try.prog 20 #[.int .u8 b.toNat] w fun e w' => e = .returned (.bool (nmLetterB b)) ∧ w = w' := by
  have e1 : decide ((b.toNat : Int) ≥ 97) = decide (97 ≤ b) := nm_geB b 97
  have e2 : decide ((b.toNat : Int) ≤ 122) = decide (b ≤ 122) := nm_leB b 122
  have e3 : decide ((b.toNat : Int) ≥ 65) = decide (65 ≤ b) := nm_geB b 65
  have e4 : decide ((b.toNat : Int) ≤ 90) = decide (b ≤ 90) := nm_leB b 90
  have e5 : ((b.toNat : Int) == 95) = (b == 95) := nm_eqB b 95
  unfold nmLetterB
  generalize decide (97 ≤ b) = q1 at *
  generalize decide (b ≤ 122) = q2 at *
  generalize decide (65 ≤ b) = q3 at *
  generalize decide (b ≤ 90) = q4 at *
  generalize (b == 95) = q5 at *
  cases q1 <;> cases q2 <;> cases q3 <;> cases q4 <;> cases q5 <;> (go_enter Try.func20, Try.ntmps20; go_wp2; go_ret; exact ⟨rfl, rfl⟩)

theorem nm_all_take (s : ByteArray) (k : Nat) (h : k < s.size) (p : UInt8 → Bool) : (s.data.toList.take (k + 1)).all p = ((s.data.toList.take k).all p && p s[k]) := by
  rw [List.take_succ_eq_append_getElem (by simpa using h), List.all_append]
  simp
  rfl
theorem nm_all_false {l : List UInt8} {k : Nat} {p : UInt8 → Bool} (h : (l.take k).all p = false) : l.all p = false := by
  rw [Bool.eq_false_iff] at h ⊢
  intro ha
  apply h
  rw [List.all_eq_true] at ha ⊢
  exact fun x hx => ha x (List.mem_of_mem_take hx)

set_option maxHeartbeats 1000000 in
theorem nm_is_any (s : ByteArray) (w : World) (hs : s.size ≤ maxLen) : Calls Try.prog 7 #[.string s] w fun e w' => e = .returned (.bool (isName s)) ∧ w = w' := by
  unfold maxLen at hs
  by_cases h1 : s.size = 0
  · have e1 : s.toList.isEmpty = true := by rw [Lib.toList_data]; simp; exact Array.eq_empty_of_size_eq_zero h1
    have er : isName s = false := by
      unfold isName nmHeadB
      rw [show s.data.toList = [] from by simp; exact Array.eq_empty_of_size_eq_zero h1]
      simp
    rw [er]
    clear er
    go_enter Try.func7, Try.ntmps7
    go_wp2_with fail
    go_ret
    exact ⟨rfl, rfl⟩
  have e1 : s.toList.isEmpty = false := by
    rw [Lib.toList_data, Bool.eq_false_iff]; simp; intro h; exact h1 (by rw [← ByteArray.size_data, h]; rfl)
  by_cases h2 : s.size ≤ 64
  case neg =>
    have er : isName s = false := by unfold isName; simp [h2]
    rw [er]
    clear er
    have e2 : decide ((s.size : Int) > 64) = true := by simp; omega
    have e2n : decide (64 < s.size) = true := by simp; omega
    go_enter Try.func7, Try.ntmps7
    go_wp2_with fail
    go_ret
    exact ⟨rfl, rfl⟩
  have e2 : decide ((s.size : Int) > 64) = false := by simp; omega
  have e2n : decide (64 < s.size) = false := by simp; omega
  by_cases h3 : (s.toList == [110, 117, 108, 108]) = true
  · have er : isName s = false := by unfold isName; simp [h3]
    rw [er]
    clear er
    go_enter Try.func7, Try.ntmps7
    go_wp2_with fail
    go_ret
    exact ⟨rfl, rfl⟩
  replace h3 : (s.toList == [110, 117, 108, 108]) = false := by simpa using h3
  have h0 : 0 < s.size := by omega
  have er : isName s = (nmLetterB s[0] && s.data.toList.all nmOkB) := by
    unfold isName nmHeadB
    cases hl : s.data.toList with
    | nil =>
      exfalso
      have h9 : s.data.toList.length = 0 := by rw [hl]; rfl
      have h8 : s.data.size = 0 := by simpa using h9
      exact h1 h8
    | cons c r =>
      have : s[0] = c := by
        show s.data[0] = c
        have := Array.getElem_toList (xs := s.data) (i := 0) (h := h0)
        simp only [hl] at this
        exact this.symm
      rw [h3, this]
      simp [h2]
  rw [er]
  have k1 := Lib.hid (nm_letter_any s[0] w)
  generalize hp : nmLetterB s[0] = p at *
  generalize hA : s.data.toList.all nmOkB = A at *
  replace hA := Lib.hid hA
  replace hp := Lib.hid hp
  replace er := Lib.hid er
  cases p with
  | false =>
    go_enter Try.func7, Try.ntmps7
    go_wp2_with (go_at_call 20; refine k1.out.mono ?_; rintro e w' ⟨rfl, rfl⟩)
    go_ret
    exact ⟨rfl, rfl⟩
  | true =>
    go_enter Try.func7, Try.ntmps7
    go_wp2_with (go_at_call 20; refine k1.out.mono ?_; rintro e w' ⟨rfl, rfl⟩)
    clear k1
    go_loop [3, 4, 24] (fun _ _ i => ∃ k : Nat, k ≤ s.size ∧ i = .int .i64 k ∧ Hid ((s.data.toList.take k).all nmOkB = true)) (fun _ _ i => s.size - (intOf i).toNat)
    case atStart => exact ⟨0, Nat.zero_le _, rfl, Lib.hid (by simp)⟩
    case round =>
      obtain ⟨k, hk, rfl, ha⟩ := hrel
      by_cases hlt : k < s.size
      · have j1 : decide ((k : Int) < (s.size : Int)) = true := by simpa using hlt
        have hat := nm_all_take s k hlt nmOkB
        rw [ha.out, Bool.true_and] at hat
        have k2 := Lib.hid (nm_letter_any s[k] w)
        have f1 : ((s[k].toNat : Int) != 46) = !(s[k] == 46) := by have : ((s[k].toNat : Int) == 46) = (s[k] == 46) := nm_eqB s[k] 46; show (!((s[k].toNat : Int) == 46)) = _; rw [this]
        have f2 : decide ((s[k].toNat : Int) < 48) = !decide (48 ≤ s[k]) := by
          have : decide ((s[k].toNat : Int) ≥ 48) = decide (48 ≤ s[k]) := nm_geB s[k] 48
          rw [← this, ← decide_not]
          exact decide_eq_decide.2 (by show _ < (48 : Int) ↔ ¬ ((48 : Int) ≤ _); omega)
        have f3 : decide ((s[k].toNat : Int) > 57) = !decide (s[k] ≤ 57) := by
          have : decide ((s[k].toNat : Int) ≤ 57) = decide (s[k] ≤ 57) := nm_leB s[k] 57
          rw [← this, ← decide_not]
          exact decide_eq_decide.2 (by show (57 : Int) < _ ↔ ¬ (_ ≤ (57 : Int)); omega)
        have hok : nmOkB s[k] = (nmLetterB s[k] || ((s[k] == 46) || (decide (48 ≤ s[k]) && decide (s[k] ≤ 57)))) := rfl
        rw [hok] at hat
        clear hok
        generalize nmLetterB s[k] = q1 at *
        generalize (s[k] == 46) = q2 at *
        generalize decide (48 ≤ s[k]) = q3 at *
        generalize decide (s[k] ≤ 57) = q4 at *
        replace hat := Lib.hid hat
        cases q1 <;> cases q2 <;> cases q3 <;> cases q4 <;> (
          go_wp2_with (go_at_call 20; refine k2.out.mono ?_; rintro e w' ⟨rfl, rfl⟩)
          first
          | (go_round
             case rel => exact ⟨k + 1, by omega, by go_num, Lib.hid hat.out⟩
             case measure => simp [intOf]; omega)
          | (go_ret
             exact ⟨by rw [← hA.out, nm_all_false hat.out]; rfl, rfl⟩))
      · obtain rfl : k = s.size := by omega
        have j1 : decide ((s.size : Int) < (s.size : Int)) = false := by simp
        have := ha.out
        rw [List.take_of_length_le (by simp)] at this
        replace this := Lib.hid this
        clear ha
        go_wp2_with fail
        go_ret
        exact ⟨by rw [← hA.out, this.out]; rfl, rfl⟩
end Go.Proofs.YtjblhiekccjdcaaR
