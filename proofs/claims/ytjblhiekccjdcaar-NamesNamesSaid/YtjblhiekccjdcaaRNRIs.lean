/- names: the document's own name. -/
import Derived.Test.YtjblhiekccjdcaaRNLaw
namespace Go.Proofs.YtjblhiekccjdcaaR
open Go.RowKit Go.Maps Go.Shelf

theorem nm_head_at (s : ByteArray) (h0 : 0 < s.size) : nmHeadB s.data.toList = nmLetterB s[0] := by
  unfold nmHeadB
  cases hl : s.data.toList with
  | nil =>
    exfalso
    have h9 : s.data.toList.length = 0 := by rw [hl]; rfl
    have h8 : s.data.size = 0 := by simpa using h9
    have : s.size = 0 := h8
    omega
  | cons c r =>
    have : s[0] = c := by
      show s.data[0] = c
      have := Array.getElem_toList (xs := s.data) (i := 0) (h := h0)
      simp only [hl] at this
      exact this.symm
    rw [this]
set_option maxHeartbeats 4000000 in
theorem ris_any (s : ByteArray) (w : World) (hs : s.size ≤ maxLen) : Calls Try.prog 8 #[.string s] w fun e w' => e = .returned (.bool (isName s)) ∧ w = w' := by
  unfold maxLen at hs
  by_cases h1 : s.size = 0
  · have e1 : ((s.size : Int) == 0) = true := by rw [beq_iff_eq]; omega
    have er : isName s = false := by
      unfold isName nmHeadB
      rw [show s.data.toList = [] from by simp; exact Array.eq_empty_of_size_eq_zero h1]
      simp
    rw [er]
    clear er
    go_enter Try.func8, Try.ntmps8
    go_wp2_with fail
    go_ret
    exact ⟨rfl, rfl⟩
  have e1 : ((s.size : Int) == 0) = false := by rw [beq_eq_false_iff_ne]; omega
  by_cases h2 : s.size ≤ 64
  case neg =>
    have er : isName s = false := by unfold isName; simp [h2]
    rw [er]
    clear er
    have e2 : decide ((s.size : Int) > 64) = true := by simp; omega
    have e2n : decide (64 < s.size) = true := by simp; omega
    go_enter Try.func8, Try.ntmps8
    go_wp2_with fail
    go_ret
    exact ⟨rfl, rfl⟩
  have e2 : decide ((s.size : Int) > 64) = false := by simp; omega
  have e2n : decide (64 < s.size) = false := by simp; omega
  by_cases h3 : (s.toList == [110, 117, 108, 108]) = true
  · have er : isName s = false := by unfold isName; simp [h3]
    rw [er]
    clear er
    go_enter Try.func8, Try.ntmps8
    go_wp2_with fail
    go_ret
    exact ⟨rfl, rfl⟩
  replace h3 : (s.toList == [110, 117, 108, 108]) = false := by simpa using h3
  have h0 : 0 < s.size := by omega
  have er : isName s = (nmLetterB s[0] && s.data.toList.all nmOkB) := by
    unfold isName
    rw [nm_head_at s h0, h3]
    simp [h2]
  rw [er]
  generalize hA : (nmLetterB s[0] && s.data.toList.all nmOkB) = A
  replace hA := Lib.hid hA
  clear er
  go_enter Try.func8, Try.ntmps8
  go_wp2_with fail
  go_loop [3, 4] (fun i _ => ∃ k : Nat, k ≤ s.size ∧ i = .int .i64 k ∧ Hid ((s.data.toList.take k).all nmOkB = true ∧ (0 < k → nmLetterB s[0] = true))) (fun i _ => s.size - (intOf i).toNat)
  case atStart => exact ⟨0, Nat.zero_le _, rfl, Lib.hid ⟨by simp, fun h => by omega⟩⟩
  case round =>
    obtain ⟨k, hk, rfl, ha⟩ := hrel
    by_cases hlt : k < s.size
    · have j1 : decide ((k : Int) < (s.size : Int)) = true := by simpa using hlt
      have hat := nm_all_take s k hlt nmOkB
      rw [ha.out.1, Bool.true_and] at hat
      have e1 : decide ((s[k].toNat : Int) ≥ 97) = decide (97 ≤ s[k]) := nm_geB s[k] 97
      have e2 : decide ((s[k].toNat : Int) ≤ 122) = decide (s[k] ≤ 122) := nm_leB s[k] 122
      have e3 : decide ((s[k].toNat : Int) ≥ 65) = decide (65 ≤ s[k]) := nm_geB s[k] 65
      have e4 : decide ((s[k].toNat : Int) ≤ 90) = decide (s[k] ≤ 90) := nm_leB s[k] 90
      have e5 : ((s[k].toNat : Int) == 95) = (s[k] == 95) := nm_eqB s[k] 95
      have f1 : ((s[k].toNat : Int) == 46) = (s[k] == 46) := nm_eqB s[k] 46
      have f2 : decide ((s[k].toNat : Int) ≥ 48) = decide (48 ≤ s[k]) := nm_geB s[k] 48
      have f3 : decide ((s[k].toNat : Int) ≤ 57) = decide (s[k] ≤ 57) := nm_leB s[k] 57
      have hlet : nmLetterB s[k] = (((decide (97 ≤ s[k]) && decide (s[k] ≤ 122)) || (decide (65 ≤ s[k]) && decide (s[k] ≤ 90))) || (s[k] == 95)) := rfl
      have hok : nmOkB s[k] = (nmLetterB s[k] || ((s[k] == 46) || (decide (48 ≤ s[k]) && decide (s[k] ≤ 57)))) := rfl
      have hh := ha.out.2
      obtain ⟨Z, hZ⟩ : ∃ Z, Z = (s.data.toList.take (k + 1)).all nmOkB := ⟨_, rfl⟩
      have hgo : Z = true → (0 < k ∨ nmLetterB s[k] = true) → Hid ((s.data.toList.take (k + 1)).all nmOkB = true ∧ (0 < k + 1 → nmLetterB s[0] = true))   := fun h hor => Lib.hid ⟨by rw [← hZ]; exact h, fun _ => by
        by_cases e : 0 < k
        · exact hh e
        · have e0 : k = 0 := by omega
          subst e0
          exact hor.resolve_left e⟩
      have hno : (Z = false ∨ (k = 0 ∧ nmLetterB s[k] = false)) → A = false := fun h => by
        rw [← hA.out]
        rcases h with h | ⟨e, h⟩
        · rw [hZ] at h
          rw [nm_all_false h, Bool.and_false]
        · subst e
          rw [h, Bool.false_and]
      rw [hok, ← hZ] at hat
      rw [hlet] at hat hgo hno
      clear hok hlet hh
      replace hZ := Lib.hid hZ
      generalize decide (97 ≤ s[k]) = q1 at *
      generalize decide (s[k] ≤ 122) = q2 at *
      generalize decide (65 ≤ s[k]) = q3 at *
      generalize decide (s[k] ≤ 90) = q4 at *
      generalize (s[k] == 95) = q5 at *
      generalize (s[k] == 46) = r1 at *
      generalize decide (48 ≤ s[k]) = r2 at *
      generalize decide (s[k] ≤ 57) = r3 at *
      replace hat := Lib.hid hat
      replace hgo := Lib.hid hgo
      replace hno := Lib.hid hno
      by_cases hk0 : 0 < k
      · have i1 : decide ((k : Int) > 0) = true := by simp; omega
        have i1n : decide (0 < k) = true := by simp; omega
        cases q1 <;> cases q2 <;> cases q3 <;> cases q4 <;> cases q5 <;> (
          first
          | (go_upto_region 8 with fail
             cases r1 <;> cases r2 <;> cases r3 <;> (
               go_wp2_with fail
               first
               | (go_round
                  case rel => exact ⟨k + 1, by omega, by go_num, hgo.out hat.out (.inl hk0)⟩
                  case measure => simp [intOf]; omega)
               | (go_ret
                  exact ⟨by rw [hno.out (.inl hat.out)]; rfl, rfl⟩)))
          | (go_wp2_with fail
             go_round
             case rel => exact ⟨k + 1, by omega, by go_num, hgo.out hat.out (.inl hk0)⟩
             case measure => simp [intOf]; omega))
      · have i1 : decide ((k : Int) > 0) = false := by simp; omega
        have i1n : decide (0 < k) = false := by simp; omega
        cases q1 <;> cases q2 <;> cases q3 <;> cases q4 <;> cases q5 <;> (
          go_wp2_with fail
          first
          | (go_round
             case rel => exact ⟨k + 1, by omega, by go_num, hgo.out hat.out (.inr rfl)⟩
             case measure => simp [intOf]; omega)
          | (go_ret
             exact ⟨by rw [hno.out (.inr ⟨by omega, rfl⟩)]; rfl, rfl⟩))
    · obtain rfl : k = s.size := by omega
      have j1 : decide ((s.size : Int) < (s.size : Int)) = false := by simp
      have h9 := ha.out
      rw [List.take_of_length_le (by simp)] at h9
      have hAt : Hid (true = A) := Lib.hid (by rw [← hA.out, h9.1, h9.2 h0]; rfl)
      clear ha h9
      go_wp2_with fail
      go_ret
      exact ⟨by rw [← hAt.out]; rfl, rfl⟩
end Go.Proofs.YtjblhiekccjdcaaR
