/- The document's own answers, of bytes and spots. -/
import Derived.Test.YtobfcbmphobmfaaDoorLexP
namespace Go.Proofs.YtobfcbmphobmfaaDoor
open Go.RowKit Go.Shelf

theorem rdigit_any (b : UInt8) (w : World) : Calls Tryd.prog 15 #[.int .u8 b.toNat] w fun e w' => e = .returned (.bool (digitB b)) ∧ w' = w := by
  have e1 : decide ((b.toNat : Int) ≥ 48) = decide (48 ≤ b) := geB b 48
  have e2 : decide ((b.toNat : Int) ≤ 57) = decide (b ≤ 57) := leB b 57
  unfold digitB
  generalize decide (48 ≤ b) = q1 at *
  generalize decide (b ≤ 57) = q2 at *
  cases q1 <;> cases q2 <;> (go_enter Tryd.func15, Tryd.ntmps15; go_wp2; go_ret; exact ⟨rfl, rfl⟩)

theorem rletter_any (b : UInt8) (w : World) : Calls Tryd.prog 14 #[.int .u8 b.toNat] w fun e w' => e = .returned (.bool (letterB b)) ∧ w' = w := by
  have e1 : decide ((b.toNat : Int) ≥ 97) = decide (97 ≤ b) := geB b 97
  have e2 : decide ((b.toNat : Int) ≤ 122) = decide (b ≤ 122) := leB b 122
  have e3 : decide ((b.toNat : Int) ≥ 65) = decide (65 ≤ b) := geB b 65
  have e4 : decide ((b.toNat : Int) ≤ 90) = decide (b ≤ 90) := leB b 90
  have e5 : ((b.toNat : Int) == 95) = (b == 95) := eqB b 95
  unfold letterB
  generalize decide (97 ≤ b) = q1 at *
  generalize decide (b ≤ 122) = q2 at *
  generalize decide (65 ≤ b) = q3 at *
  generalize decide (b ≤ 90) = q4 at *
  generalize (b == 95) = q5 at *
  cases q1 <;> cases q2 <;> cases q3 <;> cases q4 <;> cases q5 <;> (go_enter Tryd.func14, Tryd.ntmps14; go_wp2; go_ret; exact ⟨rfl, rfl⟩)

set_option maxHeartbeats 2000000 in
theorem rsign_any (b : UInt8) (w : World) : Calls Tryd.prog 17 #[.int .u8 b.toNat] w fun e w' => e = .returned (.bool (signB b)) ∧ w' = w := by
  go_enter Tryd.func17, Tryd.ntmps17
  go_wp2_with fail
  generalize hS : (⟨#[61, 44, 58, 40, 41, 123, 125, 91, 93]⟩ : ByteArray) = S
  have h9 : S.size = 9 := by rw [← hS]; rfl
  have hl := Lib.hid (show S.data.toList = signs by rw [← hS]; rfl)
  have h9a : S.size ≤ 9 := by omega
  have h9b : 9 ≤ S.size := by omega
  clear h9 hS
  go_loop [4] (fun i => ∃ k : Nat, k ≤ S.size ∧ i = .int .i64 k ∧ Hid (∀ c ∈ signs.take k, c ≠ b)) (fun i => S.size - (intOf i).toNat)
  case atStart => exact ⟨0, Nat.zero_le _, rfl, Lib.hid (by simp)⟩
  case round =>
    obtain ⟨k, hk, rfl, hno⟩ := hrel
    by_cases hlt : k < S.size
    · have i1 : (k : Int) < (S.size : Int) := by omega
      have hts : signs.take (k + 1) = signs.take k ++ [S[k]] := by
        have hg : S.data.toList[k]? = some S[k] := by rw [List.getElem?_eq_getElem (by simpa using hlt)]; rfl
        rw [hl.out] at hg
        exact take_snoc hg
      by_cases he : S[k] = b
      · have e1 : ((S[k].toNat : Int) == (b.toNat : Int)) = true := by rw [eqB]; simpa using he
        have hs : signB b = true := by
          unfold signB
          refine decide_eq_true ?_
          have : b ∈ signs.take (k + 1) := by rw [hts, he]; simp
          exact List.mem_of_mem_take this
        replace hs := Lib.hid hs
        clear hts he hno
        go_wp2_with fail
        go_ret
        exact ⟨by rw [hs.out]; rfl, rfl⟩
      · have e1 : ((S[k].toNat : Int) == (b.toNat : Int)) = false := by rw [eqB]; simpa using he
        have hno2 : ∀ c ∈ signs.take (k + 1), c ≠ b := by
          intro c hc
          rw [hts] at hc
          rcases List.mem_append.1 hc with hc | hc
          · exact hno.out c hc
          · rw [List.mem_singleton] at hc
            rw [hc]
            exact he
        replace hno2 := Lib.hid hno2
        clear hts he hno
        go_wp2_with fail
        go_round
        case rel => exact ⟨k + 1, by omega, by go_num, hno2⟩
        case measure => simp [intOf]; omega
    · have hs : signB b = false := by
        unfold signB
        refine decide_eq_false (fun hb => ?_)
        have h2 : signs.take k = signs := List.take_of_length_le (by show 9 ≤ k; omega)
        rw [h2] at hno
        exact hno.out b hb rfl
      replace hs := Lib.hid hs
      clear hno
      go_wp2_with fail
      go_ret
      exact ⟨by rw [hs.out]; rfl, rfl⟩

/-- Line and column behind these bytes. -/
def spotStep (p : Nat × Nat) (b : UInt8) : Nat × Nat := if b = 10 then (p.1 + 1, 1) else (p.1, p.2 + 1)
def spotOf (l : List UInt8) : Nat × Nat := l.foldl spotStep (1, 1)
theorem spotOf_snoc (l : List UInt8) (b : UInt8) : spotOf (l ++ [b]) = spotStep (spotOf l) b := by simp [spotOf]
theorem spot_bound (l : List UInt8) : (spotOf l).1 ≤ l.length + 1 ∧ (spotOf l).2 ≤ l.length + 1 := by
  refine snoc_ind (Q := fun l => (spotOf l).1 ≤ l.length + 1 ∧ (spotOf l).2 ≤ l.length + 1) (by simp [spotOf]) (fun l b ih => ?_) l
  rw [spotOf_snoc, List.length_append]
  unfold spotStep
  split <;> simp <;> omega

set_option maxHeartbeats 2000000 in
theorem rspot_any (s : ByteArray) (m : Nat) (w : World) (hm : m ≤ s.size) (hs : s.size ≤ 2000000) : Calls Tryd.prog 16 #[.string s, .int .i64 m] w fun e w' => e = .returned (.agg #[.int .i64 (spotOf (s.data.toList.take m)).1, .int .i64 (spotOf (s.data.toList.take m)).2]) ∧ Below w.heap.size w w' := by
  have hb := (Below.refl w.heap.size w).alloc (Nat.le_refl _) (.cells #[.int .i64 0, .int .i64 0] 24)
  go_enter Tryd.func16, Tryd.ntmps16
  go_wp2_with fail
  go_loop [5, 6, 7] (fun a b i => ∃ k l c : Nat, k ≤ m ∧ i = .int .i64 k ∧ a = .int .i64 l ∧ b = .int .i64 c ∧ Hid (spotOf (s.data.toList.take k) = (l, c)) ∧ l ≤ k + 1 ∧ c ≤ k + 1) (fun _ _ i => m - (intOf i).toNat)
  case atStart => exact ⟨0, 1, 1, Nat.zero_le _, rfl, rfl, rfl, Lib.hid rfl, by omega, by omega⟩
  case round =>
    obtain ⟨k, l, c, hk, rfl, rfl, rfl, hsp, hl, hc⟩ := hrel
    by_cases hlt : k < m
    · have hks : k < s.size := by omega
      have i1 : (k : Int) < (s.size : Int) := by omega
      have hts : s.data.toList.take (k + 1) = s.data.toList.take k ++ [s[k]] := by
        rw [List.take_succ_eq_append_getElem (by simpa using hks)]
        rfl
      have hstep : spotOf (s.data.toList.take (k + 1)) = spotStep (l, c) s[k] := by rw [hts, spotOf_snoc, hsp.out]
      by_cases hb10 : s[k] = 10
      · have e1 : ((s[k].toNat : Int) == 10) = true := by rw [hb10]; rfl
        rw [show spotStep (l, c) s[k] = (l + 1, 1) from by unfold spotStep; rw [if_pos hb10]] at hstep
        replace hstep := Lib.hid hstep
        clear hts hb10 hsp
        go_wp2_with fail
        go_round
        case rel => exact ⟨k + 1, l + 1, 1, by omega, by go_num, by go_num, rfl, hstep, by omega, by omega⟩
        case measure => simp [intOf]; omega
      · have e1 : ((s[k].toNat : Int) == 10) = false := by rw [show ((s[k].toNat : Int) == 10) = (s[k] == 10) from eqB s[k] 10]; simpa using hb10
        rw [show spotStep (l, c) s[k] = (l, c + 1) from by unfold spotStep; rw [if_neg hb10]] at hstep
        replace hstep := Lib.hid hstep
        clear hts hb10 hsp
        go_wp2_with fail
        go_round
        case rel => exact ⟨k + 1, l, c + 1, by omega, by go_num, rfl, by go_num, hstep, by omega, by omega⟩
        case measure => simp [intOf]; omega
    · have : k = m := by omega
      subst this
      go_wp2_with fail
      refine bodyPost_ret (v := .agg #[.int .i64 l, .int .i64 c]) (by simp [results, Tryd.results16, go_sem]) rfl ⟨by rw [hsp.out], ?_⟩
      exact (Below.refl _ _).alloc (Nat.le_refl _) _
end Go.Proofs.YtobfcbmphobmfaaDoor
