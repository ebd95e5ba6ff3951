/- LexR, LexQ. -/
import Derived.Test.YtgcanabckogmmaaDoorZB
import Derived.Laws.StructEq
namespace Go.Proofs.YtgcanabckogmmaaDoor
set_option linter.unusedVariables false
set_option linter.unusedSimpArgs false
section
open Go.RowKit Go.Shelf

theorem rdigit_any (b : UInt8) (w : World) : Calls Tryd.prog 47 #[.int .u8 b.toNat] w fun e w' => e = .returned (.bool (digitB b)) ∧ w' = w := by
  have e1 : decide ((b.toNat : Int) ≥ 48) = decide (48 ≤ b) := geB b 48
  have e2 : decide ((b.toNat : Int) ≤ 57) = decide (b ≤ 57) := leB b 57
  unfold digitB
  generalize decide (48 ≤ b) = q1 at *
  generalize decide (b ≤ 57) = q2 at *
  cases q1 <;> cases q2 <;> (go_enter Tryd.func47, Tryd.ntmps47; go_wp2; go_ret; exact ⟨rfl, rfl⟩)

theorem rletter_any (b : UInt8) (w : World) : Calls Tryd.prog 46 #[.int .u8 b.toNat] w fun e w' => e = .returned (.bool (letterB b)) ∧ w' = w := by
  have e1 : decide ((b.toNat : Int) ≥ 97) = decide (97 ≤ b) := geB b 97
  have e2 : decide ((b.toNat : Int) ≤ 122) = decide (b ≤ 122) := leB b 122
  have e3 : decide ((b.toNat : Int) ≥ 65) = decide (65 ≤ b) := geB b 65
  have e4 : decide ((b.toNat : Int) ≤ 90) = decide (b ≤ 90) := leB b 90
  have e5 : ((b.toNat : Int) == 95) = (b == 95) := eqB b 95
  unfold letterB
  generalize decide (97 ≤ b) = q1 at *
  generalize decide (b ≤ 122) = q2 at *
  generalize decide (65 ≤ b) = q3 at *
  generalize decide (b ≤ 90) = q4 at *
  generalize (b == 95) = q5 at *
  cases q1 <;> cases q2 <;> cases q3 <;> cases q4 <;> cases q5 <;> (go_enter Tryd.func46, Tryd.ntmps46; go_wp2; go_ret; exact ⟨rfl, rfl⟩)

set_option maxHeartbeats 2000000 in
theorem rsign_any (b : UInt8) (w : World) : Calls Tryd.prog 49 #[.int .u8 b.toNat] w fun e w' => e = .returned (.bool (signB b)) ∧ w' = w := by
  go_enter Tryd.func49, Tryd.ntmps49
  go_wp2_with fail
  generalize hS : (⟨#[61, 44, 58, 40, 41, 123, 125, 91, 93]⟩ : ByteArray) = S
  have h9 : S.size = 9 := by rw [← hS]; rfl
  have hl := Lib.hid (show S.data.toList = signs by rw [← hS]; rfl)
  have h9a : S.size ≤ 9 := by omega
  have h9b : 9 ≤ S.size := by omega
  clear h9 hS
  go_loop [4] (fun i => ∃ k : Nat, k ≤ S.size ∧ i = .int .i64 k ∧ Hid (∀ c ∈ signs.take k, c ≠ b)) (fun i => S.size - (intOf i).toNat)
  case atStart => exact ⟨0, Nat.zero_le _, rfl, Lib.hid (by simp)⟩
  case round =>
    obtain ⟨k, hk, rfl, hno⟩ := hrel
    by_cases hlt : k < S.size
    · have i1 : (k : Int) < (S.size : Int) := by omega
      have hts : signs.take (k + 1) = signs.take k ++ [S[k]] := by
        have hg : S.data.toList[k]? = some S[k] := by rw [List.getElem?_eq_getElem (by simpa using hlt)]; rfl
        rw [hl.out] at hg
        exact take_snoc hg
      by_cases he : S[k] = b
      · have e1 : ((S[k].toNat : Int) == (b.toNat : Int)) = true := by rw [eqB]; simpa using he
        have hs : signB b = true := by
          unfold signB
          refine decide_eq_true ?_
          have : b ∈ signs.take (k + 1) := by rw [hts, he]; simp
          exact List.mem_of_mem_take this
        replace hs := Lib.hid hs
        clear hts he hno
        go_wp2_with fail
        go_ret
        exact ⟨by rw [hs.out]; rfl, rfl⟩
      · have e1 : ((S[k].toNat : Int) == (b.toNat : Int)) = false := by rw [eqB]; simpa using he
        have hno2 : ∀ c ∈ signs.take (k + 1), c ≠ b := by
          intro c hc
          rw [hts] at hc
          rcases List.mem_append.1 hc with hc | hc
          · exact hno.out c hc
          · rw [List.mem_singleton] at hc
            rw [hc]
            exact he
        replace hno2 := Lib.hid hno2
        clear hts he hno
        go_wp2_with fail
        go_round
        case rel => exact ⟨k + 1, by omega, by go_num, hno2⟩
        case measure => simp [intOf]; omega
    · have hs : signB b = false := by
        unfold signB
        refine decide_eq_false (fun hb => ?_)
        have h2 : signs.take k = signs := List.take_of_length_le (by show 9 ≤ k; omega)
        rw [h2] at hno
        exact hno.out b hb rfl
      replace hs := Lib.hid hs
      clear hno
      go_wp2_with fail
      go_ret
      exact ⟨by rw [hs.out]; rfl, rfl⟩

/-- Line and column behind these bytes. -/
def spotStep (p : Nat × Nat) (b : UInt8) : Nat × Nat := if b = 10 then (p.1 + 1, 1) else (p.1, p.2 + 1)
def spotOf (l : List UInt8) : Nat × Nat := l.foldl spotStep (1, 1)
theorem spotOf_snoc (l : List UInt8) (b : UInt8) : spotOf (l ++ [b]) = spotStep (spotOf l) b := by simp [spotOf]
theorem spot_bound (l : List UInt8) : (spotOf l).1 ≤ l.length + 1 ∧ (spotOf l).2 ≤ l.length + 1 := by
  refine snoc_ind (Q := fun l => (spotOf l).1 ≤ l.length + 1 ∧ (spotOf l).2 ≤ l.length + 1) (by simp [spotOf]) (fun l b ih => ?_) l
  rw [spotOf_snoc, List.length_append]
  unfold spotStep
  split <;> simp <;> omega

set_option maxHeartbeats 2000000 in
theorem rspot_any (s : ByteArray) (m : Nat) (w : World) (hm : m ≤ s.size) (hs : s.size ≤ 2000000) : Calls Tryd.prog 48 #[.string s, .int .i64 m] w fun e w' => e = .returned (.agg #[.int .i64 (spotOf (s.data.toList.take m)).1, .int .i64 (spotOf (s.data.toList.take m)).2]) ∧ Below w.heap.size w w' := by
  have hb := (Below.refl w.heap.size w).alloc (Nat.le_refl _) (.cells #[.int .i64 0, .int .i64 0] 26)
  go_enter Tryd.func48, Tryd.ntmps48
  go_wp2_with fail
  go_loop [5, 6, 7] (fun a b i => ∃ k l c : Nat, k ≤ m ∧ i = .int .i64 k ∧ a = .int .i64 l ∧ b = .int .i64 c ∧ Hid (spotOf (s.data.toList.take k) = (l, c)) ∧ l ≤ k + 1 ∧ c ≤ k + 1) (fun _ _ i => m - (intOf i).toNat)
  case atStart => exact ⟨0, 1, 1, Nat.zero_le _, rfl, rfl, rfl, Lib.hid rfl, by omega, by omega⟩
  case round =>
    obtain ⟨k, l, c, hk, rfl, rfl, rfl, hsp, hl, hc⟩ := hrel
    by_cases hlt : k < m
    · have hks : k < s.size := by omega
      have i1 : (k : Int) < (s.size : Int) := by omega
      have hts : s.data.toList.take (k + 1) = s.data.toList.take k ++ [s[k]] := by
        rw [List.take_succ_eq_append_getElem (by simpa using hks)]
        rfl
      have hstep : spotOf (s.data.toList.take (k + 1)) = spotStep (l, c) s[k] := by rw [hts, spotOf_snoc, hsp.out]
      by_cases hb10 : s[k] = 10
      · have e1 : ((s[k].toNat : Int) == 10) = true := by rw [hb10]; rfl
        rw [show spotStep (l, c) s[k] = (l + 1, 1) from by unfold spotStep; rw [if_pos hb10]] at hstep
        replace hstep := Lib.hid hstep
        clear hts hb10 hsp
        go_wp2_with fail
        go_round
        case rel => exact ⟨k + 1, l + 1, 1, by omega, by go_num, by go_num, rfl, hstep, by omega, by omega⟩
        case measure => simp [intOf]; omega
      · have e1 : ((s[k].toNat : Int) == 10) = false := by rw [show ((s[k].toNat : Int) == 10) = (s[k] == 10) from eqB s[k] 10]; simpa using hb10
        rw [show spotStep (l, c) s[k] = (l, c + 1) from by unfold spotStep; rw [if_neg hb10]] at hstep
        replace hstep := Lib.hid hstep
        clear hts hb10 hsp
        go_wp2_with fail
        go_round
        case rel => exact ⟨k + 1, l, c + 1, by omega, by go_num, rfl, by go_num, hstep, by omega, by omega⟩
        case measure => simp [intOf]; omega
    · have : k = m := by omega
      subst this
      go_wp2_with fail
      refine bodyPost_ret (v := .agg #[.int .i64 l, .int .i64 c]) (by simp [results, Tryd.results48, go_sem]) rfl ⟨by rw [hsp.out], ?_⟩
      exact (Below.refl _ _).alloc (Nat.le_refl _) _
end
section
open Go.RowKit Go.Shelf

theorem eq_spot (d : Nat) (w : World) (a b c e : Int) : (Op.equalIn (d + 2) 26 (.agg #[.int .i64 a, .int .i64 b]) (.agg #[.int .i64 c, .int .i64 e])).run Tryd.prog w = .ok (a == c && b == e) w := by
  have u3 := Tryd.underlying3
  have a3 := Tryd.isAgg3
  have z3 := Tryd.sizeOf3
  have hS : Tryd.prog.underlying 26 = some (.struct (Tryd.prog.fieldsOf 26)) := by kernel_rfl
  have hp : Tryd.prog.stoodInHeld 26 = false := by kernel_rfl
  rw [run_equalIn_agg w (d + 1) 26 _ _ hS hp]
  simp only [Program.fieldsOf, Tryd.underlying26]
  go_simp
  by_cases h1 : a = c <;> by_cases h2 : b = e <;> simp [h1, h2]

theorem eq_tok (d : Nat) (w : World) (k n l c k' n' l' c' : Int) (t t' : ByteArray) : (Op.equalIn (d + 3) 38 (.agg #[.int .u8 k, .string t, .int .i64 n, .int .i64 l, .int .i64 c]) (.agg #[.int .u8 k', .string t', .int .i64 n', .int .i64 l', .int .i64 c'])).run Tryd.prog w = .ok (k == k' && (t.toList == t'.toList && (n == n' && (l == l' && c == c')))) w := by
  have u3 := Tryd.underlying3
  have a3 := Tryd.isAgg3
  have z3 := Tryd.sizeOf3
  have u4 := Tryd.underlying5
  have a4 := Tryd.isAgg5
  have z4 := Tryd.sizeOf5
  have u5 := Tryd.underlying9
  have a5 := Tryd.isAgg9
  have z5 := Tryd.sizeOf9
  have a6 := Tryd.isAgg26
  have z6 := Tryd.sizeOf26
  have hq := fun w => eq_spot d w l c l' c'
  have hS : Tryd.prog.underlying 38 = some (.struct (Tryd.prog.fieldsOf 38)) := by kernel_rfl
  have hp : Tryd.prog.stoodInHeld 38 = false := by kernel_rfl
  rw [run_equalIn_agg w (d + 2) 38 _ _ hS hp]
  simp only [Program.fieldsOf, Tryd.underlying38]
  go_simp
  by_cases h1 : k = k' <;> by_cases h2 : n = n' <;> by_cases h3 : t.toList = t'.toList <;> by_cases h4 : l = l' <;> by_cases h5 : c = c' <;> simp [h1, h2, h3, h4, h5]

/-- A word as a value; two words held against each other. -/
def aggT (t : Tok) : Value := .agg #[.int .u8 t.kind, .string ⟨t.text.toArray⟩, .int .i64 t.num, .int .i64 t.line, .int .i64 t.col]
def tokB (a b : Tok) : Bool := decide (a.kind = b.kind) && (decide (a.text = b.text) && (decide (a.num = b.num) && (decide (a.line = b.line) && decide (a.col = b.col))))
theorem tokB_eq (a b : Tok) : tokB a b = true ↔ a = b := by
  cases a; cases b
  simp [tokB]
theorem tokB_refl (a : Tok) : tokB a a = true := (tokB_eq a a).2 rfl
theorem beq_nat (a b : Nat) : ((a : Int) == (b : Int)) = decide (a = b) := by rw [Bool.eq_iff_iff]; simp; omega
theorem eq_tokT (a b : Tok) (w : World) : (Op.equalIn 10000 38 (.agg #[.int .u8 a.kind, .string ⟨a.text.toArray⟩, .int .i64 a.num, .int .i64 a.line, .int .i64 a.col]) (.agg #[.int .u8 b.kind, .string ⟨b.text.toArray⟩, .int .i64 b.num, .int .i64 b.line, .int .i64 b.col])).run Tryd.prog w = .ok (tokB a b) w := by
  rw [eq_tok 9997]
  simp only [beq_nat, tokB, ByteArray.toList_eq]
  rw [show (a.text == b.text) = decide (a.text = b.text) from by rw [Bool.eq_iff_iff]; simp]
theorem eq_spotT (w : World) (a b c e : Int) : (Op.equalIn 10000 26 (.agg #[.int .i64 a, .int .i64 b]) (.agg #[.int .i64 c, .int .i64 e])).run Tryd.prog w = .ok (a == c && b == e) w := eq_spot 9998 w a b c e

/-- A slice that reads as these words. -/
def RdT (w : World) (v : Value) (out : List Tok) : Prop :=
  (out = [] ∧ v = .slice none 0 0) ∨ ∃ g cap, v = .slice (some ⟨g, 0, none⟩) out.length cap ∧ g < w.heap.size ∧ ∀ i t, out[i]? = some t → w.cell? ⟨g, i * 5, none⟩ = some (.int .u8 t.kind) ∧ w.cell? ⟨g, i * 5 + 1, none⟩ = some (.string ⟨t.text.toArray⟩) ∧ w.cell? ⟨g, i * 5 + 2, none⟩ = some (.int .i64 t.num) ∧ w.cell? ⟨g, i * 5 + 3, none⟩ = some (.int .i64 t.line) ∧ w.cell? ⟨g, i * 5 + 4, none⟩ = some (.int .i64 t.col)

theorem flat_at : ∀ (out : List Tok) (i : Nat) (t : Tok), out[i]? = some t → ∀ j, j < 5 → (out.flatMap cellsT)[i * 5 + j]? = (cellsT t)[j]?
  | [], i, t, h, j, hj => by simp at h
  | x :: r, 0, t, h, j, hj => by
    simp at h
    subst h
    rw [List.flatMap_cons, List.getElem?_append_left (by simpa [cellsT] using hj), Nat.zero_mul, Nat.zero_add]
  | x :: r, i + 1, t, h, j, hj => by
    rw [List.flatMap_cons, List.getElem?_append_right (by simp [cellsT]; omega)]
    have := flat_at r i t (by simpa using h) j hj
    rw [← this]
    congr 1
    simp [cellsT]
    omega

section
variable {w0 w w1 : World} {v : Value} {out : List Tok}
theorem RowT.rd (h : RowT w0 w v out) : RdT w v out := by
  rcases h.2 with ⟨e, h0⟩ | ⟨g, cap, cur, e, hB, hg, hn, hc, hs, hx⟩
  · exact Or.inl ⟨by simpa using h0, e⟩
  · refine Or.inr ⟨g, cap, e, (Array.getElem?_eq_some_iff.1 hg).1, fun i t hi => ?_⟩
    have hlt : i < out.length := by
      rcases Nat.lt_or_ge i out.length with h | h
      · exact h
      · rw [List.getElem?_eq_none h] at hi; cases hi
    have hcell : ∀ j, j < 5 → w.cell? ⟨g, i * 5 + j, none⟩ = (cellsT t)[j]? := by
      intro j hj
      rw [blk_cell hg, ← flat_at out i t hi j hj, ← hx, List.getElem?_take_of_lt (by omega)]
      simp
    exact ⟨hcell 0 (by omega), hcell 1 (by omega), hcell 2 (by omega), hcell 3 (by omega), hcell 4 (by omega)⟩
theorem RdT.form (h : RdT w v out) : ∃ a c, v = .slice a out.length c := by
  rcases h with ⟨rfl, rfl⟩ | ⟨g, cap, rfl, _⟩
  · exact ⟨none, 0, rfl⟩
  · exact ⟨_, cap, rfl⟩
theorem RdT.below (h : RdT w v out) (hb : Below w.heap.size w w1) : RdT w1 v out := by
  refine or_map h id ?_
  rintro ⟨g, cap, e, hlt, hc⟩
  refine ⟨g, cap, e, Nat.lt_of_lt_of_le hlt hb.size, fun i t hi => ?_⟩
  obtain ⟨h0, h1, h2, h3, h4⟩ := hc i t hi
  exact ⟨(hb.cell (p := ⟨g, i * 5, none⟩) hlt).trans h0, (hb.cell (p := ⟨g, i * 5 + 1, none⟩) hlt).trans h1, (hb.cell (p := ⟨g, i * 5 + 2, none⟩) hlt).trans h2, (hb.cell (p := ⟨g, i * 5 + 3, none⟩) hlt).trans h3, (hb.cell (p := ⟨g, i * 5 + 4, none⟩) hlt).trans h4⟩
theorem RdT.at (h : RdT w v out) {i : Nat} {t : Tok} (hi : out[i]? = some t) : ∃ g cap, v = .slice (some ⟨g, 0, none⟩) out.length cap ∧ g < w.heap.size ∧ w.cell? ⟨g, i * 5, none⟩ = some (.int .u8 t.kind) ∧ w.cell? ⟨g, i * 5 + 1, none⟩ = some (.string ⟨t.text.toArray⟩) ∧ w.cell? ⟨g, i * 5 + 2, none⟩ = some (.int .i64 t.num) ∧ w.cell? ⟨g, i * 5 + 3, none⟩ = some (.int .i64 t.line) ∧ w.cell? ⟨g, i * 5 + 4, none⟩ = some (.int .i64 t.col) := by
  rcases h with ⟨rfl, _⟩ | ⟨g, cap, e, hlt, hc⟩
  · simp at hi
  · exact ⟨g, cap, e, hlt, hc i t hi⟩
end
end
end Go.Proofs.YtgcanabckogmmaaDoor
