/- Words held against words. -/
import Derived.Test.YtobfcbmphobmfaaDoorLexR
import Derived.Laws.StructEq
namespace Go.Proofs.YtobfcbmphobmfaaDoor
open Go.RowKit Go.Shelf

theorem eq_spot (d : Nat) (w : World) (a b c e : Int) : (Op.equalIn (d + 2) 24 (.agg #[.int .i64 a, .int .i64 b]) (.agg #[.int .i64 c, .int .i64 e])).run Tryd.prog w = .ok (a == c && b == e) w := by
  have u3 := Tryd.underlying3
  have a3 := Tryd.isAgg3
  have z3 := Tryd.sizeOf3
  have hS : Tryd.prog.underlying 24 = some (.struct (Tryd.prog.fieldsOf 24)) := by kernel_rfl
  have hp : Tryd.prog.stoodInHeld 24 = false := by kernel_rfl
  rw [run_equalIn_agg w (d + 1) 24 _ _ hS hp]
  simp only [Program.fieldsOf, Tryd.underlying24]
  go_simp
  by_cases h1 : a = c <;> by_cases h2 : b = e <;> simp [h1, h2]

theorem eq_tok (d : Nat) (w : World) (k n l c k' n' l' c' : Int) (t t' : ByteArray) : (Op.equalIn (d + 3) 34 (.agg #[.int .u8 k, .string t, .int .i64 n, .int .i64 l, .int .i64 c]) (.agg #[.int .u8 k', .string t', .int .i64 n', .int .i64 l', .int .i64 c'])).run Tryd.prog w = .ok (k == k' && (t.toList == t'.toList && (n == n' && (l == l' && c == c')))) w := by
  have u3 := Tryd.underlying3
  have a3 := Tryd.isAgg3
  have z3 := Tryd.sizeOf3
  have u4 := Tryd.underlying5
  have a4 := Tryd.isAgg5
  have z4 := Tryd.sizeOf5
  have u5 := Tryd.underlying9
  have a5 := Tryd.isAgg9
  have z5 := Tryd.sizeOf9
  have a6 := Tryd.isAgg24
  have z6 := Tryd.sizeOf24
  have hq := fun w => eq_spot d w l c l' c'
  have hS : Tryd.prog.underlying 34 = some (.struct (Tryd.prog.fieldsOf 34)) := by kernel_rfl
  have hp : Tryd.prog.stoodInHeld 34 = false := by kernel_rfl
  rw [run_equalIn_agg w (d + 2) 34 _ _ hS hp]
  simp only [Program.fieldsOf, Tryd.underlying34]
  go_simp
  by_cases h1 : k = k' <;> by_cases h2 : n = n' <;> by_cases h3 : t.toList = t'.toList <;> by_cases h4 : l = l' <;> by_cases h5 : c = c' <;> simp [h1, h2, h3, h4, h5]

/-- A word as a value; two words held against each other. -/
def aggT (t : Tok) : Value := .agg #[.int .u8 t.kind, .string ⟨t.text.toArray⟩, .int .i64 t.num, .int .i64 t.line, .int .i64 t.col]
def tokB (a b : Tok) : Bool := decide (a.kind = b.kind) && (decide (a.text = b.text) && (decide (a.num = b.num) && (decide (a.line = b.line) && decide (a.col = b.col))))
theorem tokB_eq (a b : Tok) : tokB a b = true ↔ a = b := by
  cases a; cases b
  simp [tokB]
theorem tokB_refl (a : Tok) : tokB a a = true := (tokB_eq a a).2 rfl
theorem beq_nat (a b : Nat) : ((a : Int) == (b : Int)) = decide (a = b) := by rw [Bool.eq_iff_iff]; simp; omega
theorem eq_tokT (a b : Tok) (w : World) : (Op.equalIn 10000 34 (.agg #[.int .u8 a.kind, .string ⟨a.text.toArray⟩, .int .i64 a.num, .int .i64 a.line, .int .i64 a.col]) (.agg #[.int .u8 b.kind, .string ⟨b.text.toArray⟩, .int .i64 b.num, .int .i64 b.line, .int .i64 b.col])).run Tryd.prog w = .ok (tokB a b) w := by
  rw [eq_tok 9997]
  simp only [beq_nat, tokB, ByteArray.toList_eq]
  rw [show (a.text == b.text) = decide (a.text = b.text) from by rw [Bool.eq_iff_iff]; simp]
theorem eq_spotT (w : World) (a b c e : Int) : (Op.equalIn 10000 24 (.agg #[.int .i64 a, .int .i64 b]) (.agg #[.int .i64 c, .int .i64 e])).run Tryd.prog w = .ok (a == c && b == e) w := eq_spot 9998 w a b c e

/-- A slice that reads as these words. -/
def RdT (w : World) (v : Value) (out : List Tok) : Prop :=
  (out = [] ∧ v = .slice none 0 0) ∨ ∃ g cap, v = .slice (some ⟨g, 0, none⟩) out.length cap ∧ g < w.heap.size ∧ ∀ i t, out[i]? = some t → w.cell? ⟨g, i * 5, none⟩ = some (.int .u8 t.kind) ∧ w.cell? ⟨g, i * 5 + 1, none⟩ = some (.string ⟨t.text.toArray⟩) ∧ w.cell? ⟨g, i * 5 + 2, none⟩ = some (.int .i64 t.num) ∧ w.cell? ⟨g, i * 5 + 3, none⟩ = some (.int .i64 t.line) ∧ w.cell? ⟨g, i * 5 + 4, none⟩ = some (.int .i64 t.col)

theorem flat_at : ∀ (out : List Tok) (i : Nat) (t : Tok), out[i]? = some t → ∀ j, j < 5 → (out.flatMap cellsT)[i * 5 + j]? = (cellsT t)[j]?
  | [], i, t, h, j, hj => by simp at h
  | x :: r, 0, t, h, j, hj => by
    simp at h
    subst h
    rw [List.flatMap_cons, List.getElem?_append_left (by simpa [cellsT] using hj), Nat.zero_mul, Nat.zero_add]
  | x :: r, i + 1, t, h, j, hj => by
    rw [List.flatMap_cons, List.getElem?_append_right (by simp [cellsT]; omega)]
    have := flat_at r i t (by simpa using h) j hj
    rw [← this]
    congr 1
    simp [cellsT]
    omega

section
variable {w0 w w1 : World} {v : Value} {out : List Tok}
theorem RowT.rd (h : RowT w0 w v out) : RdT w v out := by
  rcases h.2 with ⟨e, h0⟩ | ⟨g, cap, cur, e, hB, hg, hn, hc, hs, hx⟩
  · exact Or.inl ⟨by simpa using h0, e⟩
  · refine Or.inr ⟨g, cap, e, (Array.getElem?_eq_some_iff.1 hg).1, fun i t hi => ?_⟩
    have hlt : i < out.length := by
      rcases Nat.lt_or_ge i out.length with h | h
      · exact h
      · rw [List.getElem?_eq_none h] at hi; cases hi
    have hcell : ∀ j, j < 5 → w.cell? ⟨g, i * 5 + j, none⟩ = (cellsT t)[j]? := by
      intro j hj
      rw [blk_cell hg, ← flat_at out i t hi j hj, ← hx, List.getElem?_take_of_lt (by omega)]
      simp
    exact ⟨hcell 0 (by omega), hcell 1 (by omega), hcell 2 (by omega), hcell 3 (by omega), hcell 4 (by omega)⟩
theorem RdT.form (h : RdT w v out) : ∃ a c, v = .slice a out.length c := by
  rcases h with ⟨rfl, rfl⟩ | ⟨g, cap, rfl, _⟩
  · exact ⟨none, 0, rfl⟩
  · exact ⟨_, cap, rfl⟩
theorem RdT.below (h : RdT w v out) (hb : Below w.heap.size w w1) : RdT w1 v out := by
  refine or_map h id ?_
  rintro ⟨g, cap, e, hlt, hc⟩
  refine ⟨g, cap, e, Nat.lt_of_lt_of_le hlt hb.size, fun i t hi => ?_⟩
  obtain ⟨h0, h1, h2, h3, h4⟩ := hc i t hi
  exact ⟨(hb.cell (p := ⟨g, i * 5, none⟩) hlt).trans h0, (hb.cell (p := ⟨g, i * 5 + 1, none⟩) hlt).trans h1, (hb.cell (p := ⟨g, i * 5 + 2, none⟩) hlt).trans h2, (hb.cell (p := ⟨g, i * 5 + 3, none⟩) hlt).trans h3, (hb.cell (p := ⟨g, i * 5 + 4, none⟩) hlt).trans h4⟩
theorem RdT.at (h : RdT w v out) {i : Nat} {t : Tok} (hi : out[i]? = some t) : ∃ g cap, v = .slice (some ⟨g, 0, none⟩) out.length cap ∧ g < w.heap.size ∧ w.cell? ⟨g, i * 5, none⟩ = some (.int .u8 t.kind) ∧ w.cell? ⟨g, i * 5 + 1, none⟩ = some (.string ⟨t.text.toArray⟩) ∧ w.cell? ⟨g, i * 5 + 2, none⟩ = some (.int .i64 t.num) ∧ w.cell? ⟨g, i * 5 + 3, none⟩ = some (.int .i64 t.line) ∧ w.cell? ⟨g, i * 5 + 4, none⟩ = some (.int .i64 t.col) := by
  rcases h with ⟨rfl, _⟩ | ⟨g, cap, e, hlt, hc⟩
  · simp at hi
  · exact ⟨g, cap, e, hlt, hc i t hi⟩
end

set_option maxHeartbeats 1000000 in
/-- The same words: Same says so. -/
theorem same_yes {w : World} {va vb : Value} {out : List Tok} (ha : RdT w va out) (hb : RdT w vb out) (n : out.length ≤ 9000000) : Calls Tryd.prog 10 #[va, vb] w fun e w' => e = .returned (.bool true) ∧ Below w.heap.size w w' := by
  obtain ⟨a, c, rfl⟩ := ha.form
  obtain ⟨a2, c2, rfl⟩ := hb.form
  go_enter Tryd.func10, Tryd.ntmps10
  go_wp2_with fail
  go_loopw [5] (fun i wr => ∃ k : Nat, k ≤ out.length ∧ i = .int .i64 k ∧ Below w.heap.size w wr) (fun i _ => out.length - (intOf i).toNat)
  case atStart => exact ⟨0, Nat.zero_le _, rfl, Below.refl _ _⟩
  case round =>
    obtain ⟨k, hk, rfl, hbw⟩ := hrel
    by_cases hlt : k < out.length
    · obtain ⟨t, ht⟩ : ∃ x, out[k]? = some x := ⟨_, List.getElem?_eq_getElem hlt⟩
      obtain ⟨g, cap, e, hg, c0, c1, c2, c3, c4⟩ := (ha.below hbw).at ht
      obtain ⟨g2, cap2, e2, hg2, d0, d1, d2, d3, d4⟩ := (hb.below hbw).at ht
      simp only [Value.slice.injEq] at e e2
      obtain ⟨rfl, -, rfl⟩ := e
      obtain ⟨rfl, -, rfl⟩ := e2
      have i1 : (k : Int) < (out.length : Int) := by omega
      have hq := fun w => eq_tokT t t w
      simp only [tokB_refl] at hq
      clear ha hb ht
      go_wp2_with fail
      go_quiet (fail)
      go_wp2_with fail
      go_round
      case rel => exact ⟨k + 1, by omega, by go_num, below_drawn hbw _⟩
      case measure => simp [intOf]; omega
    · have g1 : decide ((k : Int) < (out.length : Int)) = false := by simp; omega
      go_wp2_with fail
      go_ret
      exact ⟨rfl, hbw⟩
end Go.Proofs.YtobfcbmphobmfaaDoor
