/- Told, Join, Cover, LaidJ, RdE1, RdE2, RdB1, RdB3. -/
import Derived.Test.YtgcanabckogmmaaDoorYN
import Derived.Test.YtgcanabckogmmaaDoorYL
namespace Go.Proofs.YtgcanabckogmmaaDoor
set_option linter.unusedVariables false
set_option linter.unusedSimpArgs false
section
open Go.RowKit Go.Shelf

def told (s : ByteArray) : Except Bad (List Tok) := if s.size ≤ 1048576 then lex s.data.toList 1 1 else .error (0, 0, 2)
def where' (r : Except Bad (List Tok)) : Bad := match r with | .error b => b | .ok _ => (0, 0, 0)
def toks (r : Except Bad (List Tok)) : List Tok := match r with | .error _ => [] | .ok l => l
structure Told (w : World) (r : Except Bad (List Tok)) (e : Ending) (w' : World) (v : Value) (l c er : Nat) : Prop where
  res : e = .returned (.tuple #[v, .agg #[.int .i64 l, .int .i64 c], .int .i64 er])
  rd : RdT w' v (toks r)
  wh : where' r = (l, c, er)
  below : Below w.heap.size w w'

theorem told_of {w w' : World} {r : Except Bad (List Tok)} {e : Ending} (h : LexPost w r e w') : ∃ v l c er, Told w r e w' v l c er := by
  cases r with
  | error b =>
    obtain ⟨l, c, er⟩ := b
    exact ⟨_, l, c, er, h.1, Or.inl ⟨rfl, rfl⟩, rfl, h.2⟩
  | ok out =>
    obtain ⟨⟨v, rfl, hr⟩, hb⟩ := h
    exact ⟨v, 0, 0, 0, rfl, hr.rd, rfl, hb⟩

theorem lex_told (s : ByteArray) (w : World) (h63 : s.size ≤ maxLen) : Calls Tryd.prog 13 #[.string s] w fun e w' => ∃ v l c er, Told w (told s) e w' v l c er := by
  by_cases hs : s.size ≤ 1048576
  · unfold told
    rw [if_pos hs]
    exact (lex_any hs).mono fun e w' h => told_of h
  · unfold told
    rw [if_neg hs]
    exact (lex_long (by omega) h63).mono fun e w' ⟨h, hb⟩ => ⟨_, 0, 0, 2, h, Or.inl ⟨rfl, rfl⟩, rfl, hb⟩

set_option maxRecDepth 20000 in
set_option maxHeartbeats 4000000 in
theorem ref_long {s : ByteArray} {w : World} (hs : 1048576 < s.size) (h63 : s.size ≤ maxLen) : Calls Tryd.prog 21 #[.string s] w fun e w' => e = .returned (.tuple #[.slice none 0 0, .agg #[.int .i64 0, .int .i64 0], .int .i64 2]) ∧ Below w.heap.size w w' := by
  unfold maxLen at h63
  have d1 : decide ((s.size : Int) > 1048576) = true := by simp; omega
  go_enter Tryd.func21, Tryd.ntmps21
  go_wp2_with fail
  refine bodyPost_ret (v := .tuple #[.slice none 0 0, .agg #[.int .i64 0, .int .i64 0], .int .i64 2]) (by simp [results, Tryd.results21, go_sem, *]) rfl ⟨rfl, ?_⟩
  exact (Below.refl _ _).alloc (Nat.le_refl _) _

theorem ref_told (s : ByteArray) (w : World) (h63 : s.size ≤ maxLen) : Calls Tryd.prog 21 #[.string s] w fun e w' => ∃ v l c er, Told w (told s) e w' v l c er := by
  by_cases hs : s.size ≤ 1048576
  · unfold told
    rw [if_pos hs]
    exact (ref_any hs).mono fun e w' h => told_of h
  · unfold told
    rw [if_neg hs]
    exact (ref_long (by omega) h63).mono fun e w' ⟨h, hb⟩ => ⟨_, 0, 0, 2, h, Or.inl ⟨rfl, rfl⟩, rfl, hb⟩

theorem add_len (t : Option Tok) (r : Except Bad (List Tok)) : (toks (add t r)).length ≤ (toks r).length + 1 := by
  cases r with
  | error e => simp [add, toks]
  | ok l => cases t <;> simp [add, toks]
theorem lexN_len : ∀ (n : Nat) (l : List UInt8) (ln cl : Nat), (toks (lexN n l ln cl)).length ≤ n + 1
  | n, [], ln, cl => by rw [lexN.eq_def]; simp [toks]
  | 0, _ :: _, ln, cl => by rw [lexN.eq_def]; simp [toks]
  | n + 1, c :: r, ln, cl => by
    rw [lexN]
    cases stepL (c :: r) ln cl with
    | error e => simp [toks]
    | ok x =>
      obtain ⟨k, ln', cl', t⟩ := x
      have := lexN_len n ((c :: r).drop k) ln' cl'
      have := add_len t (lexN n ((c :: r).drop k) ln' cl')
      show (toks (add t _)).length ≤ _
      omega
theorem told_len (s : ByteArray) : (toks (told s)).length ≤ 1048577 := by
  unfold told
  split
  · rename_i h
    have := lexN_len s.data.toList.length s.data.toList 1 1
    have e : s.data.toList.length = s.size := by simp
    unfold lex
    omega
  · simp [toks]
end
section
theorem tw_app {p : UInt8 → Bool} (h10 : p 10 = false) (b : List UInt8) : ∀ l : List UInt8, (l ++ 10 :: b).takeWhile p = l.takeWhile p
  | [] => by rw [List.nil_append, List.takeWhile_cons, if_neg (by rw [h10]; simp)]; rfl
  | c :: l => by
    rw [List.cons_append, List.takeWhile_cons, List.takeWhile_cons, tw_app h10 b l]
theorem dw_app {p : UInt8 → Bool} (h10 : p 10 = false) (hq : partB 10 = false) (b : List UInt8) : ∀ l : List UInt8, ((l ++ 10 :: b).dropWhile p).head?.any partB = (l.dropWhile p).head?.any partB
  | [] => by rw [List.nil_append, List.dropWhile_cons, if_neg (by rw [h10]; simp)]; simp [hq]
  | c :: l => by
    rw [List.cons_append, List.dropWhile_cons, List.dropWhile_cons]
    split
    · exact dw_app h10 hq b l
    · rfl
theorem stepL_app (b : List UInt8) {l : List UInt8} (h0 : l ≠ []) (ln cl : Nat) : stepL (l ++ 10 :: b) ln cl = stepL l ln cl := by
  cases l with
  | nil => exact absurd rfl h0
  | cons c r =>
    have h1 := tw_app (p := blankB) (by decide) b (c :: r)
    have h2 := tw_app (p := (· != 10)) (by decide) b (c :: r)
    have h3 := tw_app (p := partB) (by decide) b (c :: r)
    have h4 := tw_app (p := digitB) (by decide) b (c :: r)
    have h5 := dw_app (p := digitB) (by decide) (by decide) b (c :: r)
    rw [List.cons_append] at *
    unfold stepL
    dsimp only
    rw [h1, h2, h3, h4, h5]

theorem lex_some : ∀ (n : Nat) (l : List UInt8) (ln cl : Nat) (out : List Tok), lexN n l ln cl = .ok out → out ≠ []
  | n, [], ln, cl, out, h => by rw [lexN.eq_def] at h; injection h with h; rw [← h]; simp
  | 0, _ :: _, ln, cl, out, h => by rw [lexN.eq_def] at h; cases h
  | n + 1, c :: r, ln, cl, out, h => by
    rw [lexN] at h
    cases hs : stepL (c :: r) ln cl with
    | error e => rw [hs] at h; cases h
    | ok x =>
      obtain ⟨k, ln', cl', t⟩ := x
      rw [hs] at h
      have h : add t (lexN n ((c :: r).drop k) ln' cl') = .ok out := h
      cases hr : lexN n ((c :: r).drop k) ln' cl' with
      | error e => rw [hr] at h; cases h
      | ok o =>
        rw [hr] at h
        injection h with h
        rw [← h]
        have := lex_some n _ _ _ _ hr
        simp [this]

/-- The line of the last word. -/
def lastLine (out : List Tok) : Nat := match out.getLast? with | some t => t.line | none => 0
def joinL (b : List UInt8) (r : Except Bad (List Tok)) : Except Bad (List Tok) :=
  match r with
  | .error e => .error e
  | .ok out => sofar out.dropLast (lex b (lastLine out + 1) 1)
theorem lex_line (b : List UInt8) (ln cl : Nat) : lex (10 :: b) ln cl = lex b (ln + 1) 1 := by
  have hs : stepL (10 :: b) ln cl = .ok (1, ln + 1, 1, none) := by unfold stepL; dsimp only; rw [if_pos rfl]
  rw [lex_went (by simp) hs, add_none]
  rfl
theorem lex_joinJ (b : List UInt8) : ∀ (n : Nat) (l : List UInt8) (ln cl : Nat), l.length ≤ n → lex (l ++ 10 :: b) ln cl = joinL b (lex l ln cl)
  | _, [], ln, cl, _ => by
    rw [List.nil_append, lex_line, lex_nil]
    show _ = sofar [] (lex b (ln + 1) 1)
    rw [sofar_nil]
  | 0, _ :: _, _, _, h => by simp at h
  | n + 1, c :: r, ln, cl, h => by
    cases hs : stepL (c :: r) ln cl with
    | error e =>
      rw [lex_bad (by simp) hs, lex_bad (by simp) ((stepL_app b (by simp) ln cl).trans hs)]
      rfl
    | ok x =>
      obtain ⟨k, ln', cl', t⟩ := x
      have hk := step_pos hs
      rw [lex_went (by simp) hs, lex_went (by simp) ((stepL_app b (by simp) ln cl).trans hs), List.drop_append_of_le_length hk.2,
        lex_joinJ b n _ ln' cl' (by rw [List.length_drop]; simp only [List.length_cons] at h ⊢; omega)]
      cases hr : lex ((c :: r).drop k) ln' cl' with
      | error e => rfl
      | ok o =>
        have h0 : o ≠ [] := lex_some _ _ _ _ _ hr
        show add t (sofar o.dropLast _) = sofar (t.toList ++ o).dropLast _
        have hl : lastLine (t.toList ++ o) = lastLine o := by
          unfold lastLine
          rw [List.getLast?_append]
          cases hg : o.getLast? with
          | none => exact absurd (List.getLast?_eq_none_iff.1 hg) h0
          | some q => rfl
        rw [hl, List.dropLast_append_of_ne_nil h0]
        cases lex b (lastLine o + 1) 1 with
        | error e => rfl
        | ok p => simp [add, sofar]

/-- So many lines further down. -/
def downTJ (m : Nat) (t : Tok) : Tok := ⟨t.kind, t.text, t.num, t.line + m, t.col⟩
def down (m : Nat) (r : Except Bad (List Tok)) : Except Bad (List Tok) :=
  match r with
  | .error (l, c, e) => .error (l + m, c, e)
  | .ok out => .ok (out.map (downTJ m))
def downS (m : Nat) (r : Except Bad Went) : Except Bad Went :=
  match r with
  | .error (l, c, e) => .error (l + m, c, e)
  | .ok (k, l, c, t) => .ok (k, l + m, c, t.map (downTJ m))
theorem stepL_down (m : Nat) (l : List UInt8) (ln cl : Nat) : stepL l (ln + m) cl = downS m (stepL l ln cl) := by
  cases l with
  | nil => rfl
  | cons c r =>
    unfold stepL
    dsimp only
    split
    · show _ = Except.ok (1, ln + 1 + m, 1, none)
      rw [show ln + m + 1 = ln + 1 + m from by omega]
    · split
      · rfl
      · split
        · rfl
        · split
          · rfl
          · split
            · split <;> rfl
            · split <;> rfl
theorem lex_downJ (m : Nat) : ∀ (n : Nat) (l : List UInt8) (ln cl : Nat), l.length ≤ n → lex l (ln + m) cl = down m (lex l ln cl)
  | _, [], ln, cl, _ => by rw [lex_nil, lex_nil]; rfl
  | 0, _ :: _, _, _, h => by simp at h
  | n + 1, c :: r, ln, cl, h => by
    have hd := stepL_down m (c :: r) ln cl
    cases hs : stepL (c :: r) ln cl with
    | error e =>
      rw [hs] at hd
      rw [lex_bad (by simp) hs, lex_bad (by simp) hd]
      rfl
    | ok x =>
      obtain ⟨k, ln', cl', t⟩ := x
      have hk := step_pos hs
      rw [hs] at hd
      rw [lex_went (by simp) hs, lex_went (by simp) hd, lex_downJ m n _ ln' cl' (by rw [List.length_drop]; simp only [List.length_cons] at h ⊢; omega)]
      cases lex ((c :: r).drop k) ln' cl' with
      | error e => rfl
      | ok o => cases t <;> simp [add, down]
end
section
/-- Between words: comments and blanks. -/
def comStep (f : Bool) (c : UInt8) : Bool := if c = 10 then false else if c = 59 then true else f
def okG : Bool → List UInt8 → Bool
  | _, [] => true
  | f, c :: r => (comStep f c || (blankB c || c == 10)) && okG (comStep f c) r
theorem okG_blanks : ∀ (l r : List UInt8), (∀ b ∈ l, blankB b = true) → okG false (l ++ r) = okG false r
  | [], r, _ => rfl
  | c :: l, r, h => by
    have hc := h c (by simp)
    have h10 : c ≠ 10 := by rintro rfl; exact absurd hc (by decide)
    have h59 : c ≠ 59 := by rintro rfl; exact absurd hc (by decide)
    rw [List.cons_append]
    conv => lhs; unfold okG
    rw [show comStep false c = false from by unfold comStep; rw [if_neg h10, if_neg h59], hc, okG_blanks l r (fun b hb => h b (by simp [hb]))]
    simp
theorem okG_note : ∀ (l r : List UInt8), (∀ b ∈ l, b ≠ 10) → okG true (l ++ r) = okG true r
  | [], r, _ => rfl
  | c :: l, r, h => by
    rw [List.cons_append]
    conv => lhs; unfold okG
    rw [show comStep true c = true from by unfold comStep; rw [if_neg (h c (by simp))]; split <;> rfl, okG_note l r (fun b hb => h b (by simp [hb]))]
    simp
theorem okG_line (f : Bool) (r : List UInt8) : okG f (10 :: r) = okG false r := by
  conv => lhs; unfold okG
  rw [show comStep f 10 = false from rfl]
  simp
theorem okG_turn {r : List UInt8} (h : r.head? = none ∨ r.head? = some 10) : okG true r = okG false r := by
  cases r with
  | nil => rfl
  | cons c r =>
    rcases h with h | h
    · cases h
    · injection h with h
      rw [h, okG_line, okG_line]

theorem tw_take {p : UInt8 → Bool} : ∀ {l : List UInt8} {n : Nat}, (l.takeWhile p).length ≤ n → (l.take n).takeWhile p = l.takeWhile p
  | [], n, _ => by simp
  | c :: l, n, h => by
    rw [List.takeWhile_cons] at h ⊢
    by_cases hc : p c = true
    · rw [if_pos hc] at h ⊢
      simp only [List.length_cons] at h
      obtain ⟨m, rfl⟩ : ∃ m, n = m + 1 := ⟨n - 1, by omega⟩
      rw [List.take_succ_cons, List.takeWhile_cons, if_pos hc, tw_take (by omega)]
    · rw [if_neg hc]
      cases n with
      | zero => rfl
      | succ m => rw [List.take_succ_cons, List.takeWhile_cons, if_neg hc]
theorem dw_take {p q : UInt8 → Bool} : ∀ {l : List UInt8} {n : Nat}, (l.takeWhile p).length ≤ n → (l.dropWhile p).head?.any q = false → ((l.take n).dropWhile p).head?.any q = false
  | [], n, _, _ => by simp
  | c :: l, n, h, hq => by
    rw [List.takeWhile_cons] at h
    rw [List.dropWhile_cons] at hq
    by_cases hc : p c = true
    · rw [if_pos hc] at h hq
      simp only [List.length_cons] at h
      obtain ⟨m, rfl⟩ : ∃ m, n = m + 1 := ⟨n - 1, by omega⟩
      rw [List.take_succ_cons, List.dropWhile_cons, if_pos hc]
      exact dw_take (by omega) hq
    · rw [if_neg hc] at hq
      cases n with
      | zero => simp
      | succ m => rw [List.take_succ_cons, List.dropWhile_cons, if_neg hc]; exact hq

theorem stepL_take {l : List UInt8} {ln cl k a b : Nat} {t : Option Tok} {n : Nat} (h : stepL l ln cl = .ok (k, a, b, t)) (hn : k ≤ n) : stepL (l.take n) ln cl = .ok (k, a, b, t) := by
  have hp := step_pos h
  cases l with
  | nil => cases h
  | cons c r =>
    obtain ⟨m, rfl⟩ : ∃ m, n = m + 1 := ⟨n - 1, by omega⟩
    have e : (c :: r).take (m + 1) = c :: r.take m := List.take_succ_cons
    have key : ∀ p : UInt8 → Bool, ((c :: r).takeWhile p).length ≤ m + 1 → (c :: r.take m).takeWhile p = (c :: r).takeWhile p := fun p hp => by rw [← e]; exact tw_take hp
    have key2 : ((c :: r).takeWhile digitB).length ≤ m + 1 → ((c :: r).dropWhile digitB).head?.any partB = false → ((c :: r.take m).dropWhile digitB).head?.any partB = false := fun h1 h2 => by rw [← e]; exact dw_take h1 h2
    rw [e]
    unfold stepL at h ⊢
    dsimp only at h ⊢
    split at h
    · rename_i h1
      rw [if_pos h1]; exact h
    · rename_i h1
      rw [if_neg h1]
      split at h
      · rename_i h2
        injection h with h; injection h with hk hr
        rw [if_pos h2, key _ (by omega)]; rw [← hk, ← hr]
      · rename_i h2
        rw [if_neg h2]
        split at h
        · rename_i h3
          injection h with h; injection h with hk hr
          rw [if_pos h3, key _ (by omega)]; rw [← hk, ← hr]
        · rename_i h3
          rw [if_neg h3]
          split at h
          · rename_i h4
            injection h with h; injection h with hk hr
            rw [if_pos h4, key _ (by omega)]; rw [← hk, ← hr]
          · rename_i h4
            rw [if_neg h4]
            split at h
            · rename_i h5
              rw [if_pos h5]
              split at h
              · cases h
              · rename_i h6
                injection h with h; injection h with hk hr
                have h6' : (((c :: r).dropWhile digitB).head?.any partB || decide (9 < ((c :: r).takeWhile digitB).length) || (decide (1 < ((c :: r).takeWhile digitB).length) && decide (c = 48))) = false := by
                  revert h6; cases (((c :: r).dropWhile digitB).head?.any partB || decide (9 < ((c :: r).takeWhile digitB).length) || (decide (1 < ((c :: r).takeWhile digitB).length) && decide (c = 48))) <;> simp
                have h7 : ((c :: r).dropWhile digitB).head?.any partB = false := by
                  revert h6'; cases ((c :: r).dropWhile digitB).head?.any partB <;> simp
                rw [h7] at h6'
                rw [key _ (by omega), key2 (by omega) h7, if_neg (by rw [h6']; simp)]; rw [← hk, ← hr]
            · rename_i h5
              rw [if_neg h5]
              exact h

/-- Line and column behind these bytes. -/
def spotL (p : Nat × Nat) (l : List UInt8) : Nat × Nat := l.foldl spotStep p
theorem spotL_app (p : Nat × Nat) (a b : List UInt8) : spotL p (a ++ b) = spotL (spotL p a) b := by unfold spotL; rw [List.foldl_append]
theorem tw_pre {p : UInt8 → Bool} (l : List UInt8) : l.take (l.takeWhile p).length = l.takeWhile p := by
  conv => lhs; arg 2; rw [← List.takeWhile_append_dropWhile (p := p) (l := l)]
  rw [List.take_left]

/-- One step: what it goes past. -/
theorem step_forms {l : List UInt8} {ln cl k a b : Nat} {t : Option Tok} (h : stepL l ln cl = .ok (k, a, b, t)) :
    spotL (ln, cl) (l.take k) = (a, b) ∧ ((t = none ∧ ((∀ r, okG false (l.take k ++ r) = okG false r) ∨ ((l.drop k).head? = none ∨ (l.drop k).head? = some 10) ∧ ∀ r, okG false (l.take k ++ r) = okG true r)) ∨
      ∃ w : Tok, t = some w ∧ w.text = l.take k ∧ (w.line, w.col) = (ln, cl) ∧ w.kind ≠ 4 ∧ w.kind < 4) := by
  have flat : ∀ (p : UInt8 → Bool), p 10 = false → spotL (ln, cl) (l.takeWhile p) = (ln, cl + (l.takeWhile p).length) := fun p h10 => fold_flat _ _ (fun b hb e => by have := mem_tw hb; rw [e, h10] at this; cases this)
  cases l with
  | nil => cases h
  | cons c r =>
    unfold stepL at h
    dsimp only at h
    split at h
    · rename_i h1
      injection h with h; injection h with hk h; injection h with ha h; injection h with hb ht
      subst hk ha hb ht h1
      exact ⟨rfl, .inl ⟨rfl, .inl fun r' => okG_line _ _⟩⟩
    · split at h
      · injection h with h; injection h with hk h; injection h with ha h; injection h with hb ht
        subst hk ha hb ht
        rw [tw_pre]
        exact ⟨flat _ (by decide), .inl ⟨rfl, .inl fun r' => okG_blanks _ _ (fun b hb => mem_tw hb)⟩⟩
      · split at h
        · rename_i h3
          injection h with h; injection h with hk h; injection h with ha h; injection h with hb ht
          subst hk ha hb ht h3
          refine ⟨by rw [tw_pre]; exact flat _ (by decide), .inl ⟨rfl, .inr ⟨?_, fun r' => ?_⟩⟩⟩
          · have hd : ((59 : UInt8) :: r).drop (((59 : UInt8) :: r).takeWhile (· != 10)).length = ((59 : UInt8) :: r).dropWhile (· != 10) := by
              conv => lhs; arg 2; rw [← List.takeWhile_append_dropWhile (p := (· != 10)) (l := (59 : UInt8) :: r)]
              rw [List.drop_left]
            rw [hd]
            cases hx : (((59 : UInt8) :: r).dropWhile (· != 10)).head? with
            | none => exact .inl rfl
            | some x =>
              right
              have := List.head?_dropWhile_not (· != 10) ((59 : UInt8) :: r)
              rw [hx] at this
              simpa using this
          · rw [tw_pre, List.takeWhile_cons, if_pos (by decide)]
            rw [List.cons_append]
            conv => lhs; unfold okG
            rw [show comStep false 59 = true from rfl, okG_note _ _ (fun b hb => by have := mem_tw hb; simpa using this)]
            simp
        · split at h
          · injection h with h; injection h with hk h; injection h with ha h; injection h with hb ht
            subst hk ha hb ht
            rw [tw_pre]
            exact ⟨flat _ (by decide), .inr ⟨_, rfl, rfl, rfl, by simp, by simp⟩⟩
          · split at h
            · split at h
              · cases h
              · injection h with h; injection h with hk h; injection h with ha h; injection h with hb ht
                subst hk ha hb ht
                rw [tw_pre]
                exact ⟨flat _ (by decide), .inr ⟨_, rfl, rfl, rfl, by simp, by simp⟩⟩
            · split at h
              · rename_i h10 _ _ _ _ _
                injection h with h; injection h with hk h; injection h with ha h; injection h with hb ht
                subst hk ha hb ht
                refine ⟨?_, .inr ⟨_, rfl, rfl, rfl, by simp, by simp⟩⟩
                show spotStep (ln, cl) c = _
                unfold spotStep
                rw [if_neg h10]
              · cases h

/-- The first word: where it stands, and what goes ahead of it. -/
theorem first_word : ∀ (n : Nat) (l : List UInt8) (ln cl : Nat) (t : Tok) (r : List Tok), l.length ≤ n → lex l ln cl = .ok (t :: r) →
    ∃ m, m ≤ l.length ∧ okG false (l.take m) = true ∧ spotL (ln, cl) (l.take m) = (t.line, t.col) ∧
      ((m = l.length ∧ t = ⟨4, [], 0, t.line, t.col⟩ ∧ r = []) ∨ (t.text ≠ [] ∧ t.kind < 4 ∧ m + t.text.length ≤ l.length ∧ (l.drop m).take t.text.length = t.text ∧
        ∃ p : Nat × Nat, spotL (t.line, t.col) t.text = p ∧ lex (l.drop (m + t.text.length)) p.1 p.2 = .ok r))
  | _, [], ln, cl, t, r, _, h => by
    rw [lex_nil] at h
    injection h with h
    injection h with h1 h2
    subst h1 h2
    exact ⟨0, Nat.le_refl _, rfl, rfl, .inl ⟨rfl, rfl, rfl⟩⟩
  | 0, _ :: _, _, _, _, _, h, _ => by simp at h
  | n + 1, c :: q, ln, cl, t, r, hn, h => by
    cases hs : stepL (c :: q) ln cl with
    | error e => rw [lex_bad (by simp) hs] at h; cases h
    | ok x =>
      obtain ⟨k, a, b, w⟩ := x
      obtain ⟨hk0, hk⟩ := step_pos hs
      obtain ⟨hsp, hf⟩ := step_forms hs
      rw [lex_went (by simp) hs] at h
      rcases hf with ⟨rfl, hf⟩ | ⟨w, rfl, hw, hwl, -, hw4⟩
      · rw [add_none] at h
        obtain ⟨m, hm, hg, hsp2, hx⟩ := first_word n _ a b t r (by rw [List.length_drop]; simp only [List.length_cons] at hn ⊢; omega) h
        rw [List.length_drop] at hm
        have ht : (c :: q).take (k + m) = (c :: q).take k ++ ((c :: q).drop k).take m := List.take_add
        refine ⟨k + m, by omega, ?_, ?_, ?_⟩
        · rw [ht]
          rcases hf with hf | ⟨h10, hf⟩
          · rw [hf]; exact hg
          · rw [hf]
            cases m with
            | zero => rfl
            | succ m =>
              rw [okG_turn]
              · exact hg
              · rcases hd : (c :: q).drop k with _ | ⟨y, ys⟩
                · exact .inl rfl
                · rw [hd] at h10
                  rw [List.take_succ_cons]
                  exact h10
        · rw [ht, spotL_app, hsp, hsp2]
        · rcases hx with ⟨h1, h2, h3⟩ | ⟨h1, h2, h3, h4, p, h5, h6⟩
          · rw [List.length_drop] at h1
            exact .inl ⟨by omega, h2, h3⟩
          · rw [List.length_drop] at h3
            rw [List.drop_drop] at h4 h6
            exact .inr ⟨h1, h2, by omega, h4, p, h5, by rw [Nat.add_assoc]; exact h6⟩
      · cases hr : lex ((c :: q).drop k) a b with
        | error e => rw [hr] at h; cases h
        | ok o =>
          rw [hr] at h
          injection h with h
          have h : w :: o = t :: r := h
          injection h with h1 h2
          subst h1 h2
          have hlen : w.text.length = k := by rw [hw, List.length_take]; omega
          have e1 : w.line = ln := congrArg Prod.fst hwl
          have e2 : w.col = cl := congrArg Prod.snd hwl
          refine ⟨0, Nat.zero_le _, rfl, ?_, .inr ⟨fun e => by rw [e] at hlen; simp at hlen; omega, hw4, by omega, ?_, (a, b), ?_, ?_⟩⟩
          · rw [e1, e2]; rfl
          · rw [List.drop_zero, hlen, hw]
          · rw [e1, e2, hw]; exact hsp
          · rw [Nat.zero_add, hlen]; exact hr

/-- Where something is wrong: a byte; what goes ahead is words. -/
theorem first_bad : ∀ (n : Nat) (l : List UInt8) (ln cl a b e : Nat), l.length ≤ n → lex l ln cl = .error (a, b, e) →
    ∃ m, m < l.length ∧ spotL (ln, cl) (l.take m) = (a, b) ∧ (e = 30 ∨ e = 31) ∧ ∃ out, lex (l.take m) ln cl = .ok out
  | _, [], ln, cl, _, _, _, _, h => by rw [lex_nil] at h; cases h
  | 0, _ :: _, _, _, _, _, _, h, _ => by simp at h
  | n + 1, c :: q, ln, cl, a, b, e, hn, h => by
    cases hs : stepL (c :: q) ln cl with
    | error e' =>
      rw [lex_bad (by simp) hs] at h
      injection h with h
      subst h
      have : (ln, cl, 30) = (a, b, e) ∨ (ln, cl, 31) = (a, b, e) := by
        unfold stepL at hs
        dsimp only at hs
        split at hs
        · cases hs
        · split at hs
          · cases hs
          · split at hs
            · cases hs
            · split at hs
              · cases hs
              · split at hs
                · split at hs
                  · injection hs with hs; exact .inr hs
                  · cases hs
                · split at hs
                  · cases hs
                  · injection hs with hs; exact .inl hs
      refine ⟨0, by simp, ?_, ?_, _, lex_nil ln cl⟩
      · rcases this with h | h <;> (injection h with h1 h; injection h with h2 h; rw [h1, h2]; rfl)
      · rcases this with h | h <;> (injection h with h1 h; injection h with h2 h; omega)
    | ok x =>
      obtain ⟨k, a', b', w⟩ := x
      obtain ⟨hk0, hk⟩ := step_pos hs
      obtain ⟨hsp, -⟩ := step_forms hs
      rw [lex_went (by simp) hs] at h
      have h' : lex ((c :: q).drop k) a' b' = .error (a, b, e) := by
        cases hr : lex ((c :: q).drop k) a' b' with
        | error x => rw [hr] at h; exact h
        | ok o => rw [hr] at h; cases h
      obtain ⟨m, hm, h1, h2, out, h3⟩ := first_bad n _ a' b' a b e (by rw [List.length_drop]; simp only [List.length_cons] at hn ⊢; omega) h'
      rw [List.length_drop] at hm
      refine ⟨k + m, by omega, ?_, h2, w.toList ++ out, ?_⟩
      · rw [List.take_add, spotL_app, hsp, h1]
      · have hs2 := stepL_take (n := k + m) hs (by omega)
        have h0 : (c :: q).take (k + m) ≠ [] := by
          obtain ⟨j, hj⟩ : ∃ j, k + m = j + 1 := ⟨k + m - 1, by omega⟩
          rw [hj, List.take_succ_cons]; simp
        rw [lex_went h0 hs2, List.drop_take, show k + m - k = m from by omega, h3]
        rfl

/-- Where each line begins. -/
def linesL : Nat → List UInt8 → List Nat
  | _, [] => []
  | i, c :: r => if c = 10 then (i + 1) :: linesL (i + 1) r else linesL (i + 1) r
def beginL (l : List UInt8) : List Nat := 0 :: linesL 0 l
theorem linesL_cons (i : Nat) (c : UInt8) (r : List UInt8) : linesL i (c :: r) = if c = 10 then (i + 1) :: linesL (i + 1) r else linesL (i + 1) r := rfl
theorem linesL_app : ∀ (a b : List UInt8) (i : Nat), linesL i (a ++ b) = linesL i a ++ linesL (i + a.length) b
  | [], b, i => rfl
  | c :: a, b, i => by
    rw [List.cons_append, linesL_cons, linesL_cons, linesL_app a b (i + 1), List.length_cons, show i + 1 + a.length = i + (a.length + 1) from by omega]
    split <;> simp
theorem begin_snoc (l : List UInt8) (b : UInt8) : beginL (l ++ [b]) = if b = 10 then beginL l ++ [l.length + 1] else beginL l := by
  unfold beginL
  rw [linesL_app, linesL_cons, Nat.zero_add]
  split <;> simp [show ∀ i, linesL i [] = [] from fun _ => rfl]
/-- The spot of a place, and the place of a spot. -/
theorem begin_spot (l : List UInt8) : (spotOf l).1 = (beginL l).length ∧ 1 ≤ (spotOf l).2 ∧ ∃ x, (beginL l)[(spotOf l).1 - 1]? = some x ∧ x + (spotOf l).2 = l.length + 1 := by
  refine snoc_ind (Q := fun l => (spotOf l).1 = (beginL l).length ∧ 1 ≤ (spotOf l).2 ∧ ∃ x, (beginL l)[(spotOf l).1 - 1]? = some x ∧ x + (spotOf l).2 = l.length + 1) ⟨rfl, Nat.le_refl _, 0, rfl, rfl⟩ (fun l b ih => ?_) l
  obtain ⟨h1, h2, x, h3, h4⟩ := ih
  rw [spotOf_snoc, begin_snoc]
  unfold spotStep
  split
  · refine ⟨by simp [h1], Nat.le_refl _, l.length + 1, ?_, by simp⟩
    show (beginL l ++ [l.length + 1])[(spotOf l).1 + 1 - 1]? = _
    rw [h1, Nat.add_sub_cancel, List.getElem?_append_right (Nat.le_refl _), Nat.sub_self]
    rfl
  · exact ⟨h1, by show 1 ≤ (spotOf l).2 + 1; omega, x, h3, by show x + ((spotOf l).2 + 1) = _; rw [List.length_append, List.length_singleton]; omega⟩
theorem begin_take (l : List UInt8) (m : Nat) : ∃ t, beginL l = beginL (l.take m) ++ t := by
  refine ⟨linesL (0 + (l.take m).length) (l.drop m), ?_⟩
  unfold beginL
  conv => lhs; rw [← List.take_append_drop m l]
  rw [linesL_app]
  rfl
/-- A place of a text: its spot is that of a line that begins there. -/
theorem place_of_spot (l : List UInt8) {m : Nat} (hm : m ≤ l.length) : 1 ≤ (spotOf (l.take m)).1 ∧ (spotOf (l.take m)).1 ≤ (beginL l).length ∧ 1 ≤ (spotOf (l.take m)).2 ∧ ∃ x, (beginL l)[(spotOf (l.take m)).1 - 1]? = some x ∧ x + (spotOf (l.take m)).2 = m + 1 := by
  obtain ⟨h1, h2, x, h3, h4⟩ := begin_spot (l.take m)
  obtain ⟨t, ht⟩ := begin_take l m
  rw [List.length_take, Nat.min_eq_left hm] at h4
  have hlt : (spotOf (l.take m)).1 - 1 < (beginL (l.take m)).length := by
    rcases Nat.lt_or_ge ((spotOf (l.take m)).1 - 1) (beginL (l.take m)).length with h | h
    · exact h
    · rw [List.getElem?_eq_none h] at h3; cases h3
  refine ⟨?_, by rw [ht, List.length_append]; omega, h2, x, by rw [ht, List.getElem?_append_left hlt]; exact h3, h4⟩
  rw [h1]
  show 1 ≤ (0 :: linesL 0 (l.take m)).length
  simp
end
section
def gapsL : List (List UInt8) := [[32], [9], [10], [13, 10], [32, 59, 32, 97, 32, 40, 49, 32, 45, 10], [10, 10, 32], [59, 10]]

theorem tw_all {p : UInt8 → Bool} {x r : List UInt8} (hx : ∀ b ∈ x, p b = true) (hr : r.head?.any p = false) : (x ++ r).takeWhile p = x ∧ (x ++ r).dropWhile p = r := by
  have h1 : r.takeWhile p = [] ∧ r.dropWhile p = r := by
    cases r with
    | nil => exact ⟨rfl, rfl⟩
    | cons c r =>
      have : ¬ p c = true := by simpa using hr
      rw [List.takeWhile_cons, List.dropWhile_cons, if_neg this, if_neg this]
      exact ⟨rfl, rfl⟩
  constructor
  · rw [List.takeWhile_append_of_pos hx, h1.1, List.append_nil]
  · rw [List.dropWhile_append_of_pos hx, h1.2]
theorem lex_note (x r : List UInt8) (h : ∀ b ∈ x, b ≠ 10) (ln cl : Nat) : lex (59 :: (x ++ 10 :: r)) ln cl = lex r (ln + 1) 1 := by
  have ht : (59 :: (x ++ 10 :: r)).takeWhile (· != 10) = 59 :: x := by
    rw [List.takeWhile_cons, if_pos (by decide), (tw_all (p := (· != 10)) (x := x) (r := 10 :: r) (fun b hb => by simpa using h b hb) rfl).1]
  have hs : stepL (59 :: (x ++ 10 :: r)) ln cl = .ok ((59 :: x).length, ln, cl + (59 :: x).length, none) := by
    unfold stepL
    dsimp only
    rw [if_neg (by decide), if_neg (by decide), if_pos rfl, ht]
  rw [lex_went (by simp) hs, add_none]
  show lex ((59 :: x ++ 10 :: r).drop (59 :: x).length) _ _ = _
  rw [List.drop_left, lex_line]

theorem lex_gap {g : List UInt8} (hg : g = [] ∨ g ∈ gapsL) (r : List UInt8) (p : Nat × Nat) : lex (g ++ r) p.1 p.2 = lex r (spotL p g).1 (spotL p g).2 := by
  obtain ⟨a, b⟩ := p
  rcases hg with rfl | hg
  · rfl
  · simp only [gapsL, List.mem_cons, List.not_mem_nil, or_false] at hg
    rcases hg with rfl | rfl | rfl | rfl | rfl | rfl | rfl
    · exact lex_blank (by decide) _ _ _
    · exact lex_blank (by decide) _ _ _
    · exact lex_line _ _ _
    · exact (lex_blank (by decide) _ _ _).trans (lex_line _ _ _)
    · exact (lex_blank (by decide) _ _ _).trans (lex_note [32, 97, 32, 40, 49, 32, 45] r (by decide) _ _)
    · exact (lex_line _ _ _).trans ((lex_line _ _ _).trans (lex_blank (by decide) _ _ _))
    · exact lex_note [] r (by decide) _ _
theorem gap_head {g : List UInt8} (hg : g ∈ gapsL) : g.head?.any partB = false ∧ g ≠ [] := by
  simp only [gapsL, List.mem_cons, List.not_mem_nil, or_false] at hg
  rcases hg with rfl | rfl | rfl | rfl | rfl | rfl | rfl <;> exact ⟨by decide, by simp⟩

/-- A word's form. -/
def FormOk (kind : Nat) (text : List UInt8) (num : Nat) : Prop :=
  (kind = 1 ∧ num = 0 ∧ (∃ c r, text = c :: r ∧ letterB c = true) ∧ ∀ b ∈ text, partB b = true) ∨
  (kind = 2 ∧ num = numOf text ∧ text ≠ [] ∧ (∀ b ∈ text, digitB b = true) ∧ text.length ≤ 9 ∧ (1 < text.length → text.head? ≠ some 48)) ∨
  (kind = 3 ∧ num = 0 ∧ ∃ c, text = [c] ∧ signB c = true)

theorem letter_no {c : UInt8} (h : letterB c = true) : c ≠ 10 ∧ blankB c = false ∧ c ≠ 59 := by
  refine ⟨by rintro rfl; exact absurd h (by decide), ?_, by rintro rfl; exact absurd h (by decide)⟩
  cases hb : blankB c with
  | false => rfl
  | true =>
    unfold blankB at hb
    simp at hb
    rcases hb with (rfl | rfl) | rfl <;> exact absurd h (by decide)
theorem digit_no {c : UInt8} (h : digitB c = true) : c ≠ 10 ∧ blankB c = false ∧ c ≠ 59 ∧ letterB c = false := by
  have hv := digit_val h
  refine ⟨by rintro rfl; exact absurd h (by decide), ?_, by rintro rfl; exact absurd h (by decide), ?_⟩
  · cases hb : blankB c with
    | false => rfl
    | true =>
      unfold blankB at hb
      simp at hb
      rcases hb with (rfl | rfl) | rfl <;> exact absurd h (by decide)
  · cases hb : letterB c with
    | false => rfl
    | true =>
      unfold letterB at hb
      simp [UInt8.le_iff_toNat_le] at hb
      rcases hb with hb | hb | rfl
      · omega
      · omega
      · exact absurd h (by decide)
theorem sign_no {c : UInt8} (h : signB c = true) : c ≠ 10 ∧ blankB c = false ∧ c ≠ 59 ∧ letterB c = false ∧ digitB c = false ∧ partB c = false := by
  unfold signB at h
  simp [signs] at h
  rcases h with rfl | rfl | rfl | rfl | rfl | rfl | rfl | rfl | rfl <;> decide
theorem part_no {c : UInt8} (h : partB c = true) : c ≠ 10 := by rintro rfl; exact absurd h (by decide)

theorem any_less {r : List UInt8} (h : r.head?.any partB = false) : r.head?.any digitB = false := by
  cases hr : r.head? with
  | none => rfl
  | some c =>
    rw [hr] at h
    simp [partB] at h ⊢
    exact h.2.1

theorem lex_word {kind num : Nat} {text r : List UInt8} (h : FormOk kind text num) (hr : kind ≠ 3 → r.head?.any partB = false) (ln cl : Nat) :
    lex (text ++ r) ln cl = sofar [⟨kind, text, num, ln, cl⟩] (lex r ln (cl + text.length)) := by
  have key : stepL (text ++ r) ln cl = .ok (text.length, ln, cl + text.length, some ⟨kind, text, num, ln, cl⟩) → text ≠ [] → lex (text ++ r) ln cl = sofar [⟨kind, text, num, ln, cl⟩] (lex r ln (cl + text.length)) := by
    intro hs h0
    rw [lex_went (by simp [h0]) hs, add_addR, List.drop_left]
  rcases h with ⟨rfl, rfl, ⟨c, q, rfl, hc⟩, hp⟩ | ⟨rfl, rfl, h0, hd, h9, h1⟩ | ⟨rfl, rfl, c, rfl, hc⟩
  · obtain ⟨n1, n2, n3⟩ := letter_no hc
    obtain ⟨h1, -⟩ := tw_all hp (hr (by decide))
    refine key ?_ (by simp)
    rw [List.cons_append] at h1 ⊢
    unfold stepL
    dsimp only
    rw [if_neg n1, if_neg (by rw [n2]; simp), if_neg n3, if_pos hc, h1]
  · obtain ⟨h2, h3⟩ := tw_all hd (any_less (hr (by decide)))
    cases text with
    | nil => exact absurd rfl h0
    | cons c q =>
      obtain ⟨n1, n2, n3, n4⟩ := digit_no (hd c (by simp))
      refine key ?_ (by simp)
      rw [List.cons_append] at h2 h3 ⊢
      unfold stepL
      dsimp only
      rw [if_neg n1, if_neg (by rw [n2]; simp), if_neg n3, if_neg (by rw [n4]; simp), if_pos (hd c (by simp)), h2, h3, hr (by decide), decide_eq_false (by omega : ¬ 9 < (c :: q).length)]
      have : (decide (1 < (c :: q).length) && decide (c = 48)) = false := by
        rw [Bool.and_eq_false_iff]
        by_cases hl : 1 < (c :: q).length
        · right
          have := h1 hl
          simpa using this
        · left
          exact decide_eq_false hl
      rw [this]
      simp
  · obtain ⟨n1, n2, n3, n4, n5, -⟩ := sign_no hc
    refine key ?_ (by simp)
    show stepL (c :: r) ln cl = _
    unfold stepL
    dsimp only
    rw [if_neg n1, if_neg (by rw [n2]; simp), if_neg n3, if_neg (by rw [n4]; simp), if_neg (by rw [n5]; simp), if_pos hc]
    rfl
theorem form_flat {kind num : Nat} {text : List UInt8} (h : FormOk kind text num) : ∀ b ∈ text, b ≠ 10 := by
  rcases h with ⟨-, -, -, hp⟩ | ⟨-, -, -, hd, -⟩ | ⟨-, -, c, rfl, hc⟩
  · exact fun b hb => part_no (hp b hb)
  · exact fun b hb => (digit_no (hd b hb)).1
  · intro b hb
    rw [List.mem_singleton] at hb
    rw [hb]
    exact (sign_no hc).1

/-- What is laid so far: the text, its words, and whether a sign is its end (or nothing). -/
inductive Laid : List UInt8 → List Tok → Bool → Prop
  | nil : Laid [] [] true
  | snoc {t : List UInt8} {k : List Tok} {s : Bool} {kind num : Nat} {text gap : List UInt8} : Laid t k s → FormOk kind text num → (gap = [] ∨ gap ∈ gapsL) → (s = false → kind ≠ 3 → gap ≠ []) →
      Laid (t ++ gap ++ text) (k ++ [⟨kind, text, num, (spotOf (t ++ gap)).1, (spotOf (t ++ gap)).2⟩]) (decide (kind = 3))

theorem spotOf_app (a b : List UInt8) : spotOf (a ++ b) = spotL (spotOf a) b := by unfold spotOf spotL; rw [List.foldl_append]
theorem laid_lex {t : List UInt8} {k : List Tok} {s : Bool} (h : Laid t k s) : ∀ r : List UInt8, (s = false → r.head?.any partB = false) → lex (t ++ r) 1 1 = sofar k (lex r (spotOf t).1 (spotOf t).2) := by
  induction h with
  | nil => intro r _; rw [List.nil_append, sofar_nil]; rfl
  | @snoc t k s kind num text gap hL hf hg hn ih =>
    intro r hr
    have hr' : kind ≠ 3 → r.head?.any partB = false := fun h => hr (decide_eq_false h)
    have hfit : s = false → (gap ++ (text ++ r)).head?.any partB = false := by
      intro hs
      by_cases hg0 : gap = []
      · have hk : kind = 3 := by
          rcases Nat.decEq kind 3 with h | h
          · exact absurd hg0 (hn hs h)
          · exact h
        rcases hf with ⟨h, _⟩ | ⟨h, _⟩ | ⟨-, -, c, rfl, hc⟩
        · omega
        · omega
        · rw [hg0]
          show partB c = false
          exact (sign_no hc).2.2.2.2.2
      · rcases hg with h | h
        · exact absurd h hg0
        · cases gap with
          | nil => exact absurd rfl hg0
          | cons c q => exact (gap_head h).1
    rw [List.append_assoc, List.append_assoc, ih _ hfit, lex_gap hg, lex_word hf hr', ← spotOf_app]
    have he : spotOf (t ++ gap ++ text) = ((spotOf (t ++ gap)).1, (spotOf (t ++ gap)).2 + text.length) := by
      rw [spotOf_app]
      exact fold_flat _ _ (form_flat hf)
    rw [he]
    cases lex r (spotOf (t ++ gap)).1 ((spotOf (t ++ gap)).2 + text.length) with
    | error e => rfl
    | ok o => simp [sofar]
theorem laid_end {t : List UInt8} {k : List Tok} {s : Bool} (h : Laid t k s) : lex t 1 1 = .ok (k ++ [⟨4, [], 0, (spotOf t).1, (spotOf t).2⟩]) := by
  have := laid_lex h [] (fun _ => rfl)
  rw [List.append_nil, lex_nil] at this
  exact this
theorem laid_note {t : List UInt8} {k : List Tok} {s : Bool} (h : Laid t k s) : lex (t ++ [59, 32, 120]) 1 1 = .ok (k ++ [⟨4, [], 0, (spotOf t).1, (spotOf t).2 + 3⟩]) := by
  rw [laid_lex h [59, 32, 120] (fun _ => by decide)]
  have hs : ∀ ln cl, stepL [59, 32, 120] ln cl = .ok (3, ln, cl + 3, none) := fun ln cl => rfl
  rw [lex_went (by simp) (hs _ _), add_none]
  rfl
end
section
section
variable {α β : Type} {E : Tok} {R l : List Tok}
/-- What is told with the end behind is told with other words behind, unless all words ahead of the end were read. -/
def Cut (E : Tok) (R l : List Tok) (r1 r2 : Except Flt (α × List Tok)) : Prop :=
  match r1 with
  | .ok (x, l1) => ∃ l', l1 = l' ++ [E] ∧ (∀ t ∈ l', t ∈ l) ∧ (l' ≠ [] → r2 = .ok (x, l' ++ R))
  | .error e => e.2.2 = 41 ∨ (∃ t ∈ l, e.1 = t.line ∧ e.2.1 = t.col) ∧ r2 = .error e
def CutL (E : Tok) (R l : List Tok) (r1 r2 : Except Flt (List Tok)) : Prop :=
  match r1 with
  | .ok l1 => ∃ l', l1 = l' ++ [E] ∧ (∀ t ∈ l', t ∈ l) ∧ (l' ≠ [] → r2 = .ok (l' ++ R))
  | .error e => e.2.2 = 41 ∨ (∃ t ∈ l, e.1 = t.line ∧ e.2.1 = t.col) ∧ r2 = .error e
theorem Cut.weak {R' : List Tok} {r1 r2 r3 : Except Flt (α × List Tok)} (h : Cut E R' [] r1 r2) : Cut E R l r1 r3 := by
  cases r1 with
  | error e =>
    rcases h with h | ⟨⟨t, ht, -⟩, -⟩
    · exact .inl h
    · cases ht
  | ok p =>
    obtain ⟨l', h1, h2, -⟩ := h
    obtain rfl : l' = [] := by
      cases l' with
      | nil => rfl
      | cons t l' => have := h2 t (List.mem_cons_self ..); cases this
    exact ⟨[], h1, fun t ht => (by cases ht), fun h => absurd rfl h⟩
theorem Cut.sub {l2 : List Tok} {r1 r2 : Except Flt (α × List Tok)} (h : Cut E R l r1 r2) (hs : ∀ t ∈ l, t ∈ l2) : Cut E R l2 r1 r2 := by
  cases r1 with
  | error e =>
    rcases h with h | ⟨⟨t, ht, h1⟩, h2⟩
    · exact .inl h
    · exact .inr ⟨⟨t, hs t ht, h1⟩, h2⟩
  | ok p =>
    obtain ⟨l', h1, h2, h3⟩ := h
    exact ⟨l', h1, fun t ht => hs t (h2 t ht), h3⟩
/-- Behind the words there is the end, or there is a word yet. -/
def Beh (E : Tok) (R l : List Tok) : Prop := l = [] → R = [E]
theorem Beh.cons {t : Tok} : Beh E R (t :: l) := fun h => by cases h
theorem Beh.nil : Beh E [E] [] := fun _ => rfl
theorem Cut.bind {r1 r2 : Except Flt (α × List Tok)} {g1 g2 : α → List Tok → Except Flt (β × List Tok)} (h : Cut E R l r1 r2) (hg : ∀ R' x l', Beh E R' l' → (r1 = .ok (x, l' ++ [E])) → Cut E R' l' (g1 x (l' ++ [E])) (g2 x (l' ++ R'))) : Cut E R l (bindE r1 g1) (bindE r2 g2) := by
  cases r1 with
  | error e =>
    rcases h with h | ⟨h0, h⟩
    · exact .inl h
    · subst h
      exact .inr ⟨h0, rfl⟩
  | ok p =>
    obtain ⟨x, l1⟩ := p
    obtain ⟨l', rfl, hs, h⟩ := h
    cases l' with
    | nil => exact (hg [E] x [] Beh.nil rfl).weak
    | cons t l' =>
      have h := h (by simp)
      subst h
      exact (hg R x (t :: l') Beh.cons rfl).sub hs
theorem CutL.bind {r1 r2 : Except Flt (List Tok)} {g1 g2 : List Tok → Except Flt (β × List Tok)} (h : CutL E R l r1 r2) (hg : ∀ R' l', Beh E R' l' → (r1 = .ok (l' ++ [E])) → Cut E R' l' (g1 (l' ++ [E])) (g2 (l' ++ R'))) :
    Cut E R l (match (generalizing := false) r1 with | .error e => .error e | .ok l => g1 l) (match (generalizing := false) r2 with | .error e => .error e | .ok l => g2 l) := by
  cases r1 with
  | error e =>
    rcases h with h | ⟨h0, h⟩
    · exact .inl h
    · subst h
      exact .inr ⟨h0, rfl⟩
  | ok l1 =>
    obtain ⟨l', rfl, hs, h⟩ := h
    cases l' with
    | nil => exact (hg [E] [] Beh.nil rfl).weak
    | cons t l' =>
      have h := h (by simp)
      subst h
      exact (hg R (t :: l') Beh.cons rfl).sub hs
theorem Cut.ok {x : α} : Cut E R l (.ok (x, l ++ [E])) (.ok (x, l ++ R)) := ⟨l, rfl, fun _ h => h, fun _ => rfl⟩
theorem more_cut (hR : Beh E R l) (ln : Nat) : moreB (l ++ R) ln = moreB (l ++ [E]) ln := by
  cases l with
  | nil => rw [hR rfl]
  | cons t l => rfl
theorem isB_cut (hR : Beh E R l) (ln : Nat) (c : UInt8) : isB (l ++ R) ln c = isB (l ++ [E]) ln c := by
  cases l with
  | nil => rw [hR rfl]
  | cons t l => rfl
theorem take_cut (hE : E.kind = 4) (hR : Beh E R l) (k ln : Nat) : Cut E R l (takeP k (l ++ [E]) ln) (takeP k (l ++ R) ln) := by
  cases l with
  | nil =>
    have : takeP k ([] ++ [E]) ln = .error (fltL [E]) := by
      show (if (moreB [E] ln && E.kind == k) = true then _ else _) = _
      have e : moreB [E] ln = false := by show (!(E.kind == 4) && E.line == ln) = false; rw [hE]; rfl
      rw [e]
      rfl
    rw [this]
    refine .inl ?_
    show (if E.kind = 4 then 41 else 40) = 41
    rw [if_pos hE]
  | cons t l =>
    show Cut E R (t :: l) (if (moreB (t :: (l ++ [E])) ln && t.kind == k) = true then .ok (t, l ++ [E]) else .error (fltL (t :: (l ++ [E])))) (if (moreB (t :: (l ++ R)) ln && t.kind == k) = true then .ok (t, l ++ R) else .error (fltL (t :: (l ++ R))))
    have e : moreB (t :: (l ++ R)) ln = moreB (t :: (l ++ [E])) ln := rfl
    rw [e]
    by_cases hc : (moreB (t :: (l ++ [E])) ln && t.kind == k) = true
    · rw [if_pos hc, if_pos hc]
      exact Cut.ok.sub fun x hx => List.mem_cons_of_mem _ hx
    · rw [if_neg hc, if_neg hc]
      exact .inr ⟨⟨t, List.mem_cons_self .., rfl, rfl⟩, rfl⟩
theorem name_cut (hE : E.kind = 4) (hR : Beh E R l) (ln : Nat) : Cut E R l (nameP (l ++ [E]) ln) (nameP (l ++ R) ln) := by
  rw [nameP_b, nameP_b]
  exact (take_cut hE hR 1 ln).bind fun _ _ _ _ _ => Cut.ok
theorem flt_cut (hE : E.kind = 4) (hR : Beh E R l) : (fltL (l ++ [E])).2.2 = 41 ∨ (∃ t ∈ l, (fltL (l ++ [E])).1 = t.line ∧ (fltL (l ++ [E])).2.1 = t.col) ∧ fltL (l ++ R) = fltL (l ++ [E]) := by
  cases l with
  | nil =>
    refine .inl ?_
    show (if E.kind = 4 then 41 else 40) = 41
    rw [if_pos hE]
  | cons t l => exact .inr ⟨⟨t, List.mem_cons_self .., rfl, rfl⟩, rfl⟩
theorem isB_endC (hE : E.kind = 4) (ln : Nat) (c : UInt8) : isB ([] ++ [E]) ln c = false := by
  have : moreB ([] ++ [E]) ln = false := by show (!(E.kind == 4) && E.line == ln) = false; rw [hE]; rfl
  unfold isB
  rw [this]
  rfl
theorem sign_cut (hE : E.kind = 4) (hR : Beh E R l) (c : UInt8) (ln : Nat) : CutL E R l (signP c (l ++ [E]) ln) (signP c (l ++ R) ln) := by
  unfold signP
  rw [isB_cut hR]
  by_cases hc : isB (l ++ [E]) ln c = true
  · rw [if_pos hc, if_pos hc]
    cases l with
    | nil => rw [isB_endC hE] at hc; cases hc
    | cons t l => exact ⟨l, rfl, fun x hx => List.mem_cons_of_mem _ hx, fun _ => rfl⟩
  · rw [if_neg hc, if_neg hc]
    rcases flt_cut hE hR with h | ⟨h1, h2⟩
    · exact .inl h
    · exact .inr ⟨h1, by rw [h2]⟩
/-- A reader that goes along. -/
def CutP (E : Tok) (f : α → List Tok → Nat → Except Flt (α × List Tok)) : Prop := ∀ R x l ln, Beh E R l → Cut E R l (f x (l ++ [E]) ln) (f x (l ++ R) ln)
theorem list_cut (hE : E.kind = 4) {one : α → List Tok → Nat → Except Flt (α × List Tok)} {c : UInt8} (hone : CutP E one) (hle : ∀ x l ln x' l', one x l ln = .ok (x', l') → l'.length ≤ l.length) :
    ∀ (n1 n2 : Nat) (R : List Tok) (x : α) (l : List Tok) (ln : Nat), Beh E R l → l.length + 1 ≤ n1 → l.length + 1 ≤ n2 → Cut E R l (listP one c n1 x (l ++ [E]) ln) (listP one c n2 x (l ++ R) ln)
  | 0, _, _, _, _, _, _, h1, _ => by omega
  | _, 0, _, _, _, _, _, _, h2 => by omega
  | n1 + 1, n2 + 1, R, x, l, ln, hR, h1, h2 => by
    have e1 : ∀ n l, listP one c (n + 1) x l ln = bindE (one x l ln) (fun x l => if isB l ln c = true then (match (generalizing := false) signP c l ln with | .error e => .error e | .ok l => .ok (x, l)) else (match (generalizing := false) signP 44 l ln with | .error e => .error e | .ok l => listP one c n x l ln)) := fun n l => by
      rw [listP]
      unfold bindE
      cases one x l ln <;> rfl
    rw [e1, e1]
    refine (hone R x l ln hR).bind fun R' x' l' hR' hr => ?_
    have hlen := hle _ _ _ _ _ hr
    simp only [List.length_append, List.length_singleton] at hlen
    rw [isB_cut hR']
    by_cases hc : isB (l' ++ [E]) ln c = true
    · rw [if_pos hc, if_pos hc]
      exact (sign_cut hE hR' c ln).bind (g1 := fun l => .ok (x', l)) (g2 := fun l => .ok (x', l)) fun _ _ _ _ => Cut.ok
    · rw [if_neg hc, if_neg hc]
      refine (sign_cut hE hR' 44 ln).bind (g1 := fun l => listP one c n1 x' l ln) (g2 := fun l => listP one c n2 x' l ln) fun R3 l3 hR3 hq => ?_
      have hlen2 := sign_le hq
      simp only [List.length_append, List.length_singleton] at hlen2
      exact list_cut hE hone hle n1 n2 R3 x' l3 ln hR3 (by omega) (by omega)
theorem oneName_cut (hE : E.kind = 4) : CutP E oneName := fun _ x _ _ hR => by
  rw [oneName_b, oneName_b]
  exact (name_cut hE hR _).bind fun _ _ _ _ _ => Cut.ok
theorem names_cut (hE : E.kind = 4) (hR : Beh E R l) (ln : Nat) : Cut E R l (namesP (l ++ [E]) ln) (namesP (l ++ R) ln) := by
  unfold namesP
  refine (sign_cut hE hR 40 ln).bind (g1 := fun l => if isB l ln 41 = true then (match signP 41 l ln with | .error e => .error e | .ok l => .ok ([], l)) else listP oneName 41 (l.length + 1) [] l ln) (g2 := fun l => if isB l ln 41 = true then (match signP 41 l ln with | .error e => .error e | .ok l => .ok ([], l)) else listP oneName 41 (l.length + 1) [] l ln) fun R' l' hR' _ => ?_
  rw [isB_cut hR']
  by_cases hc : isB (l' ++ [E]) ln 41 = true
  · rw [if_pos hc, if_pos hc]
    exact (sign_cut hE hR' 41 ln).bind (g1 := fun l => .ok ([], l)) (g2 := fun l => .ok ([], l)) fun _ _ _ _ => Cut.ok
  · rw [if_neg hc, if_neg hc]
    exact list_cut hE (oneName_cut hE) oneName_le _ _ _ _ _ _ hR' (by simp) (by simp)
theorem then_cut {f g : Ins → List Tok → Nat → Except Flt (Ins × List Tok)} (hf : CutP E f) (hg : CutP E g) : CutP E (thenP f g) := fun R x l ln hR => by
  rw [thenP_b, thenP_b]
  exact (hf R x l ln hR).bind fun R' x l' hR' _ => hg R' x l' ln hR'
theorem skip_cut (hE : E.kind = 4) (c : UInt8) : CutP E (skipP c) := fun R x l ln hR => (sign_cut hE hR c ln).bind (g1 := fun l => .ok (x, l)) (g2 := fun l => .ok (x, l)) fun _ _ _ _ => Cut.ok
theorem byName_cut (hE : E.kind = 4) {f : Ins → List Tok → Nat → Except Flt (Ins × List Tok)} (put : Ins → ByteArray → Ins) (hf : ∀ x l ln, f x l ln = match nameP l ln with | .error e => .error e | .ok (s, l) => .ok (put x s, l)) : CutP E f := fun R x l ln hR => by
  have e : ∀ x l ln, f x l ln = bindE (nameP l ln) (fun s l => .ok (put x s, l)) := fun x l ln => by
    rw [hf]
    unfold bindE
    cases nameP l ln <;> rfl
  rw [e, e]
  exact (name_cut hE hR ln).bind fun _ _ _ _ _ => Cut.ok
theorem operand_cut (h : E.kind = 4) : CutP E operandP := byName_cut h (fun x s => { x with a := s }) (fun _ _ _ => rfl)
theorem label_cut (h : E.kind = 4) : CutP E labelP := byName_cut h (fun x s => { x with labels := x.labels ++ [s] }) (fun _ _ _ => rfl)
theorem fn_cut (h : E.kind = 4) : CutP E fnP := byName_cut h (fun x s => { x with fn := s }) (fun _ _ _ => rfl)
theorem arg_cut (h : E.kind = 4) : CutP E argP := byName_cut h (fun x s => { x with args := x.args ++ [s] }) (fun _ _ _ => rfl)
theorem val_cut (h : E.kind = 4) : CutP E valP := byName_cut h (fun x s => { x with b := s }) (fun _ _ _ => rfl)
theorem fields_cut (h : E.kind = 4) : CutP E fieldsP := fun R x l ln hR => by
  rw [fieldsP_b, fieldsP_b]
  exact (take_cut h hR 2 ln).bind fun _ _ _ _ _ => Cut.ok
theorem args_cut (h : E.kind = 4) : CutP E argsP := fun R x l ln hR => by
  rw [argsP_b, argsP_b]
  exact (names_cut h hR ln).bind fun _ _ _ _ _ => Cut.ok
theorem pair_cut (h : E.kind = 4) : CutP E pairP := then_cut (label_cut h) (then_cut (skip_cut h 58) (arg_cut h))
theorem phi_cut (h : E.kind = 4) : CutP E phiP := fun R x l ln hR =>
  (sign_cut h hR 91 ln).bind (g1 := fun l => listP pairP 93 (l.length + 1) x l ln) (g2 := fun l => listP pairP 93 (l.length + 1) x l ln) fun R' l' hR' _ => list_cut h (pair_cut h) pair_leS _ _ _ _ _ _ hR' (by simp) (by simp)
theorem rest_cut (h : E.kind = 4) (r : Rst) : CutP E (restP r) := by
  cases r with
  | fields => exact fields_cut h
  | nothing => exact fun R x l ln hR => Cut.ok
  | fn => exact fn_cut h
  | operand => exact operand_cut h
  | field => exact then_cut (operand_cut h) (fields_cut h)
  | phi => exact phi_cut h
  | call => exact then_cut (fn_cut h) (args_cut h)
  | icall => exact then_cut (operand_cut h) (args_cut h)
  | store => exact then_cut (operand_cut h) (then_cut (skip_cut h 44) (val_cut h))
  | branch => exact then_cut (label_cut h) (label_cut h)
  | label => exact label_cut h
  | result =>
    intro R x l ln hR
    show Cut E R l (if moreB (l ++ [E]) ln = true then operandP x (l ++ [E]) ln else .ok (x, l ++ [E])) (if moreB (l ++ R) ln = true then operandP x (l ++ R) ln else .ok (x, l ++ R))
    rw [more_cut hR]
    by_cases hc : moreB (l ++ [E]) ln = true
    · rw [if_pos hc, if_pos hc]; exact operand_cut h R x l ln hR
    · rw [if_neg hc, if_neg hc]; exact Cut.ok
end
end
section
section
variable {E : Tok} {R l : List Tok}
theorem instr_cut (hE : E.kind = 4) (hR : Beh E R l) (how : Int × Rst) (dst : ByteArray) (ln : Nat) : Cut E R l (instrP how dst (l ++ [E]) ln) (instrP how dst (l ++ R) ln) := rest_cut hE how.2 R _ l ln hR
theorem head_cut (hR : Beh E R l) : headT (l ++ R) = headT (l ++ [E]) := by
  cases l with
  | nil => rw [hR rfl]
  | cons t l => rfl
/-- What stands behind a line's first name. -/
def behindP (d : Fun) (s : ByteArray) (l : List Tok) (ln : Nat) : Except Flt (Fun × List Tok) :=
  if (d.blocks.isEmpty || isB l ln 58) = true then
    match (generalizing := false) signP 58 l ln with
    | .error e => .error e
    | .ok l => .ok (addB d s, l)
  else
    match (if isB l ln 61 = true then none else bareF s.data.toList) with
    | some how => bindE (instrP how ⟨#[]⟩ l ln) fun x l => .ok (addI d x, l)
    | none =>
      match (generalizing := false) signP 61 l ln with
      | .error e => .error e
      | .ok l =>
        match valueF (headT l) with
        | none => .error (fltL l)
        | some how => bindE (nameP l ln) fun _ l => bindE (instrP how s l ln) fun x l => .ok (addI d x, l)
theorem insideP_b (d : Fun) (l : List Tok) (ln : Nat) : insideP d l ln = bindE (nameP l ln) fun s l => behindP d s l ln := by
  unfold insideP
  cases nameP l ln with
  | error e => rfl
  | ok p =>
    obtain ⟨s, l⟩ := p
    show _ = behindP d s l ln
    unfold behindP
    dsimp only
    split
    · rfl
    · cases (if isB l ln 61 = true then none else bareF s.data.toList) with
      | some how =>
        dsimp only
        unfold bindE
        cases instrP how ⟨#[]⟩ l ln <;> rfl
      | none =>
        dsimp only
        cases signP 61 l ln with
        | error e => rfl
        | ok l =>
          dsimp only
          cases valueF (headT l) with
          | none => rfl
          | some how =>
            dsimp only
            unfold bindE
            cases nameP l ln with
            | error e => rfl
            | ok p =>
              dsimp only
              cases instrP how s p.2 ln <;> rfl
theorem behind_cut (hE : E.kind = 4) (hR : Beh E R l) (d : Fun) (s : ByteArray) (ln : Nat) : Cut E R l (behindP d s (l ++ [E]) ln) (behindP d s (l ++ R) ln) := by
  unfold behindP
  rw [isB_cut hR, isB_cut hR]
  by_cases hc : (d.blocks.isEmpty || isB (l ++ [E]) ln 58) = true
  · rw [if_pos hc, if_pos hc]
    exact (sign_cut hE hR 58 ln).bind (g1 := fun l => .ok (addB d s, l)) (g2 := fun l => .ok (addB d s, l)) fun _ _ _ _ => Cut.ok
  · rw [if_neg hc, if_neg hc]
    cases (if isB (l ++ [E]) ln 61 = true then none else bareF s.data.toList) with
    | some how =>
      dsimp only
      exact (instr_cut hE hR how _ ln).bind fun _ _ _ _ _ => Cut.ok
    | none =>
      dsimp only
      refine (sign_cut hE hR 61 ln).bind (g1 := fun l => match valueF (headT l) with
        | none => .error (fltL l)
        | some how => bindE (nameP l ln) fun _ l => bindE (instrP how s l ln) fun x l => .ok (addI d x, l)) (g2 := fun l => match valueF (headT l) with
        | none => .error (fltL l)
        | some how => bindE (nameP l ln) fun _ l => bindE (instrP how s l ln) fun x l => .ok (addI d x, l)) fun R' l' hR' _ => ?_
      rw [head_cut hR']
      cases valueF (headT (l' ++ [E])) with
      | none =>
        rcases flt_cut hE hR' with h | ⟨h1, h2⟩
        · exact .inl h
        · exact .inr ⟨h1, by rw [h2]⟩
      | some how =>
        dsimp only
        exact (name_cut hE hR' ln).bind fun R3 _ l3 hR3 _ => (instr_cut hE hR3 how s ln).bind fun _ _ _ _ _ => Cut.ok
theorem inside_cut (hE : E.kind = 4) (hR : Beh E R l) (d : Fun) (ln : Nat) : Cut E R l (insideP d (l ++ [E]) ln) (insideP d (l ++ R) ln) := by
  rw [insideP_b, insideP_b]
  exact (name_cut hE hR ln).bind fun R' s l' hR' _ => behind_cut hE hR' d s ln
/-- A reader that tells a line too. -/
def CutT (E : Tok) (R l : List Tok) (r1 r2 : Except Flt (Fun × List Tok × Nat)) : Prop :=
  match r1 with
  | .ok (d, l1, ln) => ∃ l', l1 = l' ++ [E] ∧ (∀ t ∈ l', t ∈ l) ∧ (l' ≠ [] → r2 = .ok (d, l' ++ R, ln))
  | .error e => e.2.2 = 41 ∨ (∃ t ∈ l, e.1 = t.line ∧ e.2.1 = t.col) ∧ r2 = .error e
theorem CutT.weak {R' : List Tok} {r1 r2 r3 : Except Flt (Fun × List Tok × Nat)} (h : CutT E R' [] r1 r2) : CutT E R l r1 r3 := by
  cases r1 with
  | error e =>
    rcases h with h | ⟨⟨t, ht, -⟩, -⟩
    · exact .inl h
    · cases ht
  | ok p =>
    obtain ⟨l', h1, h2, -⟩ := h
    obtain rfl : l' = [] := by
      cases l' with
      | nil => rfl
      | cons t l' => have := h2 t (List.mem_cons_self ..); cases this
    exact ⟨[], h1, fun t ht => (by cases ht), fun h => absurd rfl h⟩
theorem CutT.sub {l2 : List Tok} {r1 r2 : Except Flt (Fun × List Tok × Nat)} (h : CutT E R l r1 r2) (hs : ∀ t ∈ l, t ∈ l2) : CutT E R l2 r1 r2 := by
  cases r1 with
  | error e =>
    rcases h with h | ⟨⟨t, ht, h1⟩, h2⟩
    · exact .inl h
    · exact .inr ⟨⟨t, hs t ht, h1⟩, h2⟩
  | ok p =>
    obtain ⟨l', h1, h2, h3⟩ := h
    exact ⟨l', h1, fun t ht => hs t (h2 t ht), h3⟩
/-- The piece behind begins. -/
def nextP {β : Type} (g : List Tok → Nat → Except Flt β) (l : List Tok) (ln : Nat) : Except Flt β :=
  match beginP l ln with
  | .error e => .error e
  | .ok ln => g l ln
theorem next_cut {g1 g2 : List Tok → Nat → Except Flt (Fun × List Tok × Nat)} (hE : E.kind = 4) (hR : Beh E R l) (ln : Nat) (hg : ∀ ln, CutT E R l (g1 (l ++ [E]) ln) (g2 (l ++ R) ln)) : CutT E R l (nextP g1 (l ++ [E]) ln) (nextP g2 (l ++ R) ln) := by
  have e1 : beginP (l ++ R) ln = beginP (l ++ [E]) ln := by
    cases l with
    | nil => rw [hR rfl]
    | cons t l => rfl
  unfold nextP
  rw [e1]
  cases hb : beginP (l ++ [E]) ln with
  | ok ln2 => exact hg ln2
  | error e =>
    cases l with
    | nil =>
      exfalso
      have : beginP ([] ++ [E]) ln = .ok E.line := by
        show (if (!(E.kind == 4) && E.line == ln) = true then _ else _) = _
        rw [hE]
        rfl
      rw [this] at hb
      cases hb
    | cons t l =>
      unfold beginP at hb
      split at hb
      · injection hb with hb
        subst hb
        exact .inr ⟨⟨t, List.mem_cons_self .., rfl, rfl⟩, rfl⟩
      · cases hb
/-- A reader, then one that tells a line. -/
def thenT {α β : Type} (r : Except Flt (α × List Tok)) (g : α → List Tok → Except Flt β) : Except Flt β :=
  match r with
  | .error e => .error e
  | .ok p => g p.1 p.2
theorem Cut.thenT {α : Type} {r1 r2 : Except Flt (α × List Tok)} {g1 g2 : α → List Tok → Except Flt (Fun × List Tok × Nat)} (h : Cut E R l r1 r2) (hg : ∀ R' x l', Beh E R' l' → (r1 = .ok (x, l' ++ [E])) → CutT E R' l' (g1 x (l' ++ [E])) (g2 x (l' ++ R'))) : CutT E R l (thenT r1 g1) (thenT r2 g2) := by
  cases r1 with
  | error e =>
    rcases h with h | ⟨h0, h⟩
    · exact .inl h
    · subst h
      exact .inr ⟨h0, rfl⟩
  | ok p =>
    obtain ⟨x, l1⟩ := p
    obtain ⟨l', rfl, hs, h⟩ := h
    cases l' with
    | nil => exact (hg [E] x [] Beh.nil rfl).weak
    | cons t l' =>
      have h := h (by simp)
      subst h
      exact (hg R x (t :: l') Beh.cons rfl).sub hs
/-- A sign, then one that tells a line. -/
def signT {β : Type} (r : Except Flt (List Tok)) (g : List Tok → Except Flt β) : Except Flt β :=
  match r with
  | .error e => .error e
  | .ok l => g l
theorem CutL.thenT {r1 r2 : Except Flt (List Tok)} {g1 g2 : List Tok → Except Flt (Fun × List Tok × Nat)} (h : CutL E R l r1 r2) (hg : ∀ R' l', Beh E R' l' → (r1 = .ok (l' ++ [E])) → CutT E R' l' (g1 (l' ++ [E])) (g2 (l' ++ R'))) : CutT E R l (signT r1 g1) (signT r2 g2) := by
  cases r1 with
  | error e =>
    rcases h with h | ⟨h0, h⟩
    · exact .inl h
    · subst h
      exact .inr ⟨h0, rfl⟩
  | ok l1 =>
    obtain ⟨l', rfl, hs, h⟩ := h
    cases l' with
    | nil => exact (hg [E] [] Beh.nil rfl).weak
    | cons t l' =>
      have h := h (by simp)
      subst h
      exact (hg R (t :: l') Beh.cons rfl).sub hs
theorem bodyP_b (n : Nat) (d : Fun) (l : List Tok) (ln : Nat) : bodyP (n + 1) d l ln = if isB l ln 125 = true then signT (signP 125 l ln) (fun l => .ok (d, l, ln)) else thenT (insideP d l ln) (fun d l => nextP (bodyP n d) l ln) := by
  rw [bodyP]
  split
  · unfold signT
    cases signP 125 l ln <;> rfl
  · unfold thenT nextP
    cases insideP d l ln with
    | error e => rfl
    | ok p => rfl
theorem body_cut (hE : E.kind = 4) : ∀ (n1 n2 : Nat) (R : List Tok) (d : Fun) (l : List Tok) (ln : Nat), Beh E R l → l.length + 1 ≤ n1 → l.length + 1 ≤ n2 → CutT E R l (bodyP n1 d (l ++ [E]) ln) (bodyP n2 d (l ++ R) ln)
  | 0, _, _, _, _, _, _, h1, _ => by omega
  | _, 0, _, _, _, _, _, _, h2 => by omega
  | n1 + 1, n2 + 1, R, d, l, ln, hR, h1, h2 => by
    rw [bodyP_b, bodyP_b, isB_cut hR]
    by_cases hc : isB (l ++ [E]) ln 125 = true
    · rw [if_pos hc, if_pos hc]
      exact (sign_cut hE hR 125 ln).thenT fun R' l' hR' _ => ⟨l', rfl, fun _ h => h, fun _ => rfl⟩
    · rw [if_neg hc, if_neg hc]
      refine (inside_cut hE hR d ln).thenT fun R' d' l' hR' hr => next_cut hE hR' ln fun ln' => ?_
      have hlen := inside_le hr
      simp only [List.length_append, List.length_singleton] at hlen
      cases l' with
      | nil =>
        obtain rfl := hR' rfl
        obtain ⟨m1, rfl⟩ | rfl : (∃ m, n1 = m + 1) ∨ n1 = 0 := by cases n1 with | zero => exact .inr rfl | succ m => exact .inl ⟨m, rfl⟩
        · have : bodyP (m1 + 1) d' ([] ++ [E]) ln' = .error (fltL [E]) := by
            rw [bodyP_b, isB_endC hE, if_neg (by simp), insideP_b]
            have hn := name_cut hE (Beh.nil (E := E)) ln'
            have : nameP ([] ++ [E]) ln' = .error (fltL [E]) := by
              rw [nameP_b]
              have : takeP 1 ([] ++ [E]) ln' = .error (fltL [E]) := by
                show (if (moreB [E] ln' && E.kind == 1) = true then _ else _) = _
                have e : moreB [E] ln' = false := by show (!(E.kind == 4) && E.line == ln') = false; rw [hE]; rfl
                rw [e]
                rfl
              rw [this]
              rfl
            rw [this]
            rfl
          rw [this]
          refine .inl ?_
          show (if E.kind = 4 then 41 else 40) = 41
          rw [if_pos hE]
        · omega
      | cons t l' => exact body_cut hE n1 n2 R' d' (t :: l') ln' hR' (by simp only [List.length_cons] at *; omega) (by simp only [List.length_cons] at *; omega)
theorem funcP_b (l : List Tok) (ln : Nat) : funcP l ln = if headT l = funcT then thenT (nameP l ln) (fun _ l => thenT (nameP l ln) fun s l => thenT (namesP l ln) fun ps l => signT (signP 123 l ln) fun l => nextP (fun l ln => bodyP (l.length + 1) ⟨s, ps, []⟩ l ln) l ln) else .error (fltL l) := by
  unfold funcP
  split
  · unfold thenT signT nextP
    cases nameP l ln with
    | error e => rfl
    | ok p =>
      obtain ⟨s, l⟩ := p
      dsimp only
      cases nameP l ln with
      | error e => rfl
      | ok p =>
        obtain ⟨s, l⟩ := p
        dsimp only
        cases namesP l ln with
        | error e => rfl
        | ok p =>
          obtain ⟨ps, l⟩ := p
          dsimp only
          cases signP 123 l ln with
          | error e => rfl
          | ok l => rfl
  · rfl
theorem func_cut (hE : E.kind = 4) (hR : Beh E R l) (ln : Nat) : CutT E R l (funcP (l ++ [E]) ln) (funcP (l ++ R) ln) := by
  rw [funcP_b, funcP_b, head_cut hR]
  by_cases hc : headT (l ++ [E]) = funcT
  · rw [if_pos hc, if_pos hc]
    refine (name_cut hE hR ln).thenT fun R1 _ l1 hR1 _ => (name_cut hE hR1 ln).thenT fun R2 s l2 hR2 _ => (names_cut hE hR2 ln).thenT fun R3 ps l3 hR3 _ => (sign_cut hE hR3 123 ln).thenT fun R4 l4 hR4 _ => next_cut hE hR4 ln fun ln' => ?_
    exact body_cut hE _ _ R4 _ l4 ln' hR4 (by simp) (by simp)
  · rw [if_neg hc, if_neg hc]
    rcases flt_cut hE hR with h | ⟨h1, h2⟩
    · exact .inl h
    · exact .inr ⟨h1, by rw [h2]⟩
/-- A program with the end behind, or with other words: an error is at the end, or it is the other's. -/
theorem prog_cut (hE : E.kind = 4) : ∀ (n1 n2 : Nat) (acc : List Fun) (l : List Tok) (ln : Nat) (e : Flt), l.length + 1 ≤ n1 → l.length + 1 ≤ n2 → progP n1 acc (l ++ [E]) ln = .error e → e.2.2 = 41 ∨ (∃ t ∈ l, e.1 = t.line ∧ e.2.1 = t.col) ∧ progP n2 acc (l ++ R) ln = .error e
  | 0, _, _, _, _, _, h1, _, _ => by omega
  | _, 0, _, _, _, _, _, h2, _ => by omega
  | n1 + 1, n2 + 1, acc, [], ln, e, h1, h2, h => by
    unfold progP at h
    rw [if_pos (show kindAt ([] ++ [E]) 4 = true by show (E.kind == 4) = true; rw [hE]; rfl)] at h
    cases h
  | n1 + 1, n2 + 1, acc, t :: l, ln, e, h1, h2, h => by
    unfold progP at h
    conv => rhs; rhs; lhs; unfold progP
    have e0 : kindAt (t :: l ++ R) 4 = kindAt (t :: l ++ [E]) 4 := rfl
    rw [e0]
    by_cases hk : kindAt (t :: l ++ [E]) 4 = true
    · rw [if_pos hk] at h
      cases h
    · rw [if_neg hk] at h
      rw [if_neg hk]
      have hf := func_cut hE (Beh.cons (E := E) (R := R) (t := t) (l := l)) ln
      cases hq : funcP (t :: l ++ [E]) ln with
      | error f =>
        rw [hq] at hf h
        injection h with h
        subst h
        rcases hf with hf | ⟨h0, hf⟩
        · exact .inl hf
        · rw [hf]; exact .inr ⟨h0, rfl⟩
      | ok p =>
        obtain ⟨d, l1, ln1⟩ := p
        rw [hq] at hf h
        obtain ⟨l', rfl, hs, hf⟩ := hf
        have hlen := func_lt hq
        simp only [List.length_append, List.length_singleton, List.length_cons] at hlen h1 h2
        dsimp only at h
        cases l' with
        | nil =>
          exfalso
          have hb : beginP ([] ++ [E]) ln1 = .ok E.line := by
            show (if (!(E.kind == 4) && E.line == ln1) = true then _ else _) = _
            rw [hE]
            rfl
          rw [hb] at h
          dsimp only at h
          obtain ⟨m, rfl⟩ : ∃ m, n1 = m + 1 := ⟨n1 - 1, by omega⟩
          unfold progP at h
          rw [if_pos (show kindAt ([] ++ [E]) 4 = true by show (E.kind == 4) = true; rw [hE]; rfl)] at h
          cases h
        | cons u l' =>
          rw [hf (by simp)]
          dsimp only
          have eb : beginP (u :: l' ++ R) ln1 = beginP (u :: l' ++ [E]) ln1 := rfl
          rw [eb]
          cases hb : beginP (u :: l' ++ [E]) ln1 with
          | error f =>
            rw [hb] at h
            injection h with h
            subst h
            refine .inr ⟨⟨u, hs u (List.mem_cons_self ..), ?_⟩, rfl⟩
            unfold beginP at hb
            split at hb
            · injection hb with hb
              subst hb
              exact ⟨rfl, rfl⟩
            · cases hb
          | ok ln2 =>
            rw [hb] at h
            rcases prog_cut hE n1 n2 _ (u :: l') ln2 e (by simp only [List.length_cons] at *; omega) (by simp only [List.length_cons] at *; omega) h with h3 | ⟨⟨v, hv, h4⟩, h5⟩
            · exact .inl h3
            · exact .inr ⟨⟨v, hs v hv, h4⟩, h5⟩
/-- Words up to the one at which there is an error: with the end behind them, the error is at the end, if there is one. -/
theorem parse_cut (hE : E.kind = 4) {e : Flt} (hpos : ∀ t ∈ l, 1 ≤ t.line) (h : parseT (l ++ [E]) = .error e) (hne : ∀ t ∈ l, ∀ f, parseT (l ++ R) = .error f → ¬ (f.1 = t.line ∧ f.2.1 = t.col)) : e.2.2 = 41 := by
  cases l with
  | nil =>
    exfalso
    have hb : beginP ([] ++ [E]) 0 = .ok E.line := by
      show (if (!(E.kind == 4) && E.line == 0) = true then _ else _) = _
      rw [hE]
      rfl
    unfold parseT at h
    rw [hb] at h
    dsimp only at h
    unfold progP at h
    rw [if_pos (show kindAt ([] ++ [E]) 4 = true by show (E.kind == 4) = true; rw [hE]; rfl)] at h
    cases h
  | cons t l =>
    have h1 := hpos t (List.mem_cons_self ..)
    rw [show t :: l ++ [E] = t :: (l ++ [E]) from rfl, parse_lines h1] at h
    rw [show t :: l ++ R = t :: (l ++ R) from rfl, parse_lines h1] at hne
    rcases prog_cut (R := R) hE _ ((t :: (l ++ R)).length + 1) [] (t :: l) t.line e (by simp) (by simp) h with h2 | ⟨⟨u, hu, h3⟩, h4⟩
    · exact h2
    · exact absurd h3 (hne u hu e h4)
/-- An error's spot is that of a word, and its kind is the word's. -/
def FltOf (T : List Tok) (e : Flt) : Prop := ∃ t ∈ T, e = (t.line, t.col, if t.kind = 4 then 41 else 40)
end
end
section
/-- Lines that go with lines, one with one. -/
def OneOne (ρ : Nat → Nat → Prop) : Prop := ∀ {a b a' b' : Nat}, ρ a b → ρ a' b' → (a = a' ↔ b = b')
inductive Al (ρ : Nat → Nat → Prop) : List Tok → List Tok → Prop
  | nil : Al ρ [] []
  | cons {t t' : Tok} {l l' : List Tok} : t'.kind = t.kind → t'.text = t.text → t'.num = t.num → (t.kind ≠ 4 → ρ t.line t'.line) → Al ρ l l' → Al ρ (t :: l) (t' :: l')
section
variable {α β : Type} {ρ : Nat → Nat → Prop} {l l' : List Tok} {ln ln' : Nat}
theorem Al.len (h : Al ρ l l') : l'.length = l.length := by
  induction h with
  | nil => rfl
  | cons _ _ _ _ _ ih => rw [List.length_cons, List.length_cons, ih]
theorem Al.tail (h : Al ρ l l') : Al ρ l.tail l'.tail := by
  cases h with
  | nil => exact .nil
  | cons _ _ _ _ h => exact h
/-- The same is told, or the same error, elsewhere. -/
def Eb (ρ : Nat → Nat → Prop) (r1 r2 : Except Flt (α × List Tok)) : Prop :=
  match r1 with
  | .ok (x, l1) => ∃ l2, r2 = .ok (x, l2) ∧ Al ρ l1 l2
  | .error e => ∃ e', r2 = .error e' ∧ e'.2.2 = e.2.2
def EbL (ρ : Nat → Nat → Prop) (r1 r2 : Except Flt (List Tok)) : Prop :=
  match r1 with
  | .ok l1 => ∃ l2, r2 = .ok l2 ∧ Al ρ l1 l2
  | .error e => ∃ e', r2 = .error e' ∧ e'.2.2 = e.2.2
theorem Eb.bind {r1 r2 : Except Flt (α × List Tok)} {g1 g2 : α → List Tok → Except Flt (β × List Tok)} (h : Eb ρ r1 r2) (hg : ∀ x l l', Al ρ l l' → Eb ρ (g1 x l) (g2 x l')) : Eb ρ (bindE r1 g1) (bindE r2 g2) := by
  cases r1 with
  | error e =>
    obtain ⟨e', rfl, h⟩ := h
    exact ⟨e', rfl, h⟩
  | ok p =>
    obtain ⟨x, l1⟩ := p
    obtain ⟨l2, rfl, h⟩ := h
    exact hg x l1 l2 h
theorem EbL.bind {r1 r2 : Except Flt (List Tok)} {g1 g2 : List Tok → Except Flt (β × List Tok)} (h : EbL ρ r1 r2) (hg : ∀ l l', Al ρ l l' → Eb ρ (g1 l) (g2 l')) :
    Eb ρ (match (generalizing := false) r1 with | .error e => .error e | .ok l => g1 l) (match (generalizing := false) r2 with | .error e => .error e | .ok l => g2 l) := by
  cases r1 with
  | error e =>
    obtain ⟨e', rfl, h⟩ := h
    exact ⟨e', rfl, h⟩
  | ok l1 =>
    obtain ⟨l2, rfl, h⟩ := h
    exact hg l1 l2 h
theorem Eb.ok {x : α} (h : Al ρ l l') : Eb ρ (.ok (x, l)) (.ok (x, l')) := ⟨l', rfl, h⟩
theorem more_al (hu : OneOne ρ) (h : Al ρ l l') (hl : ρ ln ln') : moreB l' ln' = moreB l ln := by
  cases h with
  | nil => rfl
  | @cons t t' l l' h1 h2 h3 h4 h5 =>
    show (!(t'.kind == 4) && t'.line == ln') = (!(t.kind == 4) && t.line == ln)
    rw [h1]
    by_cases hk : t.kind = 4
    · simp [hk]
    · have := hu (h4 hk) hl
      have e : (t'.line == ln') = (t.line == ln) := by rw [Bool.eq_iff_iff]; simp [this]
      rw [e]
theorem kind_al (h : Al ρ l l') (k : Nat) : kindAt l' k = kindAt l k := by
  cases h with
  | nil => rfl
  | cons h1 _ _ _ _ => show (_ == k) = (_ == k); rw [h1]
theorem isB_al (hu : OneOne ρ) (h : Al ρ l l') (hl : ρ ln ln') (c : UInt8) : isB l' ln' c = isB l ln c := by
  unfold isB
  rw [more_al hu h hl]
  cases h with
  | nil => rfl
  | @cons t t' l l' h1 h2 h3 h4 h5 =>
    show (_ && (t'.kind == 3 && t'.text == [c])) = (_ && (t.kind == 3 && t.text == [c]))
    rw [h1, h2]
theorem flt_al (h : Al ρ l l') : (fltL l').2.2 = (fltL l).2.2 := by
  cases h with
  | nil => rfl
  | @cons t t' l l' h1 _ _ _ _ =>
    show (if t'.kind = 4 then 41 else 40) = (if t.kind = 4 then 41 else 40)
    rw [h1]
/-- A word that is taken. -/
def EbK (ρ : Nat → Nat → Prop) (r1 r2 : Except Flt (Tok × List Tok)) : Prop :=
  match r1 with
  | .ok (t, l1) => ∃ t' l2, r2 = .ok (t', l2) ∧ t'.text = t.text ∧ t'.num = t.num ∧ Al ρ l1 l2
  | .error e => ∃ e', r2 = .error e' ∧ e'.2.2 = e.2.2
theorem take_al (hu : OneOne ρ) (h : Al ρ l l') (hl : ρ ln ln') (k : Nat) : EbK ρ (takeP k l ln) (takeP k l' ln') := by
  have hm := more_al hu h hl
  have hf := flt_al h
  cases h with
  | nil => exact ⟨_, rfl, rfl⟩
  | @cons t t' l l' h1 h2 h3 h4 h5 =>
    show EbK ρ (if (moreB (t :: l) ln && t.kind == k) = true then .ok (t, l) else .error (fltL (t :: l))) (if (moreB (t' :: l') ln' && t'.kind == k) = true then .ok (t', l') else .error (fltL (t' :: l')))
    rw [hm, h1]
    by_cases hc : (moreB (t :: l) ln && t.kind == k) = true
    · rw [if_pos hc, if_pos hc]
      exact ⟨t', l', rfl, h2, h3, h5⟩
    · rw [if_neg hc, if_neg hc]
      exact ⟨_, rfl, hf⟩
theorem name_al (hu : OneOne ρ) (h : Al ρ l l') (hl : ρ ln ln') : Eb ρ (nameP l ln) (nameP l' ln') := by
  have ht := take_al hu h hl 1
  unfold nameP
  cases hr : takeP 1 l ln with
  | error e =>
    rw [hr] at ht
    obtain ⟨e', h1, h2⟩ := ht
    rw [h1]
    exact ⟨e', rfl, h2⟩
  | ok p =>
    obtain ⟨t, l1⟩ := p
    rw [hr] at ht
    obtain ⟨t', l2, h1, h2, h3, h4⟩ := ht
    rw [h1]
    refine ⟨l2, ?_, h4⟩
    show Except.ok (nmT t', l2) = Except.ok (nmT t, l2)
    unfold nmT
    rw [h2]
theorem sign_al (hu : OneOne ρ) (h : Al ρ l l') (hl : ρ ln ln') (c : UInt8) : EbL ρ (signP c l ln) (signP c l' ln') := by
  unfold signP
  rw [isB_al hu h hl]
  by_cases hc : isB l ln c = true
  · rw [if_pos hc, if_pos hc]
    exact ⟨_, rfl, h.tail⟩
  · rw [if_neg hc, if_neg hc]
    exact ⟨_, rfl, flt_al h⟩
def AlP (ρ : Nat → Nat → Prop) (f : α → List Tok → Nat → Except Flt (α × List Tok)) : Prop := ∀ x l l' ln ln', Al ρ l l' → ρ ln ln' → Eb ρ (f x l ln) (f x l' ln')
theorem list_al (hu : OneOne ρ) {one : α → List Tok → Nat → Except Flt (α × List Tok)} {c : UInt8} (hone : AlP ρ one) : ∀ (n : Nat) (x : α) (l l' : List Tok) (ln ln' : Nat), Al ρ l l' → ρ ln ln' → Eb ρ (listP one c n x l ln) (listP one c n x l' ln')
  | 0, _, _, _, _, _, _, _ => ⟨_, rfl, rfl⟩
  | n + 1, x, l, l', ln, ln', h, hl => by
    have e1 : ∀ l ln, listP one c (n + 1) x l ln = bindE (one x l ln) (fun x l => if isB l ln c = true then (match (generalizing := false) signP c l ln with | .error e => .error e | .ok l => .ok (x, l)) else (match (generalizing := false) signP 44 l ln with | .error e => .error e | .ok l => listP one c n x l ln)) := fun l ln => by
      rw [listP]
      unfold bindE
      cases one x l ln <;> rfl
    rw [e1, e1]
    refine (hone x l l' ln ln' h hl).bind fun x1 l1 l2 h1 => ?_
    rw [isB_al hu h1 hl]
    by_cases hc : isB l1 ln c = true
    · rw [if_pos hc, if_pos hc]
      exact (sign_al hu h1 hl c).bind (g1 := fun l => .ok (x1, l)) (g2 := fun l => .ok (x1, l)) fun _ _ h => Eb.ok h
    · rw [if_neg hc, if_neg hc]
      exact (sign_al hu h1 hl 44).bind (g1 := fun l => listP one c n x1 l ln) (g2 := fun l => listP one c n x1 l ln') fun l3 l4 h3 => list_al hu hone n x1 l3 l4 ln ln' h3 hl
theorem oneName_al (hu : OneOne ρ) : AlP ρ oneName := fun x l l' ln ln' h hl => by
  rw [oneName_b, oneName_b]
  exact (name_al hu h hl).bind fun _ _ _ h => Eb.ok h
theorem names_al (hu : OneOne ρ) (h : Al ρ l l') (hl : ρ ln ln') : Eb ρ (namesP l ln) (namesP l' ln') := by
  unfold namesP
  refine (sign_al hu h hl 40).bind (g1 := fun l => if isB l ln 41 = true then (match signP 41 l ln with | .error e => .error e | .ok l => .ok ([], l)) else listP oneName 41 (l.length + 1) [] l ln) (g2 := fun l => if isB l ln' 41 = true then (match signP 41 l ln' with | .error e => .error e | .ok l => .ok ([], l)) else listP oneName 41 (l.length + 1) [] l ln') fun l1 l2 h1 => ?_
  skip
  rw [isB_al hu h1 hl, h1.len]
  by_cases hc : isB l1 ln 41 = true
  · rw [if_pos hc, if_pos hc]
    exact (sign_al hu h1 hl 41).bind (g1 := fun l => .ok ([], l)) (g2 := fun l => .ok ([], l)) fun _ _ h => Eb.ok h
  · rw [if_neg hc, if_neg hc]
    exact list_al hu (oneName_al hu) _ _ _ _ _ _ h1 hl
theorem then_al {f g : Ins → List Tok → Nat → Except Flt (Ins × List Tok)} (hf : AlP ρ f) (hg : AlP ρ g) : AlP ρ (thenP f g) := fun x l l' ln ln' h hl => by
  rw [thenP_b, thenP_b]
  exact (hf x l l' ln ln' h hl).bind fun x l1 l2 h => hg x l1 l2 ln ln' h hl
theorem skip_al (hu : OneOne ρ) (c : UInt8) : AlP ρ (skipP c) := fun x l l' ln ln' h hl => (sign_al hu h hl c).bind (g1 := fun l => .ok (x, l)) (g2 := fun l => .ok (x, l)) fun _ _ h => Eb.ok h
theorem byName_al (hu : OneOne ρ) {f : Ins → List Tok → Nat → Except Flt (Ins × List Tok)} (put : Ins → ByteArray → Ins) (hf : ∀ x l ln, f x l ln = match nameP l ln with | .error e => .error e | .ok (s, l) => .ok (put x s, l)) : AlP ρ f := fun x l l' ln ln' h hl => by
  have e : ∀ x l ln, f x l ln = bindE (nameP l ln) (fun s l => .ok (put x s, l)) := fun x l ln => by
    rw [hf]
    unfold bindE
    cases nameP l ln <;> rfl
  rw [e, e]
  exact (name_al hu h hl).bind fun _ _ _ h => Eb.ok h
theorem operand_al (hu : OneOne ρ) : AlP ρ operandP := byName_al hu (fun x s => { x with a := s }) (fun _ _ _ => rfl)
theorem label_al (hu : OneOne ρ) : AlP ρ labelP := byName_al hu (fun x s => { x with labels := x.labels ++ [s] }) (fun _ _ _ => rfl)
theorem fn_al (hu : OneOne ρ) : AlP ρ fnP := byName_al hu (fun x s => { x with fn := s }) (fun _ _ _ => rfl)
theorem arg_al (hu : OneOne ρ) : AlP ρ argP := byName_al hu (fun x s => { x with args := x.args ++ [s] }) (fun _ _ _ => rfl)
theorem val_al (hu : OneOne ρ) : AlP ρ valP := byName_al hu (fun x s => { x with b := s }) (fun _ _ _ => rfl)
theorem fields_al (hu : OneOne ρ) : AlP ρ fieldsP := fun x l l' ln ln' h hl => by
  have ht := take_al hu h hl 2
  unfold fieldsP
  cases hr : takeP 2 l ln with
  | error e =>
    rw [hr] at ht
    obtain ⟨e', h1, h2⟩ := ht
    rw [h1]
    exact ⟨e', rfl, h2⟩
  | ok p =>
    obtain ⟨t, l1⟩ := p
    rw [hr] at ht
    obtain ⟨t', l2, h1, h2, h3, h4⟩ := ht
    rw [h1]
    refine ⟨l2, ?_, h4⟩
    dsimp only
    rw [h3]
theorem args_al (hu : OneOne ρ) : AlP ρ argsP := fun x l l' ln ln' h hl => by
  rw [argsP_b, argsP_b]
  exact (names_al hu h hl).bind fun _ _ _ h => Eb.ok h
theorem pair_al (hu : OneOne ρ) : AlP ρ pairP := then_al (label_al hu) (then_al (skip_al hu 58) (arg_al hu))
theorem phi_al (hu : OneOne ρ) : AlP ρ phiP := fun x l l' ln ln' h hl => (sign_al hu h hl 91).bind (g1 := fun l => listP pairP 93 (l.length + 1) x l ln) (g2 := fun l => listP pairP 93 (l.length + 1) x l ln') fun l1 l2 h1 => by
  rw [h1.len]
  exact list_al hu (pair_al hu) _ _ _ _ _ _ h1 hl
theorem rest_al (hu : OneOne ρ) (r : Rst) : AlP ρ (restP r) := by
  cases r with
  | fields => exact fields_al hu
  | nothing => exact fun x l l' ln ln' h hl => Eb.ok h
  | fn => exact fn_al hu
  | operand => exact operand_al hu
  | field => exact then_al (operand_al hu) (fields_al hu)
  | phi => exact phi_al hu
  | call => exact then_al (fn_al hu) (args_al hu)
  | icall => exact then_al (operand_al hu) (args_al hu)
  | store => exact then_al (operand_al hu) (then_al (skip_al hu 44) (val_al hu))
  | branch => exact then_al (label_al hu) (label_al hu)
  | label => exact label_al hu
  | result =>
    intro x l l' ln ln' h hl
    show Eb ρ (if moreB l ln = true then operandP x l ln else .ok (x, l)) (if moreB l' ln' = true then operandP x l' ln' else .ok (x, l'))
    rw [more_al hu h hl]
    by_cases hc : moreB l ln = true
    · rw [if_pos hc, if_pos hc]; exact operand_al hu x l l' ln ln' h hl
    · rw [if_neg hc, if_neg hc]; exact Eb.ok h
theorem head_al (h : Al ρ l l') : headT l' = headT l := by
  cases h with
  | nil => rfl
  | cons _ h2 _ _ _ => exact h2
theorem behind_al (hu : OneOne ρ) (h : Al ρ l l') (hl : ρ ln ln') (d : Fun) (s : ByteArray) : Eb ρ (behindP d s l ln) (behindP d s l' ln') := by
  unfold behindP
  rw [isB_al hu h hl, isB_al hu h hl]
  by_cases hc : (d.blocks.isEmpty || isB l ln 58) = true
  · rw [if_pos hc, if_pos hc]
    exact (sign_al hu h hl 58).bind (g1 := fun l => .ok (addB d s, l)) (g2 := fun l => .ok (addB d s, l)) fun _ _ h => Eb.ok h
  · rw [if_neg hc, if_neg hc]
    cases (if isB l ln 61 = true then none else bareF s.data.toList) with
    | some how =>
      dsimp only
      exact (rest_al hu how.2 _ l l' ln ln' h hl).bind fun _ _ _ h => Eb.ok h
    | none =>
      dsimp only
      refine (sign_al hu h hl 61).bind (g1 := fun l => match valueF (headT l) with
        | none => .error (fltL l)
        | some how => bindE (nameP l ln) fun _ l => bindE (instrP how s l ln) fun x l => .ok (addI d x, l)) (g2 := fun l => match valueF (headT l) with
        | none => .error (fltL l)
        | some how => bindE (nameP l ln') fun _ l => bindE (instrP how s l ln') fun x l => .ok (addI d x, l)) fun l1 l2 h1 => ?_
      skip
      rw [head_al h1]
      cases valueF (headT l1) with
      | none => exact ⟨_, rfl, flt_al h1⟩
      | some how =>
        dsimp only
        exact (name_al hu h1 hl).bind fun _ l3 l4 h3 => (rest_al hu how.2 _ l3 l4 ln ln' h3 hl).bind fun _ _ _ h => Eb.ok h
theorem inside_al (hu : OneOne ρ) (h : Al ρ l l') (hl : ρ ln ln') (d : Fun) : Eb ρ (insideP d l ln) (insideP d l' ln') := by
  rw [insideP_b, insideP_b]
  exact (name_al hu h hl).bind fun s l1 l2 h1 => behind_al hu h1 hl d s
/-- A reader that tells a line too: the lines go together, or it is the end that is ahead. -/
def EbT (ρ : Nat → Nat → Prop) (r1 r2 : Except Flt (Fun × List Tok × Nat)) : Prop :=
  match r1 with
  | .ok (d, l1, ln) => ∃ l2 ln', r2 = .ok (d, l2, ln') ∧ Al ρ l1 l2 ∧ ρ ln ln'
  | .error e => ∃ e', r2 = .error e' ∧ e'.2.2 = e.2.2
theorem Eb.thenT {r1 r2 : Except Flt (α × List Tok)} {g1 g2 : α → List Tok → Except Flt (Fun × List Tok × Nat)} (h : Eb ρ r1 r2) (hg : ∀ x l l', Al ρ l l' → EbT ρ (g1 x l) (g2 x l')) : EbT ρ (thenT r1 g1) (thenT r2 g2) := by
  cases r1 with
  | error e =>
    obtain ⟨e', rfl, h⟩ := h
    exact ⟨e', rfl, h⟩
  | ok p =>
    obtain ⟨x, l1⟩ := p
    obtain ⟨l2, rfl, h⟩ := h
    exact hg x l1 l2 h
theorem EbL.thenT {r1 r2 : Except Flt (List Tok)} {g1 g2 : List Tok → Except Flt (Fun × List Tok × Nat)} (h : EbL ρ r1 r2) (hg : ∀ l l', Al ρ l l' → EbT ρ (g1 l) (g2 l')) : EbT ρ (signT r1 g1) (signT r2 g2) := by
  cases r1 with
  | error e =>
    obtain ⟨e', rfl, h⟩ := h
    exact ⟨e', rfl, h⟩
  | ok l1 =>
    obtain ⟨l2, rfl, h⟩ := h
    exact hg l1 l2 h
theorem begin_al {t t' : Tok} (hu : OneOne ρ) (h : Al ρ (t :: l) (t' :: l')) (hl : ρ ln ln') : (kindAt (t :: l) 4 = true ∧ ∃ a b, beginP (t :: l) ln = .ok a ∧ beginP (t' :: l') ln' = .ok b) ∨ (∃ e e', beginP (t :: l) ln = .error e ∧ beginP (t' :: l') ln' = .error e' ∧ e'.2.2 = e.2.2) ∨ ∃ a b, ρ a b ∧ beginP (t :: l) ln = .ok a ∧ beginP (t' :: l') ln' = .ok b := by
  have hf := flt_al h
  obtain ⟨h1, h2, h3, h4, h5⟩ : t'.kind = t.kind ∧ t'.text = t.text ∧ t'.num = t.num ∧ (t.kind ≠ 4 → ρ t.line t'.line) ∧ Al ρ l l' := by cases h; exact ⟨by assumption, by assumption, by assumption, by assumption, by assumption⟩
  have b1 : beginP (t :: l) ln = if (!(t.kind == 4) && t.line == ln) = true then .error (fltL (t :: l)) else .ok t.line := rfl
  have b2 : beginP (t' :: l') ln' = if (!(t'.kind == 4) && t'.line == ln') = true then .error (fltL (t' :: l')) else .ok t'.line := rfl
  by_cases hk : t.kind = 4
  · refine .inl ⟨by show (t.kind == 4) = true; rw [hk]; rfl, t.line, t'.line, ?_, ?_⟩
    · rw [b1, hk]; rfl
    · rw [b2, h1, hk]; rfl
  · have hr := h4 hk
    have hq := hu hr hl
    by_cases hc : t.line = ln
    · refine .inr (.inl ⟨_, _, ?_, ?_, hf⟩)
      · rw [b1, if_pos (by simp [hk, hc])]
      · rw [b2, if_pos (by simp [h1, hk, hq.1 hc])]
    · refine .inr (.inr ⟨_, _, hr, ?_, ?_⟩)
      · rw [b1, if_neg (by simp [hk, hc])]
      · rw [b2, if_neg (by simp only [h1, Bool.and_eq_true, beq_iff_eq]; rintro ⟨-, h⟩; exact hc (hq.2 h))]
/-- The piece behind begins, on lines that go together, or it is the end. -/
theorem next_al {g1 g2 : List Tok → Nat → Except Flt (Fun × List Tok × Nat)} (hu : OneOne ρ) (h : Al ρ l l') (hl : ρ ln ln') (hn1 : ∀ ln, g1 [] ln = .error (0, 0, 0)) (hn2 : ∀ ln, g2 [] ln = .error (0, 0, 0)) (hk : kindAt l 4 = true → ∀ a b, EbT ρ (g1 l a) (g2 l' b)) (hg : ∀ a b, ρ a b → EbT ρ (g1 l a) (g2 l' b)) : EbT ρ (nextP g1 l ln) (nextP g2 l' ln') := by
  cases l with
  | nil =>
    cases h
    have key : ∀ g : List Tok → Nat → Except Flt (Fun × List Tok × Nat), (∀ ln, g [] ln = .error (0, 0, 0)) → ∀ ln, nextP g [] ln = .error (0, 0, 0) := fun g hg ln => by
      unfold nextP
      rcases begin_nil ln with e | e
      · rw [e]
      · rw [e]; exact hg 0
    rw [key g1 hn1, key g2 hn2]
    exact ⟨_, rfl, rfl⟩
  | cons t l =>
    cases l' with
    | nil => cases h
    | cons t' l' =>
      unfold nextP
      rcases begin_al hu h hl with ⟨h4, a, b, e1, e2⟩ | ⟨e, e', e1, e2, h5⟩ | ⟨a, b, h5, e1, e2⟩
      · rw [e1, e2]; exact hk h4 a b
      · rw [e1, e2]; exact ⟨e', rfl, h5⟩
      · rw [e1, e2]; exact hg a b h5
theorem body_kind4 (n : Nat) (d : Fun) (ln : Nat) (h : kindAt l 4 = true) : bodyP (n + 1) d l ln = .error (fltL l) := by
  cases l with
  | nil => cases h
  | cons t l =>
    have hk : t.kind = 4 := by have h : (t.kind == 4) = true := h; simpa using h
    have hm : moreB (t :: l) ln = false := by show (!(t.kind == 4) && _) = false; rw [hk]; rfl
    have hb : isB (t :: l) ln 125 = false := by unfold isB; rw [hm]; rfl
    have ht : nameP (t :: l) ln = .error (fltL (t :: l)) := by
      rw [nameP_b]
      have : takeP 1 (t :: l) ln = .error (fltL (t :: l)) := by
        show (if (moreB (t :: l) ln && t.kind == 1) = true then _ else _) = _
        rw [hm]
        rfl
      rw [this]
      rfl
    rw [bodyP_b, hb, if_neg (by simp), insideP_b, ht]
    rfl
theorem body_al (hu : OneOne ρ) : ∀ (n : Nat) (d : Fun) (l l' : List Tok) (ln ln' : Nat), Al ρ l l' → ρ ln ln' → EbT ρ (bodyP n d l ln) (bodyP n d l' ln')
  | 0, _, _, _, _, _, _, _ => ⟨_, rfl, rfl⟩
  | n + 1, d, l, l', ln, ln', h, hl => by
    rw [bodyP_b, bodyP_b, isB_al hu h hl]
    by_cases hc : isB l ln 125 = true
    · rw [if_pos hc, if_pos hc]
      exact (sign_al hu h hl 125).thenT fun l1 l2 h1 => ⟨l2, ln', rfl, h1, hl⟩
    · rw [if_neg hc, if_neg hc]
      refine (inside_al hu h hl d).thenT fun d1 l1 l2 h1 => next_al hu h1 hl (fun _ => body_nil ..) (fun _ => body_nil ..) (fun h4 a b => ?_) (fun a b hab => body_al hu n d1 l1 l2 a b h1 hab)
      cases n with
      | zero => exact ⟨_, rfl, rfl⟩
      | succ n =>
        rw [body_kind4 n d1 a h4, body_kind4 n d1 b (by rw [kind_al h1]; exact h4)]
        exact ⟨_, rfl, flt_al h1⟩
theorem func_al (hu : OneOne ρ) (h : Al ρ l l') (hl : ρ ln ln') : EbT ρ (funcP l ln) (funcP l' ln') := by
  rw [funcP_b, funcP_b, head_al h]
  by_cases hc : headT l = funcT
  · rw [if_pos hc, if_pos hc]
    refine (name_al hu h hl).thenT fun _ l1 l1' h1 => (name_al hu h1 hl).thenT fun s l2 l2' h2 => (names_al hu h2 hl).thenT fun ps l3 l3' h3 => (sign_al hu h3 hl 123).thenT fun l4 l4' h4 => next_al hu h4 hl (fun _ => body_nil ..) (fun _ => body_nil ..) (fun hk a b => ?_) (fun a b hab => ?_)
    · skip
      rw [body_kind4 _ _ a hk, body_kind4 _ _ b (by rw [kind_al h4]; exact hk)]
      exact ⟨_, rfl, flt_al h4⟩
    · skip
      rw [h4.len]
      exact body_al hu _ _ _ _ _ _ h4 hab
  · rw [if_neg hc, if_neg hc]
    exact ⟨_, rfl, flt_al h⟩
/-- Programs on other lines. -/
def EbR (r1 r2 : Except Flt (List Fun)) : Prop :=
  match r1 with
  | .ok P => r2 = .ok P
  | .error e => ∃ e', r2 = .error e' ∧ e'.2.2 = e.2.2
theorem prog_kind4 (n : Nat) (acc : List Fun) (ln : Nat) (h : kindAt l 4 = true) : progP (n + 1) acc l ln = .ok acc := by
  unfold progP
  rw [if_pos h]
theorem prog_al (hu : OneOne ρ) : ∀ (n : Nat) (acc : List Fun) (l l' : List Tok) (ln ln' : Nat), Al ρ l l' → ρ ln ln' → EbR (progP n acc l ln) (progP n acc l' ln')
  | 0, _, _, _, _, _, _, _ => ⟨_, rfl, rfl⟩
  | n + 1, acc, l, l', ln, ln', h, hl => by
    by_cases hk : kindAt l 4 = true
    · rw [prog_kind4 n acc ln hk, prog_kind4 n acc ln' (by rw [kind_al h]; exact hk)]
      rfl
    · have hk' : ¬ kindAt l' 4 = true := by rw [kind_al h]; exact hk
      have hf := func_al hu h hl
      unfold progP
      rw [if_neg hk, if_neg hk']
      cases hq : funcP l ln with
      | error e =>
        rw [hq] at hf
        obtain ⟨e', h1, h2⟩ := hf
        rw [h1]
        exact ⟨e', rfl, h2⟩
      | ok p =>
        obtain ⟨d, l1, ln1⟩ := p
        rw [hq] at hf
        obtain ⟨l2, ln2, h1, h2, h3⟩ := hf
        rw [h1]
        dsimp only
        cases l1 with
        | nil =>
          cases h2
          rcases begin_nil ln1 with e | e <;> rcases begin_nil ln2 with e2 | e2 <;> rw [e, e2] <;> dsimp only <;> (try rw [prog_nil]) <;> exact ⟨_, rfl, rfl⟩
        | cons t l1 =>
          cases l2 with
          | nil => cases h2
          | cons t' l2 =>
            rcases begin_al hu h2 h3 with ⟨h4, a, b, e1, e2⟩ | ⟨e, e', e1, e2, h5⟩ | ⟨a, b, h5, e1, e2⟩
            · rw [e1, e2]
              dsimp only
              cases n with
              | zero => exact ⟨_, rfl, rfl⟩
              | succ n =>
                rw [prog_kind4 n _ a h4, prog_kind4 n _ b (by rw [kind_al h2]; exact h4)]
                rfl
            · rw [e1, e2]; exact ⟨e', rfl, h5⟩
            · rw [e1, e2]; exact prog_al hu n _ _ _ a b h2 h5
/-- Words on other lines are the same program. -/
theorem parse_al {k k' : List Tok} {E E' : Tok} (hu : OneOne ρ) (h : Al ρ k k') (hE : E.kind = 4) (hE' : E' = { E with line := E'.line, col := E'.col }) (h4 : ∀ t ∈ k, t.kind ≠ 4) (hp : ∀ t ∈ k, 1 ≤ t.line) (hp' : ∀ t ∈ k', 1 ≤ t.line) : EbR (parseT (k ++ [E])) (parseT (k' ++ [E'])) := by
  have hA : Al ρ (k ++ [E]) (k' ++ [E']) := by
    clear hp hp' h4
    induction h with
    | nil => rw [hE']; exact .cons rfl rfl rfl (fun h => absurd hE h) .nil
    | cons a b c d _ ih => exact .cons a b c d ih
  cases h with
  | nil =>
    have key : ∀ E : Tok, E.kind = 4 → parseT ([] ++ [E]) = .ok [] := fun E hE => by
      have hb : beginP ([] ++ [E]) 0 = .ok E.line := by
        show (if (!(E.kind == 4) && E.line == 0) = true then _ else _) = _
        rw [hE]
        rfl
      unfold parseT
      rw [hb]
      exact prog_kind4 _ _ _ (by show (E.kind == 4) = true; rw [hE]; rfl)
    rw [key E hE, key E' (by rw [hE']; exact hE)]
    rfl
  | @cons t t' l l' h1 h2 h3 h5 h6 =>
    rw [show t :: l ++ [E] = t :: (l ++ [E]) from rfl, show t' :: l' ++ [E'] = t' :: (l' ++ [E']) from rfl, parse_lines (hp t (List.mem_cons_self ..)), parse_lines (hp' t' (List.mem_cons_self ..))]
    have := prog_al hu ((t :: (l ++ [E])).length + 1) [] _ _ t.line t'.line hA (h5 (h4 t (List.mem_cons_self ..)))
    have hl := hA.len
    have hl : (t' :: (l' ++ [E'])).length = (t :: (l ++ [E])).length := hl
    rw [hl]
    exact this
end
end
section
def blG : List (List UInt8) := [[32], [9], [32, 32], [32, 9, 32]]
def nlG : List (List UInt8) := [[10], [32, 59, 32, 120, 32, 61, 32, 40, 10], [10, 10, 9, 10], [13, 10, 59, 10, 32, 32]]
theorem lex_bl {g : List UInt8} (hg : g ∈ blG) (r : List UInt8) (p : Nat × Nat) : lex (g ++ r) p.1 p.2 = lex r (spotL p g).1 (spotL p g).2 ∧ (spotL p g).1 = p.1 := by
  obtain ⟨a, b⟩ := p
  simp only [blG, List.mem_cons, List.not_mem_nil, or_false] at hg
  rcases hg with rfl | rfl | rfl | rfl
  · exact ⟨lex_blank (by decide) _ _ _, rfl⟩
  · exact ⟨lex_blank (by decide) _ _ _, rfl⟩
  · exact ⟨(lex_blank (by decide) _ _ _).trans (lex_blank (by decide) _ _ _), rfl⟩
  · exact ⟨(lex_blank (by decide) _ _ _).trans ((lex_blank (by decide) _ _ _).trans (lex_blank (by decide) _ _ _)), rfl⟩
theorem lex_nl {g : List UInt8} (hg : g ∈ nlG) (r : List UInt8) (p : Nat × Nat) : lex (g ++ r) p.1 p.2 = lex r (spotL p g).1 (spotL p g).2 ∧ p.1 < (spotL p g).1 := by
  obtain ⟨a, b⟩ := p
  simp only [nlG, List.mem_cons, List.not_mem_nil, or_false] at hg
  rcases hg with rfl | rfl | rfl | rfl
  · exact ⟨lex_line _ _ _, Nat.lt_succ_self _⟩
  · exact ⟨(lex_blank (by decide) _ _ _).trans (lex_note [32, 120, 32, 61, 32, 40] r (by decide) _ _), Nat.lt_succ_self _⟩
  · exact ⟨(lex_line _ _ _).trans ((lex_line _ _ _).trans ((lex_blank (by decide) _ _ _).trans (lex_line _ _ _))), by show a < a + 1 + 1 + 1; omega⟩
  · exact ⟨(lex_blank (by decide) _ _ _).trans ((lex_line _ _ _).trans ((lex_note [] _ (by decide) _ _).trans ((lex_blank (by decide) _ _ _).trans (lex_blank (by decide) _ _ _)))), by show a < a + 1 + 1; omega⟩
theorem gapB_head {g : List UInt8} (hg : g ∈ blG ∨ g ∈ nlG) : g.head?.any partB = false ∧ g ≠ [] := by
  simp only [blG, nlG, List.mem_cons, List.not_mem_nil, or_false] at hg
  rcases hg with (rfl | rfl | rfl | rfl) | rfl | rfl | rfl | rfl <;> exact ⟨by decide, by simp⟩
/-- What is laid so far: the text, its words as they were and as they are told, and the line. -/
inductive Lay : List UInt8 → List (Tok × Tok) → Nat → Prop
  | nil : Lay [] [] 1
  | snoc {s gap : List UInt8} {Z : List (Tok × Tok)} {ln : Nat} {t : Tok} : Lay s Z ln → FormOk t.kind t.text t.num → (ln < t.line ∧ gap ∈ nlG ∨ t.line = ln ∧ gap ∈ blG) →
      Lay (s ++ gap ++ t.text) (Z ++ [(t, ⟨t.kind, t.text, t.num, (spotOf (s ++ gap)).1, (spotOf (s ++ gap)).2⟩)]) t.line
theorem lay_gap {gap : List UInt8} {ln x : Nat} (h : ln < x ∧ gap ∈ nlG ∨ x = ln ∧ gap ∈ blG) : (gap ∈ blG ∨ gap ∈ nlG) ∧ ∀ (r : List UInt8) (p : Nat × Nat), lex (gap ++ r) p.1 p.2 = lex r (spotL p gap).1 (spotL p gap).2 := by
  rcases h with ⟨-, h⟩ | ⟨-, h⟩
  · exact ⟨.inr h, fun r p => (lex_nl h r p).1⟩
  · exact ⟨.inl h, fun r p => (lex_bl h r p).1⟩
theorem lay_lex {s : List UInt8} {Z : List (Tok × Tok)} {ln : Nat} (h : Lay s Z ln) : ∀ r : List UInt8, r.head?.any partB = false → lex (s ++ r) 1 1 = sofar (Z.map Prod.snd) (lex r (spotOf s).1 (spotOf s).2) := by
  induction h with
  | nil => intro r _; rw [List.nil_append]; show _ = sofar [] _; rw [sofar_nil]; rfl
  | @snoc s gap Z ln t hL hf hg ih =>
    intro r hr
    obtain ⟨h1, h2⟩ := lay_gap hg
    have hfit : (gap ++ (t.text ++ r)).head?.any partB = false := by
      have := gapB_head h1
      cases gap with
      | nil => exact absurd rfl this.2
      | cons c q => exact this.1
    rw [List.append_assoc, List.append_assoc, ih _ hfit, h2, lex_word hf (fun _ => hr), ← spotOf_app]
    have he : spotOf (s ++ gap ++ t.text) = ((spotOf (s ++ gap)).1, (spotOf (s ++ gap)).2 + t.text.length) := by
      rw [spotOf_app]
      exact fold_flat _ _ (form_flat hf)
    rw [he, List.map_append]
    cases lex r (spotOf (s ++ gap)).1 ((spotOf (s ++ gap)).2 + t.text.length) with
    | error e => rfl
    | ok o => simp [sofar]
theorem lay_end {s : List UInt8} {Z : List (Tok × Tok)} {ln : Nat} (h : Lay s Z ln) : ∃ a b, lex (s ++ [10, 59, 32, 101, 110, 100]) 1 1 = .ok (Z.map Prod.snd ++ [⟨4, [], 0, a, b⟩]) := by
  rw [lay_lex h _ (by decide), lex_line]
  have hs : ∀ ln cl, stepL [59, 32, 101, 110, 100] ln cl = .ok (5, ln, cl + 5, none) := fun ln cl => rfl
  rw [lex_went (by simp) (hs _ _), add_none]
  exact ⟨_, _, rfl⟩
structure LayR (s : List UInt8) (Z : List (Tok × Tok)) (ln : Nat) : Prop where
  top : ∀ p ∈ Z, p.1.line ≤ ln ∧ p.2.line ≤ (spotOf s).1 ∧ (p.1.line = ln ↔ p.2.line = (spotOf s).1)
  one : ∀ p ∈ Z, ∀ q ∈ Z, (p.1.line = q.1.line ↔ p.2.line = q.2.line)
  same : ∀ p ∈ Z, p.2.kind = p.1.kind ∧ p.2.text = p.1.text ∧ p.2.num = p.1.num ∧ 1 ≤ p.2.line
  pos : 1 ≤ (spotOf s).1
theorem lay_rel {s : List UInt8} {Z : List (Tok × Tok)} {ln : Nat} (h : Lay s Z ln) : LayR s Z ln := by
  induction h with
  | nil => exact ⟨fun p hp => (by cases hp), fun p hp => (by cases hp), fun p hp => (by cases hp), Nat.le_refl _⟩
  | @snoc s gap Z ln t hL hf hg ih =>
    have he : spotOf (s ++ gap ++ t.text) = ((spotOf (s ++ gap)).1, (spotOf (s ++ gap)).2 + t.text.length) := by
      rw [spotOf_app]
      exact fold_flat _ _ (form_flat hf)
    have hl : ln < t.line ∧ (spotOf s).1 < (spotOf (s ++ gap)).1 ∨ t.line = ln ∧ (spotOf (s ++ gap)).1 = (spotOf s).1 := by
      rw [spotOf_app]
      rcases hg with ⟨h1, h2⟩ | ⟨h1, h2⟩
      · exact .inl ⟨h1, (lex_nl h2 [] _).2⟩
      · exact .inr ⟨h1, (lex_bl h2 [] _).2⟩
    have h0 := ih.pos
    have htop : ∀ p ∈ Z, p.1.line ≤ t.line ∧ p.2.line ≤ (spotOf (s ++ gap)).1 ∧ (p.1.line = t.line ↔ p.2.line = (spotOf (s ++ gap)).1) := fun p hp => by
      obtain ⟨a, b, c⟩ := ih.top p hp
      rcases hl with ⟨h1, h2⟩ | ⟨h1, h2⟩
      · exact ⟨by omega, by omega, by omega⟩
      · rw [h1, h2]; exact ⟨a, b, c⟩
    have hmem : ∀ p, p ∈ Z ++ [(t, (⟨t.kind, t.text, t.num, (spotOf (s ++ gap)).1, (spotOf (s ++ gap)).2⟩ : Tok))] → p ∈ Z ∨ p = (t, ⟨t.kind, t.text, t.num, (spotOf (s ++ gap)).1, (spotOf (s ++ gap)).2⟩) := fun p hp => by
      rcases List.mem_append.1 hp with h | h
      · exact .inl h
      · rw [List.mem_singleton] at h; exact .inr h
    refine ⟨fun p hp => ?_, fun p hp q hq => ?_, fun p hp => ?_, by rw [he]; show 1 ≤ (spotOf (s ++ gap)).1; omega⟩
    · rw [he]
      rcases hmem p hp with h | rfl
      · exact htop p h
      · exact ⟨Nat.le_refl _, Nat.le_refl _, ⟨fun _ => rfl, fun _ => rfl⟩⟩
    · rcases hmem p hp with h1 | rfl <;> rcases hmem q hq with h2 | rfl
      · exact ih.one p h1 q h2
      · exact (htop p h1).2.2
      · have := (htop q h2).2.2
        exact ⟨fun e => (this.1 e.symm).symm, fun e => (this.2 e.symm).symm⟩
      · exact ⟨fun _ => rfl, fun _ => rfl⟩
    · rcases hmem p hp with h | rfl
      · exact ih.same p h
      · exact ⟨rfl, rfl, rfl, by show 1 ≤ (spotOf (s ++ gap)).1; omega⟩
theorem al_of {Y : List (Tok × Tok)} (hY : ∀ p ∈ Y, p.2.kind = p.1.kind ∧ p.2.text = p.1.text ∧ p.2.num = p.1.num ∧ 1 ≤ p.2.line) : ∀ Z : List (Tok × Tok), (∀ p ∈ Z, p ∈ Y) → Al (fun a b => ∃ p ∈ Y, p.1.line = a ∧ p.2.line = b) (Z.map Prod.fst) (Z.map Prod.snd)
  | [], _ => .nil
  | p :: Z, h => by
    have hp := h p (List.mem_cons_self ..)
    obtain ⟨h1, h2, h3, -⟩ := hY p hp
    exact .cons h1 h2 h3 (fun _ => ⟨p, hp, rfl, rfl⟩) (al_of hY Z fun q hq => h q (List.mem_cons_of_mem _ hq))
theorem lex_endT : ∀ (n : Nat) (l : List UInt8) (ln cl : Nat) (T : List Tok), lexN n l ln cl = .ok T → ∃ l' a b, T = l' ++ [⟨4, [], 0, a, b⟩]
  | n, [], ln, cl, T, h => by
    rw [lexN.eq_def] at h
    injection h with h
    subst h
    exact ⟨[], ln, cl, rfl⟩
  | 0, c :: r, ln, cl, T, h => by rw [lexN.eq_def] at h; cases h
  | n + 1, c :: r, ln, cl, T, h => by
    rw [lexN] at h
    cases hs : stepL (c :: r) ln cl with
    | error e => rw [hs] at h; cases h
    | ok x =>
      obtain ⟨k, ln', cl', t⟩ := x
      rw [hs] at h
      cases hr : lexN n ((c :: r).drop k) ln' cl' with
      | error e => have h : add t (lexN n ((c :: r).drop k) ln' cl') = .ok T := h; rw [hr] at h; cases h
      | ok T' =>
        have h : add t (lexN n ((c :: r).drop k) ln' cl') = .ok T := h
        rw [hr] at h
        injection h with h
        obtain ⟨l', a, b, e⟩ := lex_endT n _ _ _ _ hr
        subst h
        subst e
        exact ⟨t.toList ++ l', a, b, by rw [List.append_assoc]⟩
/-- The words laid anew are the same program. -/
theorem lay_parse {s text : List UInt8} {Z : List (Tok × Tok)} {ln : Nat} {E : Tok} (h : Lay s Z ln) (hT : lex text 1 1 = .ok (Z.map Prod.fst ++ [E])) : EbR (parseL text) (parseL (s ++ [10, 59, 32, 101, 110, 100])) := by
  obtain ⟨a, b, h1⟩ := lay_end h
  have hr := lay_rel h
  obtain ⟨l, E2, e2, hE1, hlines⟩ := lex_lines _ _ _ _ _ hT
  obtain ⟨rfl, e3⟩ := List.append_inj' e2 rfl
  injection e3 with e3 _
  subst e3
  obtain ⟨-, -, l3, E3, e4, hE4, hk4⟩ := lexN_ok _ _ _ _ _ hT
  obtain ⟨rfl, e5⟩ := List.append_inj' e4 rfl
  injection e5 with e5 _
  subst e5
  unfold parseL
  rw [hT, h1]
  refine parse_al (ρ := fun a b => ∃ p ∈ Z, p.1.line = a ∧ p.2.line = b) ?_ (al_of hr.same Z fun _ h => h) hE4 ?_ hk4 (fun t ht => (hlines t ht).1) ?_
  · rintro a b a' b' ⟨p, hp, rfl, rfl⟩ ⟨q, hq, rfl, rfl⟩
    exact hr.one p hp q hq
  · obtain ⟨l4, c, d, e6⟩ := lex_endT _ _ _ _ _ hT
    obtain ⟨-, e7⟩ := List.append_inj' e6 rfl
    injection e7 with e7 _
    rw [e7]
  · intro t ht
    obtain ⟨p, hp, rfl⟩ := List.mem_map.1 ht
    exact (hr.same p hp).2.2.2
/-- A text's words have their forms. -/
theorem step_formOk {l : List UInt8} {ln cl k a b : Nat} {t : Tok} (h : stepL l ln cl = .ok (k, a, b, some t)) : FormOk t.kind t.text t.num := by
  cases l with
  | nil => cases h
  | cons c r =>
    unfold stepL at h
    dsimp only at h
    split at h
    · injection h with h; injection h with _ h; injection h with _ h; injection h with _ h; cases h
    · split at h
      · injection h with h; injection h with _ h; injection h with _ h; injection h with _ h; cases h
      · split at h
        · injection h with h; injection h with _ h; injection h with _ h; injection h with _ h; cases h
        · split at h
          · rename_i hc
            injection h with h; injection h with _ h; injection h with _ h; injection h with _ h; injection h with h
            subst h
            refine .inl ⟨rfl, rfl, ⟨c, r.takeWhile partB, ?_, hc⟩, fun b hb => mem_tw hb⟩
            show (c :: r).takeWhile partB = _
            rw [List.takeWhile_cons, if_pos (by unfold partB; rw [hc]; rfl)]
          · split at h
            · rename_i hc
              split at h
              · cases h
              · rename_i hb
                injection h with h; injection h with _ h; injection h with _ h; injection h with _ h; injection h with h
                subst h
                rw [Bool.not_eq_true, Bool.or_eq_false_iff, Bool.or_eq_false_iff] at hb
                obtain ⟨⟨-, h9⟩, h1⟩ := hb
                have hcons : (c :: r).takeWhile digitB = c :: r.takeWhile digitB := by rw [List.takeWhile_cons, if_pos hc]
                refine .inr (.inl ⟨rfl, rfl, by rw [hcons]; simp, fun b hb => mem_tw hb, ?_, fun hl => ?_⟩)
                · have := of_decide_eq_false h9
                  show ((c :: r).takeWhile digitB).length ≤ 9
                  omega
                · show ((c :: r).takeWhile digitB).head? ≠ some 48
                  rw [hcons]
                  have hl : 1 < ((c :: r).takeWhile digitB).length := hl
                  rw [decide_eq_true hl, Bool.true_and] at h1
                  have := of_decide_eq_false h1
                  simpa using this
            · split at h
              · rename_i hc
                injection h with h; injection h with _ h; injection h with _ h; injection h with _ h; injection h with h
                subst h
                exact .inr (.inr ⟨rfl, rfl, c, rfl, hc⟩)
              · cases h
theorem lex_formOk : ∀ (n : Nat) (l : List UInt8) (ln cl : Nat) (T : List Tok), lexN n l ln cl = .ok T → ∀ t ∈ T, t.kind = 4 ∨ FormOk t.kind t.text t.num
  | n, [], ln, cl, T, h => by
    rw [lexN.eq_def] at h
    injection h with h
    subst h
    intro t ht
    rw [List.mem_singleton] at ht
    subst ht
    exact .inl rfl
  | 0, c :: r, ln, cl, T, h => by rw [lexN.eq_def] at h; cases h
  | n + 1, c :: r, ln, cl, T, h => by
    rw [lexN] at h
    cases hs : stepL (c :: r) ln cl with
    | error e => rw [hs] at h; cases h
    | ok x =>
      obtain ⟨k, ln', cl', t⟩ := x
      rw [hs] at h
      cases hr : lexN n ((c :: r).drop k) ln' cl' with
      | error e => have h : add t (lexN n ((c :: r).drop k) ln' cl') = .ok T := h; rw [hr] at h; cases h
      | ok T' =>
        have h : add t (lexN n ((c :: r).drop k) ln' cl') = .ok T := h
        rw [hr] at h
        injection h with h
        subst h
        intro u hu
        rcases List.mem_append.1 hu with hu | hu
        · cases t with
          | none => cases hu
          | some x =>
            rw [Option.toList_some, List.mem_singleton] at hu
            subst hu
            exact .inr (step_formOk hs)
        · exact lex_formOk n _ _ _ _ hr u hu
/-- Lines go on. -/
theorem lex_sorted : ∀ (n : Nat) (l : List UInt8) (ln cl : Nat) (T : List Tok), lexN n l ln cl = .ok T → (∀ t ∈ T, ln ≤ t.line) ∧ ∀ i x y, T[i]? = some x → T[i + 1]? = some y → x.line ≤ y.line
  | n, [], ln, cl, T, h => by
    rw [lexN.eq_def] at h
    injection h with h
    subst h
    refine ⟨fun t ht => ?_, fun i x y h1 h2 => ?_⟩
    · rw [List.mem_singleton] at ht
      subst ht
      exact Nat.le_refl _
    · simp at h2
  | 0, c :: r, ln, cl, T, h => by rw [lexN.eq_def] at h; cases h
  | n + 1, c :: r, ln, cl, T, h => by
    rw [lexN] at h
    cases hs : stepL (c :: r) ln cl with
    | error e => rw [hs] at h; cases h
    | ok x =>
      obtain ⟨k, ln', cl', t⟩ := x
      rw [hs] at h
      have hp := step_lines hs
      cases hr : lexN n ((c :: r).drop k) ln' cl' with
      | error e => have h : add t (lexN n ((c :: r).drop k) ln' cl') = .ok T := h; rw [hr] at h; cases h
      | ok T' =>
        have h : add t (lexN n ((c :: r).drop k) ln' cl') = .ok T := h
        rw [hr] at h
        injection h with h
        subst h
        obtain ⟨h1, h2⟩ := lex_sorted n _ _ _ _ hr
        cases t with
        | none => exact ⟨fun u hu => Nat.le_trans hp.1 (h1 u hu), h2⟩
        | some x =>
          have hx := hp.2 x rfl
          refine ⟨fun u hu => ?_, fun i u v hu hv => ?_⟩
          · rw [Option.toList_some, List.singleton_append] at hu
            rcases List.mem_cons.1 hu with rfl | hu
            · omega
            · exact Nat.le_trans hp.1 (h1 u hu)
          · rw [Option.toList_some, List.singleton_append] at hu hv
            cases i with
            | zero =>
              rw [List.getElem?_cons_zero] at hu
              rw [List.getElem?_cons_succ] at hv
              injection hu with hu
              subst hu
              have := h1 v (List.mem_of_getElem? hv)
              omega
            | succ i =>
              rw [List.getElem?_cons_succ] at hu hv
              exact h2 i u v hu hv
end
end Go.Proofs.YtgcanabckogmmaaDoor
