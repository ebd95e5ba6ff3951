/- Two texts with a line's end between them. -/
import Derived.Test.YtobfcbmphobmfaaDoorTold
namespace Go.Proofs.YtobfcbmphobmfaaDoor

theorem tw_app {p : UInt8 → Bool} (h10 : p 10 = false) (b : List UInt8) : ∀ l : List UInt8, (l ++ 10 :: b).takeWhile p = l.takeWhile p
  | [] => by rw [List.nil_append, List.takeWhile_cons, if_neg (by rw [h10]; simp)]; rfl
  | c :: l => by
    rw [List.cons_append, List.takeWhile_cons, List.takeWhile_cons, tw_app h10 b l]
theorem dw_app {p : UInt8 → Bool} (h10 : p 10 = false) (hq : partB 10 = false) (b : List UInt8) : ∀ l : List UInt8, ((l ++ 10 :: b).dropWhile p).head?.any partB = (l.dropWhile p).head?.any partB
  | [] => by rw [List.nil_append, List.dropWhile_cons, if_neg (by rw [h10]; simp)]; simp [hq]
  | c :: l => by
    rw [List.cons_append, List.dropWhile_cons, List.dropWhile_cons]
    split
    · exact dw_app h10 hq b l
    · rfl
theorem stepL_app (b : List UInt8) {l : List UInt8} (h0 : l ≠ []) (ln cl : Nat) : stepL (l ++ 10 :: b) ln cl = stepL l ln cl := by
  cases l with
  | nil => exact absurd rfl h0
  | cons c r =>
    have h1 := tw_app (p := blankB) (by decide) b (c :: r)
    have h2 := tw_app (p := (· != 10)) (by decide) b (c :: r)
    have h3 := tw_app (p := partB) (by decide) b (c :: r)
    have h4 := tw_app (p := digitB) (by decide) b (c :: r)
    have h5 := dw_app (p := digitB) (by decide) (by decide) b (c :: r)
    rw [List.cons_append] at *
    unfold stepL
    dsimp only
    rw [h1, h2, h3, h4, h5]

theorem lex_some : ∀ (n : Nat) (l : List UInt8) (ln cl : Nat) (out : List Tok), lexN n l ln cl = .ok out → out ≠ []
  | n, [], ln, cl, out, h => by rw [lexN.eq_def] at h; injection h with h; rw [← h]; simp
  | 0, _ :: _, ln, cl, out, h => by rw [lexN.eq_def] at h; cases h
  | n + 1, c :: r, ln, cl, out, h => by
    rw [lexN] at h
    cases hs : stepL (c :: r) ln cl with
    | error e => rw [hs] at h; cases h
    | ok x =>
      obtain ⟨k, ln', cl', t⟩ := x
      rw [hs] at h
      have h : add t (lexN n ((c :: r).drop k) ln' cl') = .ok out := h
      cases hr : lexN n ((c :: r).drop k) ln' cl' with
      | error e => rw [hr] at h; cases h
      | ok o =>
        rw [hr] at h
        injection h with h
        rw [← h]
        have := lex_some n _ _ _ _ hr
        simp [this]

/-- The line of the last word. -/
def lastLine (out : List Tok) : Nat := match out.getLast? with | some t => t.line | none => 0
def joinL (b : List UInt8) (r : Except Bad (List Tok)) : Except Bad (List Tok) :=
  match r with
  | .error e => .error e
  | .ok out => sofar out.dropLast (lex b (lastLine out + 1) 1)
theorem lex_line (b : List UInt8) (ln cl : Nat) : lex (10 :: b) ln cl = lex b (ln + 1) 1 := by
  have hs : stepL (10 :: b) ln cl = .ok (1, ln + 1, 1, none) := by unfold stepL; dsimp only; rw [if_pos rfl]
  rw [lex_went (by simp) hs, add_none]
  rfl
theorem lex_join (b : List UInt8) : ∀ (n : Nat) (l : List UInt8) (ln cl : Nat), l.length ≤ n → lex (l ++ 10 :: b) ln cl = joinL b (lex l ln cl)
  | _, [], ln, cl, _ => by
    rw [List.nil_append, lex_line, lex_nil]
    show _ = sofar [] (lex b (ln + 1) 1)
    rw [sofar_nil]
  | 0, _ :: _, _, _, h => by simp at h
  | n + 1, c :: r, ln, cl, h => by
    cases hs : stepL (c :: r) ln cl with
    | error e =>
      rw [lex_bad (by simp) hs, lex_bad (by simp) ((stepL_app b (by simp) ln cl).trans hs)]
      rfl
    | ok x =>
      obtain ⟨k, ln', cl', t⟩ := x
      have hk := step_pos hs
      rw [lex_went (by simp) hs, lex_went (by simp) ((stepL_app b (by simp) ln cl).trans hs), List.drop_append_of_le_length hk.2,
        lex_join b n _ ln' cl' (by rw [List.length_drop]; simp only [List.length_cons] at h ⊢; omega)]
      cases hr : lex ((c :: r).drop k) ln' cl' with
      | error e => rfl
      | ok o =>
        have h0 : o ≠ [] := lex_some _ _ _ _ _ hr
        show add t (sofar o.dropLast _) = sofar (t.toList ++ o).dropLast _
        have hl : lastLine (t.toList ++ o) = lastLine o := by
          unfold lastLine
          rw [List.getLast?_append]
          cases hg : o.getLast? with
          | none => exact absurd (List.getLast?_eq_none_iff.1 hg) h0
          | some q => rfl
        rw [hl, List.dropLast_append_of_ne_nil h0]
        cases lex b (lastLine o + 1) 1 with
        | error e => rfl
        | ok p => simp [add, sofar]

/-- So many lines further down. -/
def downT (m : Nat) (t : Tok) : Tok := ⟨t.kind, t.text, t.num, t.line + m, t.col⟩
def down (m : Nat) (r : Except Bad (List Tok)) : Except Bad (List Tok) :=
  match r with
  | .error (l, c, e) => .error (l + m, c, e)
  | .ok out => .ok (out.map (downT m))
def downS (m : Nat) (r : Except Bad Went) : Except Bad Went :=
  match r with
  | .error (l, c, e) => .error (l + m, c, e)
  | .ok (k, l, c, t) => .ok (k, l + m, c, t.map (downT m))
theorem stepL_down (m : Nat) (l : List UInt8) (ln cl : Nat) : stepL l (ln + m) cl = downS m (stepL l ln cl) := by
  cases l with
  | nil => rfl
  | cons c r =>
    unfold stepL
    dsimp only
    split
    · show _ = Except.ok (1, ln + 1 + m, 1, none)
      rw [show ln + m + 1 = ln + 1 + m from by omega]
    · split
      · rfl
      · split
        · rfl
        · split
          · rfl
          · split
            · split <;> rfl
            · split <;> rfl
theorem lex_down (m : Nat) : ∀ (n : Nat) (l : List UInt8) (ln cl : Nat), l.length ≤ n → lex l (ln + m) cl = down m (lex l ln cl)
  | _, [], ln, cl, _ => by rw [lex_nil, lex_nil]; rfl
  | 0, _ :: _, _, _, h => by simp at h
  | n + 1, c :: r, ln, cl, h => by
    have hd := stepL_down m (c :: r) ln cl
    cases hs : stepL (c :: r) ln cl with
    | error e =>
      rw [hs] at hd
      rw [lex_bad (by simp) hs, lex_bad (by simp) hd]
      rfl
    | ok x =>
      obtain ⟨k, ln', cl', t⟩ := x
      have hk := step_pos hs
      rw [hs] at hd
      rw [lex_went (by simp) hs, lex_went (by simp) hd, lex_down m n _ ln' cl' (by rw [List.length_drop]; simp only [List.length_cons] at h ⊢; omega)]
      cases lex ((c :: r).drop k) ln' cl' with
      | error e => rfl
      | ok o => cases t <;> simp [add, down]
end Go.Proofs.YtobfcbmphobmfaaDoor
