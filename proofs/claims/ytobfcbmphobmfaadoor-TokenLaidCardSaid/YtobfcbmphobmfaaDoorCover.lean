/- Where words stand in their text; what is between them. -/
import Derived.Test.YtobfcbmphobmfaaDoorJoin
namespace Go.Proofs.YtobfcbmphobmfaaDoor

/-- Between words: comments and blanks. -/
def comStep (f : Bool) (c : UInt8) : Bool := if c = 10 then false else if c = 59 then true else f
def okG : Bool → List UInt8 → Bool
  | _, [] => true
  | f, c :: r => (comStep f c || (blankB c || c == 10)) && okG (comStep f c) r
theorem okG_blanks : ∀ (l r : List UInt8), (∀ b ∈ l, blankB b = true) → okG false (l ++ r) = okG false r
  | [], r, _ => rfl
  | c :: l, r, h => by
    have hc := h c (by simp)
    have h10 : c ≠ 10 := by rintro rfl; exact absurd hc (by decide)
    have h59 : c ≠ 59 := by rintro rfl; exact absurd hc (by decide)
    rw [List.cons_append]
    conv => lhs; unfold okG
    rw [show comStep false c = false from by unfold comStep; rw [if_neg h10, if_neg h59], hc, okG_blanks l r (fun b hb => h b (by simp [hb]))]
    simp
theorem okG_note : ∀ (l r : List UInt8), (∀ b ∈ l, b ≠ 10) → okG true (l ++ r) = okG true r
  | [], r, _ => rfl
  | c :: l, r, h => by
    rw [List.cons_append]
    conv => lhs; unfold okG
    rw [show comStep true c = true from by unfold comStep; rw [if_neg (h c (by simp))]; split <;> rfl, okG_note l r (fun b hb => h b (by simp [hb]))]
    simp
theorem okG_line (f : Bool) (r : List UInt8) : okG f (10 :: r) = okG false r := by
  conv => lhs; unfold okG
  rw [show comStep f 10 = false from rfl]
  simp
theorem okG_turn {r : List UInt8} (h : r.head? = none ∨ r.head? = some 10) : okG true r = okG false r := by
  cases r with
  | nil => rfl
  | cons c r =>
    rcases h with h | h
    · cases h
    · injection h with h
      rw [h, okG_line, okG_line]

theorem tw_take {p : UInt8 → Bool} : ∀ {l : List UInt8} {n : Nat}, (l.takeWhile p).length ≤ n → (l.take n).takeWhile p = l.takeWhile p
  | [], n, _ => by simp
  | c :: l, n, h => by
    rw [List.takeWhile_cons] at h ⊢
    by_cases hc : p c = true
    · rw [if_pos hc] at h ⊢
      simp only [List.length_cons] at h
      obtain ⟨m, rfl⟩ : ∃ m, n = m + 1 := ⟨n - 1, by omega⟩
      rw [List.take_succ_cons, List.takeWhile_cons, if_pos hc, tw_take (by omega)]
    · rw [if_neg hc]
      cases n with
      | zero => rfl
      | succ m => rw [List.take_succ_cons, List.takeWhile_cons, if_neg hc]
theorem dw_take {p q : UInt8 → Bool} : ∀ {l : List UInt8} {n : Nat}, (l.takeWhile p).length ≤ n → (l.dropWhile p).head?.any q = false → ((l.take n).dropWhile p).head?.any q = false
  | [], n, _, _ => by simp
  | c :: l, n, h, hq => by
    rw [List.takeWhile_cons] at h
    rw [List.dropWhile_cons] at hq
    by_cases hc : p c = true
    · rw [if_pos hc] at h hq
      simp only [List.length_cons] at h
      obtain ⟨m, rfl⟩ : ∃ m, n = m + 1 := ⟨n - 1, by omega⟩
      rw [List.take_succ_cons, List.dropWhile_cons, if_pos hc]
      exact dw_take (by omega) hq
    · rw [if_neg hc] at hq
      cases n with
      | zero => simp
      | succ m => rw [List.take_succ_cons, List.dropWhile_cons, if_neg hc]; exact hq

theorem stepL_take {l : List UInt8} {ln cl k a b : Nat} {t : Option Tok} {n : Nat} (h : stepL l ln cl = .ok (k, a, b, t)) (hn : k ≤ n) : stepL (l.take n) ln cl = .ok (k, a, b, t) := by
  have hp := step_pos h
  cases l with
  | nil => cases h
  | cons c r =>
    obtain ⟨m, rfl⟩ : ∃ m, n = m + 1 := ⟨n - 1, by omega⟩
    have e : (c :: r).take (m + 1) = c :: r.take m := List.take_succ_cons
    have key : ∀ p : UInt8 → Bool, ((c :: r).takeWhile p).length ≤ m + 1 → (c :: r.take m).takeWhile p = (c :: r).takeWhile p := fun p hp => by rw [← e]; exact tw_take hp
    have key2 : ((c :: r).takeWhile digitB).length ≤ m + 1 → ((c :: r).dropWhile digitB).head?.any partB = false → ((c :: r.take m).dropWhile digitB).head?.any partB = false := fun h1 h2 => by rw [← e]; exact dw_take h1 h2
    rw [e]
    unfold stepL at h ⊢
    dsimp only at h ⊢
    split at h
    · rename_i h1
      rw [if_pos h1]; exact h
    · rename_i h1
      rw [if_neg h1]
      split at h
      · rename_i h2
        injection h with h; injection h with hk hr
        rw [if_pos h2, key _ (by omega)]; rw [← hk, ← hr]
      · rename_i h2
        rw [if_neg h2]
        split at h
        · rename_i h3
          injection h with h; injection h with hk hr
          rw [if_pos h3, key _ (by omega)]; rw [← hk, ← hr]
        · rename_i h3
          rw [if_neg h3]
          split at h
          · rename_i h4
            injection h with h; injection h with hk hr
            rw [if_pos h4, key _ (by omega)]; rw [← hk, ← hr]
          · rename_i h4
            rw [if_neg h4]
            split at h
            · rename_i h5
              rw [if_pos h5]
              split at h
              · cases h
              · rename_i h6
                injection h with h; injection h with hk hr
                have h6' : (((c :: r).dropWhile digitB).head?.any partB || decide (9 < ((c :: r).takeWhile digitB).length) || (decide (1 < ((c :: r).takeWhile digitB).length) && decide (c = 48))) = false := by
                  revert h6; cases (((c :: r).dropWhile digitB).head?.any partB || decide (9 < ((c :: r).takeWhile digitB).length) || (decide (1 < ((c :: r).takeWhile digitB).length) && decide (c = 48))) <;> simp
                have h7 : ((c :: r).dropWhile digitB).head?.any partB = false := by
                  revert h6'; cases ((c :: r).dropWhile digitB).head?.any partB <;> simp
                rw [h7] at h6'
                rw [key _ (by omega), key2 (by omega) h7, if_neg (by rw [h6']; simp)]; rw [← hk, ← hr]
            · rename_i h5
              rw [if_neg h5]
              exact h

/-- Line and column behind these bytes. -/
def spotL (p : Nat × Nat) (l : List UInt8) : Nat × Nat := l.foldl spotStep p
theorem spotL_app (p : Nat × Nat) (a b : List UInt8) : spotL p (a ++ b) = spotL (spotL p a) b := by unfold spotL; rw [List.foldl_append]
theorem tw_pre {p : UInt8 → Bool} (l : List UInt8) : l.take (l.takeWhile p).length = l.takeWhile p := by
  conv => lhs; arg 2; rw [← List.takeWhile_append_dropWhile (p := p) (l := l)]
  rw [List.take_left]

/-- One step: what it goes past. -/
theorem step_forms {l : List UInt8} {ln cl k a b : Nat} {t : Option Tok} (h : stepL l ln cl = .ok (k, a, b, t)) :
    spotL (ln, cl) (l.take k) = (a, b) ∧ ((t = none ∧ ((∀ r, okG false (l.take k ++ r) = okG false r) ∨ ((l.drop k).head? = none ∨ (l.drop k).head? = some 10) ∧ ∀ r, okG false (l.take k ++ r) = okG true r)) ∨
      ∃ w : Tok, t = some w ∧ w.text = l.take k ∧ (w.line, w.col) = (ln, cl) ∧ w.kind ≠ 4 ∧ w.kind < 4) := by
  have flat : ∀ (p : UInt8 → Bool), p 10 = false → spotL (ln, cl) (l.takeWhile p) = (ln, cl + (l.takeWhile p).length) := fun p h10 => fold_flat _ _ (fun b hb e => by have := mem_tw hb; rw [e, h10] at this; cases this)
  cases l with
  | nil => cases h
  | cons c r =>
    unfold stepL at h
    dsimp only at h
    split at h
    · rename_i h1
      injection h with h; injection h with hk h; injection h with ha h; injection h with hb ht
      subst hk ha hb ht h1
      exact ⟨rfl, .inl ⟨rfl, .inl fun r' => okG_line _ _⟩⟩
    · split at h
      · injection h with h; injection h with hk h; injection h with ha h; injection h with hb ht
        subst hk ha hb ht
        rw [tw_pre]
        exact ⟨flat _ (by decide), .inl ⟨rfl, .inl fun r' => okG_blanks _ _ (fun b hb => mem_tw hb)⟩⟩
      · split at h
        · rename_i h3
          injection h with h; injection h with hk h; injection h with ha h; injection h with hb ht
          subst hk ha hb ht h3
          refine ⟨by rw [tw_pre]; exact flat _ (by decide), .inl ⟨rfl, .inr ⟨?_, fun r' => ?_⟩⟩⟩
          · have hd : ((59 : UInt8) :: r).drop (((59 : UInt8) :: r).takeWhile (· != 10)).length = ((59 : UInt8) :: r).dropWhile (· != 10) := by
              conv => lhs; arg 2; rw [← List.takeWhile_append_dropWhile (p := (· != 10)) (l := (59 : UInt8) :: r)]
              rw [List.drop_left]
            rw [hd]
            cases hx : (((59 : UInt8) :: r).dropWhile (· != 10)).head? with
            | none => exact .inl rfl
            | some x =>
              right
              have := List.head?_dropWhile_not (· != 10) ((59 : UInt8) :: r)
              rw [hx] at this
              simpa using this
          · rw [tw_pre, List.takeWhile_cons, if_pos (by decide)]
            rw [List.cons_append]
            conv => lhs; unfold okG
            rw [show comStep false 59 = true from rfl, okG_note _ _ (fun b hb => by have := mem_tw hb; simpa using this)]
            simp
        · split at h
          · injection h with h; injection h with hk h; injection h with ha h; injection h with hb ht
            subst hk ha hb ht
            rw [tw_pre]
            exact ⟨flat _ (by decide), .inr ⟨_, rfl, rfl, rfl, by simp, by simp⟩⟩
          · split at h
            · split at h
              · cases h
              · injection h with h; injection h with hk h; injection h with ha h; injection h with hb ht
                subst hk ha hb ht
                rw [tw_pre]
                exact ⟨flat _ (by decide), .inr ⟨_, rfl, rfl, rfl, by simp, by simp⟩⟩
            · split at h
              · rename_i h10 _ _ _ _ _
                injection h with h; injection h with hk h; injection h with ha h; injection h with hb ht
                subst hk ha hb ht
                refine ⟨?_, .inr ⟨_, rfl, rfl, rfl, by simp, by simp⟩⟩
                show spotStep (ln, cl) c = _
                unfold spotStep
                rw [if_neg h10]
              · cases h

/-- The first word: where it stands, and what goes ahead of it. -/
theorem first_word : ∀ (n : Nat) (l : List UInt8) (ln cl : Nat) (t : Tok) (r : List Tok), l.length ≤ n → lex l ln cl = .ok (t :: r) →
    ∃ m, m ≤ l.length ∧ okG false (l.take m) = true ∧ spotL (ln, cl) (l.take m) = (t.line, t.col) ∧
      ((m = l.length ∧ t = ⟨4, [], 0, t.line, t.col⟩ ∧ r = []) ∨ (t.text ≠ [] ∧ t.kind < 4 ∧ m + t.text.length ≤ l.length ∧ (l.drop m).take t.text.length = t.text ∧
        ∃ p : Nat × Nat, spotL (t.line, t.col) t.text = p ∧ lex (l.drop (m + t.text.length)) p.1 p.2 = .ok r))
  | _, [], ln, cl, t, r, _, h => by
    rw [lex_nil] at h
    injection h with h
    injection h with h1 h2
    subst h1 h2
    exact ⟨0, Nat.le_refl _, rfl, rfl, .inl ⟨rfl, rfl, rfl⟩⟩
  | 0, _ :: _, _, _, _, _, h, _ => by simp at h
  | n + 1, c :: q, ln, cl, t, r, hn, h => by
    cases hs : stepL (c :: q) ln cl with
    | error e => rw [lex_bad (by simp) hs] at h; cases h
    | ok x =>
      obtain ⟨k, a, b, w⟩ := x
      obtain ⟨hk0, hk⟩ := step_pos hs
      obtain ⟨hsp, hf⟩ := step_forms hs
      rw [lex_went (by simp) hs] at h
      rcases hf with ⟨rfl, hf⟩ | ⟨w, rfl, hw, hwl, -, hw4⟩
      · rw [add_none] at h
        obtain ⟨m, hm, hg, hsp2, hx⟩ := first_word n _ a b t r (by rw [List.length_drop]; simp only [List.length_cons] at hn ⊢; omega) h
        rw [List.length_drop] at hm
        have ht : (c :: q).take (k + m) = (c :: q).take k ++ ((c :: q).drop k).take m := List.take_add
        refine ⟨k + m, by omega, ?_, ?_, ?_⟩
        · rw [ht]
          rcases hf with hf | ⟨h10, hf⟩
          · rw [hf]; exact hg
          · rw [hf]
            cases m with
            | zero => rfl
            | succ m =>
              rw [okG_turn]
              · exact hg
              · rcases hd : (c :: q).drop k with _ | ⟨y, ys⟩
                · exact .inl rfl
                · rw [hd] at h10
                  rw [List.take_succ_cons]
                  exact h10
        · rw [ht, spotL_app, hsp, hsp2]
        · rcases hx with ⟨h1, h2, h3⟩ | ⟨h1, h2, h3, h4, p, h5, h6⟩
          · rw [List.length_drop] at h1
            exact .inl ⟨by omega, h2, h3⟩
          · rw [List.length_drop] at h3
            rw [List.drop_drop] at h4 h6
            exact .inr ⟨h1, h2, by omega, h4, p, h5, by rw [Nat.add_assoc]; exact h6⟩
      · cases hr : lex ((c :: q).drop k) a b with
        | error e => rw [hr] at h; cases h
        | ok o =>
          rw [hr] at h
          injection h with h
          have h : w :: o = t :: r := h
          injection h with h1 h2
          subst h1 h2
          have hlen : w.text.length = k := by rw [hw, List.length_take]; omega
          have e1 : w.line = ln := congrArg Prod.fst hwl
          have e2 : w.col = cl := congrArg Prod.snd hwl
          refine ⟨0, Nat.zero_le _, rfl, ?_, .inr ⟨fun e => by rw [e] at hlen; simp at hlen; omega, hw4, by omega, ?_, (a, b), ?_, ?_⟩⟩
          · rw [e1, e2]; rfl
          · rw [List.drop_zero, hlen, hw]
          · rw [e1, e2, hw]; exact hsp
          · rw [Nat.zero_add, hlen]; exact hr

/-- Where something is wrong: a byte; what goes ahead is words. -/
theorem first_bad : ∀ (n : Nat) (l : List UInt8) (ln cl a b e : Nat), l.length ≤ n → lex l ln cl = .error (a, b, e) →
    ∃ m, m < l.length ∧ spotL (ln, cl) (l.take m) = (a, b) ∧ (e = 30 ∨ e = 31) ∧ ∃ out, lex (l.take m) ln cl = .ok out
  | _, [], ln, cl, _, _, _, _, h => by rw [lex_nil] at h; cases h
  | 0, _ :: _, _, _, _, _, _, h, _ => by simp at h
  | n + 1, c :: q, ln, cl, a, b, e, hn, h => by
    cases hs : stepL (c :: q) ln cl with
    | error e' =>
      rw [lex_bad (by simp) hs] at h
      injection h with h
      subst h
      have : (ln, cl, 30) = (a, b, e) ∨ (ln, cl, 31) = (a, b, e) := by
        unfold stepL at hs
        dsimp only at hs
        split at hs
        · cases hs
        · split at hs
          · cases hs
          · split at hs
            · cases hs
            · split at hs
              · cases hs
              · split at hs
                · split at hs
                  · injection hs with hs; exact .inr hs
                  · cases hs
                · split at hs
                  · cases hs
                  · injection hs with hs; exact .inl hs
      refine ⟨0, by simp, ?_, ?_, _, lex_nil ln cl⟩
      · rcases this with h | h <;> (injection h with h1 h; injection h with h2 h; rw [h1, h2]; rfl)
      · rcases this with h | h <;> (injection h with h1 h; injection h with h2 h; omega)
    | ok x =>
      obtain ⟨k, a', b', w⟩ := x
      obtain ⟨hk0, hk⟩ := step_pos hs
      obtain ⟨hsp, -⟩ := step_forms hs
      rw [lex_went (by simp) hs] at h
      have h' : lex ((c :: q).drop k) a' b' = .error (a, b, e) := by
        cases hr : lex ((c :: q).drop k) a' b' with
        | error x => rw [hr] at h; exact h
        | ok o => rw [hr] at h; cases h
      obtain ⟨m, hm, h1, h2, out, h3⟩ := first_bad n _ a' b' a b e (by rw [List.length_drop]; simp only [List.length_cons] at hn ⊢; omega) h'
      rw [List.length_drop] at hm
      refine ⟨k + m, by omega, ?_, h2, w.toList ++ out, ?_⟩
      · rw [List.take_add, spotL_app, hsp, h1]
      · have hs2 := stepL_take (n := k + m) hs (by omega)
        have h0 : (c :: q).take (k + m) ≠ [] := by
          obtain ⟨j, hj⟩ : ∃ j, k + m = j + 1 := ⟨k + m - 1, by omega⟩
          rw [hj, List.take_succ_cons]; simp
        rw [lex_went h0 hs2, List.drop_take, show k + m - k = m from by omega, h3]
        rfl

/-- Where each line begins. -/
def linesL : Nat → List UInt8 → List Nat
  | _, [] => []
  | i, c :: r => if c = 10 then (i + 1) :: linesL (i + 1) r else linesL (i + 1) r
def beginL (l : List UInt8) : List Nat := 0 :: linesL 0 l
theorem linesL_cons (i : Nat) (c : UInt8) (r : List UInt8) : linesL i (c :: r) = if c = 10 then (i + 1) :: linesL (i + 1) r else linesL (i + 1) r := rfl
theorem linesL_app : ∀ (a b : List UInt8) (i : Nat), linesL i (a ++ b) = linesL i a ++ linesL (i + a.length) b
  | [], b, i => rfl
  | c :: a, b, i => by
    rw [List.cons_append, linesL_cons, linesL_cons, linesL_app a b (i + 1), List.length_cons, show i + 1 + a.length = i + (a.length + 1) from by omega]
    split <;> simp
theorem begin_snoc (l : List UInt8) (b : UInt8) : beginL (l ++ [b]) = if b = 10 then beginL l ++ [l.length + 1] else beginL l := by
  unfold beginL
  rw [linesL_app, linesL_cons, Nat.zero_add]
  split <;> simp [show ∀ i, linesL i [] = [] from fun _ => rfl]
/-- The spot of a place, and the place of a spot. -/
theorem begin_spot (l : List UInt8) : (spotOf l).1 = (beginL l).length ∧ 1 ≤ (spotOf l).2 ∧ ∃ x, (beginL l)[(spotOf l).1 - 1]? = some x ∧ x + (spotOf l).2 = l.length + 1 := by
  refine snoc_ind (Q := fun l => (spotOf l).1 = (beginL l).length ∧ 1 ≤ (spotOf l).2 ∧ ∃ x, (beginL l)[(spotOf l).1 - 1]? = some x ∧ x + (spotOf l).2 = l.length + 1) ⟨rfl, Nat.le_refl _, 0, rfl, rfl⟩ (fun l b ih => ?_) l
  obtain ⟨h1, h2, x, h3, h4⟩ := ih
  rw [spotOf_snoc, begin_snoc]
  unfold spotStep
  split
  · refine ⟨by simp [h1], Nat.le_refl _, l.length + 1, ?_, by simp⟩
    show (beginL l ++ [l.length + 1])[(spotOf l).1 + 1 - 1]? = _
    rw [h1, Nat.add_sub_cancel, List.getElem?_append_right (Nat.le_refl _), Nat.sub_self]
    rfl
  · exact ⟨h1, by show 1 ≤ (spotOf l).2 + 1; omega, x, h3, by show x + ((spotOf l).2 + 1) = _; rw [List.length_append, List.length_singleton]; omega⟩
theorem begin_take (l : List UInt8) (m : Nat) : ∃ t, beginL l = beginL (l.take m) ++ t := by
  refine ⟨linesL (0 + (l.take m).length) (l.drop m), ?_⟩
  unfold beginL
  conv => lhs; rw [← List.take_append_drop m l]
  rw [linesL_app]
  rfl
/-- A place of a text: its spot is that of a line that begins there. -/
theorem place_of_spot (l : List UInt8) {m : Nat} (hm : m ≤ l.length) : 1 ≤ (spotOf (l.take m)).1 ∧ (spotOf (l.take m)).1 ≤ (beginL l).length ∧ 1 ≤ (spotOf (l.take m)).2 ∧ ∃ x, (beginL l)[(spotOf (l.take m)).1 - 1]? = some x ∧ x + (spotOf (l.take m)).2 = m + 1 := by
  obtain ⟨h1, h2, x, h3, h4⟩ := begin_spot (l.take m)
  obtain ⟨t, ht⟩ := begin_take l m
  rw [List.length_take, Nat.min_eq_left hm] at h4
  have hlt : (spotOf (l.take m)).1 - 1 < (beginL (l.take m)).length := by
    rcases Nat.lt_or_ge ((spotOf (l.take m)).1 - 1) (beginL (l.take m)).length with h | h
    · exact h
    · rw [List.getElem?_eq_none h] at h3; cases h3
  refine ⟨?_, by rw [ht, List.length_append]; omega, h2, x, by rw [ht, List.getElem?_append_left hlt]; exact h3, h4⟩
  rw [h1]
  show 1 ≤ (0 :: linesL 0 (l.take m)).length
  simp
end Go.Proofs.YtobfcbmphobmfaaDoor
