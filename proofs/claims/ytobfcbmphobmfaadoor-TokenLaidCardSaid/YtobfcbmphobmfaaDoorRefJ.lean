/- The document's steps, one blank at a time, are the same words. -/
import Derived.Test.YtobfcbmphobmfaaDoorLexK
namespace Go.Proofs.YtobfcbmphobmfaaDoor
open Go.RowKit Go.Shelf

theorem add_none' (r : Except Bad (List Tok)) : add none r = r := by cases r <;> rfl
theorem add_add (t : Tok) (r : Except Bad (List Tok)) : add (some t) r = sofar [t] r := by cases r <;> rfl

/-- One blank. -/
theorem lex_blank {b : UInt8} (hb : blankB b = true) (r : List UInt8) (ln cl : Nat) : lex (b :: r) ln cl = lex r ln (cl + 1) := by
  have h10 : ∀ c : UInt8, blankB c = true → c ≠ 10 := by rintro c h rfl; exact absurd h (by decide)
  have hst : ∀ (c : UInt8) (q : List UInt8) (a d : Nat), blankB c = true → stepL (c :: q) a d = .ok ((q.takeWhile blankB).length + 1, a, d + ((q.takeWhile blankB).length + 1), none) := by
    intro c q a d hc
    unfold stepL
    dsimp only
    rw [if_neg (h10 c hc), if_pos hc, List.takeWhile_cons, if_pos hc, List.length_cons]
  rw [lex_went (by simp) (hst b r ln cl hb), add_none']
  cases r with
  | nil => rfl
  | cons c q =>
    by_cases hc : blankB c = true
    · rw [lex_went (by simp) (hst c q ln (cl + 1) hc), add_none', List.takeWhile_cons, if_pos hc, List.length_cons, List.drop_succ_cons]
      congr 1
      omega
    · rw [List.takeWhile_cons, if_neg hc]
      rfl

/-- Line and column of a place. -/
def sp (s : ByteArray) (i : Nat) : Nat × Nat := spotOf (s.data.toList.take i)
theorem fold_flat : ∀ (l : List UInt8) (p : Nat × Nat), (∀ b ∈ l, b ≠ 10) → l.foldl spotStep p = (p.1, p.2 + l.length)
  | [], p, _ => rfl
  | b :: l, p, h => by
    rw [List.foldl_cons, fold_flat l _ (fun c hc => h c (by simp [hc]))]
    unfold spotStep
    rw [if_neg (h b (by simp))]
    simp
    omega
theorem sp_run {p : UInt8 → Bool} (h10 : p 10 = false) (s : ByteArray) (i : Nat) : sp s (i + run p s i) = ((sp s i).1, (sp s i).2 + run p s i) := by
  have ht : s.data.toList.take (i + run p s i) = s.data.toList.take i ++ word p s i := by
    rw [List.take_add]
    congr 1
    show (rest s i).take _ = _
    have h := List.takeWhile_append_dropWhile (p := p) (l := rest s i)
    unfold run word
    conv => lhs; arg 2; rw [← h]
    rw [List.take_left]
  unfold sp
  rw [ht]
  unfold spotOf
  rw [List.foldl_append, fold_flat _ _ (fun b hb e => by have := mem_tw hb; rw [e, h10] at this; cases this), word_len]
theorem sp_one {s : ByteArray} {i : Nat} (hi : i < s.size) : sp s (i + 1) = spotStep (sp s i) s[i] := by
  unfold sp
  rw [List.take_succ_eq_append_getElem (by simpa using hi), spotOf_snoc]
  rfl
theorem sp_bound (s : ByteArray) (i : Nat) : (sp s i).1 ≤ i + 1 ∧ (sp s i).2 ≤ i + 1 := by
  have h := spot_bound (s.data.toList.take i)
  have h2 : (s.data.toList.take i).length ≤ i := by rw [List.length_take]; omega
  unfold sp
  omega

/-- From a place on. -/
def lexAt (s : ByteArray) (i : Nat) : Except Bad (List Tok) := lex (rest s i) (sp s i).1 (sp s i).2
theorem lexAt_zero (s : ByteArray) : lexAt s 0 = lex s.data.toList 1 1 := by unfold lexAt; rw [rest_all]; rfl
theorem lexAt_end {s : ByteArray} {i : Nat} (h : s.size ≤ i) : lexAt s i = .ok [⟨4, [], 0, (sp s i).1, (sp s i).2⟩] := by unfold lexAt; rw [rest_end h, lex_nil]

section
variable {s : ByteArray} {i : Nat}
theorem lexAt_blank (hi : i < s.size) (hb : s[i] = 10 ∨ blankB s[i] = true) : lexAt s i = lexAt s (i + 1) := by
  unfold lexAt
  rw [sp_one hi, rest_at hi]
  rcases hb with hb | hb
  · have hs : stepL (s[i] :: rest s (i + 1)) (sp s i).1 (sp s i).2 = .ok (1, (sp s i).1 + 1, 1, none) := by
      unfold stepL
      dsimp only
      rw [if_pos hb]
    rw [lex_went (by simp) hs, add_none']
    unfold spotStep
    rw [if_pos hb]
    rfl
  · rw [lex_blank hb]
    unfold spotStep
    rw [if_neg (fun e => by rw [e] at hb; exact absurd hb (by decide))]

theorem lexAt_went {p : UInt8 → Bool} {t : Option Tok} (hi : i < s.size) (h10 : p 10 = false)
    (hs : stepL (rest s i) (sp s i).1 (sp s i).2 = .ok (run p s i, (sp s i).1, (sp s i).2 + run p s i, t)) : lexAt s i = sofar t.toList (lexAt s (i + run p s i)) := by
  unfold lexAt
  rw [sp_run h10, lex_went (rest_ne hi) hs, rest_drop]
  cases t with
  | none => rw [add_none']; exact (sofar_nil _).symm
  | some t => rw [add_add]; rfl

theorem lexAt_note (hi : i < s.size) (h1 : ¬ (s[i] = 10 ∨ blankB s[i] = true)) (h2 : s[i] = 59) : lexAt s i = lexAt s (i + run (· != 10) s i) := by
  have h := lexAt_went (p := (· != 10)) (t := none) hi (by decide) (by
    have hr := rest_at hi
    unfold run
    rw [hr]
    unfold stepL
    dsimp only
    rw [if_neg (fun e => h1 (.inl e)), if_neg (fun e => h1 (.inr e)), if_pos h2])
  rw [h]
  exact sofar_nil _

theorem lexAt_name (hi : i < s.size) (h1 : ¬ (s[i] = 10 ∨ blankB s[i] = true)) (h2 : s[i] ≠ 59) (h3 : letterB s[i] = true) : lexAt s i = sofar [⟨1, word partB s i, 0, (sp s i).1, (sp s i).2⟩] (lexAt s (i + run partB s i)) := by
  exact lexAt_went (p := partB) (t := some _) hi (by decide) (by
    have hr := rest_at hi
    unfold run word
    rw [hr]
    unfold stepL
    dsimp only
    rw [if_neg (fun e => h1 (.inl e)), if_neg (fun e => h1 (.inr e)), if_neg h2, if_pos h3])

theorem badN_eq (hi : i < s.size) : badN s i = (((rest s (i + run digitB s i)).head?.any partB || decide (9 < run digitB s i)) || (decide (1 < run digitB s i) && decide (s[i] = 48))) := by
  unfold badN
  rw [drop_run, rest_at hi]
  simp

theorem stepL_digit (hi : i < s.size) (h1 : ¬ (s[i] = 10 ∨ blankB s[i] = true)) (h2 : s[i] ≠ 59) (h3 : letterB s[i] = false) (h4 : digitB s[i] = true) (ln cl : Nat) :
    stepL (rest s i) ln cl = if badN s i = true then .error (ln, cl, 31) else .ok (run digitB s i, ln, cl + run digitB s i, some ⟨2, word digitB s i, numOf (word digitB s i), ln, cl⟩) := by
  have hb : badN s i = (((s[i] :: rest s (i + 1)).dropWhile digitB).head?.any partB || decide (9 < ((s[i] :: rest s (i + 1)).takeWhile digitB).length) || (decide (1 < ((s[i] :: rest s (i + 1)).takeWhile digitB).length) && decide (s[i] = 48))) := by
    unfold badN run
    rw [rest_at hi]
    simp
  rw [hb]
  unfold run word
  rw [rest_at hi]
  unfold stepL
  dsimp only
  rw [if_neg (fun e => h1 (.inl e)), if_neg (fun e => h1 (.inr e)), if_neg h2, if_neg (by rw [h3]; simp), if_pos h4]

theorem lexAt_number (hi : i < s.size) (h1 : ¬ (s[i] = 10 ∨ blankB s[i] = true)) (h2 : s[i] ≠ 59) (h3 : letterB s[i] = false) (h4 : digitB s[i] = true) (h5 : badN s i = false) :
    lexAt s i = sofar [⟨2, word digitB s i, numOf (word digitB s i), (sp s i).1, (sp s i).2⟩] (lexAt s (i + run digitB s i)) :=
  lexAt_went (p := digitB) (t := some _) hi (by decide) (by rw [stepL_digit hi h1 h2 h3 h4, h5, if_neg (by simp)])
theorem lexAt_badnum (hi : i < s.size) (h1 : ¬ (s[i] = 10 ∨ blankB s[i] = true)) (h2 : s[i] ≠ 59) (h3 : letterB s[i] = false) (h4 : digitB s[i] = true) (h5 : badN s i = true) :
    lexAt s i = .error ((sp s i).1, (sp s i).2, 31) :=
  lex_bad (rest_ne hi) (by rw [stepL_digit hi h1 h2 h3 h4, h5, if_pos rfl])

theorem lexAt_sign (hi : i < s.size) (h1 : ¬ (s[i] = 10 ∨ blankB s[i] = true)) (h2 : s[i] ≠ 59) (h3 : letterB s[i] = false) (h4 : digitB s[i] = false) (h5 : signB s[i] = true) :
    lexAt s i = sofar [⟨3, [s[i]], 0, (sp s i).1, (sp s i).2⟩] (lexAt s (i + 1)) := by
  have hs : stepL (rest s i) (sp s i).1 (sp s i).2 = .ok (1, (sp s i).1, (sp s i).2 + 1, some ⟨3, [s[i]], 0, (sp s i).1, (sp s i).2⟩) := by
    rw [rest_at hi]
    unfold stepL
    dsimp only
    rw [if_neg (fun e => h1 (.inl e)), if_neg (fun e => h1 (.inr e)), if_neg h2, if_neg (by rw [h3]; simp), if_neg (by rw [h4]; simp), if_pos h5]
  unfold lexAt
  rw [lex_went (rest_ne hi) hs, rest_drop, add_add, sp_one hi]
  unfold spotStep
  rw [if_neg (fun e => h1 (.inl e))]
theorem lexAt_byte (hi : i < s.size) (h1 : ¬ (s[i] = 10 ∨ blankB s[i] = true)) (h2 : s[i] ≠ 59) (h3 : letterB s[i] = false) (h4 : digitB s[i] = false) (h5 : signB s[i] = false) :
    lexAt s i = .error ((sp s i).1, (sp s i).2, 30) := by
  refine lex_bad (rest_ne hi) ?_
  rw [rest_at hi]
  unfold stepL
  dsimp only
  rw [if_neg (fun e => h1 (.inl e)), if_neg (fun e => h1 (.inr e)), if_neg h2, if_neg (by rw [h3]; simp), if_neg (by rw [h4]; simp), if_neg (by rw [h5]; simp)]
end

theorem numOf_snoc (l : List UInt8) (b : UInt8) : numOf (l ++ [b]) = 10 * numOf l + (b.toNat - 48) := by simp [numOf]
theorem digit_val {b : UInt8} (h : digitB b = true) : 48 ≤ b.toNat ∧ b.toNat ≤ 57 := by
  unfold digitB at h
  simp [UInt8.le_iff_toNat_le] at h
  exact h
theorem numOf_lt (l : List UInt8) (h : ∀ b ∈ l, digitB b = true) : numOf l < 10 ^ l.length := by
  refine snoc_ind (Q := fun l => (∀ b ∈ l, digitB b = true) → numOf l < 10 ^ l.length) (fun _ => by simp [numOf]) (fun l b ih h => ?_) l h
  have h1 := ih (fun c hc => h c (by simp [hc]))
  have h2 := digit_val (h b (by simp))
  rw [numOf_snoc, List.length_append, List.length_singleton, Nat.pow_succ]
  omega
end Go.Proofs.YtobfcbmphobmfaaDoor
