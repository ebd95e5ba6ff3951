/- The words of a text: what Lex tells, over lists of bytes. -/
import Derived.Lib.Atoi
namespace Go.Proofs.YtobfcbmphobmfaaDoor

def blankB (b : UInt8) : Bool := b == 32 || b == 9 || b == 13
def digitB (b : UInt8) : Bool := decide (48 ≤ b) && decide (b ≤ 57)
def letterB (b : UInt8) : Bool := decide (97 ≤ b) && decide (b ≤ 122) || (decide (65 ≤ b) && decide (b ≤ 90) || b == 95)
def partB (b : UInt8) : Bool := letterB b || (digitB b || b == 46)
def signs : List UInt8 := [61, 44, 58, 40, 41, 123, 125, 91, 93]
def signB (b : UInt8) : Bool := decide (b ∈ signs)

/-- A word: its kind, its bytes, its number, its line and its column. -/
structure Tok where
  kind : Nat
  text : List UInt8
  num : Nat
  line : Nat
  col : Nat

/-- A number of digits. -/
def numOf (l : List UInt8) : Nat := l.foldl (fun n b => 10 * n + (b.toNat - 48)) 0

/-- What went wrong: where, and the error. -/
abbrev Bad := Nat × Nat × Nat
/-- One step: how many bytes, the line and the column behind them, the word if there is one. -/
abbrev Went := Nat × Nat × Nat × Option Tok

def stepL (l : List UInt8) (ln cl : Nat) : Except Bad Went :=
  match l with
  | [] => .error (ln, cl, 30)
  | c :: r =>
    if c = 10 then .ok (1, ln + 1, 1, none)
    else if blankB c = true then .ok (((c :: r).takeWhile blankB).length, ln, cl + ((c :: r).takeWhile blankB).length, none)
    else if c = 59 then .ok (((c :: r).takeWhile (· != 10)).length, ln, cl + ((c :: r).takeWhile (· != 10)).length, none)
    else if letterB c = true then .ok (((c :: r).takeWhile partB).length, ln, cl + ((c :: r).takeWhile partB).length, some ⟨1, (c :: r).takeWhile partB, 0, ln, cl⟩)
    else if digitB c = true then
      if (((c :: r).dropWhile digitB).head?.any partB || decide (9 < ((c :: r).takeWhile digitB).length) || (decide (1 < ((c :: r).takeWhile digitB).length) && decide (c = 48))) = true then .error (ln, cl, 31)
      else .ok (((c :: r).takeWhile digitB).length, ln, cl + ((c :: r).takeWhile digitB).length, some ⟨2, (c :: r).takeWhile digitB, numOf ((c :: r).takeWhile digitB), ln, cl⟩)
    else if signB c = true then .ok (1, ln, cl + 1, some ⟨3, [c], 0, ln, cl⟩)
    else .error (ln, cl, 30)

def add (t : Option Tok) (r : Except Bad (List Tok)) : Except Bad (List Tok) :=
  match r with
  | .error e => .error e
  | .ok l => .ok (t.toList ++ l)

def lexN : Nat → List UInt8 → Nat → Nat → Except Bad (List Tok)
  | _, [], ln, cl => .ok [⟨4, [], 0, ln, cl⟩]
  | 0, _ :: _, ln, cl => .error (ln, cl, 0)
  | n + 1, c :: r, ln, cl =>
    match stepL (c :: r) ln cl with
    | .error e => .error e
    | .ok (k, ln', cl', t) => add t (lexN n ((c :: r).drop k) ln' cl')
def lex (l : List UInt8) (ln cl : Nat) : Except Bad (List Tok) := lexN l.length l ln cl

theorem step_pos {l : List UInt8} {ln cl k ln' cl' : Nat} {t : Option Tok} (h : stepL l ln cl = .ok (k, ln', cl', t)) : 0 < k ∧ k ≤ l.length := by
  have tw : ∀ (p : UInt8 → Bool) (c : UInt8) (r : List UInt8), p c = true → 0 < ((c :: r).takeWhile p).length ∧ ((c :: r).takeWhile p).length ≤ (c :: r).length := by
    intro p c r hp
    refine ⟨?_, List.Sublist.length_le (List.takeWhile_sublist p)⟩
    rw [List.takeWhile_cons, if_pos hp]
    simp
  unfold stepL at h
  split at h
  · cases h
  · rename_i c r
    split at h
    · injection h with h; injection h with h; subst h; simp
    · rename_i h10
      split at h
      · rename_i hb
        injection h with h; injection h with h; subst h; exact tw _ _ _ hb
      · split at h
        · injection h with h; injection h with h; subst h; exact tw _ _ _ (by simpa using h10)
        · split at h
          · rename_i hl
            injection h with h; injection h with h; subst h; exact tw _ _ _ (by unfold partB; rw [hl]; rfl)
          · split at h
            · rename_i hd
              split at h
              · cases h
              · injection h with h; injection h with h; subst h; exact tw _ _ _ hd
            · split at h
              · injection h with h; injection h with h; subst h; simp
              · cases h

theorem lexN_fuel : ∀ (n m : Nat) (l : List UInt8) (ln cl : Nat), l.length ≤ n → l.length ≤ m → lexN n l ln cl = lexN m l ln cl
  | _, _, [], _, _, _, _ => by rw [lexN.eq_def, lexN.eq_def]
  | 0, _, _ :: _, _, _, h, _ => by simp at h
  | _ + 1, 0, _ :: _, _, _, _, h => by simp at h
  | n + 1, m + 1, c :: r, ln, cl, h1, h2 => by
    rw [lexN, lexN]
    cases hs : stepL (c :: r) ln cl with
    | error e => rfl
    | ok x =>
      obtain ⟨k, ln', cl', t⟩ := x
      have := step_pos hs
      simp only [List.length_cons] at h1 h2
      show add t _ = add t _
      rw [lexN_fuel n m _ ln' cl' (by rw [List.length_drop, List.length_cons]; omega) (by rw [List.length_drop, List.length_cons]; omega)]

theorem lex_nil (ln cl : Nat) : lex [] ln cl = .ok [⟨4, [], 0, ln, cl⟩] := rfl
theorem lex_bad {l : List UInt8} {ln cl : Nat} {e : Bad} (h0 : l ≠ []) (h : stepL l ln cl = .error e) : lex l ln cl = .error e := by
  unfold lex
  cases l with
  | nil => exact absurd rfl h0
  | cons c r => rw [List.length_cons, lexN, h]
theorem lex_went {l : List UInt8} {ln cl k ln' cl' : Nat} {t : Option Tok} (h0 : l ≠ []) (h : stepL l ln cl = .ok (k, ln', cl', t)) : lex l ln cl = add t (lex (l.drop k) ln' cl') := by
  have hp := step_pos h
  unfold lex
  cases l with
  | nil => exact absurd rfl h0
  | cons c r =>
    rw [List.length_cons, lexN, h]
    show add t _ = add t _
    rw [lexN_fuel r.length ((c :: r).drop k).length _ ln' cl' (by rw [List.length_drop, List.length_cons]; omega) (Nat.le_refl _)]
theorem add_none (r : Except Bad (List Tok)) : add none r = r := by cases r <;> rfl

/-- So far these words were told. -/
def sofar (out : List Tok) (r : Except Bad (List Tok)) : Except Bad (List Tok) :=
  match r with
  | .error e => .error e
  | .ok l => .ok (out ++ l)
theorem sofar_add (out : List Tok) (t : Option Tok) (r : Except Bad (List Tok)) : sofar out (add t r) = sofar (out ++ t.toList) r := by
  cases r with
  | error e => rfl
  | ok l => simp [sofar, add]
theorem sofar_nil (r : Except Bad (List Tok)) : sofar [] r = r := by cases r <;> rfl
end Go.Proofs.YtobfcbmphobmfaaDoor
