/- Words that are laid are told as they are laid. -/
import Derived.Test.YtobfcbmphobmfaaDoorCover
namespace Go.Proofs.YtobfcbmphobmfaaDoor

def gapsL : List (List UInt8) := [[32], [9], [10], [13, 10], [32, 59, 32, 97, 32, 40, 49, 32, 45, 10], [10, 10, 32], [59, 10]]

theorem tw_all {p : UInt8 → Bool} {x r : List UInt8} (hx : ∀ b ∈ x, p b = true) (hr : r.head?.any p = false) : (x ++ r).takeWhile p = x ∧ (x ++ r).dropWhile p = r := by
  have h1 : r.takeWhile p = [] ∧ r.dropWhile p = r := by
    cases r with
    | nil => exact ⟨rfl, rfl⟩
    | cons c r =>
      have : ¬ p c = true := by simpa using hr
      rw [List.takeWhile_cons, List.dropWhile_cons, if_neg this, if_neg this]
      exact ⟨rfl, rfl⟩
  constructor
  · rw [List.takeWhile_append_of_pos hx, h1.1, List.append_nil]
  · rw [List.dropWhile_append_of_pos hx, h1.2]
theorem lex_note (x r : List UInt8) (h : ∀ b ∈ x, b ≠ 10) (ln cl : Nat) : lex (59 :: (x ++ 10 :: r)) ln cl = lex r (ln + 1) 1 := by
  have ht : (59 :: (x ++ 10 :: r)).takeWhile (· != 10) = 59 :: x := by
    rw [List.takeWhile_cons, if_pos (by decide), (tw_all (p := (· != 10)) (x := x) (r := 10 :: r) (fun b hb => by simpa using h b hb) rfl).1]
  have hs : stepL (59 :: (x ++ 10 :: r)) ln cl = .ok ((59 :: x).length, ln, cl + (59 :: x).length, none) := by
    unfold stepL
    dsimp only
    rw [if_neg (by decide), if_neg (by decide), if_pos rfl, ht]
  rw [lex_went (by simp) hs, add_none]
  show lex ((59 :: x ++ 10 :: r).drop (59 :: x).length) _ _ = _
  rw [List.drop_left, lex_line]

theorem lex_gap {g : List UInt8} (hg : g = [] ∨ g ∈ gapsL) (r : List UInt8) (p : Nat × Nat) : lex (g ++ r) p.1 p.2 = lex r (spotL p g).1 (spotL p g).2 := by
  obtain ⟨a, b⟩ := p
  rcases hg with rfl | hg
  · rfl
  · simp only [gapsL, List.mem_cons, List.not_mem_nil, or_false] at hg
    rcases hg with rfl | rfl | rfl | rfl | rfl | rfl | rfl
    · exact lex_blank (by decide) _ _ _
    · exact lex_blank (by decide) _ _ _
    · exact lex_line _ _ _
    · exact (lex_blank (by decide) _ _ _).trans (lex_line _ _ _)
    · exact (lex_blank (by decide) _ _ _).trans (lex_note [32, 97, 32, 40, 49, 32, 45] r (by decide) _ _)
    · exact (lex_line _ _ _).trans ((lex_line _ _ _).trans (lex_blank (by decide) _ _ _))
    · exact lex_note [] r (by decide) _ _
theorem gap_head {g : List UInt8} (hg : g ∈ gapsL) : g.head?.any partB = false ∧ g ≠ [] := by
  simp only [gapsL, List.mem_cons, List.not_mem_nil, or_false] at hg
  rcases hg with rfl | rfl | rfl | rfl | rfl | rfl | rfl <;> exact ⟨by decide, by simp⟩

/-- A word's form. -/
def FormOk (kind : Nat) (text : List UInt8) (num : Nat) : Prop :=
  (kind = 1 ∧ num = 0 ∧ (∃ c r, text = c :: r ∧ letterB c = true) ∧ ∀ b ∈ text, partB b = true) ∨
  (kind = 2 ∧ num = numOf text ∧ text ≠ [] ∧ (∀ b ∈ text, digitB b = true) ∧ text.length ≤ 9 ∧ (1 < text.length → text.head? ≠ some 48)) ∨
  (kind = 3 ∧ num = 0 ∧ ∃ c, text = [c] ∧ signB c = true)

theorem letter_no {c : UInt8} (h : letterB c = true) : c ≠ 10 ∧ blankB c = false ∧ c ≠ 59 := by
  refine ⟨by rintro rfl; exact absurd h (by decide), ?_, by rintro rfl; exact absurd h (by decide)⟩
  cases hb : blankB c with
  | false => rfl
  | true =>
    unfold blankB at hb
    simp at hb
    rcases hb with (rfl | rfl) | rfl <;> exact absurd h (by decide)
theorem digit_no {c : UInt8} (h : digitB c = true) : c ≠ 10 ∧ blankB c = false ∧ c ≠ 59 ∧ letterB c = false := by
  have hv := digit_val h
  refine ⟨by rintro rfl; exact absurd h (by decide), ?_, by rintro rfl; exact absurd h (by decide), ?_⟩
  · cases hb : blankB c with
    | false => rfl
    | true =>
      unfold blankB at hb
      simp at hb
      rcases hb with (rfl | rfl) | rfl <;> exact absurd h (by decide)
  · cases hb : letterB c with
    | false => rfl
    | true =>
      unfold letterB at hb
      simp [UInt8.le_iff_toNat_le] at hb
      rcases hb with hb | hb | rfl
      · omega
      · omega
      · exact absurd h (by decide)
theorem sign_no {c : UInt8} (h : signB c = true) : c ≠ 10 ∧ blankB c = false ∧ c ≠ 59 ∧ letterB c = false ∧ digitB c = false ∧ partB c = false := by
  unfold signB at h
  simp [signs] at h
  rcases h with rfl | rfl | rfl | rfl | rfl | rfl | rfl | rfl | rfl <;> decide
theorem part_no {c : UInt8} (h : partB c = true) : c ≠ 10 := by rintro rfl; exact absurd h (by decide)

theorem any_less {r : List UInt8} (h : r.head?.any partB = false) : r.head?.any digitB = false := by
  cases hr : r.head? with
  | none => rfl
  | some c =>
    rw [hr] at h
    simp [partB] at h ⊢
    exact h.2.1

theorem lex_word {kind num : Nat} {text r : List UInt8} (h : FormOk kind text num) (hr : kind ≠ 3 → r.head?.any partB = false) (ln cl : Nat) :
    lex (text ++ r) ln cl = sofar [⟨kind, text, num, ln, cl⟩] (lex r ln (cl + text.length)) := by
  have key : stepL (text ++ r) ln cl = .ok (text.length, ln, cl + text.length, some ⟨kind, text, num, ln, cl⟩) → text ≠ [] → lex (text ++ r) ln cl = sofar [⟨kind, text, num, ln, cl⟩] (lex r ln (cl + text.length)) := by
    intro hs h0
    rw [lex_went (by simp [h0]) hs, add_add, List.drop_left]
  rcases h with ⟨rfl, rfl, ⟨c, q, rfl, hc⟩, hp⟩ | ⟨rfl, rfl, h0, hd, h9, h1⟩ | ⟨rfl, rfl, c, rfl, hc⟩
  · obtain ⟨n1, n2, n3⟩ := letter_no hc
    obtain ⟨h1, -⟩ := tw_all hp (hr (by decide))
    refine key ?_ (by simp)
    rw [List.cons_append] at h1 ⊢
    unfold stepL
    dsimp only
    rw [if_neg n1, if_neg (by rw [n2]; simp), if_neg n3, if_pos hc, h1]
  · obtain ⟨h2, h3⟩ := tw_all hd (any_less (hr (by decide)))
    cases text with
    | nil => exact absurd rfl h0
    | cons c q =>
      obtain ⟨n1, n2, n3, n4⟩ := digit_no (hd c (by simp))
      refine key ?_ (by simp)
      rw [List.cons_append] at h2 h3 ⊢
      unfold stepL
      dsimp only
      rw [if_neg n1, if_neg (by rw [n2]; simp), if_neg n3, if_neg (by rw [n4]; simp), if_pos (hd c (by simp)), h2, h3, hr (by decide), decide_eq_false (by omega : ¬ 9 < (c :: q).length)]
      have : (decide (1 < (c :: q).length) && decide (c = 48)) = false := by
        rw [Bool.and_eq_false_iff]
        by_cases hl : 1 < (c :: q).length
        · right
          have := h1 hl
          simpa using this
        · left
          exact decide_eq_false hl
      rw [this]
      simp
  · obtain ⟨n1, n2, n3, n4, n5, -⟩ := sign_no hc
    refine key ?_ (by simp)
    show stepL (c :: r) ln cl = _
    unfold stepL
    dsimp only
    rw [if_neg n1, if_neg (by rw [n2]; simp), if_neg n3, if_neg (by rw [n4]; simp), if_neg (by rw [n5]; simp), if_pos hc]
    rfl
theorem form_flat {kind num : Nat} {text : List UInt8} (h : FormOk kind text num) : ∀ b ∈ text, b ≠ 10 := by
  rcases h with ⟨-, -, -, hp⟩ | ⟨-, -, -, hd, -⟩ | ⟨-, -, c, rfl, hc⟩
  · exact fun b hb => part_no (hp b hb)
  · exact fun b hb => (digit_no (hd b hb)).1
  · intro b hb
    rw [List.mem_singleton] at hb
    rw [hb]
    exact (sign_no hc).1

/-- What is laid so far: the text, its words, and whether a sign is its end (or nothing). -/
inductive Laid : List UInt8 → List Tok → Bool → Prop
  | nil : Laid [] [] true
  | snoc {t : List UInt8} {k : List Tok} {s : Bool} {kind num : Nat} {text gap : List UInt8} : Laid t k s → FormOk kind text num → (gap = [] ∨ gap ∈ gapsL) → (s = false → kind ≠ 3 → gap ≠ []) →
      Laid (t ++ gap ++ text) (k ++ [⟨kind, text, num, (spotOf (t ++ gap)).1, (spotOf (t ++ gap)).2⟩]) (decide (kind = 3))

theorem spotOf_app (a b : List UInt8) : spotOf (a ++ b) = spotL (spotOf a) b := by unfold spotOf spotL; rw [List.foldl_append]
theorem laid_lex {t : List UInt8} {k : List Tok} {s : Bool} (h : Laid t k s) : ∀ r : List UInt8, (s = false → r.head?.any partB = false) → lex (t ++ r) 1 1 = sofar k (lex r (spotOf t).1 (spotOf t).2) := by
  induction h with
  | nil => intro r _; rw [List.nil_append, sofar_nil]; rfl
  | @snoc t k s kind num text gap hL hf hg hn ih =>
    intro r hr
    have hr' : kind ≠ 3 → r.head?.any partB = false := fun h => hr (decide_eq_false h)
    have hfit : s = false → (gap ++ (text ++ r)).head?.any partB = false := by
      intro hs
      by_cases hg0 : gap = []
      · have hk : kind = 3 := by
          rcases Nat.decEq kind 3 with h | h
          · exact absurd hg0 (hn hs h)
          · exact h
        rcases hf with ⟨h, _⟩ | ⟨h, _⟩ | ⟨-, -, c, rfl, hc⟩
        · omega
        · omega
        · rw [hg0]
          show partB c = false
          exact (sign_no hc).2.2.2.2.2
      · rcases hg with h | h
        · exact absurd h hg0
        · cases gap with
          | nil => exact absurd rfl hg0
          | cons c q => exact (gap_head h).1
    rw [List.append_assoc, List.append_assoc, ih _ hfit, lex_gap hg, lex_word hf hr', ← spotOf_app]
    have he : spotOf (t ++ gap ++ text) = ((spotOf (t ++ gap)).1, (spotOf (t ++ gap)).2 + text.length) := by
      rw [spotOf_app]
      exact fold_flat _ _ (form_flat hf)
    rw [he]
    cases lex r (spotOf (t ++ gap)).1 ((spotOf (t ++ gap)).2 + text.length) with
    | error e => rfl
    | ok o => simp [sofar]
theorem laid_end {t : List UInt8} {k : List Tok} {s : Bool} (h : Laid t k s) : lex t 1 1 = .ok (k ++ [⟨4, [], 0, (spotOf t).1, (spotOf t).2⟩]) := by
  have := laid_lex h [] (fun _ => rfl)
  rw [List.append_nil, lex_nil] at this
  exact this
theorem laid_note {t : List UInt8} {k : List Tok} {s : Bool} (h : Laid t k s) : lex (t ++ [59, 32, 120]) 1 1 = .ok (k ++ [⟨4, [], 0, (spotOf t).1, (spotOf t).2 + 3⟩]) := by
  rw [laid_lex h [59, 32, 120] (fun _ => by decide)]
  have hs : ∀ ln cl, stepL [59, 32, 120] ln cl = .ok (3, ln, cl + 3, none) := fun ln cl => rfl
  rw [lex_went (by simp) (hs _ _), add_none]
  rfl
end Go.Proofs.YtobfcbmphobmfaaDoor
