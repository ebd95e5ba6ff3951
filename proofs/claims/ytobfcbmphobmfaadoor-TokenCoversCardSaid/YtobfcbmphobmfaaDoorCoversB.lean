/- TokenCovers: a text's words. -/
import Derived.Test.YtobfcbmphobmfaaDoorCoversA
namespace Go.Proofs.YtobfcbmphobmfaaDoor
open Go.RowKit Go.Shelf

/-- What is left of the words at a place. -/
def AtP (s : ByteArray) (b : Nat) (l : List Tok) : Prop := (l = [] ∧ b = s.size) ∨ lexAt s b = .ok l
theorem sp_add (s : ByteArray) (b m : Nat) : sp s (b + m) = spotL (sp s b) ((rest s b).take m) := by
  unfold sp spotL spotOf rest
  rw [List.take_add, List.foldl_append]

structure WordAt (s : ByteArray) (b f : Nat) (t : Tok) (r : List Tok) : Prop where
  low : b ≤ f
  high : f + t.text.length ≤ s.size
  gap : okG false ((rest s b).take (f - b)) = true
  spot : sp s f = (t.line, t.col)
  text : s.extract f (f + t.text.length) = ⟨t.text.toArray⟩
  kinds : (t.kind = 4 ∧ t.text = [] ∧ r = []) ∨ (t.kind < 4 ∧ t.text ≠ [] ∧ r ≠ [])
  next : AtP s (f + t.text.length) r
theorem word_at_place {s : ByteArray} {b : Nat} {t : Tok} {r : List Tok} (hb : b ≤ s.size) (h : AtP s b (t :: r)) : ∃ f, WordAt s b f t r := by
  rcases h with ⟨e, _⟩ | h
  · cases e
  · obtain ⟨m, hm, h1, h2, h3⟩ := first_word _ (rest s b) _ _ t r (Nat.le_refl _) h
    have hrl : (rest s b).length = s.size - b := by unfold rest; simp
    have hsp : sp s (b + m) = (t.line, t.col) := by rw [sp_add]; exact h2
    refine ⟨b + m, ?_⟩
    rcases h3 with ⟨e1, e2, e3⟩ | ⟨e1, e2, e3, e4, p, e5, e6⟩
    · have htx : t.text = [] := by rw [e2]
      have htk : t.kind = 4 := by rw [e2]
      have htl : t.text.length = 0 := by rw [htx]; rfl
      refine ⟨by omega, by omega, by rw [Nat.add_sub_cancel_left]; exact h1, hsp, ?_, .inl ⟨htk, htx, e3⟩, .inl ⟨e3, by omega⟩⟩
      rw [htl, htx]
      apply ByteArray.ext
      apply Array.ext'
      rw [ByteArray.data_extract]
      simp [List.extract_eq_take_drop]
    · refine ⟨by omega, by omega, by rw [Nat.add_sub_cancel_left]; exact h1, hsp, ?_, .inr ⟨e2, e1, lex_some _ _ _ _ _ e6⟩, .inr ?_⟩
      · apply ByteArray.ext
        apply Array.ext'
        rw [ByteArray.data_extract]
        simp only [Array.toList_extract, List.extract_eq_take_drop]
        rw [show b + m + t.text.length - (b + m) = t.text.length from by omega]
        show (rest s (b + m)).take _ = _
        rw [← rest_drop]
        exact e4
      · have hr2 : rest s (b + m + t.text.length) = (rest s b).drop (m + t.text.length) := by rw [rest_drop, Nat.add_assoc]
        have hs2 : sp s (b + m + t.text.length) = p := by
          rw [sp_add, hsp, ← e5]
          congr 1
          rw [← rest_drop]
          exact e4
        unfold lexAt
        rw [hr2, hs2]
        exact e6
end Go.Proofs.YtobfcbmphobmfaaDoor
