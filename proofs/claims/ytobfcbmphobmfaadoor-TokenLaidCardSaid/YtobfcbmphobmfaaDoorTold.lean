/- What Lex and the document's Lex answer, in one form. -/
import Derived.Test.YtobfcbmphobmfaaDoorRefW
namespace Go.Proofs.YtobfcbmphobmfaaDoor
open Go.RowKit Go.Shelf

def told (s : ByteArray) : Except Bad (List Tok) := if s.size ≤ 1048576 then lex s.data.toList 1 1 else .error (0, 0, 2)
def where' (r : Except Bad (List Tok)) : Bad := match r with | .error b => b | .ok _ => (0, 0, 0)
def toks (r : Except Bad (List Tok)) : List Tok := match r with | .error _ => [] | .ok l => l
structure Told (w : World) (r : Except Bad (List Tok)) (e : Ending) (w' : World) (v : Value) (l c er : Nat) : Prop where
  res : e = .returned (.tuple #[v, .agg #[.int .i64 l, .int .i64 c], .int .i64 er])
  rd : RdT w' v (toks r)
  wh : where' r = (l, c, er)
  below : Below w.heap.size w w'

theorem told_of {w w' : World} {r : Except Bad (List Tok)} {e : Ending} (h : LexPost w r e w') : ∃ v l c er, Told w r e w' v l c er := by
  cases r with
  | error b =>
    obtain ⟨l, c, er⟩ := b
    exact ⟨_, l, c, er, h.1, Or.inl ⟨rfl, rfl⟩, rfl, h.2⟩
  | ok out =>
    obtain ⟨⟨v, rfl, hr⟩, hb⟩ := h
    exact ⟨v, 0, 0, 0, rfl, hr.rd, rfl, hb⟩

theorem lex_told (s : ByteArray) (w : World) (h63 : s.size ≤ maxLen) : Calls Tryd.prog 8 #[.string s] w fun e w' => ∃ v l c er, Told w (told s) e w' v l c er := by
  by_cases hs : s.size ≤ 1048576
  · unfold told
    rw [if_pos hs]
    exact (lex_any hs).mono fun e w' h => told_of h
  · unfold told
    rw [if_neg hs]
    exact (lex_long (by omega) h63).mono fun e w' ⟨h, hb⟩ => ⟨_, 0, 0, 2, h, Or.inl ⟨rfl, rfl⟩, rfl, hb⟩

set_option maxRecDepth 20000 in
set_option maxHeartbeats 4000000 in
theorem ref_long {s : ByteArray} {w : World} (hs : 1048576 < s.size) (h63 : s.size ≤ maxLen) : Calls Tryd.prog 9 #[.string s] w fun e w' => e = .returned (.tuple #[.slice none 0 0, .agg #[.int .i64 0, .int .i64 0], .int .i64 2]) ∧ Below w.heap.size w w' := by
  unfold maxLen at h63
  have d1 : decide ((s.size : Int) > 1048576) = true := by simp; omega
  go_enter Tryd.func9, Tryd.ntmps9
  go_wp2_with fail
  refine bodyPost_ret (v := .tuple #[.slice none 0 0, .agg #[.int .i64 0, .int .i64 0], .int .i64 2]) (by simp [results, Tryd.results9, go_sem, *]) rfl ⟨rfl, ?_⟩
  exact (Below.refl _ _).alloc (Nat.le_refl _) _

theorem ref_told (s : ByteArray) (w : World) (h63 : s.size ≤ maxLen) : Calls Tryd.prog 9 #[.string s] w fun e w' => ∃ v l c er, Told w (told s) e w' v l c er := by
  by_cases hs : s.size ≤ 1048576
  · unfold told
    rw [if_pos hs]
    exact (ref_any hs).mono fun e w' h => told_of h
  · unfold told
    rw [if_neg hs]
    exact (ref_long (by omega) h63).mono fun e w' ⟨h, hb⟩ => ⟨_, 0, 0, 2, h, Or.inl ⟨rfl, rfl⟩, rfl, hb⟩

theorem add_len (t : Option Tok) (r : Except Bad (List Tok)) : (toks (add t r)).length ≤ (toks r).length + 1 := by
  cases r with
  | error e => simp [add, toks]
  | ok l => cases t <;> simp [add, toks]
theorem lexN_len : ∀ (n : Nat) (l : List UInt8) (ln cl : Nat), (toks (lexN n l ln cl)).length ≤ n + 1
  | n, [], ln, cl => by rw [lexN.eq_def]; simp [toks]
  | 0, _ :: _, ln, cl => by rw [lexN.eq_def]; simp [toks]
  | n + 1, c :: r, ln, cl => by
    rw [lexN]
    cases stepL (c :: r) ln cl with
    | error e => simp [toks]
    | ok x =>
      obtain ⟨k, ln', cl', t⟩ := x
      have := lexN_len n ((c :: r).drop k) ln' cl'
      have := add_len t (lexN n ((c :: r).drop k) ln' cl')
      show (toks (add t _)).length ≤ _
      omega
theorem told_len (s : ByteArray) : (toks (told s)).length ≤ 1048577 := by
  unfold told
  split
  · rename_i h
    have := lexN_len s.data.toList.length s.data.toList 1 1
    have e : s.data.toList.length = s.size := by simp
    unfold lex
    omega
  · simp [toks]
end Go.Proofs.YtobfcbmphobmfaaDoor
