/- The walks of a table keyed by strings: Key, Len, New. -/
import Derived.Test.YtdeoclapamknfaaStr
namespace Go.Proofs.Ytdeoclapamknfaa
open Go.RowKit Go.Maps Go.WideMaps

namespace Str
theorem len_nil (w : World) : Calls Try.prog 17 #[.pointer none] w fun e w' => e = .returned (.int .i64 0) ∧ w = w' := by
  go_enter Try.func17, Try.ntmps17
  go_wp2
  go_ret
  exact ⟨rfl, rfl⟩

theorem len_any {A B sb bm : Nat} {v : Value} {ks : List ByteArray} {w : World} (T : TS A B w sb bm v ks) :
    Calls Try.prog 17 #[.pointer (some ⟨sb, 0, none⟩)] w fun e w' => e = .returned (.int .i64 ks.length) ∧ w = w' := by
  obtain ⟨a, cap, rfl⟩ := T.form
  have c1 := T.c1
  clear T
  go_enter Try.func17, Try.ntmps17
  go_wp2
  go_ret
  exact ⟨rfl, rfl⟩

theorem key_nil (i : Int) (w : World) : Calls Try.prog 14 #[.pointer none, .int .i64 i] w fun e w' => e = .returned (.tuple #[.string ⟨#[]⟩, .int .i64 8]) ∧ w = w' := by
  go_enter Try.func14, Try.ntmps14
  go_wp2
  go_ret2
  exact ⟨rfl, rfl⟩

theorem key_out {A B sb bm : Nat} {v : Value} {ks : List ByteArray} {w : World} (T : TS A B w sb bm v ks) {i : Int} (hi : i < 0 ∨ (ks.length : Int) ≤ i) :
    Calls Try.prog 14 #[.pointer (some ⟨sb, 0, none⟩), .int .i64 i] w fun e w' => e = .returned (.tuple #[.string ⟨#[]⟩, .int .i64 6]) ∧ w = w' := by
  obtain ⟨a, cap, rfl⟩ := T.form
  have c1 := T.c1
  clear T
  rcases hi with h | h
  · go_enter Try.func14, Try.ntmps14
    go_wp2
    go_ret2
    exact ⟨rfl, rfl⟩
  · have h0 : ¬ i < 0 := by omega
    go_enter Try.func14, Try.ntmps14
    go_wp2
    go_ret2
    exact ⟨rfl, rfl⟩

theorem key_hit {A B sb bm : Nat} {v : Value} {ks : List ByteArray} {w : World} (T : TS A B w sb bm v ks) {i : Nat} {k : ByteArray} (hi : ks[i]? = some k) (hlen : ks.length ≤ 1000000) :
    Calls Try.prog 14 #[.pointer (some ⟨sb, 0, none⟩), .int .i64 i] w fun e w' => e = .returned (.tuple #[.string k, .int .i64 0]) ∧ w = w' := by
  have hlt : i < ks.length := (List.getElem?_eq_some_iff.1 hi).1
  obtain ⟨g, cap, rfl⟩ := row_form T.row (by omega)
  have c1 := T.c1
  have hc : w.cell? ⟨g, i, none⟩ = some (.string k) := by
    have := T.row.cells (g := g) rfl i (.string k) (by
      have : ∀ (l : List ByteArray) (i : Nat), (l.flatMap flat)[i]? = l[i]?.map Value.string := by
        intro l
        induction l with
        | nil => intro i; simp
        | cons x r ih => intro i; cases i with
          | zero => simp [flat]
          | succ i => simp [List.flatMap_cons, flat, ih]
      rw [this, hi]; rfl)
    rwa [add0] at this
  clear T hi
  go_enter Try.func14, Try.ntmps14
  go_wp2
  go_ret2
  exact ⟨rfl, rfl⟩

abbrev Md := Made Try.prog 9 3 66 1 flat lit

/-- The next key is taken up: it is there, or it comes last. -/
theorem id_any {A B sb bm : Nat} {v : Value} {ss : List ByteArray} {w : World} (T : TS A B w sb bm v (keysOf ss)) {k : ByteArray} (hk : k.size ≤ maxLen) (hlen : ss.length ≤ 1000000) :
    Calls Try.prog 11 #[.pointer (some ⟨sb, 0, none⟩), .string k] w fun e w' => e = .returned (.int .i64 (place (keysOf (ss ++ [k])) k)) ∧ Grown1 A B w w' sb bm v (keysOf (ss ++ [k])) := by
  by_cases h : k ∈ keysOf ss
  · rw [keysOf_snoc, if_pos h]
    refine (id_hit T hk (place_get h)).mono ?_
    rintro e w' ⟨rfl, rfl⟩
    exact ⟨rfl, v, T, Touch.refl _ _, fun b hb => Or.inl hb⟩
  · rw [keysOf_snoc, if_neg h]
    refine (id_new T hk h (Nat.le_trans (keysOf_len ss) hlen)).mono ?_
    rintro e w' ⟨rfl, hg⟩
    exact ⟨by rw [place_new h], hg⟩

theorem new_any {s : Value} {ss : List ByteArray} {w : World} (hs : Rd w s (ss.map Value.string)) (hl : ∀ k ∈ ss, k.size ≤ maxLen) (hlen : ss.length ≤ 1000000) :
    Calls Try.prog 9 #[s] w fun e w' => e = .returned (.pointer (some ⟨w.heap.size + 1, 0, none⟩)) ∧ Md w.heap.size (w.heap.size + 2) w w' (w.heap.size + 1) w.heap.size (keysOf ss) := by
  obtain ⟨a, c, rfl⟩ := hs.form
  have hmm := @run_makeMap Try.prog
  rw [List.length_map] at *
  go_enter Try.func9, Try.ntmps9
  go_wp2
  go_loopw [11] (fun i wr => ∃ j : Nat, j ≤ ss.length ∧ i = .int .i64 j ∧ Md w.heap.size (w.heap.size + 2) w wr (w.heap.size + 1) w.heap.size (keysOf (ss.take j))) (fun i _ => ss.length - (intOf i).toNat)
  case atStart =>
    exact ⟨0, Nat.zero_le _, rfl, .slice none 0 0, Tab.fresh _ _ _ _ _ _ _ w⟩
  case round =>
    obtain ⟨j, hj, rfl, v, T, hb⟩ := hrel
    by_cases hlt : j < ss.length
    · obtain ⟨k, hk⟩ : ∃ k, ss[j]? = some k := ⟨_, List.getElem?_eq_getElem hlt⟩
      obtain ⟨b, off, cap, e, _, hc⟩ := (hs.below hb).at (i := j) (u := .string k) (by simp [hk])
      simp only [Value.slice.injEq] at e
      obtain ⟨rfl, -, rfl⟩ := e
      have hkl := hl k (List.mem_of_getElem? hk)
      have hln : (ss.take j).length ≤ 1000000 := by simp; omega
      have hts := Lib.hid (take_snoc hk)
      clear hk hs hl
      go_wp2_with (go_at_call 11; refine (id_any T hkl hln).mono ?_; rintro e w2 ⟨rfl, hg⟩)
      obtain ⟨v2, T2, ht, _⟩ := hg
      rw [← hts.out] at T2
      go_roundw
      case rel => exact ⟨j + 1, by omega, by go_num, v2, T2, hb.trans (ht.below (Nat.le_trans (by omega) T.top) (fun x hx ho => by have := T.low x ho; omega))⟩
      case measure => simp [intOf]; omega
    · have : j = ss.length := by omega
      subst this
      go_wp2
      go_ret
      exact ⟨rfl, v, by rw [List.take_length] at T; exact T, hb⟩
end Str
end Go.Proofs.Ytdeoclapamknfaa
