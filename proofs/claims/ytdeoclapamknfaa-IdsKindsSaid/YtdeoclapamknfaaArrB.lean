/- The walks of a table keyed by values of several cells: Len, New, and a key taken up. -/
import Derived.Test.YtdeoclapamknfaaArr
namespace Go.Proofs.Ytdeoclapamknfaa
open Go.RowKit Go.Maps Go.WideMaps

namespace Arr
theorem len_any {A B sb bm : Nat} {v : Value} {ks : List (Int × Int)} {w : World} (T : TS A B w sb bm v ks) :
    Calls Try.prog 29 #[.pointer (some ⟨sb, 0, none⟩)] w fun e w' => e = .returned (.int .i64 ks.length) ∧ w = w' := by
  obtain ⟨a, cap, rfl⟩ := T.form
  have c1 := T.c1
  clear T
  go_enter Try.func29, Try.ntmps29
  go_wp2
  go_ret
  exact ⟨rfl, rfl⟩

theorem ok_keysOf {ss : List (Int × Int)} (h : ∀ x ∈ ss, ok x) : ∀ x ∈ keysOf ss, ok x := fun x hx => h x ((mem_keysOf ss x).1 hx)

/-- The next key is taken up: it is there, or it comes last. -/
theorem id_any {A B sb bm : Nat} {v : Value} {ss : List (Int × Int)} {w : World} (T : TS A B w sb bm v (keysOf ss)) (hss : ∀ x ∈ ss, ok x) {k : (Int × Int)} (hk : ok k) (hlen : ss.length ≤ 1000000) :
    Calls Try.prog 27 #[.pointer (some ⟨sb, 0, none⟩), .agg #[.int .u8 k.1, .int .u8 k.2]] w fun e w' => e = .returned (.int .i64 (place (keysOf (ss ++ [k])) k)) ∧ Grown1 A B w w' sb bm v (keysOf (ss ++ [k])) := by
  by_cases h : k ∈ keysOf ss
  · rw [keysOf_snoc, if_pos h]
    refine (id_hit T hk (place_get h)).mono ?_
    rintro e w' ⟨rfl, hb⟩
    exact ⟨rfl, v, T.kept (Touch.of_below hb (fun _ => False)) (fun _ _ h => h), Touch.of_below hb _, fun b hb => Or.inl hb⟩
  · rw [keysOf_snoc, if_neg h]
    refine (id_new T hk (ok_keysOf hss) h (Nat.le_trans (keysOf_len ss) hlen)).mono ?_
    rintro e w' ⟨rfl, hg⟩
    exact ⟨by rw [place_new h], hg⟩

/-- A slice that reads as a list of keys. -/
def RdK (w : World) (s : Value) (ss : List (Int × Int)) : Prop :=
  (ss = [] ∧ (s = .slice none 0 0 ∨ ∃ a c, s = .slice (some a) 0 c)) ∨ ∃ b off cap, s = .slice (some ⟨b, off, none⟩) ss.length cap ∧ b < w.heap.size ∧
    ∀ i (k : (Int × Int)), ss[i]? = some k → w.cell? ⟨b, off + i * 2, none⟩ = some (.int .u8 k.1) ∧ w.cell? ⟨b, off + i * 2 + 1, none⟩ = some (.int .u8 k.2)
theorem RdK.form {w : World} {s : Value} {l : List (Int × Int)} (h : RdK w s l) : ∃ a c, s = .slice a l.length c := by
  rcases h with ⟨rfl, rfl | ⟨a, c, rfl⟩⟩ | ⟨b, off, cap, rfl, _⟩
  · exact ⟨none, 0, rfl⟩
  · exact ⟨some a, c, rfl⟩
  · exact ⟨_, cap, rfl⟩
theorem RdK.below {w w' : World} {s : Value} {l : List (Int × Int)} (h : RdK w s l) (hb : Below w.heap.size w w') : RdK w' s l := by
  refine or_map h id ?_
  rintro ⟨b, off, cap, e, hlt, hc⟩
  refine ⟨b, off, cap, e, Nat.lt_of_lt_of_le hlt hb.size, fun i k hk => ?_⟩
  have hq : ∀ j, w'.cell? ⟨b, j, none⟩ = w.cell? ⟨b, j, none⟩ := fun j => hb.cell (p := ⟨b, j, none⟩) hlt
  simp only [hq]
  exact hc i k hk
theorem RdK.at {w : World} {s : Value} {l : List (Int × Int)} (h : RdK w s l) {i : Nat} {k : (Int × Int)} (hi : l[i]? = some k) : ∃ b off cap, s = .slice (some ⟨b, off, none⟩) l.length cap ∧ w.cell? ⟨b, off + i * 2, none⟩ = some (.int .u8 k.1) ∧ w.cell? ⟨b, off + i * 2 + 1, none⟩ = some (.int .u8 k.2) := by
  rcases h with ⟨rfl, _⟩ | ⟨b, off, cap, e, hlt, hc⟩
  · simp at hi
  · exact ⟨b, off, cap, e, hc i k hi⟩

abbrev Md := Made Try.prog 60 3 79 2 flat lit

set_option maxHeartbeats 400000 in
theorem new_any {s : Value} {ss : List (Int × Int)} {w : World} (hs : RdK w s ss) (hl : ∀ k ∈ ss, ok k) (hlen : ss.length ≤ 1000000) :
    Calls Try.prog 25 #[s] w fun e w' => e = .returned (.pointer (some ⟨w.heap.size + 1, 0, none⟩)) ∧ Md w.heap.size (w.heap.size + 2) w w' (w.heap.size + 1) w.heap.size (keysOf ss) := by
  obtain ⟨a, c, hs0⟩ := hs.form
  subst hs0
  have hmm := @run_makeMap Try.prog
  go_enter Try.func25, Try.ntmps25
  go_wp2
  go_loopw [11] (fun i wr => ∃ j : Nat, j ≤ ss.length ∧ i = .int .i64 j ∧ Md w.heap.size (w.heap.size + 2) w wr (w.heap.size + 1) w.heap.size (keysOf (ss.take j))) (fun i _ => ss.length - (intOf i).toNat)
  case atStart =>
    exact ⟨0, Nat.zero_le _, rfl, .slice none 0 0, Tab.fresh _ _ _ _ _ _ _ w⟩
  case round =>
    obtain ⟨j, hj, rfl, v, T, hb⟩ := hrel
    by_cases hlt : j < ss.length
    · obtain ⟨k, hk⟩ : ∃ k, ss[j]? = some k := ⟨_, List.getElem?_eq_getElem hlt⟩
      obtain ⟨b, off, cap, e, hc⟩ := (hs.below hb).at hk
      simp only [Value.slice.injEq] at e
      obtain ⟨rfl, -, rfl⟩ := e
      have hkl := hl k (List.mem_of_getElem? hk)
      have hlt2 : ∀ x ∈ ss.take j, ok x := fun x hx => hl x (List.mem_of_mem_take hx)
      have hln : (ss.take j).length ≤ 1000000 := by simp; omega
      have hts := Lib.hid (take_snoc hk)
      have hb4 : Below wr.heap.size wr (wr.alloc (.cells #[.int .u8 k.1, .int .u8 k.2] 60)) := (Below.refl _ _).alloc (Nat.le_refl _) _
      have T4 : TS w.heap.size (w.heap.size + 2) (wr.alloc (.cells #[.int .u8 k.1, .int .u8 k.2] 60)) (w.heap.size + 1) w.heap.size v (keysOf (ss.take j)) := T.kept (Touch.of_below hb4 (fun _ => False)) (fun _ _ h => h)
      have hid := Lib.hid (id_any T4 hlt2 hkl hln)
      clear hk hs hl hlt2
      go_wp2_with fail
      refine hid.out.mono ?_
      rintro e w2 ⟨rfl, v2, T2, ht, _⟩
      rw [← hts.out] at T2
      have hbz : Below w.heap.size w w2 := (hb.trans (hb4.mono (by have := T.top; omega))).trans (ht.below (by have := T.top; have := hb4.size; omega) (fun x hx ho => by have := T.low x ho; omega))
      go_wp2_with fail
      go_roundw
      case rel => exact ⟨j + 1, by omega, by go_num, v2, T2, hbz⟩
      case measure => simp [intOf]; omega
    · have : j = ss.length := by omega
      subst this
      go_wp2
      go_ret
      exact ⟨rfl, v, by rw [List.take_length] at T; exact T, hb⟩
end Arr
end Go.Proofs.Ytdeoclapamknfaa
