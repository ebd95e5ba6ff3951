/- Slices of slices of numbers: read, and made. -/
import Derived.Test.YteipncggndefmaaGMath
import Derived.Test.YteipncggndefmaaShelf
import Derived.Sort.OwnSortedInts
import Derived.Lib.RowBridge
namespace Go.Proofs.Yteipncggndefmaa
open Go.RowKit Go.Maps Go.Shelf Go.Sort

/-- A slice of slices that reads as these rows. -/
def RdG (w : World) (v : Value) (L : List (List Int)) : Prop :=
  ∃ vs : List Value, Rd w v vs ∧ vs.length = L.length ∧ ∀ (i : Nat) (u : Value) (l : List Int), vs[i]? = some u → L[i]? = some l → RdI w u l
theorem RdG.below {w w' : World} {v : Value} {L : List (List Int)} (h : RdG w v L) (hb : Below w.heap.size w w') : RdG w' v L := by
  obtain ⟨vs, h1, h2, h3⟩ := h
  exact ⟨vs, h1.below hb, h2, fun i u l hu hl => Rd.below (h3 i u l hu hl) hb⟩
theorem RdG.form {w : World} {v : Value} {L : List (List Int)} (h : RdG w v L) : ∃ a c, v = .slice a L.length c := by
  obtain ⟨vs, h1, h2, -⟩ := h
  obtain ⟨a, c, e⟩ := h1.form
  exact ⟨a, c, by rw [← h2]; exact e⟩
theorem RdG.at {w : World} {v : Value} {L : List (List Int)} (h : RdG w v L) {i : Nat} {l : List Int} (hl : L[i]? = some l) :
    ∃ b off cap u, v = .slice (some ⟨b, off, none⟩) L.length cap ∧ b < w.heap.size ∧ w.cell? ⟨b, off + i, none⟩ = some u ∧ RdI w u l := by
  obtain ⟨vs, h1, h2, h3⟩ := h
  have hi := (List.getElem?_eq_some_iff.1 hl).1
  obtain ⟨u, hu⟩ : ∃ u, vs[i]? = some u := ⟨_, List.getElem?_eq_getElem (by omega)⟩
  obtain ⟨b, off, cap, e, hlt, hc⟩ := h1.at hu
  exact ⟨b, off, cap, u, by rw [← h2]; exact e, hlt, hc, h3 i u l hu hl⟩

theorem RdI.shape {w : World} {u : Value} {r : List Int} (h : RdI w u r) : ∃ a c, u = .slice a r.length c := by
  obtain ⟨a, c, e⟩ := h.form
  exact ⟨a, c, by simpa using e⟩

/-- An owned row that is sorted in place. -/
theorem sort_own {w : World} {base : Nat} {u : Value} {l : List Int} (hsz : l.length ≤ 1000000000) (h : w.ownsRow base 3 1 u l.length (l.map encI)) : Calls Try.prog 36 #[u] w fun e w' => e = .returned (.tuple #[]) ∧ w'.ownsRow base 3 1 u l.length ((l.mergeSort fun x y => decide (x ≤ y)).map encI) ∧ Touch w w' (fun b => u.ownBlock = some b) := by
  obtain ⟨h0, ⟨rfl, hn⟩ | ⟨g, cap, cur, rfl, hB, hg, hn, hc, hs, hx⟩⟩ := h
  · have hl : l = [] := List.length_eq_zero_iff.1 hn
    subst hl
    refine (Any.slices_Sort_int_none Try.lays189 none 0 w).mono ?_
    rintro e w' ⟨rfl, rfl⟩
    exact ⟨rfl, by simpa using World.ownsRow_nil w' base 3 1, Touch.refl _ _⟩
  · have hcur : cur.toList.take l.length = l.map (Value.int .i64) := by rw [Nat.mul_one] at hx; exact hx
    refine (Any.slices_Sort_int Try.lays189 g 0 cap l w (holds_of_blockI hg hcur) (Array.getElem?_eq_some_iff.1 hg).1 (by omega)).mono ?_
    rintro e w' ⟨rfl, n, os, rfl⟩
    exact ⟨rfl, ownsRow_sortedI (List.length_mergeSort l) hB hg hn hc hs, Touch.of_grown (grownBy_sortedI _) (fun k hk => hk)⟩

/-- An owned row that is reversed in place. -/
theorem reverse_own {w : World} {base : Nat} {u : Value} {l : List Int} (h : w.ownsRow base 3 1 u l.length (l.map encI)) : Calls Try.prog 39 #[u] w fun e w' => e = .returned (.tuple #[]) ∧ w'.ownsRow base 3 1 u l.length (l.reverse.map encI) ∧ Touch w w' (fun b => u.ownBlock = some b) := by
  obtain ⟨h0, ⟨rfl, hn⟩ | ⟨g, cap, cur, rfl, hB, hg, hn, hc, hs, hx⟩⟩ := h
  · have hl : l = [] := List.length_eq_zero_iff.1 hn
    subst hl
    refine (Any.slices_Reverse_int_empty Try.lays112 none 0 w).mono ?_
    rintro e w' ⟨rfl, rfl⟩
    exact ⟨rfl, World.ownsRow_nil _ _ _ _, Touch.refl _ _⟩
  · have hcur : cur.toList.take l.length = l.map (Value.int .i64) := by rw [Nat.mul_one] at hx; exact hx
    refine (Any.slices_Reverse_int Try.lays112 g 0 cap l w (holds_of_blockI hg hcur) (by unfold maxLen at hc; omega)).mono ?_
    rintro e w' ⟨rfl, n, rfl⟩
    have h1 := ownsRow_sortedI (w := w) (n := n) (os := #[]) (ts := l.reverse) (ss := l) List.length_reverse hB hg hn hc hs
    have h2 := grownBy_sortedI (w := w) (g := g) (n := n) (os := #[]) l.reverse.toArray
    rw [Sort.grow_empty] at h1 h2
    exact ⟨rfl, h1, Touch.of_grown h2 (fun k hk => hk)⟩

/-- An owned row, one of each run. -/
theorem compact_own {w : World} {base : Nat} {u : Value} {l : List Int} (h : w.ownsRow base 3 1 u l.length (l.map encI)) : Calls Try.prog 37 #[u] w fun e w' => ∃ u', e = .returned u' ∧ w'.ownsRow base 3 1 u' (Lib.compact l).length ((Lib.compact l).map encI) ∧ u'.ownBlock = u.ownBlock ∧ Touch w w' (fun b => u.ownBlock = some b) := by
  obtain ⟨h0, ⟨rfl, hn⟩ | ⟨g, cap, cur, rfl, hB, hg, hn, hc, hs, hx⟩⟩ := h
  · have hl : l = [] := List.length_eq_zero_iff.1 hn
    subst hl
    refine (Any.slices_Compact_int_empty Try.laysNm220 none 0 w).mono ?_
    rintro e w' ⟨rfl, rfl⟩
    exact ⟨_, rfl, World.ownsRow_nil _ _ _ _, rfl, Touch.refl _ _⟩
  · have hcur : cur.toList.take l.length = l.map (Value.int .i64) := by rw [Nat.mul_one] at hx; exact hx
    refine (Any.slices_Compact_int Try.laysNm220 g 0 cap l w (holds_of_blockI hg hcur) (by unfold maxLen at hc; omega) hn).mono ?_
    rintro e w' ⟨rfl, n, rfl⟩
    have hle := Lib.compact_length_le l
    have hlen : (Lib.compact l ++ List.replicate (l.length - (Lib.compact l).length) 0).length = l.length := by simp; omega
    have h1 := ownsRow_sortedI (w := w) (n := n) (os := #[]) (ts := Lib.compact l ++ List.replicate (l.length - (Lib.compact l).length) 0) (ss := l) hlen hB hg hn hc hs
    have h2 := grownBy_sortedI (w := w) (g := g) (n := n) (os := #[]) (Lib.compact l ++ List.replicate (l.length - (Lib.compact l).length) 0).toArray
    rw [Sort.grow_empty] at h1 h2
    refine ⟨_, rfl, ?_, rfl, Touch.of_grown h2 (fun k hk => hk)⟩
    obtain ⟨g1, ⟨e, _⟩ | ⟨g', cap', cur', e, hB', hg', hn', hc', hs', hx'⟩⟩ := h1
    · cases e
    · simp only [Value.slice.injEq, Option.some.injEq, Addr.mk.injEq] at e
      obtain ⟨⟨rfl, -, -⟩, -, rfl⟩ := e
      refine ⟨by simp, .inr ⟨g, cap, cur', rfl, hB', hg', by omega, hc', hs', ?_⟩⟩
      rw [Nat.mul_one] at hx' ⊢
      have := congrArg (List.take (Lib.compact l).length) hx'
      rw [List.take_take, Nat.min_eq_left hle] at this
      rw [this, List.map_append, List.take_left' (by simp)]
      rfl
end Go.Proofs.Yteipncggndefmaa
