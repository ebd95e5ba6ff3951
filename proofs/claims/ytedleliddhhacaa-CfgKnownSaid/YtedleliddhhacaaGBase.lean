/- Lists of numbers, and the document's own answers over them. -/
import Derived.Test.YtedleliddhhacaaRead
import Derived.Test.YtedleliddhhacaaReadE
import Derived.Lib.Hide
import Derived.Maps.AppendAt
import Derived.Deep.Strs
import Derived.Deep.Slices
import Derived.Deep.Draws
import Derived.Deep.AppendLies
import Derived.Deep.RegionHeld3
import Derived.Deep.RegionLaw
import Derived.Deep.QuietTactic
import Derived.BigQuiet
import Derived.StillTailTactics
import Derived.WalkSpells
import Derived.Outline
import Derived.Deep.LoopGhost
import Derived.Deep.Cut
import Derived.Laws.MakeOwn
import Derived.Laws.AppendOwnNone
import Derived.Maps.Own
import Derived.Maps.OwnSet
namespace Go.Proofs.Ytedleliddhhacaa
open Go.RowKit Go.Maps

def encI (x : Int) : Value := .int .i64 x
theorem own_form {W : World} {base e size : Nat} {v : Value} {n : Nat} {xs : List Value} (h : W.ownsRow base e size v n xs) : ∃ a cap, v = .slice a n cap := by
  rcases h.2 with ⟨rfl, h0⟩ | ⟨g, cap, cur, rfl, _⟩
  · exact ⟨none, 0, by rw [h0]⟩
  · exact ⟨_, cap, rfl⟩
theorem rd_none (w : World) : Rd w (.slice none 0 0) ([] : List Value) := Or.inl ⟨rfl, Or.inl rfl⟩

/-- A slice that reads as these numbers. -/
abbrev RdI (w : World) (s : Value) (xs : List Int) : Prop := Rd w s (xs.map encI)
theorem RdI.cell {w : World} {s : Value} {xs : List Int} (h : RdI w s xs) {i : Nat} {x : Int} (hi : xs[i]? = some x) : ∃ b off cap, s = .slice (some ⟨b, off, none⟩) xs.length cap ∧ w.cell? ⟨b, off + i, none⟩ = some (.int .i64 x) := by
  obtain ⟨b, off, cap, e, _, hc⟩ := Rd.at h (i := i) (u := encI x) (by simp [hi])
  rw [List.length_map] at e
  exact ⟨b, off, cap, e, hc⟩
theorem row_cell {w : World} {b off n cap : Nat} {xs : List Int} (h : RdI w (.slice (some ⟨b, off, none⟩) n cap) xs) {j : Nat} {x : Int} (hj : xs[j]? = some x) : w.cell? ⟨b, off + j, none⟩ = some (.int .i64 x) := by
  obtain ⟨b', off', cap', e, hc⟩ := RdI.cell h hj
  simp only [Value.slice.injEq, Option.some.injEq, Addr.mk.injEq] at e
  obtain ⟨⟨rfl, rfl, -⟩, rfl, rfl⟩ := e
  exact hc

/-- A list with a number more, ahead of the first that is not less. -/
def addL (l : List Int) (i : Int) : List Int := if i < 0 ∨ i ∈ l then l else l.takeWhile (· < i) ++ i :: l.dropWhile (· < i)
/-- A slice in a block of its own. -/
abbrev Strip (w : World) (v : Value) (xs : List Int) : Prop := w.ownsRow 0 3 1 v xs.length (xs.map encI)

theorem strip_rd {w : World} {base n : Nat} {v : Value} {xs : List Int} (h : w.ownsRow base 3 1 v n (xs.map encI)) : RdI w v xs := by
  rcases h.2 with ⟨rfl, h0⟩ | ⟨g, cap, cur, rfl, h1, h2, h3, h4, h5, h6⟩
  · have : xs = [] := by have := h.1; rw [h0, List.length_map] at this; exact List.eq_nil_of_length_eq_zero (by omega)
    subst this
    exact rd_none w
  · have hl : n = xs.length := by have := h.1; rw [List.length_map] at this; omega
    subst hl
    refine Or.inr ⟨g, 0, cap, by simp, (h.lt g rfl).2, fun k u hu => ?_⟩
    have := h.cells (g := g) rfl k u hu
    rw [add0] at this
    rw [Nat.zero_add]
    exact this

theorem strip_down {w : World} {base n : Nat} {v : Value} {xs : List Value} {t : TypeId} (h : w.ownsRow base t 1 v n xs) : w.ownsRow 0 t 1 v n xs := by
  refine ⟨h.1, h.2.imp id ?_⟩
  rintro ⟨g, cap, cur, e, _, h2⟩
  exact ⟨g, cap, cur, e, Nat.zero_le _, h2⟩

theorem strip_nil (w : World) : Strip w (.slice none 0 0) [] := World.ownsRow_nil _ _ _ _

theorem strip_below {w w' : World} {v : Value} {xs : List Int} (h : Strip w v xs) (hb : Below w.heap.size w w') : Strip w' v xs := by
  refine ⟨h.1, h.2.imp id ?_⟩
  rintro ⟨g, cap, cur, e, h1, h2, h3⟩
  exact ⟨g, cap, cur, e, h1, by rw [hb.block g (Array.getElem?_eq_some_iff.1 h2).1]; exact h2, h3⟩

theorem take_while {l : List Int} {i : Int} : ∀ {k : Nat}, k = (l.takeWhile (· < i)).length → l.takeWhile (· < i) = l.take k ∧ l.dropWhile (· < i) = l.drop k := by
  induction l with
  | nil => intro k _; simp
  | cons a l ih =>
    intro k hk
    by_cases h : a < i
    · simp only [List.takeWhile_cons, List.dropWhile_cons, h, decide_true, if_true] at hk ⊢
      rw [List.length_cons] at hk
      obtain ⟨h1, h2⟩ := ih rfl
      subst hk
      exact ⟨by rw [List.take_succ_cons, ← h1], by rw [List.drop_succ_cons, ← h2]⟩
    · simp only [List.takeWhile_cons, List.dropWhile_cons, h, decide_false, Bool.false_eq_true, if_false] at hk ⊢
      subst hk
      exact ⟨rfl, rfl⟩

theorem while_lt {l : List Int} {i : Int} {j : Nat} (hj : j < (l.takeWhile (· < i)).length) : ∃ x, l[j]? = some x ∧ x < i := by
  have h2 : l[j]? = some (l.takeWhile (· < i))[j] := by
    have e : l[j]? = (l.takeWhile (· < i) ++ l.dropWhile (· < i))[j]? := by rw [List.takeWhile_append_dropWhile]
    rw [e, List.getElem?_append_left hj, List.getElem?_eq_getElem hj]
  have h3 := List.getElem_mem hj
  have h4 := List.all_eq_true.1 (List.all_takeWhile (p := fun x => decide (x < i)) (l := l)) _ h3
  exact ⟨_, h2, by simpa using h4⟩

theorem while_end {l : List Int} {i : Int} {k : Nat} (hk : k = (l.takeWhile (· < i)).length) (hl : k < l.length) : ∃ x, l[k]? = some x ∧ ¬ x < i := by
  refine ⟨l[k], List.getElem?_eq_getElem hl, fun hx => ?_⟩
  have hd := (take_while (l := l) hk).2
  have hne : l.drop k ≠ [] := by simp; omega
  have h1 := List.head?_dropWhile_not (fun x => decide (x < i)) l
  rw [hd, List.head?_drop, List.getElem?_eq_getElem hl] at h1
  simp [hx] at h1

theorem mem_addL {l : List Int} {i y : Int} : y ∈ addL l i ↔ y ∈ l ∨ (y = i ∧ 0 ≤ i) := by
  unfold addL
  split
  · rename_i h
    constructor
    · exact Or.inl
    · rintro (h1 | ⟨rfl, h2⟩)
      · exact h1
      · rcases h with h | h
        · omega
        · exact h
  · rename_i h
    have e := List.takeWhile_append_dropWhile (p := fun x => decide (x < i)) (l := l)
    have : y ∈ l ↔ y ∈ l.takeWhile (· < i) ∨ y ∈ l.dropWhile (· < i) := by
      constructor
      · intro hy; rw [← e] at hy; exact List.mem_append.1 hy
      · intro hy; rw [← e]; exact List.mem_append.2 hy
    rw [List.mem_append, List.mem_cons, this]
    have h0 : 0 ≤ i := by
      apply Classical.byContradiction
      intro h0
      exact h (Or.inl (by omega))
    constructor
    · rintro (h1 | h1 | h1)
      · exact Or.inl (Or.inl h1)
      · exact Or.inr ⟨h1, h0⟩
      · exact Or.inl (Or.inr h1)
    · rintro ((h1 | h1) | ⟨h1, _⟩)
      · exact Or.inl h1
      · exact Or.inr (Or.inr h1)
      · exact Or.inr (Or.inl h1)

theorem rise_addL {l : List Int} {i : Int} (hl : l.Pairwise (· < ·)) : (addL l i).Pairwise (· < ·) := by
  unfold addL
  split
  · exact hl
  · rename_i h
    have e := List.takeWhile_append_dropWhile (p := fun x => decide (x < i)) (l := l)
    have hp : (l.takeWhile (· < i) ++ l.dropWhile (· < i)).Pairwise (· < ·) := by rw [e]; exact hl
    rw [List.pairwise_append] at hp ⊢
    obtain ⟨h1, h2, h3⟩ := hp
    have hlt : ∀ x ∈ l.takeWhile (· < i), x < i := fun x hx => by
      have := List.all_eq_true.1 (List.all_takeWhile (p := fun x => decide (x < i)) (l := l)) _ hx
      simpa using this
    have hge : ∀ y ∈ l.dropWhile (· < i), i < y := fun y hy => by
      have hyl : y ∈ l := by rw [← e]; exact List.mem_append.2 (Or.inr hy)
      have hyi : y ≠ i := fun e => h (Or.inr (e ▸ hyl))
      rcases hd : l.dropWhile (· < i) with _ | ⟨z, t⟩
      · rw [hd] at hy; cases hy
      · have hz := List.head?_dropWhile_not (fun x => decide (x < i)) l
        rw [hd] at hz hy h2
        simp at hz
        rcases List.mem_cons.1 hy with rfl | hy
        · omega
        · have := (List.pairwise_cons.1 h2).1 y hy
          omega
    refine ⟨h1, List.pairwise_cons.2 ⟨hge, h2⟩, fun x hx y hy => ?_⟩
    rcases List.mem_cons.1 hy with rfl | hy
    · exact hlt x hx
    · exact h3 x hx y hy

theorem addL_len (l : List Int) (i : Int) : (addL l i).length ≤ l.length + 1 ∧ l.length ≤ (addL l i).length := by
  unfold addL
  split
  · omega
  · have e := congrArg List.length (List.takeWhile_append_dropWhile (p := fun x => decide (x < i)) (l := l))
    rw [List.length_append] at e
    rw [List.length_append, List.length_cons]
    omega

section
variable {w : World} {v : Value} {xs : List Int} {i : Int}

theorem infoL : (Try.prog.info? 3).map (fun i => (i.zero, i.size, i.bytes)) = some (some (.int .i64 0), 1, 8) := by kernel_rfl

theorem rd_take {w : World} {g cap k : Nat} {xs : List Int} (hg : g < w.heap.size) (hc : ∀ j x, xs[j]? = some x → w.cell? ⟨g, j, none⟩ = some (.int .i64 x)) (hk : k ≤ xs.length) : Rd w (.slice (some ⟨g, 0, none⟩) k cap) ((xs.take k).map encI) := by
  refine Or.inr ⟨g, 0, cap, by simp; omega, hg, fun j u hu => ?_⟩
  rw [List.getElem?_map, List.getElem?_take] at hu
  split at hu
  · rcases hx : xs[j]? with _ | x
    · rw [hx] at hu; cases hu
    · rw [hx] at hu
      simp only [Option.map_some, Option.some.injEq] at hu
      subst hu
      rw [Nat.zero_add]
      exact hc j x hx
  · cases hu

theorem rd_drop {w : World} {g cap k : Nat} {xs : List Int} (hg : g < w.heap.size) (hc : ∀ j x, xs[j]? = some x → w.cell? ⟨g, j, none⟩ = some (.int .i64 x)) (hk : k ≤ xs.length) : Rd w (.slice (some ⟨g, k, none⟩) (xs.length - k) cap) ((xs.drop k).map encI) := by
  refine Or.inr ⟨g, k, cap, by simp, hg, fun j u hu => ?_⟩
  rw [List.getElem?_map, List.getElem?_drop] at hu
  rcases hx : xs[k + j]? with _ | x
  · rw [hx] at hu; cases hu
  · rw [hx] at hu
    simp only [Option.map_some, Option.some.injEq] at hu
    subst hu
    exact hc (k + j) x hx

theorem rd_over {w : World} {a : Addr} {cap k : Nat} {xs : List Int} (hk : k = xs.length) : Rd w (.slice (some a) (xs.length - k) cap) ((xs.drop k).map encI) := by
  subst hk
  rw [Nat.sub_self]
  exact Or.inl ⟨by simp, Or.inr ⟨_, _, rfl⟩⟩

theorem radd_fin {w : World} {base n : Nat} {v : Value} {ys : List Int} {us : List Value} (h : w.ownsRow base 3 1 v n us) (hu : us = ys.map encI) : w.ownsRow base 3 1 v ys.length (ys.map encI) := by
  subst hu
  have h1 := h.1
  rw [List.length_map, Nat.mul_one] at h1
  rw [h1]
  exact h

theorem cell_new1 (w : World) (t : TypeId) (x : Int) : ∀ (j : Nat) (u : Value), ([x].map encI)[j]? = some u → (w.alloc (.cells #[.int .i64 x] t)).cell? ⟨w.heap.size, 0 + j, none⟩ = some u := fun j u hu => by
  have := cell_one_new w (.int .i64 x) t j u hu
  rw [add0] at this
  rwa [Nat.zero_add]

theorem oneCells (l : List Int) : ∀ u ∈ l.map encI, u.oneCell' = true := fun u hu => by
  obtain ⟨x, _, rfl⟩ := List.mem_map.1 hu
  rfl

end
end Go.Proofs.Ytedleliddhhacaa
