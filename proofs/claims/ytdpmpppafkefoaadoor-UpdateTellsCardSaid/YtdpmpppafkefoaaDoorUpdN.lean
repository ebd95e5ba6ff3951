/- Sets that a call makes, each by its contract, in one form. -/
import Derived.Test.YtdpmpppafkefoaaDoorUpdE
namespace Go.Proofs.YtdpmpppafkefoaaDoor
open Go.RowKit Go.Maps

section
variable {w w1 w2 : World} {s : Nat} {l o : List Nat} {v : Value} {x : Int}

theorem New.aset (h : New w w1 s l) : ASet w1 (ptr s) l := by
  obtain ⟨bm, D, S, _⟩ := h
  exact Or.inr ⟨s, bm, D, rfl, S⟩
theorem New.down (h : New w1 w2 s l) (hb : Below w.heap.size w w1) : New w w2 s l := by
  obtain ⟨bm, D, S, h1, h2, h3⟩ := h
  have := hb.size
  exact ⟨bm, D, S, by omega, by omega, hb.trans (h3.mono hb.size)⟩
theorem New.later (h : New w w1 s l) (hb : Below w1.heap.size w1 w2) : New w w2 s l := by
  obtain ⟨bm, D, S, h1, h2, h3⟩ := h
  exact ⟨bm, D, S.below hb, h1, h2, h3.trans (hb.mono h3.size)⟩
theorem New.nodup (h : New w w1 s l) : l.Nodup := by
  obtain ⟨bm, D, S, _⟩ := h
  exact S.nodup
theorem news {f : Nat} {args : Array Value} (h : Calls Tryd.prog f args w fun e w' => NewSet w w' e l) : Calls Tryd.prog f args w fun e w' => ∃ s, e = .returned (ptr s) ∧ New w w' s l :=
  h.mono fun _ _ ⟨sb, bm, D, he, h1, h2, S, hb⟩ => ⟨sb, he, bm, D, S, h1, h2, hb⟩

theorem of_new {xs : List Int} (hs : RdI w v xs) (hx : ∀ x ∈ xs, x < 9223372036854775808) (hlen : xs.length ≤ 1000000) : Calls Tryd.prog 6 #[v] w fun e w' => ∃ s, e = .returned (ptr s) ∧ New w w' s (numsOf xs) :=
  (of_any hs hx hlen).mono fun _ _ ⟨he, ⟨D, S⟩, hb⟩ => ⟨_, he, _, D, S, Nat.le_succ _, Nat.le_refl _, hb⟩

theorem of_lit (w : World) (hx : x < 9223372036854775808) : Calls Tryd.prog 6 #[.slice (some ⟨w.heap.size, 0, none⟩) 1 1] (w.alloc (.cells #[.int .i64 x] 3)) fun e w' => ∃ s, e = .returned (ptr s) ∧ New w w' s (numsOf [x]) :=
  (of_new (xs := [x]) (rd_block (heap_alloc_new w _) rfl 1 1 rfl) (by simpa using hx) (by simp)).mono fun _ _ ⟨s, he, h⟩ => ⟨s, he, h.down ((Below.refl _ w).alloc (Nat.le_refl _) _)⟩

theorem new_add (h : New w w1 s l) (hx : x < 9223372036854775808) (hlen : l.length ≤ 1000000) : Calls Tryd.prog 15 #[ptr s, .int .i64 x] w1 fun e w' => (∃ b, e = .returned (.bool b)) ∧ New w w' s (plusN l x) := by
  obtain ⟨bm, D, S, h1, h2, h3⟩ := h
  exact (add_any S hx hlen).mono fun _ w' ⟨he, ⟨D', S'⟩, ht⟩ => ⟨⟨_, he⟩, bm, D', S', h1, h2, h3.trans (ht.below h3.size (fun k hk h => by rcases h with h | h <;> omega))⟩

theorem alike_refl (l : List Nat) : alike l l = true := by simp [alike]
theorem alike_of (hl : l.Nodup) (ho : o.Nodup) (h : ∀ n, n ∈ l ↔ n ∈ o) : alike l o = true := (alike_iff hl ho).2 h

/-- One exit, laid in a row of its own. -/
theorem rowX_block (w : World) (m : Bool) (p : Option Addr) (l : List Nat) : RowX (w.alloc (.cells #[.bool m, .pointer p] 44)) (.slice (some ⟨w.heap.size, 0, none⟩) 1 1) [(m, p, l)] := by
  refine Or.inr ⟨w.heap.size, 0, 1, rfl, by simp, fun i m' p' l' hi => ?_⟩
  have h0 : i = 0 := by
    have := (List.getElem?_eq_some_iff.1 hi).1
    simp at this
    omega
  subst h0
  simp at hi
  obtain ⟨rfl, rfl, rfl⟩ := hi
  have hb := heap_alloc_new w (.cells #[.bool m, .pointer p] 44)
  exact ⟨blk_cell hb 0, blk_cell hb 1⟩

theorem flat_len (X : List Mx) : (X.flatMap cellsM).length = X.length * 2 := by
  induction X with
  | nil => rfl
  | cons x X ih => rw [List.flatMap_cons, List.length_append, ih, List.length_cons]; simp [cellsM]; omega
theorem flat_at {X : List Mx} {i : Nat} {x : Mx} (h : X[i]? = some x) : (X.flatMap cellsM)[i * 2]? = some (.bool x.1) ∧ (X.flatMap cellsM)[i * 2 + 1]? = some (ptr x.2.1) := by
  induction X generalizing i with
  | nil => simp at h
  | cons y X ih =>
    rw [List.flatMap_cons]
    cases i with
    | zero =>
      simp at h
      subst h
      simp [cellsM]
    | succ i =>
      have h2 := ih (i := i) (by simpa using h)
      rw [show (i + 1) * 2 = i * 2 + 2 from by omega, show i * 2 + 2 + 1 = (i * 2 + 1) + 2 from by omega]
      unfold cellsM at h2 ⊢
      simpa using h2

/-- The row that the call has made, as what Call takes. -/
theorem Exits.rowX {X : List Mx} (h : Exits w w1 v X) : RowX w1 v (X.map exOf) := by
  rcases h.1.2 with ⟨rfl, h0⟩ | ⟨g, cap, cur, rfl, h1, h2, h3⟩
  · have : X = [] := List.length_eq_zero_iff.1 h0
    subst this
    exact Or.inl ⟨rfl, Or.inl rfl⟩
  · refine Or.inr ⟨g, 0, cap, by simp, (Array.getElem?_eq_some_iff.1 h2).1, fun i m p l hi => ?_⟩
    rw [List.getElem?_map] at hi
    cases hx : X[i]? with
    | none => simp [hx] at hi
    | some x =>
      simp [hx, exOf] at hi
      obtain ⟨rfl, rfl, rfl⟩ := hi
      have hlt : i < X.length := (List.getElem?_eq_some_iff.1 hx).1
      obtain ⟨e1, e2⟩ := flat_at hx
      rw [← h3.2.2.2, List.getElem?_take_of_lt (by omega), Array.getElem?_toList] at e1 e2
      rw [Nat.zero_add, blk_cell h2, blk_cell h2]
      exact ⟨e1, e2⟩
theorem Exits.setsX {X : List Mx} (h : Exits w w1 v X) : SetsX w1 (X.map exOf) := by
  intro m p l hm _
  obtain ⟨x, hx, e⟩ := List.mem_map.1 hm
  obtain ⟨i, hi⟩ := List.mem_iff_getElem?.1 hx
  simp [exOf] at e
  obtain ⟨rfl, rfl, rfl⟩ := e
  exact h.2.aset (i := i) (by simp [hi])
end
end Go.Proofs.YtdpmpppafkefoaaDoor
