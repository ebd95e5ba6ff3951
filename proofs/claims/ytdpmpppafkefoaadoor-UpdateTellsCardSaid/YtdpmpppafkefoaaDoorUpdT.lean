/- Exits of which the first ones turn; and what all of them have together. -/
import Derived.Test.YtdpmpppafkefoaaDoorUpdR
namespace Go.Proofs.YtdpmpppafkefoaaDoor
open Go.RowKit Go.Maps

def upM (M : List Nat) (x : Mx) : Mx := (x.1, x.2.1, uni x.2.2 M)
/-- The first j with M besides. -/
def turned (X : List Mx) (M : List Nat) (j : Nat) : List Mx := (X.take j).map (upM M) ++ X.drop j
theorem turned_none (X : List Mx) (M : List Nat) : turned X M 0 = X := by simp [turned]
theorem turned_at {X : List Mx} {M : List Nat} {j : Nat} {x : Mx} (h : X[j]? = some x) : (turned X M j)[j]? = some x := by
  obtain ⟨hlt, e⟩ := List.getElem?_eq_some_iff.1 h
  unfold turned
  rw [List.getElem?_append_right (by simp; omega)]
  simp
  rw [show j - min j X.length = 0 from by omega]
  simpa using h
theorem turned_set {X : List Mx} {M : List Nat} {j : Nat} {x : Mx} (h : X[j]? = some x) : ((turned X M j).map (·.2)).set j (x.2.1, uni x.2.2 M) = (turned X M (j + 1)).map (·.2) := by
  obtain ⟨hlt, e⟩ := List.getElem?_eq_some_iff.1 h
  unfold turned
  rw [List.take_succ_eq_append_getElem hlt, e, List.drop_eq_getElem_cons hlt, e]
  simp only [List.map_append, List.map_cons, List.map_nil, List.append_assoc]
  rw [List.set_append_right _ _ (by simp; omega)]
  simp only [List.length_map, List.length_take, Nat.min_eq_left (Nat.le_of_lt hlt), Nat.sub_self, List.set_cons_zero]
  rfl
theorem turned_cells (X : List Mx) (M : List Nat) (j : Nat) : (turned X M j).flatMap cellsM = X.flatMap cellsM := by
  unfold turned
  rw [List.flatMap_append, List.flatMap_map]
  have : (fun x => cellsM (upM M x)) = cellsM := rfl
  rw [this, ← List.flatMap_append, List.take_append_drop]
theorem turned_len (X : List Mx) (M : List Nat) (j : Nat) : (turned X M j).length = X.length := by
  unfold turned
  rw [List.length_append, List.length_map, ← List.length_append, List.take_append_drop]
theorem mem_turned {X : List Mx} {M : List Nat} {j i : Nat} {x : Mx} (h : X[i]? = some x) (hij : i < j) : upM M x ∈ turned X M j := by
  unfold turned
  refine List.mem_append_left _ (List.mem_map.2 ⟨x, ?_, rfl⟩)
  refine List.mem_iff_getElem?.2 ⟨i, ?_⟩
  rw [List.getElem?_take_of_lt hij]
  exact h
theorem turned_small {X : List Mx} {M : List Nat} {j a b : Nat} (h : ∀ x ∈ X.map exOf, x.2.2.length ≤ a) (hM : M.length ≤ b) : ∀ x ∈ (turned X M j).map exOf, x.2.2.length ≤ a + b := by
  intro x hx
  obtain ⟨y, hy, rfl⟩ := List.mem_map.1 hx
  unfold turned at hy
  rcases List.mem_append.1 hy with hy | hy
  · obtain ⟨z, hz, rfl⟩ := List.mem_map.1 hy
    have := h _ (List.mem_map.2 ⟨z, List.mem_of_mem_take hz, rfl⟩)
    exact Nat.le_trans (uni_len _ _) (Nat.add_le_add this hM)
  · have := h _ (List.mem_map.2 ⟨y, List.mem_of_mem_drop hy, rfl⟩)
    exact Nat.le_trans this (Nat.le_add_right _ _)

/-- What all lists have, put to G. -/
def allL (G : List Nat) (ls : List Lx) : List Nat := ls.foldl (fun acc x => uni acc (numsOf x.2.2)) G
theorem allL_snoc (G : List Nat) (ls : List Lx) (x : Lx) : allL G (ls ++ [x]) = uni (allL G ls) (numsOf x.2.2) := by simp [allL]
theorem mem_allL {G : List Nat} {ls : List Lx} {n : Nat} : n ∈ allL G ls ↔ n ∈ G ∨ ∃ x ∈ ls, n ∈ numsOf x.2.2 := by
  refine snoc_ind (Q := fun ls => n ∈ allL G ls ↔ n ∈ G ∨ ∃ x ∈ ls, n ∈ numsOf x.2.2) (by simp [allL]) (fun l x ih => ?_) ls
  rw [allL_snoc, mem_uni, ih]
  constructor
  · rintro ((h | ⟨y, hy, h⟩) | h)
    · exact Or.inl h
    · exact Or.inr ⟨y, List.mem_append_left _ hy, h⟩
    · exact Or.inr ⟨x, by simp, h⟩
  · rintro (h | ⟨y, hy, h⟩)
    · exact Or.inl (Or.inl h)
    · rcases List.mem_append.1 hy with hy | hy
      · exact Or.inl (Or.inr ⟨y, hy, h⟩)
      · rw [List.mem_singleton] at hy
        subst hy
        exact Or.inr h
theorem allL_len {G : List Nat} {a b : Nat} (hG : G.length ≤ a) (ls : List Lx) (h : ∀ x ∈ ls, x.2.2.length ≤ b) : (allL G ls).length ≤ a + b * ls.length := by
  refine snoc_ind (Q := fun ls => (∀ x ∈ ls, x.2.2.length ≤ b) → (allL G ls).length ≤ a + b * ls.length) (fun _ => by simpa [allL] using hG) (fun l x ih hx => ?_) ls h
  rw [allL_snoc, List.length_append, List.length_singleton, Nat.mul_add]
  have h1 := ih (fun y hy => hx y (List.mem_append_left _ hy))
  have h2 := Nat.le_trans (numsOf_len x.2.2) (hx x (by simp))
  have h3 := uni_len (allL G l) (numsOf x.2.2)
  omega

theorem last_grows {A M : List Nat} {X Y : List Mx} {ls : List Lx} {z : Lx} (hX : X.map (fun x => (x.1, x.2.2)) = ls.map (fun x => (x.1, numsOf x.2.2))) (hY : Y.map (fun x => (x.1, x.2.2)) = (ls ++ [z]).map (fun x => (x.1, numsOf x.2.2))) :
    Sub (callL A (X.map exOf)) (callL A ((turned Y M ls.length).map exOf)) := by
  refine call_grows (Sub.refl A) (fun y hy => ?_)
  rw [pairs_MX hX] at hy
  obtain ⟨x, hx, rfl⟩ := List.mem_map.1 hy
  obtain ⟨i, hi⟩ := List.mem_iff_getElem?.1 hx
  have hlt : i < ls.length := (List.getElem?_eq_some_iff.1 hi).1
  have h1 : (Y.map (fun x => (x.1, x.2.2)))[i]? = some (x.1, numsOf x.2.2) := by
    rw [hY, List.getElem?_map, List.getElem?_append_left hlt, hi]
    rfl
  rw [List.getElem?_map] at h1
  cases hYi : Y[i]? with
  | none => rw [hYi] at h1; cases h1
  | some t =>
    rw [hYi] at h1
    simp at h1
    refine ⟨(t.1, uni t.2.2 M), List.mem_map.2 ⟨exOf (upM M t), List.mem_map.2 ⟨_, mem_turned hYi hlt, rfl⟩, rfl⟩, h1.1, ?_⟩
    show Sub (numsOf x.2.2) (uni t.2.2 M)
    rw [← h1.2]
    exact sub_uni_left _ _
theorem call_within' {A G : List Nat} {X : List Mx} {ls : List Lx} (hA : Sub A G) (hX : X.map (fun x => (x.1, x.2.2)) = ls.map (fun x => (x.1, numsOf x.2.2))) : Sub (callL A (X.map exOf)) (allL G ls) := by
  refine call_within (fun n hn => mem_allL.2 (Or.inl (hA n hn))) (fun y hy => ?_)
  rw [pairs_MX hX] at hy
  obtain ⟨x, hx, rfl⟩ := List.mem_map.1 hy
  exact fun n hn => mem_allL.2 (Or.inr ⟨x, hx, hn⟩)

section
variable {w0 w w1 : World} {L J : List (Nat × List Nat)} {keep : Nat → Prop} {s : Nat} {l : List Nat}

theorem New.hall (h : New w w1 s l) : Hall w w1 [(s, l)] (fun _ => False) := by
  obtain ⟨bm, D, S, h1, h2, h3⟩ := h
  exact (Hall.init w).more S h1 h2 h3
theorem Hall.part (B : Hall w0 w (L ++ J) keep) : Hall w0 w L keep :=
  B.choose id (fun i x hi => by
    rw [id, List.getElem?_append_left (List.getElem?_eq_some_iff.1 hi).1]
    exact hi) (fun _ _ _ _ h => h)
theorem setsX_tail {f : Nat × List Nat} {X : List Mx} (h : Hall w0 w (f :: X.map (·.2)) keep) : SetsX w (X.map exOf) := by
  intro m p l hm _
  obtain ⟨x, hx, e⟩ := List.mem_map.1 hm
  obtain ⟨i, hi⟩ := List.mem_iff_getElem?.1 hx
  simp [exOf] at e
  obtain ⟨rfl, rfl, rfl⟩ := e
  exact h.aset (i := i + 1) (by simp [hi])
theorem own_below' {base e size n : Nat} {v : Value} {us : List Value} (h : w.ownsRow base e size v n us) (hb : Below w.heap.size w w1) : w1.ownsRow base e size v n us :=
  ownsRow_touch h (Touch.of_below hb (fun _ => False)) (fun _ _ h => h)
theorem own_kept {base e size n : Nat} {v : Value} {us : List Value} (h : w.ownsRow base e size v n us) (hk : Keeps keep w w1) (hv : ∀ b, v.ownBlock = some b → keep b) : w1.ownsRow base e size v n us :=
  ownsRow_touch h hk (fun b hb hn => hn (hv b hb))
end
end Go.Proofs.YtdpmpppafkefoaaDoor
