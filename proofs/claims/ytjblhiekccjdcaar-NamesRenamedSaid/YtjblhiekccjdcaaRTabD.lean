/- A table's map as a datum: the keys of a list, each at its place in it. -/
import Derived.Test.YtjblhiekccjdcaaRRows
import Derived.Maps.Views
import Derived.Maps.Own
namespace Go.Proofs.YtjblhiekccjdcaaR
open Go.Maps

theorem snoc_ind {α : Type} {Q : List α → Prop} (h0 : Q []) (h1 : ∀ l x, Q l → Q (l ++ [x])) (l : List α) : Q l := by
  have h : ∀ r : List α, Q r.reverse := by
    intro r
    induction r with
    | nil => exact h0
    | cons x r ih => rw [List.reverse_cons]; exact h1 _ _ ih
  have := h l.reverse
  rwa [List.reverse_reverse] at this

section
variable {H : Type}

def num (i : Nat) : DataW H := .lit (.int .i64 i)

/-- The datum of a table with the keys ls. -/
def tabD (ls : List Lit) : DataW H := (ls.foldl (fun (m : DataW H × Nat) x => (m.1.put x (num m.2), m.2 + 1)) (.map [], 0)).1

theorem tab_count (ls : List Lit) : ∀ (m : DataW H) (n : Nat), (ls.foldl (fun (m : DataW H × Nat) x => (m.1.put x (num m.2), m.2 + 1)) (m, n)).2 = n + ls.length := by
  induction ls with
  | nil => intro m n; rfl
  | cons x r ih => intro m n; simp only [List.foldl_cons, ih, List.length_cons]; omega

theorem tabD_nil : tabD (H := H) [] = .map [] := rfl

theorem tabD_snoc (ls : List Lit) (x : Lit) : tabD (H := H) (ls ++ [x]) = (tabD ls).put x (num ls.length) := by
  unfold tabD
  rw [List.foldl_append, List.foldl_cons, List.foldl_nil, tab_count, Nat.zero_add]

theorem isMap_tabD (ls : List Lit) : IsMap (tabD (H := H) ls) := by
  refine snoc_ind (Q := fun ls => IsMap (tabD (H := H) ls)) isMap_empty (fun l x h => ?_) ls
  rw [tabD_snoc]
  exact h.put _ _

theorem has_tabD (ls : List Lit) (hk : ∀ x ∈ ls, WideAt.IsKeyLit x) (k : Lit) : has (tabD (H := H) ls) k = true ↔ k ∈ ls := by
  refine snoc_ind (Q := fun ls => (∀ x ∈ ls, WideAt.IsKeyLit x) → (has (tabD (H := H) ls) k = true ↔ k ∈ ls)) (fun _ => by simp [tabD_nil, Maps.has]) (fun l x ih hk => ?_) ls hk
  rw [tabD_snoc]
  by_cases hx : k = x
  · subst hx
    rw [has_put_same (isMap_tabD l) (hk k (by simp))]
    simp
  · rw [has_put_other hx, ih (fun y hy => hk y (by simp [hy]))]
    simp [hx]

theorem has_tabD_in {ls : List Lit} (hk : ∀ x ∈ ls, WideAt.IsKeyLit x) {k : Lit} (h : k ∈ ls) : has (tabD (H := H) ls) k = true := (has_tabD ls hk k).2 h
theorem has_tabD_out {ls : List Lit} (hk : ∀ x ∈ ls, WideAt.IsKeyLit x) {k : Lit} (h : k ∉ ls) : has (tabD (H := H) ls) k = false := by
  cases e : has (tabD (H := H) ls) k
  · rfl
  · exact absurd ((has_tabD ls hk k).1 e) h

theorem at_tabD (ls : List Lit) (hk : ∀ x ∈ ls, WideAt.IsKeyLit x) (hn : ls.Nodup) (k : Lit) (z : DataW H) : ∀ i, ls[i]? = some k → (tabD (H := H) ls).atKey k z = num i := by
  refine snoc_ind (Q := fun ls => (∀ x ∈ ls, WideAt.IsKeyLit x) → ls.Nodup → ∀ i, ls[i]? = some k → (tabD (H := H) ls).atKey k z = num i) (fun _ _ i h => by simp at h) (fun l x ih hk hn i h => ?_) ls hk hn
  rw [tabD_snoc]
  rw [List.nodup_append] at hn
  obtain ⟨hn1, _, hn2⟩ := hn
  by_cases hx : k = x
  · subst hx
    have hi : i = l.length := by
      rcases Nat.lt_or_ge i l.length with h2 | h2
      · rw [List.getElem?_append_left h2] at h
        exact absurd rfl (hn2 k (List.mem_of_getElem? h) k (by simp))
      · rw [List.getElem?_append_right h2] at h
        have := (List.getElem?_eq_some_iff.1 h).1
        simp at this
        omega
    rw [atKey_put_same (isMap_tabD l) (hk k (by simp)), hi]
  · rw [atKey_put_other hx]
    refine ih (fun y hy => hk y (by simp [hy])) hn1 i ?_
    rcases Nat.lt_or_ge i l.length with h2 | h2
    · rwa [List.getElem?_append_left h2] at h
    · rw [List.getElem?_append_right h2] at h
      have h3 := (List.getElem?_eq_some_iff.1 h).1
      simp at h3
      have h4 : i - l.length = 0 := by omega
      rw [h4] at h
      simp at h
      exact absurd h.symm hx

end
end Go.Proofs.YtjblhiekccjdcaaR
