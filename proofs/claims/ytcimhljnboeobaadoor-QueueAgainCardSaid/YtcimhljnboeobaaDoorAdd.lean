/- Add, Of. -/
import Derived.Test.YtcimhljnboeobaaDoorHas
namespace Go.Proofs.YtcimhljnboeobaaDoor
open Go.RowKit Go.Maps

/-- A list with a number more, if it is one and new. -/
def plusN (l : List Nat) (i : Int) : List Nat := if 0 ≤ i ∧ i.toNat ∉ l then l ++ [i.toNat] else l

section
variable {w w' : World} {sb bm : Nat} {D : DataW Unit} {l l' : List Nat}

theorem bits_pow {j : Nat} (hj : j < 64) : bitsOf 64 (2 ^ j) = [j] := by
  have h : ∀ j, j < 64 → bitsOf 64 (2 ^ j) = [j] := by decide +kernel
  exact h j hj

theorem nodup_plusN (i : Int) (h : l.Nodup) : (plusN l i).Nodup := by
  unfold plusN
  split
  · rename_i hc
    rw [List.nodup_append]
    exact ⟨h, by simp, fun a ha b hb e => hc.2 (by simp at hb; rw [← hb, ← e]; exact ha)⟩
  · exact h

/-- The numbers that a list has, each once. -/
def numsOf (xs : List Int) : List Nat := xs.foldl plusN []
theorem numsOf_snoc (xs : List Int) (x : Int) : numsOf (xs ++ [x]) = plusN (numsOf xs) x := by simp [numsOf]
theorem plusN_len (l : List Nat) (i : Int) : (plusN l i).length ≤ l.length + 1 := by unfold plusN; split <;> simp
theorem numsOf_len (xs : List Int) : (numsOf xs).length ≤ xs.length := by
  refine snoc_ind (Q := fun xs => (numsOf xs).length ≤ xs.length) (Nat.le_refl _) (fun l x ih => ?_) xs
  rw [numsOf_snoc, List.length_append]
  exact Nat.le_trans (plusN_len _ _) (by simpa using ih)
theorem mem_plusN (l : List Nat) (i : Int) (n : Nat) : n ∈ plusN l i ↔ n ∈ l ∨ (n : Int) = i := by
  unfold plusN
  split
  · rename_i h
    rw [List.mem_append, List.mem_singleton]
    exact or_congr Iff.rfl (by omega)
  · rename_i h
    constructor
    · exact Or.inl
    · rintro (h1 | h1)
      · exact h1
      · subst h1
        have : n ∈ l := by
          apply Classical.byContradiction
          intro hn
          exact h ⟨by omega, by simpa using hn⟩
        exact this
theorem mem_numsOf (xs : List Int) (n : Nat) : n ∈ numsOf xs ↔ (n : Int) ∈ xs := by
  refine snoc_ind (Q := fun xs => n ∈ numsOf xs ↔ (n : Int) ∈ xs) (by simp [numsOf]) (fun l x ih => ?_) xs
  rw [numsOf_snoc, mem_plusN, ih, List.mem_append, List.mem_singleton]
theorem nodup_numsOf (xs : List Int) : (numsOf xs).Nodup := by
  refine snoc_ind (Q := fun xs => (numsOf xs).Nodup) List.nodup_nil (fun l x ih => ?_) xs
  rw [numsOf_snoc]
  exact nodup_plusN x ih

def encI (x : Int) : Value := .int .i64 x

end
end Go.Proofs.YtcimhljnboeobaaDoor
