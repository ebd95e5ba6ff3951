/- What lengths of unions, differences and intersections have to do with one another. -/
import Derived.Test.YtdpbbgfceagofaaDoorPlace
namespace Go.Proofs.YtdpbbgfceagofaaDoor
open Go.RowKit Go.Maps

section
variable {A B C : List Nat}

theorem filter_len (p : Nat → Bool) (l : List Nat) : (l.filter (fun n => !p n)).length + (l.filter p).length = l.length := by
  induction l with
  | nil => rfl
  | cons a l ih =>
    by_cases h : p a = true
    · simp [h]; omega
    · simp [h]; omega

theorem len_less_both (A B : List Nat) : (less A B).length + (both A B).length = A.length := filter_len (fun n => decide (n ∈ B)) A

theorem len_both_comm (hA : A.Nodup) (hB : B.Nodup) : (both A B).length = (both B A).length :=
  nodup_len_eq (hA.sublist List.filter_sublist) (hB.sublist List.filter_sublist) (fun m => by rw [mem_both, mem_both]; exact And.comm)

theorem len_uni_both (hA : A.Nodup) (hB : B.Nodup) : (uni A B).length + (both A B).length = A.length + B.length := by
  have h1 : (uni A B).length = A.length + (less B A).length := by unfold uni less; rw [List.length_append]
  have h2 := len_less_both B A
  have h3 := len_both_comm hA hB
  omega

theorem both_less_both : both (less A B) (both A B) = [] := by
  rw [List.eq_nil_iff_forall_not_mem]
  intro m hm
  have h := mem_both.1 hm
  exact (mem_less.1 h.1).2 (mem_both.1 h.2).2

theorem less_nil (h : ∀ n ∈ A, n ∈ B) : less A B = [] := by
  rw [List.eq_nil_iff_forall_not_mem]
  intro m hm
  have h1 := mem_less.1 hm
  exact h1.2 (h m h1.1)

theorem less_pos (h : ¬ ∀ n ∈ A, n ∈ B) : 0 < (less A B).length := by
  refine Nat.pos_of_ne_zero (fun h0 => h (fun n hn => ?_))
  by_cases hb : n ∈ B
  · exact hb
  · have : n ∈ less A B := mem_less.2 ⟨hn, hb⟩
    rw [List.eq_nil_of_length_eq_zero h0] at this
    cases this

theorem alike_sub (hA : A.Nodup) (hB : B.Nodup) (h1 : ∀ n ∈ A, n ∈ B) (h2 : ∀ n ∈ B, n ∈ A) : alike A B = true := (alike_iff hA hB).2 (fun n => ⟨h1 n, h2 n⟩)
theorem alike_not (hA : A.Nodup) (hB : B.Nodup) (h : ¬ ((∀ n ∈ A, n ∈ B) ∧ ∀ n ∈ B, n ∈ A)) : alike A B = false := by
  rcases he : alike A B with _ | _
  · rfl
  · have h1 := (alike_iff hA hB).1 he
    exact absurd ⟨fun n hn => (h1 n).1 hn, fun n hn => (h1 n).2 hn⟩ h

theorem ints_len (rs : List Nat) : (ints rs).length = rs.length := by simp [ints]

theorem numsOf_ints (rs : List Nat) (m : Nat) : m ∈ numsOf (ints rs) ↔ m ∈ rs := by
  rw [mem_numsOf]
  unfold ints
  rw [List.mem_map]
  exact ⟨fun ⟨a, h1, h2⟩ => by rw [← Int.ofNat_inj.1 h2]; exact h1, fun h => ⟨m, h, rfl⟩⟩
end
end Go.Proofs.YtdpbbgfceagofaaDoor
