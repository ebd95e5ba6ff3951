/- In, Same, Least. -/
import Derived.Test.YtcimhljnboeobaaDoorTz
namespace Go.Proofs.YtcimhljnboeobaaDoor
open Go.RowKit Go.Maps

section
variable {w w' : World} {sb bm so bo : Nat} {D Do : DataW Unit} {l l' o : List Nat}

/-- Whether two lists have the same members. -/
def alike (l o : List Nat) : Bool := decide (l.length = o.length) && decide (∀ n ∈ l, n ∈ o)
theorem alike_iff (hl : l.Nodup) (ho : o.Nodup) : alike l o = true ↔ ∀ n, n ∈ l ↔ n ∈ o := by
  unfold alike
  rw [Bool.and_eq_true, decide_eq_true_iff, decide_eq_true_iff]
  constructor
  · rintro ⟨h1, h2⟩ n
    refine ⟨h2 n, fun hn => ?_⟩
    apply Classical.byContradiction
    intro hne
    have h3 : (n :: l).length ≤ o.length := nodup_len_le (by rw [List.nodup_cons]; exact ⟨hne, hl⟩) (fun x hx => by
      rcases List.mem_cons.1 hx with rfl | hx
      · exact hn
      · exact h2 x hx)
    simp only [List.length_cons] at h3
    omega
  · intro h
    exact ⟨nodup_len_eq hl ho h, fun n hn => (h n).1 hn⟩

end
end Go.Proofs.YtcimhljnboeobaaDoor
