/- How an order is made: who is ahead, who is free. -/
import Derived.Test.YtppkponnopnmdaaSFoldW
namespace Go.Proofs.Ytppkponnopnmdaa

open Classical in
/-- How many that are not out lead to a node. -/
noncomputable def indeg (F : List (List Int)) (o : List Nat) (x : Nat) : Nat := ((List.range F.length).filter (fun a => decide (Edge F a x ∧ a ∉ o))).length
open Classical in
/-- How many of the first rows lead to a node. -/
noncomputable def indegK (F : List (List Int)) (k x : Nat) : Nat := ((List.range k).filter (fun a => decide (Edge F a x))).length
section
variable {F : List (List Int)} {o : List Nat} {x c k j : Nat} {r : List Int}
theorem indeg_zero : indeg F o x = 0 ↔ ∀ a, Edge F a x → a ∈ o := by
  classical
  unfold indeg
  rw [List.length_eq_zero_iff, List.filter_eq_nil_iff]
  constructor
  · intro h a e
    have h1 := h a (List.mem_range.2 e.lt.1)
    by_cases ha : a ∈ o
    · exact ha
    · exact absurd (decide_eq_true ⟨e, ha⟩) h1
  · intro h a _ hd
    have := of_decide_eq_true hd
    exact this.2 (h a this.1)
theorem indeg_le : indeg F o x ≤ F.length := by
  unfold indeg
  exact Nat.le_trans (List.length_filter_le _ _) (by simp)
theorem indegK_le : indegK F k x ≤ k := by
  unfold indegK
  exact Nat.le_trans (List.length_filter_le _ _) (by simp)
theorem indegK_succ : indegK F (k + 1) x = indegK F k x + (open Classical in if Edge F k x then 1 else 0) := by
  classical
  unfold indegK
  rw [List.range_succ, List.filter_append, List.length_append]
  by_cases h : Edge F k x
  · simp [h]
  · simp [h]
theorem indegK_all : indegK F F.length x = indeg F [] x := by
  unfold indegK indeg
  congr 1
  apply List.filter_congr
  intro a _
  simp
theorem indeg_out (hc : c ∉ o) (hl : c < F.length) : indeg F o x = indeg F (o ++ [c]) x + (open Classical in if Edge F c x then 1 else 0) := by
  classical
  have key : ∀ l : List Nat, l.Nodup → (l.filter (fun a => decide (Edge F a x ∧ a ∉ o))).length = (l.filter (fun a => decide (Edge F a x ∧ a ∉ o ++ [c]))).length + (if c ∈ l ∧ Edge F c x then 1 else 0) := by
    intro l
    induction l with
    | nil => intro _; simp
    | cons a l ih =>
      intro hn
      rw [List.nodup_cons] at hn
      have ih := ih hn.2
      rw [List.filter_cons, List.filter_cons]
      by_cases ha : a = c
      · subst ha
        have h2 : ¬ (Edge F a x ∧ a ∉ o ++ [a]) := by simp
        rw [if_neg (fun h => hn.1 h.1)] at ih
        by_cases he : Edge F a x
        · rw [if_pos (decide_eq_true ⟨he, hc⟩), if_neg (fun h => h2 (of_decide_eq_true h)), if_pos ⟨by simp, he⟩, List.length_cons]
          omega
        · rw [if_neg (fun h => he (of_decide_eq_true h).1), if_neg (fun h => h2 (of_decide_eq_true h)), if_neg (fun h => he h.2)]
          omega
      · have h1 : (Edge F a x ∧ a ∉ o ++ [c]) ↔ (Edge F a x ∧ a ∉ o) := by simp [ha]
        have h2 : (c ∈ a :: l ∧ Edge F c x) ↔ (c ∈ l ∧ Edge F c x) := by
          rw [List.mem_cons]
          constructor
          · rintro ⟨h | h, g⟩
            · exact absurd h.symm ha
            · exact ⟨h, g⟩
          · exact fun ⟨h, g⟩ => ⟨.inr h, g⟩
        simp only [h1, h2]
        by_cases hd : Edge F a x ∧ a ∉ o
        · rw [if_pos (by simpa using hd), if_pos (by simpa using hd), List.length_cons, List.length_cons]
          omega
        · rw [if_neg (by simpa using hd), if_neg (by simpa using hd)]
          exact ih
  have := key _ (List.nodup_range (n := F.length))
  unfold indeg
  rw [this]
  congr 1
  by_cases he : Edge F c x
  · rw [if_pos ⟨List.mem_range.2 hl, he⟩, if_pos he]
  · rw [if_neg (fun h => he h.2), if_neg he]
end
/-- What is out is closed backwards. -/
structure OutOk (F : List (List Int)) (o : List Nat) : Prop where
  nodup : o.Nodup
  lt : ∀ x ∈ o, x < F.length
  back : ∀ x ∈ o, ∀ a, Edge F a x → a ∈ o
theorem OutOk.nil (F : List (List Int)) : OutOk F [] := ⟨List.nodup_nil, by simp, by simp⟩
theorem OutOk.more {F : List (List Int)} {o : List Nat} {c : Nat} (h : OutOk F o) (hf : Free F o c) : OutOk F (o ++ [c]) := by
  refine ⟨?_, fun x hx => ?_, fun x hx a e => ?_⟩
  · rw [List.nodup_append]
    exact ⟨h.nodup, by simp, fun a ha b hb e => by simp at hb; subst hb; subst e; exact hf.2.1 ha⟩
  · rcases List.mem_append.1 hx with g | g
    · exact h.lt x g
    · obtain rfl := List.mem_singleton.1 g; exact hf.1
  · rcases List.mem_append.1 hx with g | g
    · exact List.mem_append_left _ (h.back x g a e)
    · obtain rfl := List.mem_singleton.1 g
      exact List.mem_append_left _ (hf.2.2 a e)
theorem OutOk.len {F : List (List Int)} {o : List Nat} (h : OutOk F o) : o.length ≤ F.length := by
  have key : ∀ (o l : List Nat), o.Nodup → (∀ x ∈ o, x ∈ l) → o.length ≤ l.length := by
    intro o
    induction o with
    | nil => intro l _ _; simp
    | cons a o ih =>
      intro l hn hs
      rw [List.nodup_cons] at hn
      have h1 := ih (l.erase a) hn.2 (fun x hx => (List.mem_erase_of_ne (show x ≠ a from fun e => hn.1 (by rw [← e]; exact hx))).2 (hs x (List.Mem.tail _ hx)))
      have h2 := hs a (List.Mem.head _)
      rw [List.length_erase_of_mem h2] at h1
      have h3 := List.length_pos_of_mem h2
      rw [List.length_cons]
      omega
  have := key o (List.range F.length) h.nodup (fun x hx => List.mem_range.2 (h.lt x hx))
  simpa using this
/-- Who stands in the heap, between. -/
def MidH (F : List (List Int)) (o : List Nat) (c : Nat) (p : List Int) (l : List Int) : Prop :=
  l.Nodup ∧ ∀ z : Int, z ∈ l ↔ ∃ x : Nat, z = x ∧ ((Free F o x ∧ x ≠ c) ∨ ((x : Int) ∈ p ∧ Free F (o ++ [c]) x))
def FreeH (F : List (List Int)) (o : List Nat) (l : List Int) : Prop := l.Nodup ∧ ∀ z : Int, z ∈ l ↔ ∃ x : Nat, z = x ∧ Free F o x
section
variable {F : List (List Int)} {o : List Nat} {c x : Nat} {p l l' r : List Int}
theorem FreeH.pop (h : FreeH F o l) (hp : ((c : Int) :: l').Perm l) : MidH F o c [] l' := by
  have hn : ((c : Int) :: l').Nodup := hp.nodup_iff.2 h.1
  rw [List.nodup_cons] at hn
  refine ⟨hn.2, fun z => ?_⟩
  have h1 : z ∈ l ↔ z = c ∨ z ∈ l' := by rw [← hp.mem_iff, List.mem_cons]
  constructor
  · intro hz
    obtain ⟨x, rfl, hf⟩ := (h.2 z).1 (h1.2 (.inr hz))
    exact ⟨x, rfl, .inl ⟨hf, fun e => hn.1 (e ▸ hz)⟩⟩
  · rintro ⟨x, rfl, ⟨hf, hx⟩ | ⟨hm, _⟩⟩
    · rcases h1.1 ((h.2 _).2 ⟨x, rfl, hf⟩) with e | e
      · exact absurd (Int.ofNat_inj.1 e) hx
      · exact e
    · cases hm
theorem MidH.skip (h : MidH F o c p l) (hx : ¬ Free F (o ++ [c]) x) : MidH F o c (p ++ [(x : Int)]) l := by
  refine ⟨h.1, fun z => ?_⟩
  rw [h.2]
  constructor
  · rintro ⟨y, rfl, g | ⟨g1, g2⟩⟩
    · exact ⟨y, rfl, .inl g⟩
    · exact ⟨y, rfl, .inr ⟨List.mem_append_left _ g1, g2⟩⟩
  · rintro ⟨y, rfl, g | ⟨g1, g2⟩⟩
    · exact ⟨y, rfl, .inl g⟩
    · rcases List.mem_append.1 g1 with e | e
      · exact ⟨y, rfl, .inr ⟨e, g2⟩⟩
      · obtain rfl : y = x := Int.ofNat_inj.1 (List.mem_singleton.1 e)
        exact absurd g2 hx
theorem MidH.push (h : MidH F o c p l) (hx : Free F (o ++ [c]) x) (hc : c ∉ o) (he : Edge F c x) (hp : (x : Int) ∉ p) (hl : l'.Perm ((x : Int) :: l)) : MidH F o c (p ++ [(x : Int)]) l' := by
  have hno : (x : Int) ∉ l := by
    intro hm
    obtain ⟨y, e, g | ⟨g1, g2⟩⟩ := (h.2 _).1 hm
    · obtain rfl : x = y := Int.ofNat_inj.1 e
      exact hc (g.1.2.2 c he)
    · obtain rfl : x = y := Int.ofNat_inj.1 e
      exact hp g1
  refine ⟨hl.nodup_iff.2 (List.nodup_cons.2 ⟨hno, h.1⟩), fun z => ?_⟩
  rw [hl.mem_iff, List.mem_cons, h.2]
  constructor
  · rintro (rfl | ⟨y, rfl, g | ⟨g1, g2⟩⟩)
    · exact ⟨x, rfl, .inr ⟨by simp, hx⟩⟩
    · exact ⟨y, rfl, .inl g⟩
    · exact ⟨y, rfl, .inr ⟨List.mem_append_left _ g1, g2⟩⟩
  · rintro ⟨y, rfl, g | ⟨g1, g2⟩⟩
    · exact .inr ⟨y, rfl, .inl g⟩
    · rcases List.mem_append.1 g1 with e | e
      · exact .inr ⟨y, rfl, .inr ⟨e, g2⟩⟩
      · exact .inl (List.mem_singleton.1 e)
theorem MidH.done (h : MidH F o c r l) (hr : F[c]? = some r) : FreeH F (o ++ [c]) l := by
  refine ⟨h.1, fun z => ?_⟩
  rw [h.2]
  constructor
  · rintro ⟨x, rfl, ⟨g1, g2⟩ | ⟨_, g⟩⟩
    · exact ⟨x, rfl, g1.1, by simp [g1.2.1, g2], fun a e => List.mem_append_left _ (g1.2.2 a e)⟩
    · exact ⟨x, rfl, g⟩
  · rintro ⟨x, rfl, g⟩
    refine ⟨x, rfl, ?_⟩
    by_cases he : Edge F c x
    · obtain ⟨_, r', hr', hm⟩ := he
      rw [hr] at hr'
      obtain rfl := Option.some.inj hr'
      exact .inr ⟨hm, g⟩
    · refine .inl ⟨⟨g.1, fun h => g.2.1 (List.mem_append_left _ h), fun a e => ?_⟩, fun h => g.2.1 (by simp [h])⟩
      rcases List.mem_append.1 (g.2.2 a e) with k | k
      · exact k
      · obtain rfl := List.mem_singleton.1 k
        exact absurd e he
/-- An edge's end is free just if no more lead to it. -/
theorem free_iff (hs : ∀ a, ¬ Edge F a a) (ho : OutOk F o) (hc : c ∉ o) (he : Edge F c x) : Free F (o ++ [c]) x ↔ indeg F (o ++ [c]) x = 0 := by
  rw [indeg_zero]
  refine ⟨fun h => h.2.2, fun h => ⟨he.lt.2, fun hx => ?_, h⟩⟩
  rcases List.mem_append.1 hx with k | k
  · exact hc (ho.back x k c he)
  · obtain rfl := List.mem_singleton.1 k
    exact hs x he
end
end Go.Proofs.Ytppkponnopnmdaa
