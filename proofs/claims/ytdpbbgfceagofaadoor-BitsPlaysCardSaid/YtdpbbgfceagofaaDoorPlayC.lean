/- The lists' lengths tell what the sets' answers tell. -/
import Derived.Test.YtdpbbgfceagofaaDoorPlayB
namespace Go.Proofs.YtdpbbgfceagofaaDoor
open Go.RowKit Go.Maps

section
variable {la lb ra rb rs' : List Nat} {n : Int}

theorem add_mem (hx : ∀ m : Nat, m ∈ rs' ↔ (m : Int) ∈ addL (ints ra) n) (hM : ∀ m, m ∈ ra ↔ m ∈ la) (m : Nat) : m ∈ rs' ↔ m ∈ plusN la n := by
  rw [hx, mem_addL, mem_ints_nat, hM, mem_plusN]
  constructor
  · rintro (h | ⟨h, _⟩)
    · exact Or.inl h
    · exact Or.inr h
  · rintro (h | h)
    · exact Or.inl h
    · exact Or.inr ⟨h, by omega⟩

theorem add_len (hx : addL (ints ra) n = ints rs') (hM : ∀ m, m ∈ ra ↔ m ∈ la) : decide (ra.length < rs'.length) = decide (0 ≤ n ∧ n.toNat ∉ la) := by
  have hl : rs'.length = (addL (ints ra) n).length := by rw [hx, ints_len]
  rw [decide_eq_decide, hl]
  unfold addL
  by_cases h : n < 0 ∨ n ∈ ints ra
  · rw [if_pos h, ints_len]
    constructor
    · intro h; omega
    · rintro ⟨h0, h1⟩
      rcases h with h | h
      · omega
      · exact absurd ((hM _).1 (mem_ints.1 h).2) h1
  · rw [if_neg h]
    have e := congrArg List.length (List.takeWhile_append_dropWhile (p := fun x => decide (x < n)) (l := ints ra))
    rw [List.length_append, ints_len] at e
    rw [List.length_append, List.length_cons]
    constructor
    · intro _
      refine ⟨by omega, fun hc => h (Or.inr (mem_ints.2 ⟨by omega, (hM _).2 hc⟩))⟩
    · intro _; omega

theorem drop_mem (hx : ∀ m : Nat, m ∈ rs' ↔ (m : Int) ∈ pickL (ints ra) [n] false) (hM : ∀ m, m ∈ ra ↔ m ∈ la) (hn : la.Nodup) (m : Nat) : m ∈ rs' ↔ m ∈ lessN la n := by
  rw [hx, mem_pickL, mem_ints_nat, hM, mem_lessN hn]
  simp

theorem drop_len (hx : pickL (ints ra) [n] false = ints rs') (hM : ∀ m, m ∈ ra ↔ m ∈ la) : decide (rs'.length < ra.length) = decide (0 ≤ n ∧ n.toNat ∈ la) := by
  have hl : rs'.length = (pickL (ints ra) [n] false).length := by rw [hx, ints_len]
  have hl2 : ra.length = (ints ra).length := (ints_len ra).symm
  rw [decide_eq_decide, hl, hl2]
  unfold pickL
  rw [List.length_filter_lt_length_iff_exists]
  constructor
  · rintro ⟨x, h1, h2⟩
    have : x = n := by simpa using h2
    subst this
    obtain ⟨h3, h4⟩ := mem_ints.1 h1
    exact ⟨h3, (hM _).1 h4⟩
  · rintro ⟨h1, h2⟩
    exact ⟨n, mem_ints.2 ⟨h1, (hM _).2 h2⟩, by simp⟩

theorem union_mem (hx : ∀ m : Nat, m ∈ rs' ↔ (m : Int) ∈ uniL (ints ra) (ints rb)) (hM : ∀ m, m ∈ ra ↔ m ∈ la) (hN : ∀ m, m ∈ rb ↔ m ∈ lb) (m : Nat) : m ∈ rs' ↔ m ∈ uni la lb := by
  rw [hx, mem_uniL, mem_ints_nat, mem_ints_nat, hM, hN, mem_uni]
  simp

theorem union_len (h1 : ∀ m, m ∈ rs' ↔ m ∈ uni la lb) (hM : ∀ m, m ∈ ra ↔ m ∈ la) (h2 : rs'.Pairwise (· < ·)) (h3 : ra.Pairwise (· < ·)) (hla : la.Nodup) (hlb : lb.Nodup) : decide (ra.length < rs'.length) = decide (la.length < (uni la lb).length) := by
  rw [nodup_len_eq (h2.imp (fun h => Nat.ne_of_lt h)) (nodup_uni hla hlb) h1, nodup_len_eq (h3.imp (fun h => Nat.ne_of_lt h)) hla hM]

theorem less_mem (hx : ∀ m : Nat, m ∈ rs' ↔ (m : Int) ∈ pickL (ints ra) (ints rb) false) (hM : ∀ m, m ∈ ra ↔ m ∈ la) (hN : ∀ m, m ∈ rb ↔ m ∈ lb) (m : Nat) : m ∈ rs' ↔ m ∈ less la lb := by
  rw [hx, mem_pickL, mem_ints_nat, hM, mem_less, decide_eq_false_iff_not, mem_ints_nat, hN]

theorem both_mem (hx : ∀ m : Nat, m ∈ rs' ↔ (m : Int) ∈ pickL (ints ra) (ints rb) true) (hM : ∀ m, m ∈ ra ↔ m ∈ la) (hN : ∀ m, m ∈ rb ↔ m ∈ lb) (m : Nat) : m ∈ rs' ↔ m ∈ both la lb := by
  rw [hx, mem_pickL, mem_ints_nat, hM, mem_both, decide_eq_true_iff, mem_ints_nat, hN]

theorem of_mem {ys : List Int} (hx : ∀ m : Nat, m ∈ rs' ↔ (m : Int) ∈ ofL ys) (m : Nat) : m ∈ rs' ↔ m ∈ numsOf ys := by
  rw [hx, ofL_uniL, mem_uniL, mem_numsOf]
  simp

theorem same_ok (h1 : ra.Pairwise (· < ·)) (h2 : rb.Pairwise (· < ·)) (hM : ∀ m, m ∈ ra ↔ m ∈ la) (hN : ∀ m, m ∈ rb ↔ m ∈ lb) (hla : la.Nodup) (hlb : lb.Nodup) : alike la lb = decide (ra = rb) := by
  by_cases h : ra = rb
  · subst h
    rw [decide_eq_true rfl]
    exact (alike_iff hla hlb).2 (fun m => by rw [← hM, ← hN])
  · rw [decide_eq_false h]
    rcases he : alike la lb with _ | _
    · rfl
    · have h3 := (alike_iff hla hlb).1 he
      exact absurd (rising_eq h1 h2 (fun m => by rw [hM, hN, h3])) h

theorem in_ok (hM : ∀ m, m ∈ ra ↔ m ∈ la) (hN : ∀ m, m ∈ rb ↔ m ∈ lb) : decide ((pickL (ints ra) (ints rb) false).length = 0) = decide (∀ n ∈ la, n ∈ lb) := by
  rw [decide_eq_decide, List.length_eq_zero_iff, List.eq_nil_iff_forall_not_mem]
  constructor
  · intro h m hm
    apply Classical.byContradiction
    intro hc
    refine h (m : Int) (mem_pickL.2 ⟨mem_ints_nat.2 ((hM m).2 hm), decide_eq_false (fun hb => hc ((hN m).1 (mem_ints_nat.1 hb)))⟩)
  · intro h x hx
    obtain ⟨h1, h2⟩ := mem_pickL.1 hx
    obtain ⟨h3, h4⟩ := mem_ints.1 h1
    exact (decide_eq_false_iff_not.1 h2) (mem_ints.2 ⟨h3, (hN _).2 (h _ ((hM _).1 h4))⟩)
end
end Go.Proofs.YtdpbbgfceagofaaDoor
