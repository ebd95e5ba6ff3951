/- A store, and a call, only grow: over lists; and halls that are joined. -/
import Derived.Test.YtdpmpppafkefoaaDoorUpdG
namespace Go.Proofs.YtdpmpppafkefoaaDoor
open Go.RowKit Go.Maps

/-- Sets l stand among o. -/
def Sub (l o : List Nat) : Prop := ∀ n ∈ l, n ∈ o
theorem Sub.refl (l : List Nat) : Sub l l := fun _ h => h
theorem sub_uni_left (l o : List Nat) : Sub l (uni l o) := fun _ h => mem_uni.2 (Or.inl h)
theorem sub_uni {l o l' o' : List Nat} (h : Sub l l') (g : Sub o o') : Sub (uni l o) (uni l' o') := fun n hn => mem_uni.2 ((mem_uni.1 hn).elim (fun k => Or.inl (h n k)) (fun k => Or.inr (g n k)))

theorem store_grows {A B T A' B' T' : List Nat} {o : Int} {single : Bool} (hA : Sub A A') (hB : Sub B B') (hT : Sub T T') (nT : T.Nodup) : Sub (storeL A B T o single) (storeL A' B' T' o single) := by
  have hlen : T.length ≤ T'.length := nodup_len_le nT hT
  unfold storeL
  by_cases h0 : T = []
  · rw [if_pos h0]
    intro n hn
    cases hn
  · rw [if_neg h0]
    have h0' : T' ≠ [] := by
      rintro rfl
      simp at hlen
      exact h0 hlen
    rw [if_neg h0']
    have hp : 0 < T.length := List.length_pos_iff.2 h0
    by_cases h1 : 0 ≤ o ∧ o.toNat ∈ T
    · have h1' : 0 ≤ o ∧ o.toNat ∈ T' := ⟨h1.1, hT _ h1.2⟩
      rw [if_neg (c := ¬ (0 ≤ o ∧ o.toNat ∈ T)) (fun k => k h1), if_neg (c := ¬ (0 ≤ o ∧ o.toNat ∈ T')) (fun k => k h1')]
      by_cases h2 : 1 < T.length ∨ single = false
      · have h2' : 1 < T'.length ∨ single = false := h2.imp (fun h => by omega) id
        rw [if_pos h2, if_pos h2']
        exact sub_uni hA hB
      · rw [if_neg h2]
        split
        · exact fun n hn => mem_uni.2 (Or.inr (hB n hn))
        · exact hB
    · rw [if_pos h1]
      by_cases h1' : 0 ≤ o ∧ o.toNat ∈ T'
      · have hgt : 1 < T'.length := by
          have h3 : (T ++ [o.toNat]).length ≤ T'.length := by
            refine nodup_len_le ?_ ?_
            · rw [List.nodup_append]
              refine ⟨nT, by simp, fun a ha b hb e => ?_⟩
              simp at hb
              subst hb; subst e
              exact h1 ⟨h1'.1, ha⟩
            · intro x hx
              rcases List.mem_append.1 hx with hx | hx
              · exact hT x hx
              · rw [List.mem_singleton] at hx
                subst hx
                exact h1'.2
          rw [List.length_append, List.length_singleton] at h3
          omega
        rw [if_neg (c := ¬ (0 ≤ o ∧ o.toNat ∈ T')) (fun k => k h1'), if_pos (Or.inl hgt)]
        exact fun n hn => mem_uni.2 (Or.inl (hA n hn))
      · rw [if_pos h1']
        exact hA
theorem store_within {A B T : List Nat} {o : Int} {single : Bool} : Sub (storeL A B T o single) (uni A B) := by
  unfold storeL
  split
  · intro n hn
    cases hn
  · split
    · exact sub_uni_left _ _
    · split
      · exact Sub.refl _
      · exact fun n hn => mem_uni.2 (Or.inr hn)

/-- What a call leaves, of what each function changes and has. -/
def inM (A : List Nat) (y : Bool × List Nat) (n : Nat) : Prop := if y.1 = true then n ∈ y.2 else n ∈ A
def pairs (xs : List Ex) : List (Bool × List Nat) := xs.map (fun x => (x.1, x.2.2))
theorem mem_callM {A : List Nat} {xs : List Ex} {n : Nat} : n ∈ callL A xs ↔ ∃ y ∈ pairs xs, inM A y n := by
  rw [mem_callL]
  unfold pairs inM
  constructor
  · rintro ⟨x, hx, hn⟩
    refine ⟨_, List.mem_map.2 ⟨x, hx, rfl⟩, ?_⟩
    show if x.1 = true then n ∈ x.2.2 else n ∈ A
    by_cases h : x.1 = true
    · rw [if_pos h] at hn ⊢; exact hn
    · rw [if_neg h] at hn ⊢; exact hn
  · rintro ⟨y, hy, hn⟩
    obtain ⟨x, hx, rfl⟩ := List.mem_map.1 hy
    refine ⟨x, hx, ?_⟩
    change if x.1 = true then n ∈ x.2.2 else n ∈ A at hn
    by_cases h : x.1 = true
    · rw [if_pos h] at hn ⊢; exact hn
    · rw [if_neg h] at hn ⊢; exact hn
theorem call_grows {A A' : List Nat} {xs ys : List Ex} (hA : Sub A A') (h : ∀ y ∈ pairs xs, ∃ z ∈ pairs ys, z.1 = y.1 ∧ Sub y.2 z.2) : Sub (callL A xs) (callL A' ys) := by
  intro n hn
  obtain ⟨y, hy, hi⟩ := mem_callM.1 hn
  obtain ⟨z, hz, e, hs⟩ := h y hy
  refine mem_callM.2 ⟨z, hz, ?_⟩
  unfold inM at hi ⊢
  rw [e]
  by_cases hb : y.1 = true
  · rw [if_pos hb] at hi ⊢; exact hs n hi
  · rw [if_neg hb] at hi ⊢; exact hA n hi
theorem call_within {A B : List Nat} {xs : List Ex} (hA : Sub A B) (h : ∀ y ∈ pairs xs, Sub y.2 B) : Sub (callL A xs) B := by
  intro n hn
  obtain ⟨y, hy, hi⟩ := mem_callM.1 hn
  unfold inM at hi
  by_cases hb : y.1 = true
  · rw [if_pos hb] at hi; exact h y hy n hi
  · rw [if_neg hb] at hi; exact hA n hi

def pairsL (ls : List Lx) : List (Bool × List Nat) := ls.map (fun x => (x.1, numsOf x.2.2))
theorem pairs_MX {X : List Mx} {ls : List Lx} (h : X.map (fun x => (x.1, x.2.2)) = ls.map (fun x => (x.1, numsOf x.2.2))) : pairs (X.map exOf) = pairsL ls := by
  unfold pairs pairsL
  rw [← h, List.map_map]
  rfl

section
variable {w0 w w' : World} {L L' : List (Nat × List Nat)} {keep keep' : Nat → Prop}

/-- A hall that was laid over another one's world, put to it. -/
theorem Hall.join (B : Hall w0 w L keep) (B' : Hall w w' L' keep') : Hall w0 w' (L ++ L') (fun b => keep' b ∧ w.heap.size ≤ b) := by
  obtain ⟨F, f1, f2, f3⟩ := B.sets
  obtain ⟨G, g1, g2, g3⟩ := B'.sets
  have hsz := B.old.size
  have hcase : ∀ i t m, (L ++ L')[i]? = some (t, m) → (i < L.length ∧ L[i]? = some (t, m)) ∨ (L.length ≤ i ∧ L'[i - L.length]? = some (t, m)) := fun i t m hi => by
    rcases Nat.lt_or_ge i L.length with h | h
    · rw [List.getElem?_append_left h] at hi
      exact Or.inl ⟨h, hi⟩
    · rw [List.getElem?_append_right h] at hi
      exact Or.inr ⟨h, hi⟩
  have hlow : ∀ i s l, L[i]? = some (s, l) → s < w.heap.size ∧ F i < w.heap.size := fun i s l hi => by
    obtain ⟨⟨D, S⟩, _⟩ := f1 i s l hi
    exact ⟨S.lts, S.ltm⟩
  refine ⟨B.old.trans (B'.old.mono hsz), ⟨fun i => if i < L.length then F i else G (i - L.length), fun i t m hi => ?_, fun i j si li sj lj hne hi hj => ?_, fun b hb i t m hi => ?_⟩, fun b hb => B'.kept b hb.1⟩
  · rcases hcase i t m hi with ⟨h, gi⟩ | ⟨h, gi⟩
    · obtain ⟨⟨D, S⟩, h4⟩ := f1 i t m gi
      simp only [if_pos h]
      exact ⟨⟨D, S.below B'.old⟩, h4⟩
    · obtain ⟨⟨D, S⟩, h4, h5⟩ := g1 _ t m gi
      simp only [if_neg (Nat.not_lt.2 h)]
      exact ⟨⟨D, S⟩, by omega, by omega⟩
  · rcases hcase i si li hi with ⟨h, gi⟩ | ⟨h, gi⟩ <;> rcases hcase j sj lj hj with ⟨h', gj⟩ | ⟨h', gj⟩
    · simp only [if_pos h, if_pos h']
      exact f2 i j si li sj lj hne gi gj
    · simp only [if_pos h, if_neg (Nat.not_lt.2 h')]
      have := hlow _ _ _ gi
      have := (g1 _ _ _ gj).2
      omega
    · simp only [if_neg (Nat.not_lt.2 h), if_pos h']
      have := hlow _ _ _ gj
      have := (g1 _ _ _ gi).2
      omega
    · simp only [if_neg (Nat.not_lt.2 h), if_neg (Nat.not_lt.2 h')]
      exact g2 _ _ si li sj lj (by omega) gi gj
  · rcases hcase i t m hi with ⟨h, gi⟩ | ⟨h, gi⟩
    · simp only [if_pos h]
      have := hlow _ _ _ gi
      have := hb.2
      omega
    · simp only [if_neg (Nat.not_lt.2 h)]
      exact g3 b hb.1 _ t m gi

end
end Go.Proofs.YtdpmpppafkefoaaDoor
