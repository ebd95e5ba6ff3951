/- Many sets, and rows of numbers, that lie apart: what each of the package's functions makes of them. -/
import Derived.Test.YtdpmpppafkefoaaDoorRefSame
namespace Go.Proofs.YtdpmpppafkefoaaDoor
open Go.RowKit Go.Maps

/-- The sets L (their structs' blocks, their numbers) and the rows R, in a world w, all made since w0; they lie apart. -/
structure Bag (w0 w : World) (L : List (Nat × List Nat)) (R : List (Value × List Int)) : Prop where
  old : Below w0.heap.size w0 w
  sets : ∃ F : Nat → Nat, (∀ i s l, L[i]? = some (s, l) → (∃ D, SetAt w s (F i) D l) ∧ w0.heap.size ≤ s ∧ w0.heap.size ≤ F i) ∧
    (∀ i j si li sj lj, i ≠ j → L[i]? = some (si, li) → L[j]? = some (sj, lj) → si ≠ sj ∧ F i ≠ F j) ∧
    (∀ v xs, (v, xs) ∈ R → ∀ b, v.ownBlock = some b → ∀ i s l, L[i]? = some (s, l) → b ≠ s ∧ b ≠ F i)
  rows : ∀ v xs, (v, xs) ∈ R → RdI w v xs ∧ ∀ b, v.ownBlock = some b → b < w.heap.size

section
variable {w0 w w' : World} {L : List (Nat × List Nat)} {R : List (Value × List Int)}

theorem Bag.init (w0 : World) : Bag w0 w0 [] [] := ⟨Below.refl _ _, ⟨fun _ => 0, by simp, by simp, by simp⟩, by simp⟩

theorem Bag.below (B : Bag w0 w L R) (h : Below w.heap.size w w') : Bag w0 w' L R := by
  obtain ⟨F, h1, h2, h3⟩ := B.sets
  refine ⟨B.old.trans (h.mono B.old.size), ⟨F, fun i s l hi => ?_, h2, h3⟩, fun v xs hv => ⟨(B.rows v xs hv).1.below h, fun b hb => Nat.lt_of_lt_of_le ((B.rows v xs hv).2 b hb) h.size⟩⟩
  obtain ⟨⟨D, S⟩, h4⟩ := h1 i s l hi
  exact ⟨⟨D, S.below h⟩, h4⟩

theorem Bag.drawn (B : Bag w0 w L R) (n : Nat) : Bag w0 (w.drewN n) L R := B.below ⟨rfl, rfl, rfl, Nat.le_refl _, fun _ _ => rfl⟩

theorem Bag.gl (B : Bag w0 w L R) (G : Gl w0) : Gl w := G.below B.old G.lt

theorem Bag.at (B : Bag w0 w L R) {i s : Nat} {l : List Nat} (hi : L[i]? = some (s, l)) : ∃ bm D, SetAt w s bm D l := by
  obtain ⟨F, h1, _⟩ := B.sets
  obtain ⟨⟨D, S⟩, _⟩ := h1 i s l hi
  exact ⟨_, D, S⟩
theorem Bag.aset (B : Bag w0 w L R) {i s : Nat} {l : List Nat} (hi : L[i]? = some (s, l)) : ASet w (.pointer (some ⟨s, 0, none⟩)) l := by
  obtain ⟨bm, D, S⟩ := B.at hi
  exact Or.inr ⟨s, bm, D, rfl, S⟩
theorem Bag.nodup (B : Bag w0 w L R) {i s : Nat} {l : List Nat} (hi : L[i]? = some (s, l)) : l.Nodup := by
  obtain ⟨bm, D, S⟩ := B.at hi
  exact S.nodup
theorem Bag.small (B : Bag w0 w L R) {i s : Nat} {l : List Nat} (hi : L[i]? = some (s, l)) : ∀ n ∈ l, n < 9223372036854775808 := by
  obtain ⟨bm, D, S⟩ := B.at hi
  exact S.small

/-- A set more, in new blocks. -/
theorem Bag.more (B : Bag w0 w L R) {s bm : Nat} {D : DataW Unit} {l : List Nat} (S : SetAt w' s bm D l) (h1 : w.heap.size ≤ s) (h2 : w.heap.size ≤ bm) (hb : Below w.heap.size w w') : Bag w0 w' (L ++ [(s, l)]) R := by
  obtain ⟨F, f1, f2, f3⟩ := B.sets
  have hlt : ∀ i s l, L[i]? = some (s, l) → s < w.heap.size ∧ F i < w.heap.size := fun i s l hi => by
    obtain ⟨⟨D, S⟩, _⟩ := f1 i s l hi
    exact ⟨S.lts, S.ltm⟩
  have hsz := B.old.size
  have hcase : ∀ i t m, (L ++ [(s, l)])[i]? = some (t, m) → (i < L.length ∧ L[i]? = some (t, m)) ∨ (i = L.length ∧ t = s ∧ m = l) := fun i t m hi => by
    rcases Nat.lt_or_ge i L.length with h | h
    · rw [List.getElem?_append_left h] at hi
      exact Or.inl ⟨h, hi⟩
    · rw [List.getElem?_append_right h] at hi
      have h5 := (List.getElem?_eq_some_iff.1 hi).1
      simp at h5
      have h6 : i = L.length := by omega
      subst h6
      simp at hi
      exact Or.inr ⟨rfl, hi.1.symm, hi.2.symm⟩
  refine ⟨B.old.trans (hb.mono hsz), ⟨fun i => if i = L.length then bm else F i, fun i t m hi => ?_, fun i j si li sj lj hne hi hj => ?_, fun v xs hv b hbk i t m hi => ?_⟩, fun v xs hv => ⟨(B.rows v xs hv).1.below hb, fun b hbk => Nat.lt_of_lt_of_le ((B.rows v xs hv).2 b hbk) hb.size⟩⟩
  · rcases hcase i t m hi with ⟨h, hi⟩ | ⟨rfl, rfl, rfl⟩
    · obtain ⟨⟨D', S'⟩, h4⟩ := f1 i t m hi
      simp only [if_neg (Nat.ne_of_lt h)]
      exact ⟨⟨D', S'.below hb⟩, h4⟩
    · simp only [if_true]
      exact ⟨⟨D, S⟩, by omega, by omega⟩
  · rcases hcase i si li hi with ⟨h, gi⟩ | ⟨ei, rfl, rfl⟩ <;> rcases hcase j sj lj hj with ⟨h', gj⟩ | ⟨ej, rfl, rfl⟩
    · simp only [if_neg (Nat.ne_of_lt h), if_neg (Nat.ne_of_lt h')]
      exact f2 i j si li sj lj hne gi gj
    · simp only [if_neg (Nat.ne_of_lt h), if_pos ej]
      have := hlt _ _ _ gi
      omega
    · simp only [if_neg (Nat.ne_of_lt h'), if_pos ei]
      have := hlt _ _ _ gj
      omega
    · exact absurd (ei.trans ej.symm) hne
  · rcases hcase i t m hi with ⟨h, hi⟩ | ⟨rfl, rfl, rfl⟩
    · simp only [if_neg (Nat.ne_of_lt h)]
      exact f3 v xs hv b hbk i t m hi
    · simp only [if_true]
      have hb2 := (B.rows v xs hv).2 b hbk
      omega

/-- A row more, in a new block. -/
theorem Bag.row (B : Bag w0 w L R) {v : Value} {xs : List Int} (hr : RdI w' v xs) (hn : ∀ b, v.ownBlock = some b → w.heap.size ≤ b ∧ b < w'.heap.size) (hb : Below w.heap.size w w') : Bag w0 w' L (R ++ [(v, xs)]) := by
  have B1 := B.below hb
  obtain ⟨F, f1, f2, f3⟩ := B.sets
  refine ⟨B1.old, ⟨F, fun i s l hi => ?_, f2, fun u ys hu b hbk i s l hi => ?_⟩, fun u ys hu => ?_⟩
  · obtain ⟨⟨D, S⟩, h4⟩ := f1 i s l hi
    exact ⟨⟨D, S.below hb⟩, h4⟩
  · rcases List.mem_append.1 hu with hu | hu
    · exact f3 u ys hu b hbk i s l hi
    · simp only [List.mem_singleton, Prod.mk.injEq] at hu
      obtain ⟨rfl, rfl⟩ := hu
      obtain ⟨⟨D, S⟩, _⟩ := f1 i s l hi
      have h5 := S.lts
      have h6 := S.ltm
      have h7 := (hn b hbk).1
      omega
  · rcases List.mem_append.1 hu with hu | hu
    · exact B1.rows u ys hu
    · simp only [List.mem_singleton, Prod.mk.injEq] at hu
      obtain ⟨rfl, rfl⟩ := hu
      exact ⟨hr, fun b hbk => (hn b hbk).2⟩

/-- A set turns: what it is, and how to go on. -/
theorem Bag.turn (B : Bag w0 w L R) {i s : Nat} {l : List Nat} (hi : L[i]? = some (s, l)) : ∃ bm D, SetAt w s bm D l ∧ (∀ j t o, j ≠ i → L[j]? = some (t, o) → ∃ bo Do, SetAt w t bo Do o ∧ s ≠ t ∧ bm ≠ bo) ∧
    ∀ w' bm' D' l', SetAt w' s bm' D' l' → (bm' = bm ∨ w.heap.size ≤ bm') → Touch w w' (Mine s bm) → Bag w0 w' (L.set i (s, l')) R := by
  obtain ⟨F, f1, f2, f3⟩ := B.sets
  obtain ⟨⟨D, S⟩, g1, g2⟩ := f1 i s l hi
  refine ⟨F i, D, S, fun j t o hj hjt => ?_, fun w' bm' D' l' S' hbm ht => ?_⟩
  · obtain ⟨⟨Do, T⟩, _⟩ := f1 j t o hjt
    have := f2 i j s l t o (Ne.symm hj) hi hjt
    exact ⟨F j, Do, T, this.1, this.2⟩
  · have hlt : i < L.length := (List.getElem?_eq_some_iff.1 hi).1
    have hsz := B.old.size
    have hcase : ∀ j t m, (L.set i (s, l'))[j]? = some (t, m) → (j ≠ i ∧ L[j]? = some (t, m)) ∨ (j = i ∧ s = t ∧ l' = m) := fun j t m hj => by
      by_cases e : j = i
      · subst e
        rw [List.getElem?_set_self hlt] at hj
        simp at hj
        exact Or.inr ⟨rfl, hj.1, hj.2⟩
      · rw [List.getElem?_set_ne (Ne.symm e)] at hj
        exact Or.inl ⟨e, hj⟩
    have hbm0 : w0.heap.size ≤ bm' := by rcases hbm with h | h <;> omega
    refine ⟨B.old.trans (ht.below hsz (fun k hk h => by rcases h with h | h <;> omega)), ⟨fun j => if j = i then bm' else F j, fun j t m hj => ?_, fun j k sj lj sk lk hne hj hk => ?_, fun v xs hv b hbk j t m hj => ?_⟩, fun v xs hv => ?_⟩
    · rcases hcase j t m hj with ⟨e, gj⟩ | ⟨ej, rfl, rfl⟩
      · obtain ⟨⟨D'', S''⟩, h4⟩ := f1 j t m gj
        simp only [if_neg e]
        have h5 := f2 i j s l t m (Ne.symm e) hi gj
        have h6 := S.apart S''
        have h7 := S''.apart S
        exact ⟨⟨D'', S''.kept ht (fun k hk h => by rcases hk with rfl | rfl <;> rcases h with h | h <;> omega)⟩, h4⟩
      · simp only [if_pos ej]
        exact ⟨⟨D', S'⟩, g1, hbm0⟩
    · rcases hcase j sj lj hj with ⟨e, gj⟩ | ⟨ej, rfl, rfl⟩ <;> rcases hcase k sk lk hk with ⟨e', gk⟩ | ⟨ek, rfl, rfl⟩
      · simp only [if_neg e, if_neg e']
        exact f2 j k sj lj sk lk hne gj gk
      · simp only [if_neg e, if_pos ek]
        obtain ⟨⟨D'', S''⟩, _⟩ := f1 j sj lj gj
        have h5 := f2 j i sj lj s l e gj hi
        have h6 := S''.ltm
        refine ⟨h5.1, ?_⟩
        rcases hbm with h | h
        · rw [h]; exact h5.2
        · omega
      · simp only [if_neg e', if_pos ej]
        obtain ⟨⟨D'', S''⟩, _⟩ := f1 k sk lk gk
        have h5 := f2 i k s l sk lk (Ne.symm e') hi gk
        have h6 := S''.ltm
        refine ⟨h5.1, ?_⟩
        rcases hbm with h | h
        · rw [h]; exact h5.2
        · omega
      · exact absurd (ej.trans ek.symm) hne
    · rcases hcase j t m hj with ⟨e, gj⟩ | ⟨ej, rfl, rfl⟩
      · simp only [if_neg e]
        exact f3 v xs hv b hbk j t m gj
      · simp only [if_pos ej]
        have h5 := f3 v xs hv b hbk i s l hi
        have h6 := (B.rows v xs hv).2 b hbk
        refine ⟨h5.1, ?_⟩
        rcases hbm with h | h
        · rw [h]; exact h5.2
        · omega
    · obtain ⟨h5, h6⟩ := B.rows v xs hv
      refine ⟨h5.touch ht (fun b hbk h => ?_), fun b hbk => Nat.lt_of_lt_of_le (h6 b hbk) ht.size⟩
      have h7 := f3 v xs hv b hbk i s l hi
      rcases h with h | h
      · exact h7.1 h
      · exact h7.2 h
end
end Go.Proofs.YtdpmpppafkefoaaDoor
