/- Many sets that lie apart, beside blocks that are kept: what each of the package's functions makes of them. -/
import Derived.Test.YtdpmpppafkefoaaDoorRefM
namespace Go.Proofs.YtdpmpppafkefoaaDoor
open Go.RowKit Go.Maps

/-- The sets L (their structs' blocks, their numbers), all made since w0, apart from one another and from the blocks of keep. -/
structure Hall (w0 w : World) (L : List (Nat × List Nat)) (keep : Nat → Prop) : Prop where
  old : Below w0.heap.size w0 w
  sets : ∃ F : Nat → Nat, (∀ i s l, L[i]? = some (s, l) → (∃ D, SetAt w s (F i) D l) ∧ w0.heap.size ≤ s ∧ w0.heap.size ≤ F i) ∧
    (∀ i j si li sj lj, i ≠ j → L[i]? = some (si, li) → L[j]? = some (sj, lj) → si ≠ sj ∧ F i ≠ F j) ∧
    (∀ b, keep b → ∀ i s l, L[i]? = some (s, l) → b ≠ s ∧ b ≠ F i)
  kept : ∀ b, keep b → b < w.heap.size

/-- What is kept, is as it was. -/
abbrev Keeps (keep : Nat → Prop) (w w' : World) : Prop := Touch w w' (fun b => ¬ keep b)

theorem Keeps.at {keep : Nat → Prop} {w w' : World} (h : Keeps keep w w') {b : Nat} (hk : keep b) (hb : b < w.heap.size) : w'.heap[b]? = w.heap[b]? := h.block b hb (fun hn => hn hk)

section
variable {w0 w w' : World} {L : List (Nat × List Nat)} {keep : Nat → Prop}

theorem Hall.init (w0 : World) : Hall w0 w0 [] (fun _ => False) := ⟨Below.refl _ _, ⟨fun _ => 0, by simp, by simp, by simp⟩, by simp⟩

theorem Hall.touch (B : Hall w0 w L keep) {Q : Nat → Prop} (h : Touch w w' Q) (h0 : ∀ k, k < w0.heap.size → ¬ Q k) (hq : ∀ k, Q k → keep k ∨ w.heap.size ≤ k) : Hall w0 w' L keep := by
  obtain ⟨F, h1, h2, h3⟩ := B.sets
  refine ⟨B.old.trans (h.below B.old.size h0), ⟨F, fun i s l hi => ?_, h2, h3⟩, fun b hb => Nat.lt_of_lt_of_le (B.kept b hb) h.size⟩
  obtain ⟨⟨D, S⟩, h4⟩ := h1 i s l hi
  refine ⟨⟨D, S.kept h (fun k hk hQ => ?_)⟩, h4⟩
  have hl := S.lt k hk
  rcases hq k hQ with hk2 | hk2
  · have := h3 k hk2 i s l hi
    rcases hk with rfl | rfl
    · exact this.1 rfl
    · exact this.2 rfl
  · omega

theorem Hall.below (B : Hall w0 w L keep) (h : Below w.heap.size w w') : Hall w0 w' L keep :=
  B.touch (Touch.of_below h (fun _ => False)) (fun _ _ h => h) (fun _ h => h.elim)

theorem Hall.drawn (B : Hall w0 w L keep) (n : Nat) : Hall w0 (w.drewN n) L keep := B.below ⟨rfl, rfl, rfl, Nat.le_refl _, fun _ _ => rfl⟩

theorem Hall.gl (B : Hall w0 w L keep) (G : Gl w0) : Gl w := G.below B.old G.lt

/-- Other blocks are kept: some that were, or new ones. -/
theorem Hall.keeping (B : Hall w0 w L keep) (h : Below w.heap.size w w') {keep' : Nat → Prop} (hk : ∀ b, keep' b → keep b ∨ (w.heap.size ≤ b ∧ b < w'.heap.size)) : Hall w0 w' L keep' := by
  have B' := B.below h
  obtain ⟨F, h1, h2, h3⟩ := B.sets
  obtain hold := B'.old
  refine ⟨hold, ⟨F, fun i s l hi => ?_, h2, fun b hb i s l hi => ?_⟩, fun b hb => ?_⟩
  · obtain ⟨⟨D, S⟩, h4⟩ := h1 i s l hi
    exact ⟨⟨D, S.below h⟩, h4⟩
  · rcases hk b hb with hb | hb
    · exact h3 b hb i s l hi
    · obtain ⟨⟨D, S⟩, h4⟩ := h1 i s l hi
      have := S.lts
      have := S.ltm
      omega
  · rcases hk b hb with hb | hb
    · exact B'.kept b hb
    · exact hb.2

theorem Hall.at (B : Hall w0 w L keep) {i s : Nat} {l : List Nat} (hi : L[i]? = some (s, l)) : ∃ bm D, SetAt w s bm D l := by
  obtain ⟨F, h1, _⟩ := B.sets
  obtain ⟨⟨D, S⟩, _⟩ := h1 i s l hi
  exact ⟨_, D, S⟩
theorem Hall.aset (B : Hall w0 w L keep) {i s : Nat} {l : List Nat} (hi : L[i]? = some (s, l)) : ASet w (.pointer (some ⟨s, 0, none⟩)) l := by
  obtain ⟨bm, D, S⟩ := B.at hi
  exact Or.inr ⟨s, bm, D, rfl, S⟩
theorem Hall.nodup (B : Hall w0 w L keep) {i s : Nat} {l : List Nat} (hi : L[i]? = some (s, l)) : l.Nodup := by
  obtain ⟨bm, D, S⟩ := B.at hi
  exact S.nodup
theorem Hall.small (B : Hall w0 w L keep) {i s : Nat} {l : List Nat} (hi : L[i]? = some (s, l)) : ∀ n ∈ l, n < 9223372036854775808 := by
  obtain ⟨bm, D, S⟩ := B.at hi
  exact S.small

/-- A choice of the sets, in whatever order. -/
theorem Hall.choose (B : Hall w0 w L keep) {L' : List (Nat × List Nat)} (f : Nat → Nat) (hf : ∀ i x, L'[i]? = some x → L[f i]? = some x) (hinj : ∀ i j, i < L'.length → j < L'.length → f i = f j → i = j) : Hall w0 w L' keep := by
  obtain ⟨F, h1, h2, h3⟩ := B.sets
  refine ⟨B.old, ⟨fun i => F (f i), fun i s l hi => h1 _ s l (hf i _ hi), fun i j si li sj lj hne hi hj => h2 (f i) (f j) si li sj lj (fun e => hne (hinj i j ?_ ?_ e)) (hf i _ hi) (hf j _ hj), fun b hb i s l hi => h3 b hb _ s l (hf i _ hi)⟩, B.kept⟩
  · exact (List.getElem?_eq_some_iff.1 hi).1
  · exact (List.getElem?_eq_some_iff.1 hj).1

/-- A set that is new in the place of another one. -/
theorem Hall.swap {s : Nat} {l : List Nat} {i : Nat} (B : Hall w0 w (L ++ [(s, l)]) keep) (hi : i < L.length) : Hall w0 w (L.set i (s, l)) keep := by
  refine B.choose (fun j => if j = i then L.length else j) (fun j x hj => ?_) (fun j k hj hk e => ?_)
  · by_cases e : j = i
    · subst e
      rw [List.getElem?_set_self hi] at hj
      simp only [if_true]
      rw [List.getElem?_append_right (Nat.le_refl _), Nat.sub_self]
      exact hj
    · rw [List.getElem?_set_ne (Ne.symm e)] at hj
      simp only [if_neg e]
      rw [List.getElem?_append_left (List.getElem?_eq_some_iff.1 hj).1]
      exact hj
  · rw [List.length_set] at hj hk
    split at e <;> split at e <;> omega

/-- A set more, in new blocks. -/
theorem Hall.more (B : Hall w0 w L keep) {s bm : Nat} {D : DataW Unit} {l : List Nat} (S : SetAt w' s bm D l) (h1 : w.heap.size ≤ s) (h2 : w.heap.size ≤ bm) (hb : Below w.heap.size w w') : Hall w0 w' (L ++ [(s, l)]) keep := by
  obtain ⟨F, f1, f2, f3⟩ := B.sets
  have hlt : ∀ i s l, L[i]? = some (s, l) → s < w.heap.size ∧ F i < w.heap.size := fun i s l hi => by
    obtain ⟨⟨D, S⟩, _⟩ := f1 i s l hi
    exact ⟨S.lts, S.ltm⟩
  have hsz := B.old.size
  have hcase : ∀ i t m, (L ++ [(s, l)])[i]? = some (t, m) → (i < L.length ∧ L[i]? = some (t, m)) ∨ (i = L.length ∧ t = s ∧ m = l) := fun i t m hi => by
    rcases Nat.lt_or_ge i L.length with h | h
    · rw [List.getElem?_append_left h] at hi
      exact Or.inl ⟨h, hi⟩
    · rw [List.getElem?_append_right h] at hi
      have h5 := (List.getElem?_eq_some_iff.1 hi).1
      simp at h5
      have h6 : i = L.length := by omega
      subst h6
      simp at hi
      exact Or.inr ⟨rfl, hi.1.symm, hi.2.symm⟩
  refine ⟨B.old.trans (hb.mono hsz), ⟨fun i => if i = L.length then bm else F i, fun i t m hi => ?_, fun i j si li sj lj hne hi hj => ?_, fun b hbk i t m hi => ?_⟩, fun b hbk => Nat.lt_of_lt_of_le (B.kept b hbk) hb.size⟩
  · rcases hcase i t m hi with ⟨h, hi⟩ | ⟨rfl, rfl, rfl⟩
    · obtain ⟨⟨D', S'⟩, h4⟩ := f1 i t m hi
      simp only [if_neg (Nat.ne_of_lt h)]
      exact ⟨⟨D', S'.below hb⟩, h4⟩
    · simp only [if_true]
      exact ⟨⟨D, S⟩, by omega, by omega⟩
  · rcases hcase i si li hi with ⟨h, gi⟩ | ⟨ei, rfl, rfl⟩ <;> rcases hcase j sj lj hj with ⟨h', gj⟩ | ⟨ej, rfl, rfl⟩
    · simp only [if_neg (Nat.ne_of_lt h), if_neg (Nat.ne_of_lt h')]
      exact f2 i j si li sj lj hne gi gj
    · simp only [if_neg (Nat.ne_of_lt h), if_pos ej]
      have := hlt _ _ _ gi
      omega
    · simp only [if_neg (Nat.ne_of_lt h'), if_pos ei]
      have := hlt _ _ _ gj
      omega
    · exact absurd (ei.trans ej.symm) hne
  · rcases hcase i t m hi with ⟨h, hi⟩ | ⟨rfl, rfl, rfl⟩
    · simp only [if_neg (Nat.ne_of_lt h)]
      exact f3 b hbk i t m hi
    · simp only [if_true]
      have hb2 := B.kept b hbk
      omega

/-- A set turns: what it is, and how to go on. -/
theorem Hall.turn (B : Hall w0 w L keep) {i s : Nat} {l : List Nat} (hi : L[i]? = some (s, l)) : ∃ bm D, SetAt w s bm D l ∧ (∀ j t o, j ≠ i → L[j]? = some (t, o) → ∃ bo Do, SetAt w t bo Do o ∧ s ≠ t ∧ bm ≠ bo) ∧
    ∀ w' bm' D' l', SetAt w' s bm' D' l' → (bm' = bm ∨ w.heap.size ≤ bm') → Touch w w' (Mine s bm) → Hall w0 w' (L.set i (s, l')) keep ∧ Keeps keep w w' := by
  obtain ⟨F, f1, f2, f3⟩ := B.sets
  obtain ⟨⟨D, S⟩, g1, g2⟩ := f1 i s l hi
  refine ⟨F i, D, S, fun j t o hj hjt => ?_, fun w' bm' D' l' S' hbm ht => ?_⟩
  · obtain ⟨⟨Do, T⟩, _⟩ := f1 j t o hjt
    have := f2 i j s l t o (Ne.symm hj) hi hjt
    exact ⟨F j, Do, T, this.1, this.2⟩
  · have hlt : i < L.length := (List.getElem?_eq_some_iff.1 hi).1
    have hsz := B.old.size
    have hcase : ∀ j t m, (L.set i (s, l'))[j]? = some (t, m) → (j ≠ i ∧ L[j]? = some (t, m)) ∨ (j = i ∧ s = t ∧ l' = m) := fun j t m hj => by
      by_cases e : j = i
      · subst e
        rw [List.getElem?_set_self hlt] at hj
        simp at hj
        exact Or.inr ⟨rfl, hj.1, hj.2⟩
      · rw [List.getElem?_set_ne (Ne.symm e)] at hj
        exact Or.inl ⟨e, hj⟩
    have hbm0 : w0.heap.size ≤ bm' := by rcases hbm with h | h <;> omega
    refine ⟨⟨B.old.trans (ht.below hsz (fun k hk h => by rcases h with h | h <;> omega)), ⟨fun j => if j = i then bm' else F j, fun j t m hj => ?_, fun j k sj lj sk lk hne hj hk => ?_, fun b hbk j t m hj => ?_⟩, fun b hbk => Nat.lt_of_lt_of_le (B.kept b hbk) ht.size⟩,
      ht.mono (fun k _ hk hkeep => by have h5 := f3 k hkeep i s l hi; rcases hk with h | h; exact h5.1 h; exact h5.2 h)⟩
    · rcases hcase j t m hj with ⟨e, gj⟩ | ⟨ej, rfl, rfl⟩
      · obtain ⟨⟨D'', S''⟩, h4⟩ := f1 j t m gj
        simp only [if_neg e]
        have h5 := f2 i j s l t m (Ne.symm e) hi gj
        have h6 := S.apart S''
        have h7 := S''.apart S
        exact ⟨⟨D'', S''.kept ht (fun k hk h => by rcases hk with rfl | rfl <;> rcases h with h | h <;> omega)⟩, h4⟩
      · simp only [if_pos ej]
        exact ⟨⟨D', S'⟩, g1, hbm0⟩
    · rcases hcase j sj lj hj with ⟨e, gj⟩ | ⟨ej, rfl, rfl⟩ <;> rcases hcase k sk lk hk with ⟨e', gk⟩ | ⟨ek, rfl, rfl⟩
      · simp only [if_neg e, if_neg e']
        exact f2 j k sj lj sk lk hne gj gk
      · simp only [if_neg e, if_pos ek]
        obtain ⟨⟨D'', S''⟩, _⟩ := f1 j sj lj gj
        have h5 := f2 j i sj lj s l e gj hi
        have h6 := S''.ltm
        refine ⟨h5.1, ?_⟩
        rcases hbm with h | h
        · rw [h]; exact h5.2
        · omega
      · simp only [if_neg e', if_pos ej]
        obtain ⟨⟨D'', S''⟩, _⟩ := f1 k sk lk gk
        have h5 := f2 i k s l sk lk (Ne.symm e') hi gk
        have h6 := S''.ltm
        refine ⟨h5.1, ?_⟩
        rcases hbm with h | h
        · rw [h]; exact h5.2
        · omega
      · exact absurd (ej.trans ek.symm) hne
    · rcases hcase j t m hj with ⟨e, gj⟩ | ⟨ej, rfl, rfl⟩
      · simp only [if_neg e]
        exact f3 b hbk j t m gj
      · simp only [if_pos ej]
        have h5 := f3 b hbk i s l hi
        have h6 := B.kept b hbk
        refine ⟨h5.1, ?_⟩
        rcases hbm with h | h
        · rw [h]; exact h5.2
        · omega

theorem keeps_below {w w' : World} (keep : Nat → Prop) (h : Below w.heap.size w w') : Keeps keep w w' := Touch.of_below h _
end

section
variable {w0 w w' : World} {L : List (Nat × List Nat)} {keep : Nat → Prop} {i j s t : Nat} {l o : List Nat}

theorem hall_new {f : Nat} {args : Array Value} (B : Hall w0 w L keep) (h : Calls Tryd.prog f args w fun e w' => NewSet w w' e l) : Calls Tryd.prog f args w fun e w' => ∃ s, e = .returned (ptr s) ∧ Hall w0 w' (L ++ [(s, l)]) keep ∧ Below w.heap.size w w' ∧ w.heap.size ≤ s :=
  h.mono fun _ _ ⟨sb, _, _, he, h1, h2, S, hb⟩ => ⟨sb, he, B.more S h1 h2 hb, hb, h1⟩

theorem hall_of (B : Hall w0 w L keep) {v : Value} {xs : List Int} (hs : RdI w v xs) (hx : ∀ x ∈ xs, x < 9223372036854775808) (hlen : xs.length ≤ 1000000) : Calls Tryd.prog 6 #[v] w fun e w' => ∃ s, e = .returned (ptr s) ∧ Hall w0 w' (L ++ [(s, numsOf xs)]) keep ∧ Below w.heap.size w w' ∧ w.heap.size ≤ s :=
  (of_any hs hx hlen).mono fun _ _ ⟨he, ⟨_, S⟩, hb⟩ => ⟨_, he, B.more S (Nat.le_succ _) (Nat.le_refl _) hb, hb, Nat.le_succ _⟩

theorem hall_of_none (B : Hall w0 w L keep) : Calls Tryd.prog 6 #[.slice none 0 0] w fun e w' => ∃ s, e = .returned (ptr s) ∧ Hall w0 w' (L ++ [(s, [])]) keep ∧ Below w.heap.size w w' ∧ w.heap.size ≤ s :=
  (of_none w).mono fun _ _ ⟨he, ⟨_, S⟩, hb⟩ => ⟨_, he, B.more S (Nat.le_succ _) (Nat.le_refl _) hb, hb, Nat.le_succ _⟩

theorem hall_add (B : Hall w0 w L keep) (hi : L[i]? = some (s, l)) {x : Int} (hx : x < 9223372036854775808) (hlen : l.length ≤ 1000000) : Calls Tryd.prog 15 #[ptr s, .int .i64 x] w fun e w' => e = .returned (.bool (decide (0 ≤ x ∧ x.toNat ∉ l))) ∧ Hall w0 w' (L.set i (s, plusN l x)) keep ∧ Keeps keep w w' := by
  obtain ⟨bm, D, S, _, hgo⟩ := B.turn hi
  exact (add_any S hx hlen).mono fun _ w' ⟨he, ⟨_, S'⟩, ht⟩ => ⟨he, hgo w' _ _ _ S' (Or.inl rfl) ht⟩

theorem hall_union (B : Hall w0 w L keep) (hi : L[i]? = some (s, l)) (hj : L[j]? = some (t, o)) (hne : j ≠ i) (hlen : l.length + o.length ≤ 1000000) : Calls Tryd.prog 19 #[ptr s, ptr t] w fun e w' => e = .returned (.bool (decide (l.length < (uni l o).length))) ∧ Hall w0 w' (L.set i (s, uni l o)) keep ∧ Keeps keep w w' := by
  obtain ⟨bm, D, S, hoth, hgo⟩ := B.turn hi
  obtain ⟨bo, Do, T, h1, h2⟩ := hoth j t o hne hj
  exact (union_any S T h1 h2 hlen).mono fun _ w' ⟨he, ⟨_, S'⟩, ht⟩ => ⟨he, hgo w' _ _ _ S' (Or.inl rfl) ht⟩

theorem hall_same (B : Hall w0 w L keep) (hi : L[i]? = some (s, l)) (hj : L[j]? = some (t, o)) : Calls Tryd.prog 17 #[ptr s, ptr t] w fun e w' => e = .returned (.bool (alike l o)) ∧ Below w.heap.size w w' := same_a (B.aset hi) (B.aset hj)

theorem hall_in (B : Hall w0 w L keep) (hi : L[i]? = some (s, l)) (hj : L[j]? = some (t, o)) : Calls Tryd.prog 26 #[ptr s, ptr t] w fun e w' => e = .returned (.bool (decide (∀ n ∈ l, n ∈ o))) ∧ Below w.heap.size w w' := in_a (B.aset hi) (B.aset hj)

theorem hall_len (B : Hall w0 w L keep) (hi : L[i]? = some (s, l)) : Calls Tryd.prog 16 #[ptr s] w fun e w' => e = .returned (.int .i64 l.length) ∧ w' = w := len_a (B.aset hi)
end
end Go.Proofs.YtdpmpppafkefoaaDoor
