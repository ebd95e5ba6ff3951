/- Components' numbers, circles, the graph of components, its order: what they are. -/
import Derived.Test.YtedleliddhhacaaSComps
namespace Go.Proofs.Ytedleliddhhacaa

/-- How many kinds there are among the first ones. -/
def cntM (m : Nat → Int) (i : Nat) : Nat := (keysOf ((List.range i).map m)).length
theorem cntM_zero (m : Nat → Int) : cntM m 0 = 0 := rfl
theorem mem_rangeM {m : Nat → Int} {i : Nat} {z : Int} : z ∈ (List.range i).map m ↔ ∃ j, j < i ∧ m j = z := by simp
theorem cntM_new {m : Nat → Int} {x : Nat} (h : ∀ j, j < x → m j ≠ m x) : cntM m (x + 1) = cntM m x + 1 := by
  unfold cntM
  rw [List.range_succ, List.map_append, List.map_singleton, keysOf_snoc, if_neg, List.length_append, List.length_singleton]
  rw [mem_keysOf, mem_rangeM]
  rintro ⟨j, hj, e⟩
  exact h j hj e
theorem cntM_old {m : Nat → Int} {x j : Nat} (hj : j < x) (h : m j = m x) : cntM m (x + 1) = cntM m x := by
  unfold cntM
  rw [List.range_succ, List.map_append, List.map_singleton, keysOf_snoc, if_pos]
  rw [mem_keysOf, mem_rangeM]
  exact ⟨j, hj, h⟩
theorem cntM_mono {m : Nat → Int} {i j : Nat} (h : i ≤ j) : cntM m i ≤ cntM m j := by
  induction h with
  | refl => exact Nat.le_refl _
  | @step j h ih =>
    by_cases hx : ∃ k, k < j ∧ m k = m j
    · obtain ⟨k, h1, h2⟩ := hx
      rw [Nat.succ_eq_add_one, cntM_old h1 h2]; exact ih
    · rw [Nat.succ_eq_add_one, cntM_new (fun k h1 h2 => hx ⟨k, h1, h2⟩)]; omega
theorem cntM_le (m : Nat → Int) (i : Nat) : cntM m i ≤ i := by
  have := keysOf_len ((List.range i).map m)
  simpa [cntM] using this
section
variable {n : Nat} {m : Nat → Int} {x y : Nat}
theorem numF_at (hx : x < n) : numF n m x = (place (keysOf ((List.range (x + 1)).map m)) (m x) : Nat) := by
  unfold numF
  have e : (List.range n).map m = (List.range (x + 1)).map m ++ ((List.range n).map m).drop (x + 1) := by
    have h1 : ((List.range n).map m).take (x + 1) = (List.range (x + 1)).map m := by
      rw [← List.map_take, List.take_range, Nat.min_eq_left (by omega)]
    rw [← h1, List.take_append_drop]
  rw [e, ← place_app (mem_rangeM.2 ⟨x, by omega, rfl⟩)]
theorem numF_eq (hx : x < n) (hy : y < n) : numF n m x = numF n m y ↔ m x = m y := by
  unfold numF
  constructor
  · intro h
    exact place_inj ((mem_keysOf _ _).2 (mem_rangeM.2 ⟨x, hx, rfl⟩)) ((mem_keysOf _ _).2 (mem_rangeM.2 ⟨y, hy, rfl⟩)) (by omega)
  · intro h
    rw [h]
theorem numF_new (hx : x < n) (h : ∀ j, j < x → m j ≠ m x) : numF n m x = cntM m x := by
  rw [numF_at hx, List.range_succ, List.map_append, List.map_singleton, keysOf_snoc, if_neg, place_new]
  · rfl
  · rw [mem_keysOf, mem_rangeM]
    rintro ⟨j, hj, e⟩
    exact h j hj e
  · rw [mem_keysOf, mem_rangeM]
    rintro ⟨j, hj, e⟩
    exact h j hj e
theorem numF_lt {i : Nat} (hi : i ≤ n) (hx : x < i) : 0 ≤ numF n m x ∧ numF n m x < cntM m i := by
  rw [numF_at (by omega)]
  have h1 := place_lt ((mem_keysOf _ _).2 (mem_rangeM (m := m) (i := x + 1) (z := m x) |>.2 ⟨x, by omega, rfl⟩))
  have h2 : cntM m (x + 1) ≤ cntM m i := cntM_mono hx
  unfold cntM at h2 ⊢
  omega
theorem numF_onto {c : Nat} (hc : c < cntM m n) : ∃ x, x < n ∧ numF n m x = c := by
  unfold cntM at hc
  have h1 := List.getElem_mem hc
  rw [mem_keysOf, mem_rangeM] at h1
  obtain ⟨x, hx, e⟩ := h1
  refine ⟨x, hx, ?_⟩
  unfold numF
  rw [place_of (nodup_keysOf _) (by rw [e]; exact List.getElem?_eq_getElem hc)]
end
theorem kernel_cnt {n : Nat} {m m' : Nat → Int} (h : ∀ x y, x < n → y < n → (m x = m y ↔ m' x = m' y)) : ∀ i, i ≤ n → cntM m i = cntM m' i := by
  intro i
  induction i with
  | zero => intro _; rfl
  | succ i ih =>
    intro hi
    have ih := ih (by omega)
    by_cases hx : ∃ k, k < i ∧ m k = m i
    · obtain ⟨k, h1, h2⟩ := hx
      rw [cntM_old h1 h2, cntM_old h1 ((h k i (by omega) (by omega)).1 h2), ih]
    · rw [cntM_new (fun k h1 h2 => hx ⟨k, h1, h2⟩), cntM_new (fun k h1 h2 => hx ⟨k, h1, (h k i (by omega) (by omega)).2 h2⟩), ih]
theorem kernel_num {n : Nat} {m m' : Nat → Int} (h : ∀ x y, x < n → y < n → (m x = m y ↔ m' x = m' y)) : ∀ x, x < n → numF n m x = numF n m' x := by
  intro x
  induction x using Nat.strongRecOn with
  | _ x ih =>
    intro hx
    by_cases hk : ∃ k, k < x ∧ m k = m x
    · obtain ⟨k, h1, h2⟩ := hk
      rw [← (numF_eq (by omega) hx).2 h2, ← (numF_eq (by omega) hx).2 ((h k x (by omega) hx).1 h2)]
      exact ih k h1 (by omega)
    · rw [numF_new hx (fun k h1 h2 => hk ⟨k, h1, h2⟩), numF_new hx (fun k h1 h2 => hk ⟨k, h1, (h k x (by omega) hx).2 h2⟩), kernel_cnt h x (by omega)]

/-- Marks that tell circles apart. -/
def Marks (L : List (List Int)) (m : Nat → Int) : Prop := ∀ x y, x < L.length → y < L.length → (m x = m y ↔ SC L x y)
theorem Marks.kernel {L : List (List Int)} {m m' : Nat → Int} (h : Marks L m) (h' : Marks L m') : ∀ x y, x < L.length → y < L.length → (m x = m y ↔ m' x = m' y) := fun x y hx hy => (h x y hx hy).trans (h' x y hx hy).symm

/-- A node lies on a circle. -/
def cycP (L : List (List Int)) (x : Nat) : Prop := (∃ y, y ≠ x ∧ SC L x y) ∨ Edge L x x
theorem way_first {L : List (List Int)} {a b : Nat} (h : Way L a b) : a = b ∨ ∃ z, Edge L a z ∧ Way L z b := by
  induction h with
  | refl _ => exact .inl rfl
  | @step b c hw e ih =>
    rcases ih with rfl | ⟨z, h1, h2⟩
    · exact .inr ⟨c, e, .refl e.lt.2⟩
    · exact .inr ⟨z, h1, .step h2 e⟩
theorem cycP_iff {L : List (List Int)} {x : Nat} : cycP L x ↔ ∃ z, Edge L x z ∧ Way L z x := by
  constructor
  · rintro (⟨y, hy, h1, h2⟩ | h)
    · rcases way_first h1 with e | ⟨z, g1, g2⟩
      · exact absurd e.symm hy
      · exact ⟨z, g1, g2.trans h2⟩
    · exact ⟨x, h, .refl h.lt.1⟩
  · rintro ⟨z, h1, h2⟩
    by_cases hz : z = x
    · subst hz; exact .inr h1
    · exact .inl ⟨z, hz, .step (.refl h1.lt.1) h1, h2⟩

/-- A graph in form. -/
def FormG (F : List (List Int)) : Prop := ∀ r ∈ F, r.Pairwise (· < ·) ∧ ∀ x ∈ r, 0 ≤ x ∧ x < F.length
/-- The graph of components. -/
structure FoldOf (L : List (List Int)) (m : Nat → Int) (F : List (List Int)) : Prop where
  len : F.length = cntM m L.length
  form : FormG F
  edge : ∀ a b, Edge F a b ↔ a ≠ b ∧ ∃ i x, Edge L i x ∧ numF L.length m i = a ∧ numF L.length m x = b
theorem FoldOf.det {L F F' : List (List Int)} {m m' : Nat → Int} (hm : Marks L m) (hm' : Marks L m') (h : FoldOf L m F) (h' : FoldOf L m' F') : F = F' := by
  have hk := hm.kernel hm'
  refine form_ext (by rw [h.len, h'.len, kernel_cnt hk _ (Nat.le_refl _)]) h.form h'.form (fun a b => ?_)
  rw [h.edge, h'.edge]
  constructor
  · rintro ⟨h1, i, x, h2, h3, h4⟩
    exact ⟨h1, i, x, h2, by rw [← kernel_num hk i h2.lt.1, h3], by rw [← kernel_num hk x h2.lt.2, h4]⟩
  · rintro ⟨h1, i, x, h2, h3, h4⟩
    exact ⟨h1, i, x, h2, by rw [kernel_num hk i h2.lt.1, h3], by rw [kernel_num hk x h2.lt.2, h4]⟩
/-- A way of components comes of a way of nodes. -/
theorem FoldOf.way {L F : List (List Int)} {m : Nat → Int} (hm : Marks L m) (h : FoldOf L m F) {a b : Nat} (hw : Way F a b) : ∀ i x, i < L.length → x < L.length → numF L.length m i = a → numF L.length m x = b → Way L i x := by
  induction hw with
  | refl _ =>
    intro i x hi hx h1 h2
    exact ((hm i x hi hx).1 ((numF_eq hi hx).1 (h1.trans h2.symm))).1
  | @step b c hw e ih =>
    intro i x hi hx h1 h2
    obtain ⟨_, j, y, h3, h4, h5⟩ := (h.edge b c).1 e
    have h6 := ih i j hi h3.lt.1 h1 h4
    have h7 := ((hm y x h3.lt.2 hx).1 ((numF_eq h3.lt.2 hx).1 (h5.trans h2.symm))).1
    exact (Way.step h6 h3).trans h7
/-- It has no circles. -/
theorem FoldOf.apart {L F : List (List Int)} {m : Nat → Int} (hm : Marks L m) (h : FoldOf L m F) {a b : Nat} (h1 : Way F a b) (h2 : Way F b a) : a = b := by
  have ha := h1.lt.1
  have hb := h1.lt.2
  rw [h.len] at ha hb
  obtain ⟨i, hi, e1⟩ := numF_onto ha
  obtain ⟨x, hx, e2⟩ := numF_onto hb
  have g1 := h.way hm h1 i x hi hx e1 e2
  have g2 := h.way hm h2 x i hx hi e2 e1
  have := (numF_eq hi hx).2 ((hm i x hi hx).2 ⟨g1, g2⟩)
  omega

/-- A component comes next. -/
def Free (F : List (List Int)) (p : List Nat) (c : Nat) : Prop := c < F.length ∧ c ∉ p ∧ ∀ a, Edge F a c → a ∈ p
/-- The order: always the least that is free. -/
structure OrdOf (F : List (List Int)) (o : List Nat) : Prop where
  len : o.length = F.length
  next : ∀ i c, o[i]? = some c → Free F (o.take i) c ∧ ∀ c', c' < c → ¬ Free F (o.take i) c'
theorem OrdOf.det {F : List (List Int)} {o o' : List Nat} (h : OrdOf F o) (h' : OrdOf F o') : o = o' := by
  have key : ∀ i, o.take i = o'.take i := by
    intro i
    induction i with
    | zero => simp
    | succ i ih =>
      rcases Nat.lt_or_ge i F.length with hi | hi
      · obtain ⟨c, hc⟩ : ∃ c, o[i]? = some c := ⟨_, List.getElem?_eq_getElem (by rw [h.len]; exact hi)⟩
        obtain ⟨d, hd⟩ : ∃ d, o'[i]? = some d := ⟨_, List.getElem?_eq_getElem (by rw [h'.len]; exact hi)⟩
        have g1 := h.next i c hc
        have g2 := h'.next i d hd
        rw [← ih] at g2
        have : c = d := by
          rcases Nat.lt_trichotomy c d with hlt | e | hlt
          · exact absurd g1.1 (g2.2 c hlt)
          · exact e
          · exact absurd g2.1 (g1.2 d hlt)
        rw [List.take_add_one, List.take_add_one, hc, hd, ih, this]
      · rw [List.take_of_length_le (by rw [h.len]; omega), List.take_of_length_le (by rw [h'.len]; omega)]
        have e1 := ih
        rwa [List.take_of_length_le (by rw [h.len]; omega), List.take_of_length_le (by rw [h'.len]; omega)] at e1
  have := key (max o.length o'.length)
  rwa [List.take_of_length_le (by omega), List.take_of_length_le (by omega)] at this
/-- While not all are out one is free. -/
theorem free_one {F : List (List Int)} (hF : ∀ a b, Way F a b → Way F b a → a = b) (hs : ∀ a, ¬ Edge F a a) {p : List Nat} {b : Nat} (hb : b < F.length) (hp : b ∉ p) : ∃ c, Free F p c := by
  classical
  have key : ∀ (k b : Nat), b < F.length → b ∉ p → ((List.range F.length).filter (fun a => decide (Way F a b ∧ a ∉ p))).length ≤ k → ∃ c, Free F p c := by
    intro k
    induction k with
    | zero =>
      intro b hb hp hk
      have : b ∈ (List.range F.length).filter (fun a => decide (Way F a b ∧ a ∉ p)) := List.mem_filter.2 ⟨List.mem_range.2 hb, by simpa using ⟨.refl hb, hp⟩⟩
      rw [List.eq_nil_of_length_eq_zero (Nat.le_zero.1 hk)] at this
      cases this
    | succ k ih =>
      intro b hb hp hk
      by_cases hf : ∀ a, Edge F a b → a ∈ p
      · exact ⟨b, hb, hp, hf⟩
      · simp only [Classical.not_forall] at hf
        obtain ⟨a, e, ha⟩ := hf
        refine ih a e.lt.1 ha ?_
        have hnab : ¬ Way F b a := fun h => hs a (by
          have := hF a b (.step (.refl e.lt.1) e) h
          rw [← this] at e
          exact e)
        have hlt : ∀ l : List Nat, (l.filter (fun x => decide (Way F x a ∧ x ∉ p))).length ≤ (l.filter (fun x => decide (Way F x b ∧ x ∉ p))).length ∧ (b ∈ l → (l.filter (fun x => decide (Way F x a ∧ x ∉ p))).length < (l.filter (fun x => decide (Way F x b ∧ x ∉ p))).length) := by
          intro l
          induction l with
          | nil => simp
          | cons x l ih2 =>
            rw [List.filter_cons, List.filter_cons]
            by_cases h1 : Way F x a ∧ x ∉ p
            · have h2 : Way F x b ∧ x ∉ p := ⟨.step h1.1 e, h1.2⟩
              rw [if_pos (by simpa using h1), if_pos (by simpa using h2)]
              refine ⟨by simpa using ih2.1, fun hm => ?_⟩
              rcases List.mem_cons.1 hm with rfl | hm
              · exact absurd h1.1 hnab
              · simpa using ih2.2 hm
            · rw [if_neg (by simpa using h1)]
              by_cases h2 : Way F x b ∧ x ∉ p
              · rw [if_pos (by simpa using h2)]
                have := ih2.1
                exact ⟨by rw [List.length_cons]; omega, fun _ => by rw [List.length_cons]; omega⟩
              · rw [if_neg (by simpa using h2)]
                refine ⟨ih2.1, fun hm => ?_⟩
                rcases List.mem_cons.1 hm with rfl | hm
                · exact absurd ⟨.refl hb, hp⟩ h2
                · exact ih2.2 hm
        have := (hlt (List.range F.length)).2 (List.mem_range.2 hb)
        omega
  exact key _ b hb hp (Nat.le_refl _)
end Go.Proofs.Ytedleliddhhacaa
