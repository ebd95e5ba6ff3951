/- A region that draws its order and only makes new things: one rule for all orders. Each operation, whenever the ones that it waits for are done, makes a value of its own kind and keeps what lay there: then so does the region. -/
import Derived.Test.YtedleliddhhacaaTab
import Derived.Orders
namespace Go.Proofs.Ytedleliddhhacaa
open Go.RowKit

section
variable {P : Program} {ops : Array Oper} {Q : Exit → Act → World → Prop}
/-- What stands after some operations: everything of old as it was; the slot of each that is done has its value. -/
structure Grown (ops : Array Oper) (V : Nat → World → Value → Prop) (a0 : Act) (w0 : World) (listed : Array Bool) (a : Act) (w : World) : Prop where
  size : listed.size = ops.size
  defers : a.defers = a0.defers
  slots : a.tmps.size = a0.tmps.size
  low : Below w0.heap.size w0 w
  rest : ∀ d, (∀ (k : Nat) (o : Oper), ops[k]? = some o → listed[k]? = some true → o.dst ≠ some d) → a.tmps[d]? = a0.tmps[d]?
  done : ∀ (k : Nat) (o : Oper) (d : Nat), ops[k]? = some o → listed[k]? = some true → o.dst = some d → ∃ v, a.tmps[d]? = some v ∧ V k w v

/-- How many are not done. -/
def undone (listed : Array Bool) : Nat := listed.toList.count false
theorem undone_set {listed : Array Bool} {i : Nat} (h : listed[i]? = some false) : undone (listed.setIfInBounds i true) + 1 = undone listed := by
  obtain ⟨hlt, e⟩ := Array.getElem?_eq_some_iff.1 h
  unfold undone
  have hl : i < listed.toList.length := by simpa using hlt
  have e2 : listed.toList[i] = false := by simpa using e
  have hm : false ∈ listed.toList := by rw [← e2]; exact List.getElem_mem hl
  have hp : 0 < listed.toList.count false := List.count_pos_iff.2 hm
  rw [Array.toList_setIfInBounds, List.count_set hl, e2, if_pos (by rfl), if_neg (by decide)]
  omega
theorem Grown.go {V : Nat → World → Value → Prop} {a0 : Act} {w0 : World} {listed : Array Bool} {a : Act} {w w' : World} {i : Nat} {o : Oper} {v : Value} (H : Grown ops V a0 w0 listed a w)
    (hV : ∀ (i : Nat) (w w' : World) (v : Value), V i w v → Below w.heap.size w w' → V i w' v)
    (hg : ∀ (i : Nat) (o : Oper), ops[i]? = some o → o.guard = none ∧ ∃ d, o.dst = some d ∧ d < a0.tmps.size)
    (hd : ∀ (i j : Nat) (o o' : Oper), ops[i]? = some o → ops[j]? = some o' → o.dst = o'.dst → i = j)
    (ho : ops[i]? = some o) (hi : listed[i]? = some false) (hb : Below w.heap.size w w') (hv : V i w' v) : Grown ops V a0 w0 (listed.setIfInBounds i true) (a.put o.dst v) w' := by
  obtain ⟨-, d, hod, hds⟩ := hg i o ho
  have hput : (a.put o.dst v).tmps = a.tmps.setIfInBounds d v := by rw [hod]; rfl
  have hlt := (Array.getElem?_eq_some_iff.1 hi).1
  refine ⟨by simpa using H.size, by rw [hod]; exact H.defers, by rw [hput]; simpa using H.slots, H.low.trans (hb.mono H.low.size), fun e he => ?_, fun k o' e hk hl he => ?_⟩
  · have hne : e ≠ d := fun h => he i o ho (by rw [Array.getElem?_setIfInBounds_self_of_lt hlt]) (by rw [hod, h])
    rw [hput, Array.getElem?_setIfInBounds_ne (fun h => hne h.symm)]
    refine H.rest e (fun k o' hk hl => he k o' hk ?_)
    by_cases hki : k = i
    · subst hki
      rw [Array.getElem?_setIfInBounds_self_of_lt hlt]
    · rw [Array.getElem?_setIfInBounds_ne (fun h => hki h.symm)]
      exact hl
  · by_cases hki : k = i
    · subst hki
      rw [ho] at hk
      obtain rfl := Option.some.inj hk
      rw [hod] at he
      obtain rfl := Option.some.inj he
      exact ⟨v, by rw [hput, Array.getElem?_setIfInBounds_self_of_lt (by rw [H.slots]; exact hds)], hv⟩
    · rw [Array.getElem?_setIfInBounds_ne (fun h => hki h.symm)] at hl
      obtain ⟨u, hu, hu2⟩ := H.done k o' e hk hl he
      have hne : e ≠ d := fun h => hki (hd k i o' o hk ho (by rw [he, hod, h]))
      exact ⟨u, by rw [hput, Array.getElem?_setIfInBounds_ne (fun h => hne h.symm)]; exact hu, hV _ _ _ _ hu2 hb⟩

theorem Grown.go' {V : Nat → World → Value → Prop} {a0 : Act} {w0 : World} {listed : Array Bool} {a : Act} {w w' : World} {i : Nat} {o : Oper} {v : Value} (H : Grown ops V a0 w0 listed a w)
    (hV : ∀ (i : Nat) (w w' : World) (v : Value), V i w v → Below w.heap.size w w' → V i w' v)
    (hg : ∃ d, o.dst = some d ∧ d < a0.tmps.size)
    (hd : ∀ (j : Nat) (o' : Oper), ops[j]? = some o' → listed[j]? = some true → o'.dst = o.dst → j = i)
    (ho : ops[i]? = some o) (hi : listed[i]? = some false) (hb : Below w.heap.size w w') (hv : V i w' v) : Grown ops V a0 w0 (listed.setIfInBounds i true) (a.put o.dst v) w' := by
  obtain ⟨d, hod, hds⟩ := hg
  have hput : (a.put o.dst v).tmps = a.tmps.setIfInBounds d v := by rw [hod]; rfl
  have hlt := (Array.getElem?_eq_some_iff.1 hi).1
  refine ⟨by simpa using H.size, by rw [hod]; exact H.defers, by rw [hput]; simpa using H.slots, H.low.trans (hb.mono H.low.size), fun e he => ?_, fun k o' e hk hl he => ?_⟩
  · have hne : e ≠ d := fun h => he i o ho (by rw [Array.getElem?_setIfInBounds_self_of_lt hlt]) (by rw [hod, h])
    rw [hput, Array.getElem?_setIfInBounds_ne (fun h => hne h.symm)]
    refine H.rest e (fun k o' hk hl => he k o' hk ?_)
    by_cases hki : k = i
    · subst hki
      rw [Array.getElem?_setIfInBounds_self_of_lt hlt]
    · rw [Array.getElem?_setIfInBounds_ne (fun h => hki h.symm)]
      exact hl
  · by_cases hki : k = i
    · subst hki
      rw [ho] at hk
      obtain rfl := Option.some.inj hk
      rw [hod] at he
      obtain rfl := Option.some.inj he
      exact ⟨v, by rw [hput, Array.getElem?_setIfInBounds_self_of_lt (by rw [H.slots]; exact hds)], hv⟩
    · rw [Array.getElem?_setIfInBounds_ne (fun h => hki h.symm)] at hl
      obtain ⟨u, hu, hu2⟩ := H.done k o' e hk hl he
      have hne : e ≠ d := fun h => hki (hd k o' hk hl (by rw [he, hod, h]))
      exact ⟨u, by rw [hput, Array.getElem?_setIfInBounds_ne (fun h => hne h.symm)]; exact hu, hV _ _ _ _ hu2 hb⟩

theorem wp_region_grows {V : Nat → World → Value → Prop} {id : Nat} {a0 : Act} {w0 : World} (hm : P.follows .mixedOrders = true)
    (hV : ∀ (i : Nat) (w w' : World) (v : Value), V i w v → Below w.heap.size w w' → V i w' v)
    (hg : ∀ (i : Nat) (o : Oper), ops[i]? = some o → o.guard = none ∧ ∃ d, o.dst = some d ∧ d < a0.tmps.size)
    (hd : ∀ (i j : Nat) (o o' : Oper), ops[i]? = some o → ops[j]? = some o' → o.dst = o'.dst → i = j)
    (he : ∀ (i : Nat) (o : Oper), ops[i]? = some o → ∀ e ∈ o.after, Region.binds .any e = true → e.on < i)
    (hstep : ∀ (i : Nat) (o : Oper) (listed : Array Bool) (a : Act) (w : World), ops[i]? = some o → Grown ops V a0 w0.drew listed a w → (∀ e ∈ o.after, Region.binds .any e = true → listed[e.on]? = some true) →
      o.wp P a w (fun a' w' => ∃ v, a' = a.put o.dst v ∧ Below w.heap.size w w' ∧ V i w' v) Q)
    (hend : ∀ (a : Act) (w : World), Grown ops V a0 w0.drew (Array.replicate ops.size true) a w → Q .normal a w) :
    (Code.region id ops true).wp P Q a0 w0 := by
  refine wp_region_any hm ?_
  have hall : ∀ (listed : Array Bool) (a : Act) (w : World), Grown ops V a0 w0.drew listed a w → Region.ready .any ops listed = [] → Q .normal a w := fun listed a w H hr => by
    have hlist : ∀ i, i < ops.size → listed[i]? = some true := by
      intro i
      induction i using Nat.strongRecOn with
      | ind i ih =>
        intro hi
        have hil : i < listed.size := by rw [H.size]; exact hi
        apply Classical.byContradiction
        intro hn
        have hf : listed.getD i true = false := by
          rw [Array.getElem?_eq_getElem hil] at hn
          simp only [Option.some.injEq, Bool.not_eq_true] at hn
          simp [Array.getD, hil, hn]
        have : i ∈ Region.ready .any ops listed := mem_ready.2 ⟨hf, ops[i], Array.getElem?_eq_getElem hi, fun e hem hbe => by
          have h1 := he i _ (Array.getElem?_eq_getElem hi) e hem hbe
          have h2 := ih e.on h1 (by omega)
          obtain ⟨h3, h4⟩ := Array.getElem?_eq_some_iff.1 h2
          simp [Array.getD, h3, h4]⟩
        rw [hr] at this
        cases this
    have hrep : listed = Array.replicate ops.size true := by
      apply Array.ext_getElem?
      intro i
      by_cases hi : i < ops.size
      · rw [hlist i hi, Array.getElem?_replicate, if_pos hi]
      · rw [Array.getElem?_eq_none (by rw [H.size]; omega), Array.getElem?_replicate, if_neg hi]
    rw [hrep] at H
    exact hend a w H
  have key : ∀ (fuel : Nat) (listed : Array Bool) (a : Act) (w : World), Grown ops V a0 w0.drew listed a w → undone listed ≤ fuel → wpAny P .any ops Q fuel listed a w := by
    intro fuel
    induction fuel with
    | zero =>
      intro listed a w H hu
      have hr : Region.ready .any ops listed = [] := by
        apply List.eq_nil_iff_forall_not_mem.2
        intro i hi
        obtain ⟨h1, o, h2, -⟩ := mem_ready.1 hi
        have hil : i < listed.size := by rw [H.size]; exact (Array.getElem?_eq_some_iff.1 h2).1
        have h3 : listed[i]? = some false := by
          rw [Array.getElem?_eq_getElem hil]
          simpa [Array.getD, hil] using h1
        have := undone_set h3
        omega
      exact ⟨hr, hall listed a w H hr⟩
    | succ fuel ih =>
      intro listed a w H hu
      refine ⟨fun hr => hall listed a w H hr, fun i hi => ?_⟩
      obtain ⟨h1, o, h2, h4⟩ := mem_ready.1 hi
      have hil : i < listed.size := by rw [H.size]; exact (Array.getElem?_eq_some_iff.1 h2).1
      have h3 : listed[i]? = some false := by
        rw [Array.getElem?_eq_getElem hil]
        simpa [Array.getD, hil] using h1
      have hw : Region.wanted o (yielded ops a.tmps) = true := by unfold Region.wanted; rw [(hg i o h2).1]
      unfold wpOp
      rw [h2]
      simp only [hw, if_true]
      refine .inl (Oper.wp_mono ?_ (hstep i o listed a w h2 H (fun e hem hbe => ?_)))
      · rintro a' w' ⟨v, rfl, hb, hv⟩
        exact ih _ _ _ (H.go hV hg hd h2 h3 hb hv) (by have := undone_set h3; omega)
      · have h5 := h4 e hem hbe
        have hlt : e.on < listed.size := by
          apply Classical.byContradiction
          intro hn
          simp [Array.getD, hn] at h5
        rw [Array.getElem?_eq_getElem hlt]
        simpa [Array.getD, hlt] using h5
  refine key _ _ _ _ ⟨by simp, rfl, rfl, Below.refl _ _, fun _ _ => rfl, fun k o d hk hl => ?_⟩ ?_
  · rw [Array.getElem?_replicate] at hl
    split at hl
    · cases hl
    · cases hl
  · unfold undone
    exact Nat.le_trans List.count_le_length (by simp)
/-- The side conditions, by the kernel. -/
def growB (ops : Array Oper) (n : Nat) : Bool := (List.range ops.size).all fun i => match ops[i]? with
  | none => true
  | some o => o.guard.isNone && (match o.dst with
    | some d => decide (d < n) && (List.range ops.size).all (fun j => match ops[j]? with
      | some o' => decide (i = j) || decide (o'.dst ≠ some d)
      | none => true)
    | none => false) && o.after.all (fun e => !Region.binds .any e || decide (e.on < i))
theorem growB_at {ops : Array Oper} {n i : Nat} {o : Oper} (h : growB ops n = true) (ho : ops[i]? = some o) :
    (o.guard = none ∧ ∃ d, o.dst = some d ∧ d < n) ∧ (∀ j o', ops[j]? = some o' → o.dst = o'.dst → i = j) ∧ ∀ e ∈ o.after, Region.binds .any e = true → e.on < i := by
  unfold growB at h
  rw [List.all_eq_true] at h
  have h1 := h i (List.mem_range.2 (Array.getElem?_eq_some_iff.1 ho).1)
  simp only [ho, Bool.and_eq_true] at h1
  obtain ⟨⟨h2, h3⟩, h4⟩ := h1
  rcases hd : o.dst with _ | d
  · simp [hd] at h3
  · simp only [hd, Bool.and_eq_true, decide_eq_true_eq, List.all_eq_true] at h3
    refine ⟨⟨by simpa using h2, d, rfl, h3.1⟩, fun j o' hj he => ?_, fun e hem hbe => ?_⟩
    · have h5 := h3.2 j (List.mem_range.2 (Array.getElem?_eq_some_iff.1 hj).1)
      simp only [hj, Bool.or_eq_true, decide_eq_true_eq] at h5
      rcases h5 with h5 | h5
      · exact h5
      · exact absurd he.symm h5
    · rw [Array.all_eq_true_iff_forall_mem] at h4
      have h5 := h4 e hem
      simpa [hbe] using h5
/-- The first m are done, no other. -/
def listM (m n : Nat) : Array Bool := ((List.range n).map fun k => decide (k < m)).toArray
theorem listM_undone (m : Nat) : ∀ n, undone (listM m n) = n - m
  | 0 => by simp [undone, listM]
  | n + 1 => by
    have ih := listM_undone m n
    unfold undone listM at ih ⊢
    simp only [List.range_succ, List.map_append, List.map_cons, List.map_nil, List.count_append] at ih ⊢
    rw [ih]
    by_cases h : n < m
    · simp [h]; omega
    · simp [h]; omega
theorem listM_at {m n k : Nat} (hk : k < n) : (listM m n)[k]? = some (decide (k < m)) := by simp [listM, hk]
/-- The rule for a region whose first m operations make new things and whose others wait for them all. -/
theorem wp_region_grows_to {V : Nat → World → Value → Prop} {id m : Nat} {a0 : Act} {w0 : World} (hm : P.follows .mixedOrders = true) (hmn : m ≤ ops.size)
    (hV : ∀ (i : Nat) (w w' : World) (v : Value), V i w v → Below w.heap.size w w' → V i w' v)
    (hg : ∀ (i : Nat) (o : Oper), ops[i]? = some o → i < m → o.guard = none ∧ ∃ d, o.dst = some d ∧ d < a0.tmps.size)
    (hd : ∀ (i j : Nat) (o o' : Oper), ops[i]? = some o → ops[j]? = some o' → i < m → j < m → o.dst = o'.dst → i = j)
    (he : ∀ (i : Nat) (o : Oper), ops[i]? = some o → i < m → ∀ e ∈ o.after, Region.binds .any e = true → e.on < i)
    (hlate : ∀ (i : Nat) (o : Oper), ops[i]? = some o → m ≤ i → ∀ k, k < m → ∃ e ∈ o.after, Region.binds .any e = true ∧ e.on = k)
    (hstep : ∀ (i : Nat) (o : Oper) (listed : Array Bool) (a : Act) (w : World), ops[i]? = some o → i < m → Grown ops V a0 w0.drew listed a w → (∀ e ∈ o.after, Region.binds .any e = true → listed[e.on]? = some true) →
      o.wp P a w (fun a' w' => ∃ v, a' = a.put o.dst v ∧ Below w.heap.size w w' ∧ V i w' v) Q)
    (hend : ∀ (a : Act) (w : World), Grown ops V a0 w0.drew (listM m ops.size) a w → wpAny P .any ops Q (ops.size - m) (listM m ops.size) a w) :
    (Code.region id ops true).wp P Q a0 w0 := by
  refine wp_region_any hm ?_
  have full : ∀ (listed : Array Bool), listed.size = ops.size → (∀ k, m ≤ k → k < ops.size → listed[k]? = some false) → (∀ k, k < m → listed[k]? = some true) → listed = listM m ops.size ∧ undone listed = ops.size - m := fun listed hs hl hf => by
    have h1 : listed = listM m ops.size := by
      apply Array.ext_getElem?
      intro i
      by_cases hi : i < ops.size
      · rw [listM_at hi]
        by_cases him : i < m
        · rw [hf i him, decide_eq_true him]
        · rw [hl i (by omega) hi, decide_eq_false him]
      · rw [Array.getElem?_eq_none (by omega), Array.getElem?_eq_none (by simp [listM]; omega)]
    exact ⟨h1, by rw [h1, listM_undone]⟩
  have least : ∀ (listed : Array Bool), listed.size = ops.size → ¬ (∀ k, k < m → listed[k]? = some true) → ∃ k, k < m ∧ listed[k]? = some false ∧ ∀ j, j < k → listed[j]? = some true := fun listed hs hn => by
    have hex : ∃ k, k < m ∧ listed[k]? ≠ some true := by
      apply Classical.byContradiction
      intro h
      exact hn (fun k hk => Classical.byContradiction fun h2 => h ⟨k, hk, h2⟩)
    obtain ⟨k, hk⟩ := hex
    induction k using Nat.strongRecOn with
    | ind k ih =>
      by_cases h : ∃ j, j < k ∧ listed[j]? ≠ some true
      · obtain ⟨j, hj, h2⟩ := h
        exact ih j hj ⟨by omega, h2⟩
      · refine ⟨k, hk.1, ?_, fun j hj => Classical.byContradiction fun h2 => h ⟨j, hj, h2⟩⟩
        have hlt : k < listed.size := by omega
        have h1 := hk.2
        rw [Array.getElem?_eq_getElem hlt] at h1 ⊢
        simpa using h1
  have key : ∀ (fuel : Nat) (listed : Array Bool) (a : Act) (w : World), Grown ops V a0 w0.drew listed a w → (∀ k, m ≤ k → k < ops.size → listed[k]? = some false) → undone listed = fuel → wpAny P .any ops Q fuel listed a w := by
    intro fuel
    induction fuel with
    | zero =>
      intro listed a w H hl hu
      by_cases hf : ∀ k, k < m → listed[k]? = some true
      · obtain ⟨h1, h2⟩ := full listed H.size hl hf
        rw [h1] at H
        have := hend a w H
        rw [← h2, hu] at this
        rw [h1]
        exact this
      · obtain ⟨k, hk, hkf, -⟩ := least listed H.size hf
        have := undone_set hkf
        omega
    | succ fuel ih =>
      intro listed a w H hl hu
      by_cases hf : ∀ k, k < m → listed[k]? = some true
      · obtain ⟨h1, h2⟩ := full listed H.size hl hf
        rw [h1] at H
        have := hend a w H
        rw [← h2, hu] at this
        rw [h1]
        exact this
      · obtain ⟨k, hk, hkf, hkd⟩ := least listed H.size hf
        have hkl : k < ops.size := by omega
        have hready : k ∈ Region.ready .any ops listed := mem_ready.2 ⟨by
          obtain ⟨h1, h2⟩ := Array.getElem?_eq_some_iff.1 hkf
          simp [Array.getD, h1, h2], ops[k], Array.getElem?_eq_getElem hkl, fun e hem hbe => by
          have h1 := he k _ (Array.getElem?_eq_getElem hkl) hk e hem hbe
          obtain ⟨h3, h4⟩ := Array.getElem?_eq_some_iff.1 (hkd e.on h1)
          simp [Array.getD, h3, h4]⟩
        refine ⟨fun hr => absurd hready (by rw [hr]; simp), fun i hi => ?_⟩
        obtain ⟨h1, o, h2, h4⟩ := mem_ready.1 hi
        have hil : i < listed.size := by rw [H.size]; exact (Array.getElem?_eq_some_iff.1 h2).1
        have h3 : listed[i]? = some false := by
          rw [Array.getElem?_eq_getElem hil]
          simpa [Array.getD, hil] using h1
        have hdep : ∀ e ∈ o.after, Region.binds .any e = true → listed[e.on]? = some true := fun e hem hbe => by
          have h5 := h4 e hem hbe
          have hlt : e.on < listed.size := by
            apply Classical.byContradiction
            intro hn
            simp [Array.getD, hn] at h5
          rw [Array.getElem?_eq_getElem hlt]
          simpa [Array.getD, hlt] using h5
        have him : i < m := by
          apply Classical.byContradiction
          intro hn
          obtain ⟨e, hem, hbe, hon⟩ := hlate i o h2 (by omega) k hk
          have h5 := hdep e hem hbe
          rw [hon, hkf] at h5
          cases h5
        have hw : Region.wanted o (yielded ops a.tmps) = true := by unfold Region.wanted; rw [(hg i o h2 him).1]
        unfold wpOp
        rw [h2]
        simp only [hw, if_true]
        refine .inl (Oper.wp_mono ?_ (hstep i o listed a w h2 him H hdep))
        rintro a' w' ⟨v, rfl, hb, hv⟩
        refine ih _ _ _ (H.go' hV (hg i o h2 him).2 (fun j o' hj hjl hjd => ?_) h2 h3 hb hv) (fun j hjm hjs => ?_) (by have := undone_set h3; omega)
        · by_cases hjm : j < m
          · exact hd j i o' o hj h2 hjm him hjd
          · rw [hl j (by omega) (Array.getElem?_eq_some_iff.1 hj).1] at hjl
            cases hjl
        · rw [Array.getElem?_setIfInBounds_ne (by omega)]
          exact hl j hjm hjs
  refine key _ _ _ _ ⟨by simp, rfl, rfl, Below.refl _ _, fun _ _ => rfl, fun k o d hk hl => ?_⟩ (fun k _ hk => by rw [Array.getElem?_replicate, if_pos hk]) ?_
  · rw [Array.getElem?_replicate] at hl
    split at hl
    · cases hl
    · cases hl
  · unfold undone
    simp
/-- The rule at its plainest: what holds ahead of each operation that may come up holds behind it. -/
theorem wpAny_inv {Inv : Array Bool → Act → World → Prop}
    (hstep : ∀ (listed : Array Bool) (a : Act) (w : World) (i : Nat) (o : Oper), Inv listed a w → ops[i]? = some o → listed[i]? = some false → (∀ e ∈ o.after, Region.binds .any e = true → listed[e.on]? = some true) →
      wpOp P ops Q i (fun a' w' => Inv (listed.setIfInBounds i true) a' w') a w)
    (hsize : ∀ listed a w, Inv listed a w → listed.size = ops.size)
    (hend : ∀ listed a w, Inv listed a w → Region.ready .any ops listed = [] → Q .normal a w) :
    ∀ (fuel : Nat) (listed : Array Bool) (a : Act) (w : World), Inv listed a w → undone listed ≤ fuel → wpAny P .any ops Q fuel listed a w := by
  intro fuel
  induction fuel with
  | zero =>
    intro listed a w H hu
    have hr : Region.ready .any ops listed = [] := by
      apply List.eq_nil_iff_forall_not_mem.2
      intro i hi
      obtain ⟨h1, o, h2, -⟩ := mem_ready.1 hi
      have hil : i < listed.size := by rw [hsize _ _ _ H]; exact (Array.getElem?_eq_some_iff.1 h2).1
      have h3 : listed[i]? = some false := by
        rw [Array.getElem?_eq_getElem hil]
        simpa [Array.getD, hil] using h1
      have := undone_set h3
      omega
    exact ⟨hr, hend listed a w H hr⟩
  | succ fuel ih =>
    intro listed a w H hu
    refine ⟨fun hr => hend listed a w H hr, fun i hi => ?_⟩
    obtain ⟨h1, o, h2, h4⟩ := mem_ready.1 hi
    have hil : i < listed.size := by rw [hsize _ _ _ H]; exact (Array.getElem?_eq_some_iff.1 h2).1
    have h3 : listed[i]? = some false := by
      rw [Array.getElem?_eq_getElem hil]
      simpa [Array.getD, hil] using h1
    refine wpOp_mono (fun a' w' h => ih _ _ _ h (by have := undone_set h3; omega)) (hstep listed a w i o H h2 h3 (fun e hem hbe => ?_))
    have h5 := h4 e hem hbe
    have hlt : e.on < listed.size := by
      apply Classical.byContradiction
      intro hn
      simp [Array.getD, hn] at h5
    rw [Array.getElem?_eq_getElem hlt]
    simpa [Array.getD, hlt] using h5
end
end Go.Proofs.Ytedleliddhhacaa
