/- CfgKnown: its regions that draw, as a whole. -/
import Derived.Test.YtedleliddhhacaaCKnown3
import Derived.Test.YtedleliddhhacaaCKnown10
namespace Go.Proofs.Ytedleliddhhacaa
open Go.RowKit Go.Maps

/-- The frame behind a region: the slots that it sets are letters. -/
def setAll (A : Array Value) (u : Nat → Value) (ds : List Nat) : Array Value := ds.foldl (fun A d => A.setIfInBounds d (u d)) A
theorem setAll_size (u : Nat → Value) : ∀ (ds : List Nat) (A : Array Value), (setAll A u ds).size = A.size
  | [], A => rfl
  | d :: ds, A => by rw [setAll, List.foldl_cons, ← setAll, setAll_size u ds]; simp
theorem setAll_at (u : Nat → Value) : ∀ (ds : List Nat) (A : Array Value) (i : Nat), i < A.size → (setAll A u ds)[i]? = if i ∈ ds then some (u i) else A[i]?
  | [], A, i, h => by simp [setAll]
  | d :: ds, A, i, h => by
    rw [setAll, List.foldl_cons, ← setAll, setAll_at u ds _ i (by simpa using h)]
    by_cases h1 : i ∈ ds
    · simp [h1]
    · rw [if_neg h1]
      by_cases h2 : i = d
      · subst h2
        rw [Array.getElem?_setIfInBounds_self_of_lt h]
        simp
      · rw [Array.getElem?_setIfInBounds_ne (fun e => h2 e.symm)]
        simp [h1, h2]
/-- Are these all the slots that the first m set? -/
def dstsB (ops : Array Oper) (m : Nat) (ds : List Nat) : Bool := (List.range m).all fun k => match ops[k]? with
  | some o => (match o.dst with
    | some d => ds.contains d
    | none => false)
  | none => true
theorem Grown.frame {ops : Array Oper} {V : Nat → World → Value → Prop} {a0 : Act} {w0 : World} {listed : Array Bool} {a : Act} {w : World} {m : Nat} {ds : List Nat} (H : Grown ops V a0 w0 listed a w)
    (hl : ∀ (k : Nat), listed[k]? = some true → k < m) (hds : dstsB ops m ds = true) : a = { tmps := setAll a0.tmps (fun d => a.tmps.getD d undef) ds, defers := a0.defers } := by
  have h1 : a.tmps = setAll a0.tmps (fun d => a.tmps.getD d undef) ds := by
    apply Array.ext_getElem?
    intro i
    by_cases hi : i < a0.tmps.size
    · rw [setAll_at _ _ _ _ hi]
      have hia : i < a.tmps.size := by rw [H.slots]; exact hi
      split
      · rw [Array.getElem?_eq_getElem hia]
        simp [Array.getD, hia]
      · rename_i hn
        refine H.rest i (fun k o hk hlk he => hn ?_)
        unfold dstsB at hds
        rw [List.all_eq_true] at hds
        have h2 := hds k (List.mem_range.2 (hl k hlk))
        simpa [hk, he] using h2
    · rw [Array.getElem?_eq_none (by rw [H.slots]; omega), Array.getElem?_eq_none (by rw [setAll_size]; omega)]
  have h2 := H.defers
  obtain ⟨t, d⟩ := a
  simp only at h1 h2
  rw [← h2]
  congr 1

def dsts3 : List Nat := [14, 15, 16, 17, 18, 19, 20, 21, 22, 23, 24, 25, 26, 27, 28, 29, 30, 31, 32, 33, 34, 35, 36, 37, 38, 39, 40, 41, 42, 3]
theorem region3_any {ops : Array Oper} (hops : ops3 = ops) {Q : Exit → Act → World → Prop} {a0 : Act} {w0 : World} {R : Nat} (h2 : a0.tmps[2]? = some cloK) (h1 : a0.tmps[1]? = some (.pointer (some ⟨R, 0, none⟩))) (hR : R < w0.heap.size)
    (hRb : w0.heap[R]? = some (.cells #[.int .u8 14, .string ⟨#[]⟩, .string ⟨#[]⟩, .string ⟨#[]⟩, .int .i64 0, .string ⟨#[]⟩, .slice none 0 0, .slice none 0 0] 25 (0, 0))) (hsz : a0.tmps.size = 180)
    (hend : ∀ (u : Nat → Value) (w : World), Below w0.heap.size w0 w → RdE 3 RdFun w (u 3) [f1K, f2K, f3K, f4K] → Q .normal { tmps := setAll a0.tmps u dsts3, defers := a0.defers } w) :
    (Code.region 3 ops true).wp Try.prog Q a0 w0 := by
  subst hops
  have hB : growB ops3 180 = true := by kernel_rfl
  have hlt : ∀ {i : Nat} {o : Oper}, ops3[i]? = some o → i < 30 := fun h => by have := (Array.getElem?_eq_some_iff.1 h).1; rwa [ops3_size] at this
  refine wp_region_grows (V := V3) (by kernel_rfl) (fun i w w' v h hb => Kind.below h hb) (fun i o ho => by rw [hsz]; exact (growB_at hB ho).1) (fun i j o o' hi hj he => (growB_at hB hi).2.1 j o' hj he) (fun i o ho => (growB_at hB ho).2.2) ?_ ?_
  · intro i o listed a w ho H hdep
    have hi := hlt ho
    match i, hi with
    | 0, _ => exact step3_0 h2 ho H hdep
    | 1, _ => exact step3_1 ho H hdep
    | 2, _ => exact step3_2 ho H hdep
    | 3, _ => exact step3_3 ho H hdep
    | 4, _ => exact step3_4 ho H hdep
    | 5, _ => exact step3_5 ho H hdep
    | 6, _ => exact step3_6 ho H hdep
    | 7, _ => exact step3_7 h2 ho H hdep
    | 8, _ => exact step3_8 ho H hdep
    | 9, _ => exact step3_9 ho H hdep
    | 10, _ => exact step3_10 ho H hdep
    | 11, _ => exact step3_11 h2 ho H hdep
    | 12, _ => exact step3_12 h1 (show R < w0.drew.heap.size from hR) (show w0.drew.heap[R]? = _ from hRb) ho H hdep
    | 13, _ => exact step3_13 ho H hdep
    | 14, _ => exact step3_14 ho H hdep
    | 15, _ => exact step3_15 h2 ho H hdep
    | 16, _ => exact step3_16 ho H hdep
    | 17, _ => exact step3_17 ho H hdep
    | 18, _ => exact step3_18 ho H hdep
    | 19, _ => exact step3_19 ho H hdep
    | 20, _ => exact step3_20 ho H hdep
    | 21, _ => exact step3_21 h2 ho H hdep
    | 22, _ => exact step3_22 h1 (show R < w0.drew.heap.size from hR) (show w0.drew.heap[R]? = _ from hRb) ho H hdep
    | 23, _ => exact step3_23 ho H hdep
    | 24, _ => exact step3_24 ho H hdep
    | 25, _ => exact step3_25 ho H hdep
    | 26, _ => exact step3_26 ho H hdep
    | 27, _ => exact step3_27 ho H hdep
    | 28, _ => exact step3_28 ho H hdep
    | 29, _ => exact step3_29 ho H hdep
    | i + 30, h => omega
  · intro a w H
    have e := H.frame (m := 30) (ds := dsts3) (fun k hk => by
      rw [Array.getElem?_replicate] at hk
      split at hk
      · rename_i h; rwa [ops3_size] at h
      · cases hk) (by kernel_rfl)
    rw [e]
    obtain ⟨v, hv, hV⟩ := H.val 29 3 (by kernel_rfl) (by rw [Array.getElem?_replicate, if_pos (by rw [ops3_size]; decide)])
    exact hend _ w ⟨H.low.os, H.low.tape, H.low.output, H.low.size, H.low.block⟩ (by rw [getD_of hv]; exact hV)

def dsts10 : List Nat := [79, 80, 81, 82, 83, 84, 85, 86, 87, 88, 89, 90, 91, 92, 93, 94, 95, 96, 97, 98, 99, 100, 101, 78, 102, 103, 7]
theorem ops10_size : ops10.size = 29 := by kernel_rfl
/-- The rows stay where a block of another type is written. -/
theorem Mats.set {N B : List (List Int)} {w : World} {s1 s2 : Value} (h : Mats N B w s1 s2) {b i : Nat} {x : Value} {ds : Array Value} (hb : w.heap[b]? = some (.cells ds 36 (0, 0))) : Mats N B (w.setCell ⟨b, i, none⟩ x) s1 s2 := by
  obtain ⟨G1, vs1, b1, G2, vs2, b2, e1, e2, M1, M2⟩ := h
  have key : ∀ {base G : Nat} {vs : List Value} {L : List (List Int)}, Mat w base G vs L → Mat (w.setCell ⟨b, i, none⟩ x) base G vs L := fun {base G vs L} M => by
    have hT : Touch w (w.setCell ⟨b, i, none⟩ x) (fun k => k = b) := (Touch.refl w (fun k => k = b)).setCell (a := ⟨b, i, none⟩) (fun _ => rfl) x
    refine M.kept hT (fun e => ?_) (fun j u k hu hk e => ?_)
    · have h1 := M.blk
      rw [e, hb] at h1
      simp at h1
    · obtain ⟨l, hl⟩ : ∃ l, L[j]? = some l := ⟨_, List.getElem?_eq_getElem (by rw [← M.len]; exact (List.getElem?_eq_some_iff.1 hu).1)⟩
      rcases (M.row j u l hu hl).2 with ⟨rfl, _⟩ | ⟨g, cap, cur, rfl, _, hg, _⟩
      · cases hk
      · simp only [Value.ownBlock, Option.some.injEq] at hk
        rw [hk, e, hb] at hg
        simp at hg
  exact ⟨G1, vs1, b1, G2, vs2, b2, e1, e2, key M1, key M2⟩

/-- The side conditions of the first m, by the kernel. -/
def growM (ops : Array Oper) (n m : Nat) : Bool := (List.range m).all fun i => match ops[i]? with
  | none => true
  | some o => o.guard.isNone && (match o.dst with
    | some d => decide (d < n) && (List.range m).all (fun j => match ops[j]? with
      | some o' => decide (i = j) || decide (o'.dst ≠ some d)
      | none => true)
    | none => false) && o.after.all (fun e => !Region.binds .any e || decide (e.on < i))
theorem growM_at {ops : Array Oper} {n m i : Nat} {o : Oper} (h : growM ops n m = true) (him : i < m) (ho : ops[i]? = some o) :
    (o.guard = none ∧ ∃ d, o.dst = some d ∧ d < n) ∧ (∀ j o', j < m → ops[j]? = some o' → o.dst = o'.dst → i = j) ∧ ∀ e ∈ o.after, Region.binds .any e = true → e.on < i := by
  unfold growM at h
  rw [List.all_eq_true] at h
  have h1 := h i (List.mem_range.2 him)
  simp only [ho, Bool.and_eq_true] at h1
  obtain ⟨⟨h2, h3⟩, h4⟩ := h1
  rcases hd : o.dst with _ | d
  · simp [hd] at h3
  · simp only [hd, Bool.and_eq_true, decide_eq_true_eq, List.all_eq_true] at h3
    refine ⟨⟨by simpa using h2, d, rfl, h3.1⟩, fun j o' hjm hj he => ?_, fun e hem hbe => ?_⟩
    · have h5 := h3.2 j (List.mem_range.2 hjm)
      simp only [hj, Bool.or_eq_true, decide_eq_true_eq] at h5
      rcases h5 with h5 | h5
      · exact h5
      · exact absurd he.symm h5
    · rw [Array.all_eq_true_iff_forall_mem] at h4
      have h5 := h4 e hem
      simpa [hbe] using h5
def lateB (ops : Array Oper) (m : Nat) : Bool := (List.range ops.size).all fun i => decide (i < m) || (List.range m).all (depB ops i)
theorem late_of {ops : Array Oper} {m i k : Nat} {o : Oper} (h : lateB ops m = true) (ho : ops[i]? = some o) (him : m ≤ i) (hk : k < m) : ∃ e ∈ o.after, Region.binds .any e = true ∧ e.on = k := by
  unfold lateB at h
  rw [List.all_eq_true] at h
  have h1 := h i (List.mem_range.2 (Array.getElem?_eq_some_iff.1 ho).1)
  simp only [Bool.or_eq_true, decide_eq_true_eq, List.all_eq_true] at h1
  have h2 := (h1.resolve_left (by omega)) k (List.mem_range.2 hk)
  unfold depB at h2
  simp only [ho, Array.any_eq_true', Bool.and_eq_true, beq_iff_eq] at h2
  exact h2
end Go.Proofs.Ytedleliddhhacaa
