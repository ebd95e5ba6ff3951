/- CfgKnown: its second region that draws, put together. -/
import Derived.Test.YtedleliddhhacaaCKnownT
namespace Go.Proofs.Ytedleliddhhacaa
open Go.RowKit Go.Maps

def Inv10 (a0 : Act) (w0 : World) (listed : Array Bool) (a : Act) (w : World) : Prop :=
  (listed[27]? = some false ∧ listed[28]? = some false ∧ Grown ops10 (V10 w0.heap.size) a0 w0 listed a w) ∨ Late a0 w0 listed a w
def lowB (ops : Array Oper) : Bool := (List.range ops.size).all fun i => match ops[i]? with
  | some o => o.guard.isNone && o.after.all (fun e => !Region.binds .any e || decide (e.on < i))
  | none => true
theorem lowB_at {ops : Array Oper} {i : Nat} {o : Oper} (h : lowB ops = true) (ho : ops[i]? = some o) : o.guard = none ∧ ∀ e ∈ o.after, Region.binds .any e = true → e.on < i := by
  unfold lowB at h
  rw [List.all_eq_true] at h
  have h1 := h i (List.mem_range.2 (Array.getElem?_eq_some_iff.1 ho).1)
  simp only [ho, Bool.and_eq_true] at h1
  refine ⟨by simpa using h1.1, fun e hem hbe => ?_⟩
  have h4 := h1.2
  rw [Array.all_eq_true_iff_forall_mem] at h4
  simpa [hbe] using h4 e hem
theorem low10 : lowB ops10 = true := by kernel_rfl
theorem ready_at {ops : Array Oper} {listed : Array Bool} {i : Nat} (hs : listed.size = ops.size) (hl : lowB ops = true) (hi : i < ops.size) (hf : listed[i]? ≠ some true) (hd : ∀ k, k < i → (∃ o, ops[i]? = some o ∧ ∃ e ∈ o.after, Region.binds .any e = true ∧ e.on = k) → listed[k]? = some true) : i ∈ Region.ready .any ops listed := by
  have hil : i < listed.size := by omega
  have hf' : listed.getD i true = false := by
    rw [Array.getElem?_eq_getElem hil] at hf
    simp only [ne_eq, Option.some.injEq, Bool.not_eq_true] at hf
    simp [Array.getD, hil, hf]
  refine mem_ready.2 ⟨hf', ops[i], Array.getElem?_eq_getElem hi, fun e hem hbe => ?_⟩
  have h2 := hd e.on ((lowB_at hl (Array.getElem?_eq_getElem hi)).2 e hem hbe) ⟨_, Array.getElem?_eq_getElem hi, e, hem, hbe, rfl⟩
  obtain ⟨h3, h4⟩ := Array.getElem?_eq_some_iff.1 h2
  simp [Array.getD, h3, h4]
theorem step10_all {Q : Exit → Act → World → Prop} {a0 a : Act} {w0 w : World} {R i : Nat} {listed : Array Bool} {o : Oper} (h2 : a0.tmps[2]? = some cloK) (h1 : a0.tmps[1]? = some (.pointer (some ⟨R, 0, none⟩))) (hR : R < w0.heap.size)
    (hRb : w0.heap[R]? = some (.cells #[.int .u8 14, .string ⟨#[]⟩, .string ⟨#[]⟩, .string ⟨#[]⟩, .int .i64 0, .string ⟨#[]⟩, .slice none 0 0, .slice none 0 0] 25 (0, 0))) (hi : i < 27)
    (ho : ops10[i]? = some o) (H : Grown ops10 (V10 w0.heap.size) a0 w0 listed a w) (hdep : ∀ e ∈ o.after, Region.binds .any e = true → listed[e.on]? = some true) :
    o.wp Try.prog a w (fun a' w' => ∃ v, a' = a.put o.dst v ∧ Below w.heap.size w w' ∧ V10 w0.heap.size i w' v) Q := by
  match i, hi with
  | 0, _ => exact step10_0 h2 ho H hdep
  | 1, _ => exact step10_1 ho H hdep
  | 2, _ => exact step10_2 ho H hdep
  | 3, _ => exact step10_3 ho H hdep
  | 4, _ => exact step10_4 ho H hdep
  | 5, _ => exact step10_5 h2 ho H hdep
  | 6, _ => exact step10_6 ho H hdep
  | 7, _ => exact step10_7 ho H hdep
  | 8, _ => exact step10_8 ho H hdep
  | 9, _ => exact step10_9 ho H hdep
  | 10, _ => exact step10_10 h2 ho H hdep
  | 11, _ => exact step10_11 ho H hdep
  | 12, _ => exact step10_12 ho H hdep
  | 13, _ => exact step10_13 ho H hdep
  | 14, _ => exact step10_14 ho H hdep
  | 15, _ => exact step10_15 ho H hdep
  | 16, _ => exact step10_16 h2 ho H hdep
  | 17, _ => exact step10_17 h1 hR hRb ho H hdep
  | 18, _ => exact step10_18 ho H hdep
  | 19, _ => exact step10_19 ho H hdep
  | 20, _ => exact step10_20 ho H hdep
  | 21, _ => exact step10_21 ho H hdep
  | 22, _ => exact step10_22 ho H hdep
  | 23, _ => exact step10_23 ho H hdep
  | 24, _ => exact step10_24 ho H hdep
  | 25, _ => exact step10_25 ho H hdep
  | 26, _ => exact step10_26 ho H hdep
  | i + 27, h => omega
theorem wpOp_of {P : Program} {ops : Array Oper} {Q : Exit → Act → World → Prop} {i : Nat} {o : Oper} {K : Act → World → Prop} {a : Act} {w : World} (ho : ops[i]? = some o) (hg : o.guard = none) (h : o.wp P a w K Q) : wpOp P ops Q i K a w := by
  have hw : Region.wanted o (yielded ops a.tmps) = true := by unfold Region.wanted; rw [hg]
  unfold wpOp
  rw [ho]
  simp only [hw, if_true]
  exact .inl h
theorem inv10_step {Q : Exit → Act → World → Prop} {a0 : Act} {w0 : World} {R : Nat} (h2 : a0.tmps[2]? = some cloK) (h1 : a0.tmps[1]? = some (.pointer (some ⟨R, 0, none⟩))) (hR : R < w0.heap.size)
    (hRb : w0.heap[R]? = some (.cells #[.int .u8 14, .string ⟨#[]⟩, .string ⟨#[]⟩, .string ⟨#[]⟩, .int .i64 0, .string ⟨#[]⟩, .slice none 0 0, .slice none 0 0] 25 (0, 0))) (hsz : a0.tmps.size = 180)
    (listed : Array Bool) (a : Act) (w : World) (i : Nat) (o : Oper) (I : Inv10 a0 w0 listed a w) (ho : ops10[i]? = some o) (hi : listed[i]? = some false) (hdep : ∀ e ∈ o.after, Region.binds .any e = true → listed[e.on]? = some true) :
    wpOp Try.prog ops10 Q i (fun a' w' => Inv10 a0 w0 (listed.setIfInBounds i true) a' w') a w := by
  have hlt := (Array.getElem?_eq_some_iff.1 ho).1
  rw [ops10_size] at hlt
  refine wpOp_of ho (lowB_at low10 ho).1 ?_
  have hB : growM ops10 180 27 = true := by kernel_rfl
  rcases I with ⟨h27, h28, H⟩ | L
  · rcases (by omega : i < 27 ∨ i = 27 ∨ i = 28) with him | rfl | rfl
    · refine Oper.wp_mono ?_ (step10_all h2 h1 hR hRb him ho H hdep)
      rintro a' w' ⟨v, rfl, hb, hv⟩
      refine .inl ⟨by rw [Array.getElem?_setIfInBounds_ne (by omega)]; exact h27, by rw [Array.getElem?_setIfInBounds_ne (by omega)]; exact h28, H.go' (fun i w w' v h hb => Kind.below h hb) (by rw [hsz]; exact (growM_at hB him ho).1.2) (fun j o' hj hjl hjd => ?_) ho hi hb hv⟩
      have hjs := (Array.getElem?_eq_some_iff.1 hj).1
      rw [ops10_size] at hjs
      rcases (by omega : j < 27 ∨ j = 27 ∨ j = 28) with hjm | rfl | rfl
      · exact ((growM_at hB him ho).2.1 j o' hjm hj hjd.symm).symm
      · rw [h27] at hjl; cases hjl
      · rw [h28] at hjl; cases hjl
    · have hD : (List.range 27).all (fun k => decide (k = 25) || depB ops10 27 k) = true := by kernel_rfl
      rw [List.all_eq_true] at hD
      refine Oper.wp_mono (fun a' w' h => .inr h) (late_27 ho H h27 h28 (fun k hk hk2 => dep_of ho hdep ?_) hsz)
      simpa [hk2] using hD k (List.mem_range.2 hk)
    · have := dep_of (k := 27) ho hdep (by kernel_rfl)
      rw [h27] at this
      cases this
  · rcases (by omega : i < 25 ∨ i = 25 ∨ i = 26 ∨ i = 27 ∨ i = 28) with him | rfl | rfl | rfl | rfl
    · have := L.all i (by omega) (by omega)
      rw [hi] at this
      cases this
    · exact Oper.wp_mono (fun a' w' h => .inr h) (late_25 ho L hi hsz)
    · have := L.all 26 (by omega) (by omega)
      rw [hi] at this
      cases this
    · have := L.l27
      rw [hi] at this
      cases this
    · exact Oper.wp_mono (fun a' w' h => .inr h) (late_28 ho L hi (dep_of ho hdep (by kernel_rfl)) hsz)
theorem inv10_end {a0 a : Act} {w0 w : World} {listed : Array Bool} (I : Inv10 a0 w0 listed a w) (hr : Region.ready .any ops10 listed = []) : Late a0 w0 listed a w ∧ listed[28]? = some true := by
  have no : ∀ {i : Nat}, i ∉ Region.ready .any ops10 listed := fun {i} h => by rw [hr] at h; cases h
  rcases I with ⟨h27, h28, H⟩ | L
  · have hall : ∀ i, i < 27 → listed[i]? = some true := by
      intro i
      induction i using Nat.strongRecOn with
      | ind i ih =>
        intro hi
        apply Classical.byContradiction
        intro hn
        exact no (ready_at H.size low10 (by rw [ops10_size]; omega) hn (fun k hk _ => ih k hk (by omega)))
    exact (no (ready_at (i := 27) H.size low10 (by rw [ops10_size]; omega) (by rw [h27]; decide) (fun k hk _ => hall k hk))).elim
  · have hs : listed.size = ops10.size := by rw [ops10_size]; exact L.size
    have h25 : listed[25]? = some true := Classical.byContradiction fun hn => no (ready_at hs low10 (by rw [ops10_size]; omega) hn (fun k hk _ => L.all k (by omega) (by omega)))
    have hall : ∀ k, k < 28 → listed[k]? = some true := fun k hk => by
      rcases (by omega : k = 25 ∨ k = 27 ∨ (k < 27 ∧ k ≠ 25)) with rfl | rfl | h
      · exact h25
      · exact L.l27
      · exact L.all k h.1 h.2
    exact ⟨L, Classical.byContradiction fun hn => no (ready_at hs low10 (by rw [ops10_size]; omega) hn (fun k hk _ => hall k hk))⟩
theorem late_frame {a0 a : Act} {w0 w : World} {listed : Array Bool} (L : Late a0 w0 listed a w) (h28 : listed[28]? = some true) (hsz : a0.tmps.size = 180) :
    a = { tmps := (setAll a0.tmps (fun d => a.tmps.getD d undef) dsts10).setIfInBounds 8 (.int .i64 0), defers := a0.defers } := by
  have h8 := (L.d28 h28).2
  have e1 : a.tmps = (setAll a0.tmps (fun d => a.tmps.getD d undef) dsts10).setIfInBounds 8 (.int .i64 0) := by
    apply Array.ext_getElem?
    intro i
    by_cases hi : i < a0.tmps.size
    · by_cases hi8 : i = 8
      · subst hi8
        rw [Array.getElem?_setIfInBounds_self_of_lt (by rw [setAll_size]; exact hi), h8]
      · rw [Array.getElem?_setIfInBounds_ne (fun e => hi8 e.symm), setAll_at _ _ _ _ hi]
        have hia : i < a.tmps.size := by rw [L.slots]; exact hi
        split
        · rw [Array.getElem?_eq_getElem hia]
          simp [Array.getD, hia]
        · rename_i hn
          exact L.old i hn hi8
    · rw [Array.getElem?_eq_none (by rw [L.slots]; omega), Array.getElem?_eq_none (by simp [setAll_size]; omega)]
  have e2 := L.defers
  obtain ⟨t, d⟩ := a
  simp only at e1 e2
  rw [← e2]
  congr 1
theorem region10_any {ops : Array Oper} (hops : ops10 = ops) {Q : Exit → Act → World → Prop} {a0 : Act} {w0 : World} {R : Nat} (h2 : a0.tmps[2]? = some cloK) (h1 : a0.tmps[1]? = some (.pointer (some ⟨R, 0, none⟩))) (hR : R < w0.heap.size)
    (hRb : w0.heap[R]? = some (.cells #[.int .u8 14, .string ⟨#[]⟩, .string ⟨#[]⟩, .string ⟨#[]⟩, .int .i64 0, .string ⟨#[]⟩, .slice none 0 0, .slice none 0 0] 25 (0, 0))) (hsz : a0.tmps.size = 180)
    (hend : ∀ (u : Nat → Value) (w : World) (b : Nat) (s1 s2 : Value), Below w0.heap.size w0 w → Mats succK predK w s1 s2 → u 7 = .pointer (some ⟨b, 0, none⟩) → w.heap[b]? = some (.cells #[s1, s2] 36 (0, 0)) →
      Q .normal { tmps := (setAll a0.tmps u dsts10).setIfInBounds 8 (.int .i64 0), defers := a0.defers } w) :
    (Code.region 10 ops true).wp Try.prog Q a0 w0 := by
  subst hops
  refine wp_region_any (by kernel_rfl) ?_
  refine wpAny_inv (Inv := Inv10 a0 w0.drew) (fun listed a w i o I ho hi hdep => inv10_step h2 h1 (show R < w0.drew.heap.size from hR) (show w0.drew.heap[R]? = _ from hRb) hsz listed a w i o I ho hi hdep) ?_ ?_ _ _ _ _ (.inl ⟨?_, ?_, ⟨by simp, rfl, rfl, Below.refl _ _, fun _ _ => rfl, fun k o d hk hl => ?_⟩⟩) ?_
  · rintro listed a w (⟨-, -, H⟩ | L)
    · exact H.size
    · rw [ops10_size]; exact L.size
  · intro listed a w I hr
    obtain ⟨L, h28⟩ := inv10_end I hr
    obtain ⟨b, s1, s2, e7, hb, hm⟩ := L.flow
    rw [late_frame L h28 hsz]
    exact hend _ w b s1 s2 ⟨L.low.os, L.low.tape, L.low.output, L.low.size, L.low.block⟩ hm (getD_of e7) hb
  · rw [Array.getElem?_replicate, if_pos (by rw [ops10_size]; decide)]
  · rw [Array.getElem?_replicate, if_pos (by rw [ops10_size]; decide)]
  · rw [Array.getElem?_replicate] at hl
    split at hl
    · cases hl
    · cases hl
  · unfold undone
    exact Nat.le_trans List.count_le_length (by simp)
end Go.Proofs.Ytedleliddhhacaa
