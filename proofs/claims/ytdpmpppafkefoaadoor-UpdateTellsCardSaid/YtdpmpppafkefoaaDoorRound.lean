/- A region that draws its order, in a round of a loop over a function: as it is outside. -/
import Derived.Test.YtdpmpppafkefoaaDoorIter
namespace Go.Proofs.YtdpmpppafkefoaaDoor
open Go.RowKit

/-- Q, and no way out but the end. -/
def Calm (Q : Exit → Act → World → Prop) : Exit → Act → World → Prop
  | .normal, a, w => Q .normal a w
  | _, _, _ => False

variable {n r : Nat} {P : Program}

theorem oper_round {o : Oper} {a : Act} {w : World} {K : Act → World → Prop} {Q : Exit → Act → World → Prop} (hnd : ∀ c, o.op ≠ .defer c) (h : o.wp P a w K (Calm Q)) : o.wpIn (Fence.wide.inRound r) n P a w K (Calm Q) := by
  refine ⟨fun _ _ => trivial, ?_⟩
  have hsem : o.semAt (Fence.wide.inRound r).round a.eval = execOp a.eval o := Oper.semAt_some _ _ _ hnd
  rw [hsem]
  unfold Oper.wp at h
  generalize (execOp a.eval o).run P w = res at h
  cases res with
  | ok x w' =>
    cases x with
    | enter f args =>
      refine ⟨fun h => (by cases h), ?_⟩
      refine (CallsIn.inRound r (callsIn_wide.2 h)).mono ?_
      intro e w'' he
      cases e <;> exact he
    | row row args => exact ⟨fun h => (by cases h), fun c cs _ => let ⟨v, w'', q, s⟩ := h c cs; ⟨v, w'', q, stepsIn_wide.2 s⟩⟩
    | round l f tmps assign body => exact (h : False).elim
    | _ => exact h
  | halt x w' => cases x <;> exact h

theorem any_round {md : Region.Mode} {ops : Array Oper} {Q : Exit → Act → World → Prop} (hnd : ∀ (i : Nat) (o : Oper), ops[i]? = some o → ∀ c, o.op ≠ .defer c) : ∀ (f : Nat) (listed : Array Bool) (a : Act) (w : World), wpAny P md ops (Calm Q) f listed a w → wpAnyIn (Fence.wide.inRound r) n P md ops (Calm Q) f listed a w
  | 0, _, _, _, h => h
  | f + 1, listed, a, w, h => by
    refine ⟨h.1, fun i hi => ?_⟩
    have h1 := h.2 i hi
    unfold wpOp at h1
    unfold wpOpIn
    cases ho : ops[i]? with
    | none =>
      rw [ho] at h1
      exact any_round hnd f _ _ _ h1
    | some o =>
      rw [ho] at h1
      simp only at h1 ⊢
      split
      · rename_i hw
        rw [if_pos hw] at h1
        rcases h1 with h1 | ⟨_, a', w', h2⟩
        · exact Oper.wpIn_mono (fun a' w' h' => any_round hnd f _ _ _ h') (oper_round (hnd i o ho) h1)
        · exact h2.elim
      · rename_i hw
        rw [if_neg hw] at h1
        exact ⟨fun _ _ => trivial, any_round hnd f _ _ _ h1⟩

/-- No defer statement among them. -/
def noDefer (ops : Array Oper) : Bool := ops.toList.all (fun o => match o.op with | .defer _ => false | _ => true)
theorem noDefer_spec {ops : Array Oper} (h : noDefer ops = true) (i : Nat) (o : Oper) (ho : ops[i]? = some o) (c : Call) : o.op ≠ .defer c := fun e => by
  unfold noDefer at h
  rw [List.all_eq_true] at h
  have h1 := h o (by rw [Array.mem_toList_iff]; exact Array.mem_of_getElem? ho)
  rw [e] at h1
  cases h1

theorem region_round {id : Nat} {ops : Array Oper} {Q : Exit → Act → World → Prop} {a : Act} {w : World} (hm : P.follows .mixedOrders = true) (hnd : noDefer ops = true)
    (h : wpAny P .any ops (Calm Q) ops.size (Array.replicate ops.size false) a w.drew) : (Code.region id ops true).wpIn (Fence.wide.inRound r) n P Q a w := by
  refine wpIn_mono (Q := Calm Q) (wpIn_region_any hm (any_round (noDefer_spec hnd) _ _ _ _ h)) ?_
  intro e a w h
  cases e <;> first | exact h | exact h.elim
end Go.Proofs.YtdpmpppafkefoaaDoor
