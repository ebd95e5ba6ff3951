/- Loops over iterators: the law. -/
import Derived.Test.YtcimhljnboeobaaDoorTab
import Derived.RangeFuncNested
import Derived.RangeFuncBound
import Derived.RangeFuncCalls
import Derived.RangeFuncLeaves
import Derived.OwnWalkIn
import Derived.TacticsInMore
import Derived.LoopNIn
import Derived.LoopIn
import Derived.Shelf.Abstract
import Derived.Shelf.RegionOpen
namespace Go.Proofs.YtcimhljnboeobaaDoor
open Go.RowKit Go.Maps Go.Shelf

attribute [local go_sem] Oper.semAt_some
theorem at_newN {w : World} {o : Obj} {b : Nat} (h : b = w.heap.size) : (w.alloc o).heap[b]? = some o := by
  subst h
  exact heap_alloc_new _ _
theorem at_oldN {w : World} {o : Obj} {b : Nat} {x : Obj} (h : w.heap[b]? = some x) : (w.alloc o).heap[b]? = some x := by
  have hb := (Array.getElem?_eq_some_iff.1 h).1
  simp only [World.alloc]
  rw [Array.getElem?_push, if_neg (by omega)]
  exact h
theorem touch_putObj (W : World) (l : Nat) (o : Obj) : Touch W (W.putObj l o) (fun k => k = l) := ⟨rfl, rfl, rfl, by simp, fun k _ hn => World.putObj_heap_other hn⟩
/-- How a round is left. -/
def leftP (D L : Nat) (I : World → Prop) (Ix : World → Prop) (Kp : World → World → Prop) (W : World) : Exit → Act → World → Prop
  | .normal, _, W' => W'.heap[D]? = W.heap[D]? ∧ W'.heap[L]? = W.heap[L]? ∧ I W' ∧ Kp W W'
  | .ret, _, W' => W'.heap[D]? = W.heap[D]? ∧ W'.heap[L]? = W.heap[L]? ∧ Ix W'
  | _, _, _ => False
theorem rangeFunc_calm {α : Type} {F : Fence} {n : Nat} {P : Program} {g : Operand} {ps : Array Tmp} {assign body : Code} {Q : Exit → Act → World → Prop} {a : Act} {w : World}
    (hro : F.round = none) (h1 : 1 ≤ n) {gf : Nat} {lb : Array Value} (hg : a.eval g = .func (.func gf) #[] lb) (hFg : F.fn gf) (eg : ∀ args w, (callFunc gf args).run P w = .ok (.enter gf args) w)
    (Is : List α → α → Array Value → World → Prop) (Kp : World → World → Prop) (I : List α → World → Prop) (Ix : World → Prop) (Ax : List α → α → Act → World → Prop) (all : List α)
    (hsz : ∀ pre x vs W, Is pre x vs W → vs.size = ps.size)
    (hcalm : ∀ pre W W', I pre W → Touch W W' (fun _ => False) → I pre W')
    (hI : ∀ pre W r, I pre W → W.heap[w.heap.size + 1]? = some (.loop r) → ∀ r', I pre (W.putObj (w.heap.size + 1) (.loop r')))
    (hIx : ∀ W r, Ix W → W.heap[w.heap.size + 1]? = some (.loop r) → ∀ r', Ix (W.putObj (w.heap.size + 1) (.loop r')))
    (hAx : ∀ pre x a' W r, Ax pre x a' W → W.heap[w.heap.size + 1]? = some (.loop r) → ∀ r', Ax pre x a' (W.putObj (w.heap.size + 1) (.loop r')))
    (hKt : ∀ {A B C : World}, Kp A B → Kp B C → Kp A C) (hKp : ∀ W r r', W.heap[w.heap.size + 1]? = some (.loop r) → Kp W (W.putObj (w.heap.size + 1) (.loop r')))
    (h0 : ∀ r, I [] ((w.alloc (.deferred (some []))).alloc (.loop r)))
    (hseq : ∀ (J : List α → World → Prop) (Jx : World → Prop) (r : Loop), (∀ pre W W', J pre W → Touch W W' (fun _ => False) → J pre W') → (∀ pre x vs W1, Is pre x vs W1 → J pre W1 → YieldAt F (n - 1 - 1) P (w.heap.size + 1) vs W1 fun e W' => (e = .returned (.bool true) ∧ J (pre ++ [x]) W' ∧ Kp W1 W') ∨ (e = .returned (.bool false) ∧ Jx W')) →
      J [] ((w.alloc (.deferred (some []))).alloc (.loop r)) → CallsIn F (n - 1) P gf (#[.func (.yield (w.heap.size + 1)) #[] #[]] ++ lb) ((w.alloc (.deferred (some []))).alloc (.loop r)) fun e W' => (∃ v, e = .returned v) ∧ (J all W' ∨ Jx W'))
    (hassign : ∀ pre x vs W (K : Act → World → Prop), Is pre x vs W → I pre W → w.heap.size + 2 ≤ W.heap.size → (∀ a' W', Ax pre x a' W' → W'.heap[w.heap.size]? = W.heap[w.heap.size]? → W'.heap[w.heap.size + 1]? = W.heap[w.heap.size + 1]? → Kp W W' → K a' W') →
      assign.wpIn (F.inRound (w.heap.size + 1)) (n - 1 - 1) P (Exit.then K (fun _ _ _ => False)) { tmps := (ps.zip vs).foldl (fun t (p, v) => t.setIfInBounds p v) a.tmps, defers := [] } W)
    (hbody : ∀ pre x a' W, Ax pre x a' W → w.heap.size + 2 ≤ W.heap.size → body.wpIn (F.inRound (w.heap.size + 1)) (n - 1 - 1) P (leftP w.heap.size (w.heap.size + 1) (I (pre ++ [x])) Ix Kp W) a' W)
    (hdone : ∀ W, I all W → W.heap[w.heap.size]? = some (.deferred (some [])) → Q .normal { a with defers := { target := .collected w.heap.size, args := #[] } :: a.defers } W)
    (hstop : ∀ W, Ix W → W.heap[w.heap.size]? = some (.deferred (some [])) → Code.ret.wpIn F n P Q { a with defers := { target := .collected w.heap.size, args := #[] } :: a.defers } W) :
    (Code.rangeFunc g ps assign body).wpIn F n P Q a w := by
  refine wpIn_rangeFunc ?_
  intro fn hfn
  rw [hro]
  obtain ⟨rc, hrc⟩ : ∃ rc : LoopState → Option Code → Loop, rc = fun st pe => { state := st, pending := pe, fn, tmps := a.tmps, params := ps, assign, body, defers := w.heap.size } := ⟨_, rfl⟩
  obtain ⟨W1, hW1⟩ : ∃ W1, (w.alloc (.deferred (some []))).alloc (.loop (rc .ready none)) = W1 := ⟨_, rfl⟩
  have hL1 : W1.heap[w.heap.size + 1]? = some (.loop (rc .ready none)) := by rw [← hW1]; exact at_newN (by simp)
  have hD1 : W1.heap[w.heap.size]? = some (.deferred (some [])) := by rw [← hW1]; exact at_oldN (at_newN rfl)
  refine ⟨w.heap.size + 1, [{ target := .collected w.heap.size, args := #[] }], W1, { target := .fn (.func gf) lb, args := #[.func (.yield (w.heap.size + 1)) #[] #[]] }, W1, gf,
    #[.func (.yield (w.heap.size + 1)) #[] #[]] ++ lb, W1, ?_, ?_, ?_, ?_, fun _ => h1, ?_⟩
  · rw [← hW1, hrc]; exact run_enterLoop_outer _ _ _ _ _
  · simp only [resolve, hg]
    simp [go_sem]
  · intro f' hf'; simp [Target.leads] at hf'; subst hf'; exact hFg
  · simp [invoke, go_sem, eg]
  · have hq := hseq (fun pre W => I pre W ∧ W.heap[w.heap.size + 1]? = some (.loop (rc .ready none)) ∧ W.heap[w.heap.size]? = some (.deferred (some [])))
      (fun W => Ix W ∧ W.heap[w.heap.size + 1]? = some (.loop (rc .done (some .ret))) ∧ W.heap[w.heap.size]? = some (.deferred (some []))) (rc .ready none) ?calm ?_ (by rw [hW1]; exact ⟨by rw [← hW1]; exact h0 _, hL1, hD1⟩)
    case calm =>
      rintro pre Wa Wb ⟨k1, k2, k3⟩ hT
      exact ⟨hcalm _ _ _ k1 hT, (hT.block _ (Array.getElem?_eq_some_iff.1 k2).1 (fun h => h)).trans k2, (hT.block _ (Array.getElem?_eq_some_iff.1 k3).1 (fun h => h)).trans k3⟩
    · rw [hW1] at hq
      refine hq.mono ?_
      rintro e W2 ⟨⟨v, rfl⟩, ⟨hi, hl, hd⟩ | ⟨hi, hl, hd⟩⟩
      · exact ⟨none, _, by have := run_endLoop (P := P) hl (by rw [hrc]; simp); rw [hrc] at this; exact this, hdone _ (hI _ _ _ hi hl _) ((World.putObj_heap_other (by omega)).trans hd)⟩
      · exact ⟨some .ret, _, by have := run_endLoop (P := P) hl (by rw [hrc]; simp); rw [hrc] at this; exact this, hstop _ (hIx _ _ hi hl _) ((World.putObj_heap_other (by omega)).trans hd)⟩
    · rintro pre x vs W hx ⟨hi, hl, hd⟩
      have hlt := (Array.getElem?_eq_some_iff.1 hl).1
      have hy := run_yield (P := P) (args := vs) hl (by rw [hrc]; exact hsz pre x vs W hx)
      rw [hrc] at hy
      refine ⟨fn, _, assign, body, hy, roundIn_of_wpIn hfn (hassign pre x vs W _ hx hi (by omega) ?_)⟩
      intro a' Wa hax hda hla hka
      rw [hl] at hla
      rw [hd] at hda
      have hlta := (Array.getElem?_eq_some_iff.1 hla).1
      refine ⟨_, run_beginRound hla (by rw [hrc]), ?_⟩
      obtain ⟨Wb, hWb⟩ : ∃ Wb, Wa.putObj (w.heap.size + 1) (.loop { rc .ready none with state := .busy }) = Wb := ⟨_, rfl⟩
      have hlb : Wb.heap[w.heap.size + 1]? = some (.loop { rc .ready none with state := .busy }) := by rw [← hWb]; exact World.putObj_heap_same hlta
      have hdb : Wb.heap[w.heap.size]? = some (.deferred (some [])) := by rw [← hWb]; exact (World.putObj_heap_other (by omega)).trans hda
      have hkb : Kp Wa Wb := by rw [← hWb]; exact hKp _ _ _ hla
      have haxb : Ax pre x a' Wb := by rw [← hWb]; exact hAx _ _ _ _ _ hax hla _
      rw [hWb]
      refine wpIn_mono (hbody pre x a' Wb haxb (by have := (Array.getElem?_eq_some_iff.1 hlb).1; omega)) ?_
      rintro e a3 W3 hp
      cases e with
      | normal =>
        obtain ⟨k1, k2, k3, k4⟩ := hp
        rw [hlb] at k2
        rw [hdb] at k1
        have := run_endRound (P := P) none k2
        rw [hrc] at this
        refine ⟨_, _, this, .inl ⟨rfl, ⟨hI _ _ _ k3 k2 _, ?_, (World.putObj_heap_other (by omega)).trans k1⟩, hKt hka (hKt hkb (hKt k4 (hKp _ _ _ k2)))⟩⟩
        rw [World.putObj_heap_same (Array.getElem?_eq_some_iff.1 k2).1, hrc]
        rfl
      | ret =>
        obtain ⟨k1, k2, k3⟩ := hp
        rw [hlb] at k2
        rw [hdb] at k1
        have := run_endRound (P := P) (some .ret) k2
        rw [hrc] at this
        refine ⟨_, _, this, .inr ⟨rfl, hIx _ _ k3 k2 _, ?_, (World.putObj_heap_other (by omega)).trans k1⟩⟩
        rw [World.putObj_heap_same (Array.getElem?_eq_some_iff.1 k2).1, hrc]
        rfl
      | exit id => exact hp.elim
      | goto t => exact hp.elim
      | panic ch => exact hp.elim
      | outgrown => exact hp.elim

theorem yield_wide {a b : Nat} {P : Program} {l : Nat} {args : Array Value} {W : World} {R : Ending → World → Prop} (h : YieldAt Fence.wide a P l args W R) : YieldAt Fence.wide b P l args W R := by
  obtain ⟨fn, tmps, assign, body, h1, h2⟩ := h
  exact ⟨fn, tmps, assign, body, h1, h2.1, fun c cs _ => h2.2 c cs (room_wide _)⟩
end Go.Proofs.YtcimhljnboeobaaDoor
