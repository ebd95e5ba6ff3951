/- names: where a program's first wrong part is. -/
import Derived.Test.YtjblhiekccjdcaaRNParts
import Derived.Shelf.Abstract
import Derived.Shelf.RegionOpen
namespace Go.Proofs.YtjblhiekccjdcaaR
open Go.RowKit Go.Maps Go.Shelf

attribute [local go_sem] Oper.semAt_some

theorem parts_call (v : Value) (w : World) : Calls Try.prog 70 #[.agg #[v]] w fun e w' => e = .returned (.func (.func 77) #[] #[.pointer (some ⟨w.heap.size, 0, none⟩)]) ∧ w' = w.alloc (.cells #[v] 56) := by
  go_enter Try.func70, Try.ntmps70
  go_wp2
  go_ret
  exact ⟨rfl, rfl⟩
/-- The first part that is wrong, as a state goes on. -/
def firstBad {σ : Type} (step : σ → Prt → Bool × σ) : σ → List Prt → Option Prt
  | _, [] => none
  | s, x :: r => if (step s x).1 = true then some x else firstBad step (step s x).2 r
def runSt {σ : Type} (step : σ → Prt → Bool × σ) : σ → List Prt → σ
  | s, [] => s
  | s, x :: r => runSt step (step s x).2 r
theorem runSt_snoc {σ : Type} {step : σ → Prt → Bool × σ} : ∀ {l : List Prt} {s : σ} {x : Prt}, runSt step s (l ++ [x]) = (step (runSt step s l) x).2
  | [], _, _ => rfl
  | _ :: r, _, _ => runSt_snoc (l := r)
theorem firstBad_cons {σ : Type} {step : σ → Prt → Bool × σ} {s : σ} {x : Prt} {r : List Prt} : firstBad step s (x :: r) = if (step s x).1 = true then some x else firstBad step (step s x).2 r := rfl
theorem firstBad_app {σ : Type} {step : σ → Prt → Bool × σ} : ∀ {l r : List Prt} {s : σ}, firstBad step s l = none → firstBad step s (l ++ r) = firstBad step (runSt step s l) r
  | [], _, _, _ => rfl
  | x :: l, r, s, h => by
    rw [firstBad_cons] at h
    split at h
    · cases h
    · rename_i hn
      rw [List.cons_append, firstBad_cons, if_neg hn]
      exact firstBad_app h
/-- Where a part is. -/
def Prt.at : Prt → Nat × Nat × Nat
  | .fn f _ => (f, 0, 0)
  | .blk f b _ _ => (f, b, 0)
  | .ins f b i _ _ _ => (f, b, i)
def ptA (q : Nat × Nat × Nat) : Array Value := #[.int .i64 q.1, .int .i64 q.2.1, .int .i64 q.2.2]
def resAt (x : Option Prt) : Nat × Nat × Nat := match x with | some x => x.at | none => (0, 0, 0)
theorem PrtV.form {w : World} {x : Prt} {vs : Array Value} (h : PrtV w x vs) : ∃ q1 q2 q3, vs = #[.int .i64 x.at.1, .int .i64 x.at.2.1, .int .i64 x.at.2.2, .pointer q1, .pointer q2, .pointer q3] := by
  cases x with
  | fn f d => obtain ⟨b, o, rfl, -⟩ := h; exact ⟨_, _, _, rfl⟩
  | blk f k d x => obtain ⟨b, o, b2, o2, rfl, -⟩ := h; exact ⟨_, _, _, rfl⟩
  | ins f k i d x c => obtain ⟨b, o, b2, o2, b3, o3, rfl, -⟩ := h; exact ⟨_, _, _, rfl⟩
theorem PrtV.below {w w' : World} {x : Prt} {vs : Array Value} (h : PrtV w x vs) (hb : Below w.heap.size w w') : PrtV w' x vs := by
  cases x with
  | fn f d => obtain ⟨b, o, rfl, h1⟩ := h; exact ⟨b, o, rfl, h1.below hb⟩
  | blk f k d x => obtain ⟨b, o, b2, o2, rfl, h1, h2⟩ := h; exact ⟨b, o, b2, o2, rfl, h1.below hb, h2.below hb⟩
  | ins f k i d x c => obtain ⟨b, o, b2, o2, b3, o3, rfl, h1, h2, h3⟩ := h; exact ⟨b, o, b2, o2, b3, o3, rfl, h1.below hb, h2.below hb, h3.below hb⟩
/-- A state that is kept in blocks U of memory: what a call of its function does. -/
structure Keeps {σ : Type} (P : List Fun) (m : Nat) (W0 : World) (K : Nat) (caps : Array Value) (step : σ → Prt → Bool × σ) (s0 : σ) (I : σ → (Nat → Prop) → World → Prop) : Prop where
  calm : ∀ s U W W', I s U W → Touch W W' (fun k => ¬ U k) → I s U W'
  call : ∀ s U x vs W, (∃ pre rest, partsL P = pre ++ x :: rest ∧ s = runSt step s0 pre ∧ firstBad step s0 pre = none) → PrtV W0 x vs → Below m W0 W → I s U W → Calls Try.prog K (#[.agg vs] ++ caps) W fun e W' => ∃ U', e = .returned (.bool (step s x).1) ∧ I (step s x).2 U' W' ∧ Touch W W' U ∧ ∀ k, U' k → U k ∨ (W.heap.size ≤ k ∧ k < W'.heap.size)
theorem partsCalls_at {P : List Fun} {pre rest : List Prt} {x : Prt} (h : partsL P = pre ++ x :: rest) : x ∈ partsL P := by
  rw [h]; simp
/-- Between two rounds of where. -/
structure WSt {σ : Type} (step : σ → Prt → Bool × σ) (I : σ → (Nat → Prop) → World → Prop) (s0 : σ) (m : Nat) (W0 : World) (A K : Nat) (caps : Array Value) (pre : List Prt) (U : Nat → Prop) (W : World) : Prop where
  st : I (runSt step s0 pre) U W
  own : ∀ k, U k → m ≤ k ∧ k < W.heap.size ∧ (k < A ∨ A + 7 ≤ k)
  ok : firstBad step s0 pre = none
  b1 : W.heap[A + 1]? = some (.cells #[.func (.func K) #[] caps] 68 (0, 0))
  b2 : W.heap[A + 2]? = some (.cells #[.int .i64 0, .int .i64 0, .int .i64 0] 30 (0, 0))
  b3 : W.heap[A + 3]? = some (.cells #[.bool false] 4 (0, 0))
  bel : Below m W0 W
theorem touch_putObj (W : World) (l : Nat) (o : Obj) : Touch W (W.putObj l o) (fun k => k = l) := ⟨rfl, rfl, rfl, by simp, fun k _ hn => World.putObj_heap_other hn⟩
theorem WSt.off {σ : Type} {step : σ → Prt → Bool × σ} {I : σ → (Nat → Prop) → World → Prop} {s0 : σ} {P : List Fun} {m : Nat} {W0 : World} {A K : Nat} {caps : Array Value} {pre : List Prt} {U : Nat → Prop} {W W' : World} {S : Nat → Prop} (hK : Keeps P m W0 K caps step s0 I) (hm : m = W0.heap.size)
    (h : WSt step I s0 m W0 A K caps pre U W) (hT : Touch W W' S) (hS : ∀ k, S k → ¬ U k ∧ k ≠ A + 1 ∧ k ≠ A + 2 ∧ k ≠ A + 3 ∧ m ≤ k) : WSt step I s0 m W0 A K caps pre U W' := by
  have g : ∀ {k : Nat} {o : Obj}, W.heap[k]? = some o → ¬ S k → W'.heap[k]? = some o := fun {k} {o} ho hn => (hT.block k (Array.getElem?_eq_some_iff.1 ho).1 hn).trans ho
  refine ⟨hK.calm _ _ _ _ h.st (hT.mono (fun k _ hs => (hS k hs).1)), fun k hk => ?_, h.ok, g h.b1 (fun hs => (hS _ hs).2.1 rfl), g h.b2 (fun hs => (hS _ hs).2.2.1 rfl), g h.b3 (fun hs => (hS _ hs).2.2.2.1 rfl), h.bel.trans (hT.below (by rw [hm]; have := h.bel.size; exact this) (fun k hk hs => by have := (hS k hs).2.2.2.2; omega))⟩
  have := h.own k hk
  have := hT.size
  exact ⟨by omega, by omega, by omega⟩
/-- How a round is left. -/
def leftP (D L : Nat) (I : World → Prop) (Ix : World → Prop) (Kp : World → World → Prop) (W : World) : Exit → Act → World → Prop
  | .normal, _, W' => W'.heap[D]? = W.heap[D]? ∧ W'.heap[L]? = W.heap[L]? ∧ I W' ∧ Kp W W'
  | .ret, _, W' => W'.heap[D]? = W.heap[D]? ∧ W'.heap[L]? = W.heap[L]? ∧ Ix W'
  | _, _, _ => False
/-- A loop over an iterator of lists' elements: what it yields is told by 'Is pre x vs W'; what is kept by Kp; left by 'ret' alone. -/
theorem rangeFunc_ret {α : Type} {F : Fence} {n : Nat} {P : Program} {g : Operand} {ps : Array Tmp} {assign body : Code} {Q : Exit → Act → World → Prop} {a : Act} {w : World}
    (hro : F.round = none) (h1 : 1 ≤ n) {gf : Nat} {lb : Array Value} (hg : a.eval g = .func (.func gf) #[] lb) (hFg : F.fn gf) (eg : ∀ args w, (callFunc gf args).run P w = .ok (.enter gf args) w)
    (Is : List α → α → Array Value → World → Prop) (Kp : World → World → Prop) (I : List α → World → Prop) (Ix : World → Prop) (Ax : List α → α → Act → World → Prop) (all : List α)
    (hsz : ∀ pre x vs W, Is pre x vs W → vs.size = ps.size)
    (hI : ∀ pre W r, I pre W → W.heap[w.heap.size + 1]? = some (.loop r) → ∀ r', I pre (W.putObj (w.heap.size + 1) (.loop r')))
    (hIx : ∀ W r, Ix W → W.heap[w.heap.size + 1]? = some (.loop r) → ∀ r', Ix (W.putObj (w.heap.size + 1) (.loop r')))
    (hAx : ∀ pre x a' W r, Ax pre x a' W → W.heap[w.heap.size + 1]? = some (.loop r) → ∀ r', Ax pre x a' (W.putObj (w.heap.size + 1) (.loop r')))
    (hKt : ∀ {A B C : World}, Kp A B → Kp B C → Kp A C) (hKp : ∀ W r r', W.heap[w.heap.size + 1]? = some (.loop r) → Kp W (W.putObj (w.heap.size + 1) (.loop r')))
    (h0 : ∀ r, I [] ((w.alloc (.deferred (some []))).alloc (.loop r)))
    (hseq : ∀ (J : List α → World → Prop) (Jx : World → Prop) (r : Loop), (∀ pre x vs W1, Is pre x vs W1 → J pre W1 → YieldAt F (n - 1 - 1) P (w.heap.size + 1) vs W1 fun e W' => (e = .returned (.bool true) ∧ J (pre ++ [x]) W' ∧ Kp W1 W') ∨ (e = .returned (.bool false) ∧ Jx W')) →
      J [] ((w.alloc (.deferred (some []))).alloc (.loop r)) → CallsIn F (n - 1) P gf (#[.func (.yield (w.heap.size + 1)) #[] #[]] ++ lb) ((w.alloc (.deferred (some []))).alloc (.loop r)) fun e W' => (∃ v, e = .returned v) ∧ (J all W' ∨ Jx W'))
    (hassign : ∀ pre x vs W (K : Act → World → Prop), Is pre x vs W → I pre W → w.heap.size + 2 ≤ W.heap.size → (∀ a' W', Ax pre x a' W' → W'.heap[w.heap.size]? = W.heap[w.heap.size]? → W'.heap[w.heap.size + 1]? = W.heap[w.heap.size + 1]? → Kp W W' → K a' W') →
      assign.wpIn (F.inRound (w.heap.size + 1)) (n - 1 - 1) P (Exit.then K (fun _ _ _ => False)) { tmps := (ps.zip vs).foldl (fun t (p, v) => t.setIfInBounds p v) a.tmps, defers := [] } W)
    (hbody : ∀ pre x a' W, Ax pre x a' W → w.heap.size + 2 ≤ W.heap.size → body.wpIn (F.inRound (w.heap.size + 1)) (n - 1 - 1) P (leftP w.heap.size (w.heap.size + 1) (I (pre ++ [x])) Ix Kp W) a' W)
    (hdone : ∀ W, I all W → W.heap[w.heap.size]? = some (.deferred (some [])) → Q .normal { a with defers := { target := .collected w.heap.size, args := #[] } :: a.defers } W)
    (hstop : ∀ W, Ix W → W.heap[w.heap.size]? = some (.deferred (some [])) → Code.ret.wpIn F n P Q { a with defers := { target := .collected w.heap.size, args := #[] } :: a.defers } W) :
    (Code.rangeFunc g ps assign body).wpIn F n P Q a w := by
  refine wpIn_rangeFunc ?_
  intro fn hfn
  rw [hro]
  obtain ⟨rc, hrc⟩ : ∃ rc : LoopState → Option Code → Loop, rc = fun st pe => { state := st, pending := pe, fn, tmps := a.tmps, params := ps, assign, body, defers := w.heap.size } := ⟨_, rfl⟩
  obtain ⟨W1, hW1⟩ : ∃ W1, (w.alloc (.deferred (some []))).alloc (.loop (rc .ready none)) = W1 := ⟨_, rfl⟩
  have hL1 : W1.heap[w.heap.size + 1]? = some (.loop (rc .ready none)) := by rw [← hW1]; exact at_newN (by simp)
  have hD1 : W1.heap[w.heap.size]? = some (.deferred (some [])) := by rw [← hW1]; exact at_oldN (at_newN rfl)
  refine ⟨w.heap.size + 1, [{ target := .collected w.heap.size, args := #[] }], W1, { target := .fn (.func gf) lb, args := #[.func (.yield (w.heap.size + 1)) #[] #[]] }, W1, gf,
    #[.func (.yield (w.heap.size + 1)) #[] #[]] ++ lb, W1, ?_, ?_, ?_, ?_, fun _ => h1, ?_⟩
  · rw [← hW1, hrc]; exact run_enterLoop_outer _ _ _ _ _
  · simp only [resolve, hg]
    simp [go_sem]
  · intro f' hf'; simp [Target.leads] at hf'; subst hf'; exact hFg
  · simp [invoke, go_sem, eg]
  · have hq := hseq (fun pre W => I pre W ∧ W.heap[w.heap.size + 1]? = some (.loop (rc .ready none)) ∧ W.heap[w.heap.size]? = some (.deferred (some [])))
      (fun W => Ix W ∧ W.heap[w.heap.size + 1]? = some (.loop (rc .done (some .ret))) ∧ W.heap[w.heap.size]? = some (.deferred (some []))) (rc .ready none) ?_ (by rw [hW1]; exact ⟨by rw [← hW1]; exact h0 _, hL1, hD1⟩)
    · rw [hW1] at hq
      refine hq.mono ?_
      rintro e W2 ⟨⟨v, rfl⟩, ⟨hi, hl, hd⟩ | ⟨hi, hl, hd⟩⟩
      · exact ⟨none, _, by have := run_endLoop (P := P) hl (by rw [hrc]; simp); rw [hrc] at this; exact this, hdone _ (hI _ _ _ hi hl _) ((World.putObj_heap_other (by omega)).trans hd)⟩
      · exact ⟨some .ret, _, by have := run_endLoop (P := P) hl (by rw [hrc]; simp); rw [hrc] at this; exact this, hstop _ (hIx _ _ hi hl _) ((World.putObj_heap_other (by omega)).trans hd)⟩
    · rintro pre x vs W hx ⟨hi, hl, hd⟩
      have hlt := (Array.getElem?_eq_some_iff.1 hl).1
      have hy := run_yield (P := P) (args := vs) hl (by rw [hrc]; exact hsz pre x vs W hx)
      rw [hrc] at hy
      refine ⟨fn, _, assign, body, hy, roundIn_of_wpIn hfn (hassign pre x vs W _ hx hi (by omega) ?_)⟩
      intro a' Wa hax hda hla hka
      rw [hl] at hla
      rw [hd] at hda
      have hlta := (Array.getElem?_eq_some_iff.1 hla).1
      refine ⟨_, run_beginRound hla (by rw [hrc]), ?_⟩
      obtain ⟨Wb, hWb⟩ : ∃ Wb, Wa.putObj (w.heap.size + 1) (.loop { rc .ready none with state := .busy }) = Wb := ⟨_, rfl⟩
      have hlb : Wb.heap[w.heap.size + 1]? = some (.loop { rc .ready none with state := .busy }) := by rw [← hWb]; exact World.putObj_heap_same hlta
      have hdb : Wb.heap[w.heap.size]? = some (.deferred (some [])) := by rw [← hWb]; exact (World.putObj_heap_other (by omega)).trans hda
      have hkb : Kp Wa Wb := by rw [← hWb]; exact hKp _ _ _ hla
      have haxb : Ax pre x a' Wb := by rw [← hWb]; exact hAx _ _ _ _ _ hax hla _
      rw [hWb]
      refine wpIn_mono (hbody pre x a' Wb haxb (by have := (Array.getElem?_eq_some_iff.1 hlb).1; omega)) ?_
      rintro e a3 W3 hp
      cases e with
      | normal =>
        obtain ⟨k1, k2, k3, k4⟩ := hp
        rw [hlb] at k2
        rw [hdb] at k1
        have := run_endRound (P := P) none k2
        rw [hrc] at this
        refine ⟨_, _, this, .inl ⟨rfl, ⟨hI _ _ _ k3 k2 _, ?_, (World.putObj_heap_other (by omega)).trans k1⟩, hKt hka (hKt hkb (hKt k4 (hKp _ _ _ k2)))⟩⟩
        rw [World.putObj_heap_same (Array.getElem?_eq_some_iff.1 k2).1, hrc]
        rfl
      | ret =>
        obtain ⟨k1, k2, k3⟩ := hp
        rw [hlb] at k2
        rw [hdb] at k1
        have := run_endRound (P := P) (some .ret) k2
        rw [hrc] at this
        refine ⟨_, _, this, .inr ⟨rfl, hIx _ _ k3 k2 _, ?_, (World.putObj_heap_other (by omega)).trans k1⟩⟩
        rw [World.putObj_heap_same (Array.getElem?_eq_some_iff.1 k2).1, hrc]
        rfl
      | exit id => exact hp.elim
      | goto t => exact hp.elim
      | panic ch => exact hp.elim
      | outgrown => exact hp.elim

theorem set_three {W : World} {b : Nat} {u0 u1 u2 v0 v1 v2 : Value} {t : TypeId} (h : W.heap[b]? = some (.cells #[u0, u1, u2] t (0, 0))) : (((W.setCell ⟨b, 0, none⟩ v0).setCell ⟨b, 1, none⟩ v1).setCell ⟨b, 2, none⟩ v2).heap[b]? = some (.cells #[v0, v1, v2] t (0, 0)) := by
  rw [blk_set _ (blk_set _ (blk_set _ h))]
  rfl
theorem set_one {W : World} {b : Nat} {u0 v0 : Value} {t : TypeId} (h : W.heap[b]? = some (.cells #[u0] t (0, 0))) : (W.setCell ⟨b, 0, none⟩ v0).heap[b]? = some (.cells #[v0] t (0, 0)) := by
  rw [blk_set _ h]
  rfl
/-- The results of where, out of their cells. -/
theorem where_left {W : World} {D A : Nat} {q : Nat × Nat × Nat} {b : Bool} {x0 x1 x2 x3 x6 x7 x8 x9 x10 x11 x12 x13 x14 x15 : Value} {R : Ending → World → Prop} (hD : W.heap[D]? = some (.deferred (some []))) (h2 : W.heap[A + 2]? = some (.cells (ptA q) 30 (0, 0))) (h3 : W.heap[A + 3]? = some (.cells #[.bool b] 4 (0, 0))) (hA2 : A + 2 ≠ D) (hA3 : A + 3 ≠ D)
    (hR : R (.returned (.tuple #[.agg (ptA q), .bool b])) (W.putObj D (.deferred none))) :
    bodyPostM Fence.wide 6 Try.prog Try.f40 R .ret { tmps := #[x0, x1, x2, x3, .pointer (some ⟨A + 2, 0, none⟩), .pointer (some ⟨A + 3, 0, none⟩), x6, x7, x8, x9, x10, x11, x12, x13, x14, x15], defers := [{ target := .collected D, args := #[] }] } W := by
  refine ⟨by simp, .inl ⟨_, _, rfl, run_takeDeferred hD, ?_⟩⟩
  have g2 : (W.putObj D (.deferred none)).heap[A + 2]? = some (.cells (ptA q) 30 (0, 0)) := (World.putObj_heap_other hA2).trans h2
  have g3 : (W.putObj D (.deferred none)).heap[A + 3]? = some (.cells #[.bool b] 4 (0, 0)) := (World.putObj_heap_other hA3).trans h3
  generalize W.putObj D (.deferred none) = W2 at g2 g3 hR ⊢
  have c0 : W2.cell? ⟨A + 2, 0, none⟩ = some (.int .i64 q.1) := by rw [blk_cell g2]; rfl
  have c1 : W2.cell? ⟨A + 2, 1, none⟩ = some (.int .i64 q.2.1) := by rw [blk_cell g2]; rfl
  have c2 : W2.cell? ⟨A + 2, 2, none⟩ = some (.int .i64 q.2.2) := by rw [blk_cell g2]; rfl
  have c3 : W2.cell? ⟨A + 3, 0, none⟩ = some (.bool b) := by rw [blk_cell g3]; rfl
  exact ⟨.tuple #[.agg (ptA q), .bool b], by simp [results, Try.results40, go_sem, c0, c1, c2, c3, ptA], hR⟩

set_option maxRecDepth 100000 in
set_option maxHeartbeats 8000000 in
theorem where_any {σ : Type} {step : σ → Prt → Bool × σ} {I : σ → (Nat → Prop) → World → Prop} {P : List Fun} {m : Nat} {W0 w : World} {K : Nat} {caps : Array Value} {v : Value} {s0 : σ} {U0 : Nat → Prop}
    (hK : Keeps P m W0 K caps step s0 I) (eg : ∀ args w, (callFunc K args).run Try.prog w = .ok (.enter K args) w) (hm : m = W0.heap.size) (hP : RdE 3 RdFun W0 v P) (hb0 : Below m W0 w) (hU : ∀ k, U0 k → m ≤ k ∧ k < w.heap.size) (hI : I s0 U0 w)
    (hl1 : P.length ≤ 1000000) (hl2 : ∀ d ∈ P, d.blocks.length ≤ 1000000) (hl3 : ∀ d ∈ P, ∀ x ∈ d.blocks, x.code.length ≤ 1000000) :
    Calls Try.prog 40 #[.agg #[v], .func (.func K) #[] caps] w fun e w' => e = .returned (.tuple #[.agg (ptA (resAt (firstBad step s0 (partsL P)))), .bool (firstBad step s0 (partsL P)).isSome]) ∧ Below m W0 w' := by
  obtain ⟨a0, c0, rfl⟩ := hP.form
  refine (callsIn_wide (n := 6)).1 ?_
  have hr := fun w => Lib.hid (callsIn_wide (n := 5).2 (parts_call (.slice a0 P.length c0) w))
  have hfP : Fence.wide.fn 70 := trivial
  obtain ⟨p, hp⟩ : ∃ p, p = P.length := ⟨_, rfl⟩
  rw [← hp] at hr ⊢
  refine callsIn_of_wp_marks Try.func40 rfl trivial ?_ rfl
  simp only [Try.ntmps40, List.size_toArray, List.length_cons, List.length_nil, Nat.reduceAdd, Nat.reduceSub, Array.replicate_succ, Array.replicate_zero, List.push_toArray, List.append_toArray, List.nil_append, List.cons_append]
  replace hK := Lib.hid hK
  replace eg := Lib.hid eg
  replace hm := Lib.hid hm
  replace hU := Lib.hid hU
  replace hI := Lib.hid hI
  replace hP := Lib.hid hP
  replace hp := Lib.hid hp
  replace hb0 := Lib.hid hb0
  replace hl1 := Lib.hid hl1
  replace hl2 := Lib.hid hl2
  replace hl3 := Lib.hid hl3
  gi_wp2_with (gi_at_call 70; refine (hr _).out.mono ?_; rintro e w' ⟨rfl, rfl⟩)
  obtain ⟨A, hA⟩ : ∃ A, A = w.heap.size := ⟨_, rfl⟩
  have hF : Hid (∃ w5, w5 = ((((w.alloc (.cells #[.slice a0 p c0] 56)).alloc (.cells #[.func (.func K) #[] caps] 68)).alloc (.cells #[.int .i64 0, .int .i64 0, .int .i64 0] 30)).alloc (.cells #[.bool false] 4)).alloc (.cells #[.slice a0 p c0] 56)) := Lib.hid ⟨_, rfl⟩
  obtain ⟨w5, hw5⟩ := hF.out
  rw [← hw5, ← hA]
  have hs5 : w5.heap.size = A + 5 := by rw [hw5, hA]; simp
  have h1 : w5.heap[A + 1]? = some (.cells #[.func (.func K) #[] caps] 68 (0, 0)) := by rw [hw5]; exact at_oldN (at_oldN (at_oldN (at_newN (by rw [hA]; simp))))
  have h2 : w5.heap[A + 2]? = some (.cells #[.int .i64 0, .int .i64 0, .int .i64 0] 30 (0, 0)) := by rw [hw5]; exact at_oldN (at_oldN (at_newN (by rw [hA]; simp)))
  have h3 : w5.heap[A + 3]? = some (.cells #[.bool false] 4 (0, 0)) := by rw [hw5]; exact at_oldN (at_newN (by rw [hA]; simp))
  have h4 : w5.heap[A + 4]? = some (.cells #[.slice a0 p c0] 56 (0, 0)) := by rw [hw5]; exact at_newN (by rw [hA]; simp)
  have hb5 : Below A w w5 := by
    rw [hw5, hA]
    exact (((((Below.refl _ _).alloc (Nat.le_refl _) _).alloc (by simp) _).alloc (by simp; omega) _).alloc (by simp; omega) _).alloc (by simp; omega) _
  have hmA : m ≤ A := by rw [hm.out, hA]; have := hb0.out.size; exact this
  have hI5 : I s0 U0 w5 := hK.out.calm _ _ _ _ hI.out ⟨hb5.os, hb5.tape, hb5.output, hb5.size, fun k hk hn => hb5.block k (by rw [hA]; exact hk)⟩
  have hB5 : Below m W0 w5 := hb0.out.trans (hb5.mono hmA)
  have hA1 : w.heap.size ≤ A := by omega
  have hA2 : A ≤ w.heap.size := by omega
  have hs5a : w5.heap.size ≤ A + 5 := by omega
  have hs5b : A + 5 ≤ w5.heap.size := by omega
  clear hw5 hF hr hA hs5
  rw [show A + 1 + 1 + 1 + 1 = A + 4 from rfl, show A + 1 + 1 + 1 = A + 3 from rfl, show A + 1 + 1 = A + 2 from rfl]
  refine rangeFunc_ret (α := Prt) rfl (by omega) (gf := 77) (lb := #[.pointer (some ⟨A + 4, 0, none⟩)]) rfl trivial (enters_of Try.func77 (by kernel_rfl) rfl)
    (fun pre x vs W => ∃ rest vs0, vs = #[.agg vs0] ∧ partsL P = pre ++ x :: rest ∧ PrtV W0 x vs0 ∧ Below m W0 W)
    (KpN m (A + 4))
    (fun pre W => ∃ U, WSt step I s0 m W0 A K caps pre U W)
    (fun W => ∃ x, firstBad step s0 (partsL P) = some x ∧ W.heap[A + 2]? = some (.cells (ptA x.at) 30 (0, 0)) ∧ W.heap[A + 3]? = some (.cells #[.bool true] 4 (0, 0)) ∧ Below m W0 W)
    (fun pre x a' W => ∃ U rest vs0 t6, a' = { tmps := #[.agg #[.slice a0 p c0], .func (.func K) #[] caps, .pointer (some ⟨A, 0, none⟩), .pointer (some ⟨A + 1, 0, none⟩), .pointer (some ⟨A + 2, 0, none⟩), .pointer (some ⟨A + 3, 0, none⟩), .pointer (some ⟨t6, 0, none⟩), .agg #[.slice a0 p c0], .func (.func 77) #[] #[.pointer (some ⟨A + 4, 0, none⟩)], .agg vs0, undef, undef, undef, undef, undef, undef], defers := [] } ∧
      WSt step I s0 m W0 A K caps pre U W ∧ ¬ U t6 ∧ partsL P = pre ++ x :: rest ∧ PrtV W0 x vs0 ∧ W.heap[t6]? = some (.cells vs0 65 (0, 0)) ∧ A + 7 ≤ t6)
    (partsL P) ?hsz ?hI ?hIx ?hAx (fun h k => h.trans k) ?hKp ?h0 ?hseq ?hassign ?hbody ?hdone ?hstop
  case hsz => rintro pre x vs W ⟨rest, vs0, rfl, -⟩; rfl
  case hI =>
    rintro pre W r ⟨U, h⟩ hl r'
    exact ⟨U, h.off hK.out hm.out (touch_putObj _ _ _) (fun k hk => by subst hk; exact ⟨fun hu => by have := h.own _ hu; omega, by omega, by omega, by omega, by omega⟩)⟩
  case hIx =>
    rintro W r ⟨x, e1, e2, e3, e4⟩ hl r'
    exact ⟨x, e1, (World.putObj_heap_other (by omega)).trans e2, (World.putObj_heap_other (by omega)).trans e3, e4.trans ((touch_putObj W _ _).below (by rw [hm.out]; exact e4.size) (fun k hk hs => by omega))⟩
  case hAx =>
    rintro pre x a' W r ⟨U, rest, vs0, t6, rfl, h, hu, e1, e2, e3, e4⟩ hl r'
    exact ⟨U, rest, vs0, t6, rfl, h.off hK.out hm.out (touch_putObj _ _ _) (fun k hk => by subst hk; exact ⟨fun hu => by have := h.own _ hu; omega, by omega, by omega, by omega, by omega⟩), hu, e1, e2, (World.putObj_heap_other (by omega)).trans e3, e4⟩
  case hKp =>
    intro W r r' hl
    have hlt := (Array.getElem?_eq_some_iff.1 hl).1
    exact ⟨(touch_putObj W _ _).below (by omega) (fun k hk hs => by omega), World.putObj_heap_other (by omega)⟩
  case h0 =>
    intro r
    have hT : Touch w5 ((w5.alloc (.deferred (some []))).alloc (.loop r)) (fun _ => False) := ((Touch.refl _ _).alloc _).alloc _
    refine ⟨U0, hK.out.calm _ _ _ _ hI5 (hT.mono (fun _ _ h => h.elim)), fun k hk => ?_, rfl, at_oldN (at_oldN h1), at_oldN (at_oldN h2), at_oldN (at_oldN h3), hB5.trans (hT.below (by omega) (fun _ _ h => h))⟩
    have := hU.out k hk
    exact ⟨this.1, by simp; omega, .inl (by omega)⟩
  case hseq =>
    intro J Jx r hyv hJ0
    have hT : Touch w5 ((w5.alloc (.deferred (some []))).alloc (.loop r)) (fun _ => False) := ((Touch.refl _ _).alloc _).alloc _
    exact parts_in 5 (by omega) (w5.heap.size + 1) J Jx hm.out hP.out (hB5.trans (hT.below (by omega) (fun _ _ h => h))) (at_oldN (at_oldN (by rw [← hp.out]; exact h4))) hl1.out hl2.out hl3.out (fun pre x rest vs W1 e1 e2 e3 e4 => hyv pre x _ W1 ⟨rest, vs, rfl, e1, e2, e4⟩ e3) hJ0
  case hassign =>
    rintro pre x vs W Kq ⟨rest, vs0, rfl, e1, e2, e3⟩ ⟨U, h⟩ hszW hKq
    obtain ⟨q1, q2, q3, rfl⟩ := e2.form
    have hT : Touch W (W.alloc (.cells #[.int .i64 x.at.1, .int .i64 x.at.2.1, .int .i64 x.at.2.2, .pointer q1, .pointer q2, .pointer q3] 65)) (fun _ => False) := (Touch.refl _ _).alloc _
    have hfin := hKq { tmps := #[.agg #[.slice a0 p c0], .func (.func K) #[] caps, .pointer (some ⟨A, 0, none⟩), .pointer (some ⟨A + 1, 0, none⟩), .pointer (some ⟨A + 2, 0, none⟩), .pointer (some ⟨A + 3, 0, none⟩), .pointer (some ⟨W.heap.size, 0, none⟩), .agg #[.slice a0 p c0], .func (.func 77) #[] #[.pointer (some ⟨A + 4, 0, none⟩)], .agg #[.int .i64 x.at.1, .int .i64 x.at.2.1, .int .i64 x.at.2.2, .pointer q1, .pointer q2, .pointer q3], undef, undef, undef, undef, undef, undef], defers := [] } _
      ⟨U, rest, _, W.heap.size, rfl, h.off hK.out hm.out hT (fun _ h => h.elim), fun hu => by have := h.own _ hu; omega, e1, e2, at_newN rfl, by omega⟩
      (hT.block _ (by omega) (fun h => h)) (hT.block _ (by omega) (fun h => h)) ⟨hT.below (by omega) (fun _ _ h => h), hT.block _ (by omega) (fun h => h)⟩
    replace hfin := Lib.hid hfin
    clear hKq e1 e2 e3 h hT
    gi_wp2
    exact hfin.out
  case hbody =>
    rintro pre x a' W ⟨U, rest, vs0, t6, rfl, h, hu, e1, e2, e3, e4⟩ hszW
    obtain ⟨q1, q2, q3, rfl⟩ := e2.form
    have k1 : W.cell? ⟨A + 1, 0, none⟩ = some (.func (.func K) #[] caps) := by rw [blk_cell h.b1]; rfl
    have t0 : W.cell? ⟨t6, 0, none⟩ = some (.int .i64 x.at.1) := by rw [blk_cell e3]; rfl
    have t1 : W.cell? ⟨t6, 1, none⟩ = some (.int .i64 x.at.2.1) := by rw [blk_cell e3]; rfl
    have t2 : W.cell? ⟨t6, 2, none⟩ = some (.int .i64 x.at.2.2) := by rw [blk_cell e3]; rfl
    have t3 : W.cell? ⟨t6, 3, none⟩ = some (.pointer q1) := by rw [blk_cell e3]; rfl
    have t4 : W.cell? ⟨t6, 4, none⟩ = some (.pointer q2) := by rw [blk_cell e3]; rfl
    have t5 : W.cell? ⟨t6, 5, none⟩ = some (.pointer q3) := by rw [blk_cell e3]; rfl
    have hcl := hK.out.call (runSt step s0 pre) U x _ W ⟨pre, rest, e1, rfl, h.ok⟩ e2 h.bel h.st
    have hci := Lib.hid (CallsIn.inRound (w5.heap.size + 1) ((callsIn_wide (n := 3)).2 hcl))
    have heg := eg.out
    obtain ⟨bad, hbad⟩ : ∃ bad, (step (runSt step s0 pre) x).1 = bad := ⟨_, rfl⟩
    rw [hbad] at hci
    have hst := Lib.hid h
    replace hbad := Lib.hid hbad
    replace e1 := Lib.hid e1
    replace e2 := Lib.hid e2
    replace e3 := Lib.hid e3
    clear hcl h
    have hfK : Fence.wide.fn K := trivial
    gi_wp2
    refine hci.out.mono ?_
    rintro e W2 ⟨U', rfl, hi2, hT2, hU2⟩
    have hh := hst.out
    have nU : ∀ k, A ≤ k → k < A + 7 → ¬ U k := fun k h1 h2 hu => by have := hh.own k hu; omega
    have hb : ∀ k, A ≤ k → k < A + 7 → W2.heap[k]? = W.heap[k]? := fun k h1 h2 => hT2.block k (by omega) (nU k h1 h2)
    have b2 := (hb (A + 2) (by omega) (by omega)).trans hh.b2
    have b3 := (hb (A + 3) (by omega) (by omega)).trans hh.b3
    have hB2 : Below m W W2 := hT2.below (by omega) (fun k hk hu => by have := hh.own k hu; omega)
    cases bad with
    | false =>
      have hw2 : WSt step I s0 m W0 A K caps (pre ++ [x]) U' W2 := by
        refine ⟨by rw [runSt_snoc]; exact hi2, fun k hk => ?_, ?_, (hb (A + 1) (by omega) (by omega)).trans hh.b1, b2, b3, hh.bel.trans hB2⟩
        · rcases hU2 k hk with h | h
          · have h7 := hh.own k h
            have := hT2.size
            exact ⟨h7.1, by omega, h7.2.2⟩
          · exact ⟨by omega, h.2, .inr (by omega)⟩
        · rw [firstBad_app hh.ok, firstBad_cons, hbad.out]
          rfl
      have hfin : leftP w5.heap.size (w5.heap.size + 1) (fun W => ∃ U, WSt step I s0 m W0 A K caps (pre ++ [x]) U W) (fun W => ∃ x, firstBad step s0 (partsL P) = some x ∧ W.heap[A + 2]? = some (.cells (ptA x.at) 30 (0, 0)) ∧ W.heap[A + 3]? = some (.cells #[.bool true] 4 (0, 0)) ∧ Below m W0 W) (KpN m (A + 4)) W .normal { tmps := #[], defers := [] } W2 :=
        ⟨hb _ (by omega) (by omega), hb _ (by omega) (by omega), ⟨U', hw2⟩, hB2, hb _ (by omega) (by omega)⟩
      replace hfin := Lib.hid hfin
      clear hh nU hb b2 b3 hB2 hw2 hi2 hT2 hU2
      gi_wp2
      exact hfin.out
    | true =>
      have g3 : W2.heap[t6]? = some (.cells #[.int .i64 x.at.1, .int .i64 x.at.2.1, .int .i64 x.at.2.2, .pointer q1, .pointer q2, .pointer q3] 65 (0, 0)) := (hT2.block t6 (Array.getElem?_eq_some_iff.1 e3.out).1 hu).trans e3.out
      have r0 : W2.cell? ⟨t6, 0, none⟩ = some (.int .i64 x.at.1) := by rw [blk_cell g3]; rfl
      have r1 : W2.cell? ⟨t6, 1, none⟩ = some (.int .i64 x.at.2.1) := by rw [blk_cell g3]; rfl
      have r2 : W2.cell? ⟨t6, 2, none⟩ = some (.int .i64 x.at.2.2) := by rw [blk_cell g3]; rfl
      have z0 : W2.cell? ⟨A + 2, 0, none⟩ = some (.int .i64 0) := by rw [blk_cell b2]; rfl
      have z1 : W2.cell? ⟨A + 2, 1, none⟩ = some (.int .i64 0) := by rw [blk_cell b2]; rfl
      have z2 : W2.cell? ⟨A + 2, 2, none⟩ = some (.int .i64 0) := by rw [blk_cell b2]; rfl
      have z3 : W2.cell? ⟨A + 3, 0, none⟩ = some (.bool false) := by rw [blk_cell b3]; rfl
      have y2 : ∀ j, W2.frozen? ⟨A + 2, j, none⟩ = false := fun j => by simp [World.frozen?, b2]
      have y3 : W2.frozen? ⟨A + 3, 0, none⟩ = false := by simp [World.frozen?, b3]
      have y20 := y2 0
      have y21 := y2 1
      have y22 := y2 2
      have hT3 : Touch W2 ((((W2.setCell ⟨A + 2, 0, none⟩ (.int .i64 x.at.1)).setCell ⟨A + 2, 1, none⟩ (.int .i64 x.at.2.1)).setCell ⟨A + 2, 2, none⟩ (.int .i64 x.at.2.2)).setCell ⟨A + 3, 0, none⟩ (.bool true)) (fun k => k = A + 2 ∨ k = A + 3) :=
        ((((Touch.refl W2 _).setCell (a := ⟨A + 2, 0, none⟩) (fun _ => .inl rfl) _).setCell (a := ⟨A + 2, 1, none⟩) (fun _ => .inl rfl) _).setCell (a := ⟨A + 2, 2, none⟩) (fun _ => .inl rfl) _).setCell (a := ⟨A + 3, 0, none⟩) (fun _ => .inr rfl) _
      have hfb : firstBad step s0 (partsL P) = some x := by
        rw [e1.out, firstBad_app hh.ok, firstBad_cons, hbad.out]
        rfl
      have hb3 : ((((W2.setCell ⟨A + 2, 0, none⟩ (.int .i64 x.at.1)).setCell ⟨A + 2, 1, none⟩ (.int .i64 x.at.2.1)).setCell ⟨A + 2, 2, none⟩ (.int .i64 x.at.2.2)).setCell ⟨A + 3, 0, none⟩ (.bool true)).heap[A + 3]? = some (.cells #[.bool true] 4 (0, 0)) :=
        set_one (u0 := .bool false) ((Below.heap_setCell _ _ _ _ (by simp)).trans ((Below.heap_setCell _ _ _ _ (by simp)).trans ((Below.heap_setCell _ _ _ _ (by simp)).trans b3)))
      have hb2 : ((((W2.setCell ⟨A + 2, 0, none⟩ (.int .i64 x.at.1)).setCell ⟨A + 2, 1, none⟩ (.int .i64 x.at.2.1)).setCell ⟨A + 2, 2, none⟩ (.int .i64 x.at.2.2)).setCell ⟨A + 3, 0, none⟩ (.bool true)).heap[A + 2]? = some (.cells (ptA x.at) 30 (0, 0)) :=
        (Below.heap_setCell _ _ _ _ (by simp)).trans (set_three b2)
      have hlt2 := hT2.size
      have hfin : leftP w5.heap.size (w5.heap.size + 1) (fun W => ∃ U, WSt step I s0 m W0 A K caps (pre ++ [x]) U W) (fun W => ∃ x, firstBad step s0 (partsL P) = some x ∧ W.heap[A + 2]? = some (.cells (ptA x.at) 30 (0, 0)) ∧ W.heap[A + 3]? = some (.cells #[.bool true] 4 (0, 0)) ∧ Below m W0 W) (KpN m (A + 4)) W .ret { tmps := #[], defers := [] } ((((W2.setCell ⟨A + 2, 0, none⟩ (.int .i64 x.at.1)).setCell ⟨A + 2, 1, none⟩ (.int .i64 x.at.2.1)).setCell ⟨A + 2, 2, none⟩ (.int .i64 x.at.2.2)).setCell ⟨A + 3, 0, none⟩ (.bool true)) :=
        ⟨(hT3.block _ (by omega) (by omega)).trans (hb _ (by omega) (by omega)), (hT3.block _ (by omega) (by omega)).trans (hb _ (by omega) (by omega)), x, hfb, hb2, hb3, (hh.bel.trans hB2).trans (hT3.below (by omega) (fun k hk e => by omega))⟩
      replace hfin := Lib.hid hfin
      clear hh nU hb b2 b3 hB2 hi2 hT2 hU2 hT3 hfb hb3 hb2 g3 y2 t0 t1 t2 t3 t4 t5 k1
      gi_wp2
      exact hfin.out
  case hdone =>
    rintro W ⟨U, h⟩ hD
    have z0 : W.cell? ⟨A + 2, 0, none⟩ = some (.int .i64 0) := by rw [blk_cell h.b2]; rfl
    have z1 : W.cell? ⟨A + 2, 1, none⟩ = some (.int .i64 0) := by rw [blk_cell h.b2]; rfl
    have z2 : W.cell? ⟨A + 2, 2, none⟩ = some (.int .i64 0) := by rw [blk_cell h.b2]; rfl
    have z3 : W.cell? ⟨A + 3, 0, none⟩ = some (.bool false) := by rw [blk_cell h.b3]; rfl
    have y2 : ∀ j, W.frozen? ⟨A + 2, j, none⟩ = false := fun j => by simp [World.frozen?, h.b2]
    have y3 : W.frozen? ⟨A + 3, 0, none⟩ = false := by simp [World.frozen?, h.b3]
    have y20 := y2 0
    have y21 := y2 1
    have y22 := y2 2
    have hst := Lib.hid h
    replace hD := Lib.hid hD
    clear h y2
    gi_wp2
    have hT3 : Touch W ((((W.setCell ⟨A + 2, 0, none⟩ (.int .i64 0)).setCell ⟨A + 2, 1, none⟩ (.int .i64 0)).setCell ⟨A + 2, 2, none⟩ (.int .i64 0)).setCell ⟨A + 3, 0, none⟩ (.bool false)) (fun k => k = A + 2 ∨ k = A + 3) :=
      ((((Touch.refl W _).setCell (a := ⟨A + 2, 0, none⟩) (fun _ => .inl rfl) _).setCell (a := ⟨A + 2, 1, none⟩) (fun _ => .inl rfl) _).setCell (a := ⟨A + 2, 2, none⟩) (fun _ => .inl rfl) _).setCell (a := ⟨A + 3, 0, none⟩) (fun _ => .inr rfl) _
    have hlt := (Array.getElem?_eq_some_iff.1 hD.out).1
    rw [hst.out.ok]
    refine where_left (D := w5.heap.size) (A := A) (q := (0, 0, 0)) (b := false) ((hT3.block _ hlt (by omega)).trans hD.out) ((Below.heap_setCell _ _ _ _ (by simp)).trans (set_three hst.out.b2))
      (set_one (u0 := .bool false) ((Below.heap_setCell _ _ _ _ (by simp)).trans ((Below.heap_setCell _ _ _ _ (by simp)).trans ((Below.heap_setCell _ _ _ _ (by simp)).trans hst.out.b3)))) (by omega) (by omega) ⟨rfl, ?_⟩
    exact (hst.out.bel.trans (hT3.below (by omega) (fun k hk e => by omega))).trans ((touch_putObj _ _ _).below (by simp; omega) (fun k hk e => by omega))
  case hstop =>
    rintro W ⟨x, e1, e2, e3, e4⟩ hD
    replace e1 := Lib.hid e1
    replace e2 := Lib.hid e2
    replace e3 := Lib.hid e3
    replace hD := Lib.hid hD
    gi_wp2
    rw [e1.out]
    have hlt := (Array.getElem?_eq_some_iff.1 hD.out).1
    exact where_left (D := w5.heap.size) (A := A) (q := x.at) (b := true) hD.out e2.out e3.out (by omega) (by omega) ⟨rfl, e4.trans ((touch_putObj _ _ _).below (by omega) (fun k hk e => by omega))⟩
end Go.Proofs.YtjblhiekccjdcaaR
