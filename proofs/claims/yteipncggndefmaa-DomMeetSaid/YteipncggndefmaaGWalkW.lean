/- graph.walk, walked. -/
import Derived.Test.YteipncggndefmaaGWalk
import Derived.Test.YteipncggndefmaaGConts
namespace Go.Proofs.Yteipncggndefmaa
open Go.RowKit Go.Maps Go.Shelf

theorem Touch.join {a b c : World} {U V : Nat → Prop} (h : Touch a b U) (g : Touch b c V) (hv : ∀ k, k < a.heap.size → V k → U k) : Touch a c U :=
  ⟨g.os.trans h.os, g.tape.trans h.tape, g.output.trans h.output, Nat.le_trans h.size g.size, fun k hk hS => (g.block k (Nat.lt_of_lt_of_le hk h.size) (fun e => hS (hv k hk e))).trans (h.block k hk hS)⟩
theorem own_pop {w : World} {base size m c : Nat} {E : TypeId} {a : Option Addr} {xs ys : List Value} (h : w.ownsRow base E size (.slice a (m + 1) c) (m + 1) (xs ++ ys)) (hx : xs.length = m * size) : w.ownsRow base E size (.slice a m c) m xs := by
  obtain ⟨h0, ⟨e, hn⟩ | ⟨g, cap, cur, e, hB, hg, hn, hc, hs, ht⟩⟩ := h
  · omega
  · simp only [Value.slice.injEq] at e
    obtain ⟨rfl, -, rfl⟩ := e
    refine ⟨hx, .inr ⟨g, c, cur, rfl, hB, hg, by omega, hc, hs, ?_⟩⟩
    have := congrArg (List.take (m * size)) ht
    rw [List.take_take, Nat.min_eq_left (Nat.mul_le_mul_right _ (Nat.le_succ m)), ← hx, List.take_left' rfl] at this
    rw [← hx]
    exact this
theorem own_set {w : World} {base size n c g j : Nat} {E : TypeId} {xs : List Value} {x : Value} (h : w.ownsRow base E size (.slice (some ⟨g, 0, none⟩) n c) n xs) (hj : j < n * size) : (w.setCell ⟨g, j, none⟩ x).ownsRow base E size (.slice (some ⟨g, 0, none⟩) n c) n (xs.set j x) := by
  obtain ⟨h0, ⟨e, hn⟩ | ⟨g', cap, cur, e, hB, hg, hn, hc, hs, ht⟩⟩ := h
  · cases e
  · simp only [Value.slice.injEq, Option.some.injEq, Addr.mk.injEq] at e
    obtain ⟨⟨rfl, -, -⟩, -, rfl⟩ := e
    refine ⟨by simpa using h0, .inr ⟨g, c, cur.setIfInBounds j x, rfl, hB, blk_set x hg, hn, hc, by simpa using hs, ?_⟩⟩
    rw [Array.toList_setIfInBounds, List.take_set, ht]
/-- What is told when a node is left: a function, what it keeps, the blocks that it may turn. -/
structure Leaves (Lv : World → (Nat → Prop) → List Nat → Prop) (f : FuncId) (cap : Array Value) : Prop where
  enters : Enters Try.prog f
  lt : ∀ {w : World} {own : Nat → Prop} {o : List Nat}, Lv w own o → ∀ b, own b → b < w.heap.size
  kept : ∀ {w w' : World} {own U : Nat → Prop} {o : List Nat}, Lv w own o → Touch w w' U → (∀ b, own b → ¬ U b) → Lv w' own o
  call : ∀ {w : World} {own : Nat → Prop} {o : List Nat} {x : Nat}, Lv w own o → o.length ≤ 100000 → Calls Try.prog f (#[.int .i64 x] ++ cap) w fun e w' => e = .returned (.tuple #[]) ∧ ∃ own', Lv w' own' (x :: o) ∧ Touch w w' own ∧ ∀ b, own' b → own b ∨ w.heap.size ≤ b

/-- How the walk stands, with what is told. -/
structure WS (Lv : World → (Nat → Prop) → List Nat → Prop) (own0 : Nat → Prop) (w1 wr : World) (gb sb ob S n : Nat) (gv : Value) (seen : List Nat) (ov : Value) (stk : List (Nat × Nat)) (own : Nat → Prop) (o : List Nat) : Prop where
  K : WK wr gb sb ob S n w1.heap.size gv seen ov stk
  lv : Lv wr own o
  off : ∀ b, own b → b ≠ gb ∧ b ≠ sb ∧ b ≠ ob ∧ b ≠ S ∧ ov.ownBlock ≠ some b
  new : ∀ b, own b → own0 b ∨ w1.heap.size ≤ b
  T : Touch w1 wr (fun b => b = ob ∨ b = S ∨ own0 b)
  few : o.length + stk.length + unseen n seen ≤ n

section
variable {Lv : World → (Nat → Prop) → List Nat → Prop} {own0 own : Nat → Prop} {w1 wr w' : World} {gb sb ob S n : Nat} {gv ov : Value} {seen o : List Nat} {stk : List (Nat × Nat)} {f : FuncId} {cap : Array Value}
/-- Behind a call of enter that does nothing. -/
theorem WS.same (hL : Leaves Lv f cap) (H : WS Lv own0 w1 wr gb sb ob S n gv seen ov stk own o) (hK : WK w' gb sb ob S n w1.heap.size gv seen ov stk) (hT : Touch wr w' (fun _ => False)) : WS Lv own0 w1 w' gb sb ob S n gv seen ov stk own o :=
  ⟨hK, hL.kept H.lv hT (fun _ _ h => h), H.off, H.new, H.T.trans (Touch.mono hT (fun _ _ h => h.elim)), H.few⟩
/-- Behind one that enters. -/
theorem WS.enter (hL : Leaves Lv f cap) (H : WS Lv own0 w1 wr gb sb ob S n gv seen ov stk own o) {x : Nat} {ov' : Value} (hx : x < n) (hs : x ∉ seen) (hK : WK w' gb sb ob S n w1.heap.size gv (x :: seen) ov' ((x, 0) :: stk))
    (hT : Touch wr w' (fun b => b = ob ∨ b = S ∨ ov.ownBlock = some b)) (hn : ∀ b, ov'.ownBlock = some b → ov.ownBlock = some b ∨ wr.heap.size ≤ b) : WS Lv own0 w1 w' gb sb ob S n gv (x :: seen) ov' ((x, 0) :: stk) own o := by
  have hov : ∀ b, ov.ownBlock = some b → w1.heap.size ≤ b := fun b hb => (H.K.row.lt b hb).1
  refine ⟨hK, hL.kept H.lv hT (fun b hb e => ?_), fun b hb => ?_, H.new, Touch.join H.T hT (fun k hk e => ?_), ?_⟩
  · obtain ⟨-, -, h1, h2, h3⟩ := H.off b hb
    rcases e with e | e | e
    · exact h1 e
    · exact h2 e
    · exact h3 e
  · obtain ⟨h0, h1, h2, h3, h4⟩ := H.off b hb
    refine ⟨h0, h1, h2, h3, fun e => ?_⟩
    rcases hn b e with e | e
    · exact h4 e
    · have := hL.lt H.lv b hb; omega
  · rcases e with e | e | e
    · exact .inl e
    · exact .inr (.inl e)
    · have := hov k e; omega
  · have h1 := unseen_lt hx hs
    have h2 := H.few
    simp only [List.length_cons]
    omega
/-- Behind the call that tells of a node. -/
theorem WS.told (hL : Leaves Lv f cap) (H : WS Lv own0 w1 wr gb sb ob S n gv seen ov stk own o) {x t : Nat} {k : List (Nat × Nat)} {own' : Nat → Prop} (hk : stk = (x, t) :: k) (hlv : Lv w' own' (x :: o)) (hT : Touch wr w' own) (hn : ∀ b, own' b → own b ∨ wr.heap.size ≤ b) :
    WK w' gb sb ob S n w1.heap.size gv seen ov stk ∧ (∀ b, own' b → b ≠ gb ∧ b ≠ sb ∧ b ≠ ob ∧ b ≠ S ∧ ov.ownBlock ≠ some b) ∧ (∀ b, own' b → own0 b ∨ w1.heap.size ≤ b) ∧ Touch w1 w' (fun b => b = ob ∨ b = S ∨ own0 b) := by
  have lt : ∀ {b : Nat} {o : Obj}, wr.heap[b]? = some o → b < wr.heap.size := fun h => (Array.getElem?_eq_some_iff.1 h).1
  have hsz := H.T.size
  refine ⟨H.K.kept hT H.off, fun b hb => ?_, fun b hb => ?_, Touch.join H.T hT (fun c hc e => ?_)⟩
  · rcases hn b hb with h | h
    · exact H.off b h
    · have a1 := lt H.K.g
      have a2 := lt H.K.s
      have a3 := lt H.K.o
      have a4 := lt H.K.bs
      refine ⟨by omega, by omega, by omega, by omega, fun e => ?_⟩
      have := (H.K.row.lt b e).2
      omega
  · rcases hn b hb with h | h
    · exact H.new b h
    · exact .inr (by omega)
  · rcases H.new c e with h | h
    · exact .inr (.inr h)
    · omega
/-- The last visit goes. -/
theorem WK.pop {base c : Nat} {a : Option Addr} {p : Nat × Nat} {k : List (Nat × Nat)} (K : WK wr gb sb ob S n base gv seen (.slice a (k.length + 1) c) (p :: k)) : WK (wr.setCell ⟨ob, 0, none⟩ (.slice a k.length c)) gb sb ob S n base gv seen (.slice a k.length c) k := by
  have lt : ∀ {b : Nat} {o : Obj}, wr.heap[b]? = some o → b < wr.heap.size := fun h => (Array.getElem?_eq_some_iff.1 h).1
  have T : Touch wr (wr.setCell ⟨ob, 0, none⟩ (.slice a k.length c)) (fun b => b = ob) := (Touch.refl wr (fun b => b = ob)).setCell (a := ⟨ob, 0, none⟩) (fun _ => rfl) _
  have hne := K.ne
  have hlt := K.lt
  refine ⟨(T.block gb (lt K.g) (by omega)).trans K.g, (T.block sb (lt K.s) (by omega)).trans K.s, by rw [blk_set _ K.o]; rfl, (T.block S (lt K.bs) (by omega)).trans K.bs, ?_, hlt, hne, Nat.le_trans K.size T.size⟩
  have hrow := K.row
  rw [stkV_cons, List.length_cons] at hrow
  refine ownsRow_touch (own_pop hrow (stkV_len k)) T (fun b hb e => ?_)
  cases a with
  | none => cases hb
  | some a' => have := (K.row.lt b hb).1; omega
/-- The last visit takes one more. -/
theorem WK.bump {base c rb x t : Nat} {k : List (Nat × Nat)} (K : WK wr gb sb ob S n base gv seen (.slice (some ⟨rb, 0, none⟩) (k.length + 1) c) ((x, t) :: k)) : WK (wr.setCell ⟨rb, k.length * 2 + 1, none⟩ (.int .i64 ((t : Int) + 1))) gb sb ob S n base gv seen (.slice (some ⟨rb, 0, none⟩) (k.length + 1) c) ((x, t + 1) :: k) := by
  have lt : ∀ {b : Nat} {o : Obj}, wr.heap[b]? = some o → b < wr.heap.size := fun h => (Array.getElem?_eq_some_iff.1 h).1
  have hB := (K.row.lt rb rfl).1
  have T : Touch wr (wr.setCell ⟨rb, k.length * 2 + 1, none⟩ (.int .i64 ((t : Int) + 1))) (fun b => b = rb) := (Touch.refl wr (fun b => b = rb)).setCell (a := ⟨rb, k.length * 2 + 1, none⟩) (fun _ => rfl) _
  have hne := K.ne
  have hlt := K.lt
  refine ⟨(T.block gb (lt K.g) (by omega)).trans K.g, (T.block sb (lt K.s) (by omega)).trans K.s, (T.block ob (lt K.o) (by omega)).trans K.o, (T.block S (lt K.bs) (by omega)).trans K.bs, ?_, hlt, hne, Nat.le_trans K.size T.size⟩
  have hrow := own_set (x := .int .i64 ((t : Int) + 1)) K.row (j := k.length * 2 + 1) (by omega)
  rw [stkV_cons, List.set_append_right _ _ (by rw [stkV_len]; omega), stkV_len, show k.length * 2 + 1 - k.length * 2 = 1 from by omega] at hrow
  rw [stkV_cons]
  simpa [cellsVis] using hrow
end

theorem WS.bump {Lv : World → (Nat → Prop) → List Nat → Prop} {own0 own : Nat → Prop} {w1 wr : World} {gb sb ob S n c rb x t : Nat} {gv : Value} {seen o : List Nat} {k : List (Nat × Nat)} {f : FuncId} {cap : Array Value} (hL : Leaves Lv f cap)
    (H : WS Lv own0 w1 wr gb sb ob S n gv seen (.slice (some ⟨rb, 0, none⟩) (k.length + 1) c) ((x, t) :: k) own o) : WS Lv own0 w1 (wr.setCell ⟨rb, k.length * 2 + 1, none⟩ (.int .i64 ((t : Int) + 1))) gb sb ob S n gv seen (.slice (some ⟨rb, 0, none⟩) (k.length + 1) c) ((x, t + 1) :: k) own o := by
  have T : Touch wr (wr.setCell ⟨rb, k.length * 2 + 1, none⟩ (.int .i64 ((t : Int) + 1))) (fun b => b = rb) := (Touch.refl wr (fun b => b = rb)).setCell (a := ⟨rb, k.length * 2 + 1, none⟩) (fun _ => rfl) _
  have hB := (H.K.row.lt rb rfl).1
  exact ⟨H.K.bump, hL.kept H.lv T (fun b hb e => (H.off b hb).2.2.2.2 (by rw [e]; rfl)), H.off, H.new, Touch.join H.T T (fun b hb e => by omega), by have := H.few; simpa using this⟩
theorem RdX.plus {U : Nat → Prop} {w : World} {v : Value} {L : List (List Int)} (h : RdX U w v L) : RdX (fun b => U b ∨ w.heap.size ≤ b) w v L := by
  obtain ⟨vs, h1, h2, h4, h3⟩ := h
  have key : ∀ {s : Value} {xs : List Value}, Rd w s xs → Off U s xs.length → Off (fun b => U b ∨ w.heap.size ≤ b) s xs.length := by
    intro s xs hr ho h0 b e hb
    rcases hb with hb | hb
    · exact ho h0 b e hb
    · exact hr.old (U := fun b => w.heap.size ≤ b) (fun _ h => h) h0 b e hb
  exact ⟨vs, h1, h2, by rw [← h2]; exact key h1 (by rw [h2]; exact h4), fun i u l hu hl => ⟨(h3 i u l hu hl).1, by have := key (h3 i u l hu hl).1 (by rw [List.length_map]; exact (h3 i u l hu hl).2); rwa [List.length_map] at this⟩⟩

def WOut (Lv : World → (Nat → Prop) → List Nat → Prop) (own0 : Nat → Prop) (L : List (List Int)) (w1 wr : World) (gb sb ob S n : Nat) (gv : Value) (fl : List Int) (sF oF : List Nat) (i : Value) : Prop :=
  ∃ (k : Nat) (seen o : List Nat) (ov : Value) (own : Nat → Prop), k ≤ fl.length ∧ i = .int .i64 k ∧ WS Lv own0 w1 wr gb sb ob S n gv seen ov [] own o ∧ Hid (Kids L (fl.drop k) seen o sF oF)
def WIn (Lv : World → (Nat → Prop) → List Nat → Prop) (own0 : Nat → Prop) (L : List (List Int)) (w1 wr : World) (gb sb ob S n : Nat) (gv : Value) (sT oT : List Nat) (m : Nat) : Prop :=
  ∃ (seen o : List Nat) (ov : Value) (stk : List (Nat × Nat)) (own : Nat → Prop), WS Lv own0 w1 wr gb sb ob S n gv seen ov stk own o ∧ Hid (Conts L stk seen o sT oT) ∧ Hid (m = stkM L stk + unM L seen)

set_option maxRecDepth 20000 in
set_option maxHeartbeats 8000000 in
theorem walk_any {Lv : World → (Nat → Prop) → List Nat → Prop} {own0 : Nat → Prop} {f : FuncId} {cap : Array Value} (hLv : Leaves Lv f cap) {w : World} {S n c0 : Nat} {fv : Value} {av : Option Addr} {L : List (List Int)} {fl : List Int} {s0 o0 sF oF : List Nat}
    (hg : RdX (fun b => b = S ∨ own0 b) w (.slice av n c0) L) (hn : L.length = n) (hn1 : n ≤ 100000) (hr : ∀ r ∈ L, r.length ≤ 100000) (hf : RdI w fv fl) (hfo : Off (fun b => b = S ∨ own0 b) fv fl.length) (hfl : fl.length ≤ 1000000)
    (hbs : w.heap[S]? = some (.cells (seenA n s0) 4 (0, 0))) (hlv : Lv w own0 o0) (hown : ¬ own0 S) (hfew : o0.length + unseen n s0 ≤ n) (hk : Kids L fl s0 o0 sF oF) :
    Calls Try.prog 34 #[.slice av n c0, .slice (some ⟨S, 0, none⟩) n n, fv, .func (.func f) #[] cap] w fun e w' => e = .returned (.tuple #[]) ∧ w'.heap[S]? = some (.cells (seenA n sF) 4 (0, 0)) ∧ (∃ own', Lv w' own' oF ∧ (∀ b, own' b → own0 b ∨ w.heap.size ≤ b) ∧ ∀ b, own' b → b ≠ S) ∧ Touch w w' (fun b => b = S ∨ own0 b) := by
  obtain ⟨af, cf, rfl⟩ := hf.shape
  have ef : ∀ (args : Array Value) (w : World), (callFunc f args).run Try.prog w = .ok (.enter f args) w := hLv.enters
  have ee : Enters Try.prog 44 := enters_of Try.func44 (by kernel_rfl) rfl
  replace hr := Lib.hid hr
  replace hk := Lib.hid hk
  have hS := (Array.getElem?_eq_some_iff.1 hbs).1
  have ho0 := hLv.lt hlv
  have hb0 : Below w.heap.size w (((w.alloc (.cells #[.slice av n c0] 22)).alloc (.cells #[.slice (some ⟨S, 0, none⟩) n n] 34)).alloc (.cells #[.slice none 0 0] 53)) :=
    (((Below.refl _ w).alloc (Nat.le_refl _) _).alloc (by simp) _).alloc (by simp; omega) _
  have hsz1 : (((w.alloc (.cells #[.slice av n c0] 22)).alloc (.cells #[.slice (some ⟨S, 0, none⟩) n n] 34)).alloc (.cells #[.slice none 0 0] 53)).heap.size = w.heap.size + 3 := by simp
  have hgb : (((w.alloc (.cells #[.slice av n c0] 22)).alloc (.cells #[.slice (some ⟨S, 0, none⟩) n n] 34)).alloc (.cells #[.slice none 0 0] 53)).heap[w.heap.size]? = some (.cells #[.slice av n c0] 22 (0, 0)) := by
    rw [Below.heap_alloc _ _ _ (by simp; omega), Below.heap_alloc _ _ _ (by simp)]; exact heap_alloc_new _ _
  have hsb : (((w.alloc (.cells #[.slice av n c0] 22)).alloc (.cells #[.slice (some ⟨S, 0, none⟩) n n] 34)).alloc (.cells #[.slice none 0 0] 53)).heap[w.heap.size + 1]? = some (.cells #[.slice (some ⟨S, 0, none⟩) n n] 34 (0, 0)) := by
    rw [Below.heap_alloc _ _ _ (by simp)]
    have := heap_alloc_new (w.alloc (.cells #[.slice av n c0] 22)) (.cells #[.slice (some ⟨S, 0, none⟩) n n] 34)
    simpa using this
  have hob : (((w.alloc (.cells #[.slice av n c0] 22)).alloc (.cells #[.slice (some ⟨S, 0, none⟩) n n] 34)).alloc (.cells #[.slice none 0 0] 53)).heap[w.heap.size + 1 + 1]? = some (.cells #[.slice none 0 0] 53 (0, 0)) := by
    have := heap_alloc_new ((w.alloc (.cells #[.slice av n c0] 22)).alloc (.cells #[.slice (some ⟨S, 0, none⟩) n n] 34)) (.cells #[.slice none 0 0] 53)
    simpa using this
  go_enter Try.func34, Try.ntmps34
  go_wp2_with fail
  obtain ⟨w1, hw1⟩ : ∃ w1, w1 = (((w.alloc (.cells #[.slice av n c0] 22)).alloc (.cells #[.slice (some ⟨S, 0, none⟩) n n] 34)).alloc (.cells #[.slice none 0 0] 53)) := ⟨_, rfl⟩
  rw [← hw1] at hb0 hsz1 hgb hsb hob ⊢
  clear hw1
  have hg1 : RdX (fun b => b = w.heap.size + 1 + 1 ∨ b = S ∨ own0 b) w1 (.slice av n c0) L := by
    have h1 := (hg.plus.mono (V := fun b => b = w.heap.size + 1 + 1 ∨ b = S ∨ own0 b) (fun b e => by
      rcases e with e | e
      · exact .inr (by omega)
      · exact .inl e))
    obtain ⟨vs, a1, a2, a3, a4⟩ := h1
    exact ⟨vs, a1.below hb0, a2, a3, fun i u l hu hl => ⟨Rd.below (a4 i u l hu hl).1 hb0, (a4 i u l hu hl).2⟩⟩
  have hf1 : RdI w1 (.slice af fl.length cf) fl := Rd.below hf hb0
  have hfo1 : Off (fun b => b = w.heap.size + 1 + 1 ∨ b = S ∨ own0 b) (.slice af fl.length cf) (fl.map encI).length := by
    rw [List.length_map]
    intro h0 b e hb
    rcases hb with hb | hb
    · exact Rd.old (U := fun b => w.heap.size ≤ b) (fun _ h => h) hf (by rw [List.length_map]; exact h0) b e (by omega)
    · exact hfo h0 b e hb
  have hW0 : WS Lv own0 w1 w1 w.heap.size (w.heap.size + 1) (w.heap.size + 1 + 1) S n (.slice av n c0) s0 (.slice none 0 0) [] own0 o0 := by
    refine ⟨⟨hgb, hsb, hob, (hb0.block S hS).trans hbs, World.ownsRow_nil _ _ _ _, by omega, by omega, Nat.le_refl _⟩, hLv.kept hlv (Touch.of_below hb0 (fun _ => False)) (fun _ _ h => h), fun b hb => ?_, fun b hb => .inl hb, Touch.refl _ _, by simpa using hfew⟩
    have := ho0 b hb
    exact ⟨by omega, by omega, by omega, fun e => hown (e ▸ hb), fun e => by cases e⟩
  replace hW0 := Lib.hid hW0
  have hS3 : S < w.heap.size := hS
  clear hgb hsb hob hg hf hfo hbs hlv hS
  obtain ⟨gb, hgbe⟩ : ∃ gb, gb = w.heap.size := ⟨_, rfl⟩
  rw [← hgbe] at hW0 hg1 hfo1 hS3 hsz1 ⊢
  obtain ⟨sb, hsbe⟩ : ∃ sb, sb = gb + 1 := ⟨_, rfl⟩
  rw [← hsbe] at hW0 hg1 hfo1 ⊢
  obtain ⟨ob, hobe⟩ : ∃ ob, ob = sb + 1 := ⟨_, rfl⟩
  rw [← hobe] at hW0 hg1 hfo1 ⊢
  have hrel1 : gb < sb ∧ sb < ob ∧ ob < w1.heap.size := by omega
  replace hgbe := Lib.hid hgbe
  replace hsbe := Lib.hid hsbe
  replace hobe := Lib.hid hobe
  replace hn := Lib.hid hn
  go_loopw [11, 12, 16] (fun _ _ i wr => WOut Lv own0 L w1 wr gb sb ob S n (.slice av n c0) fl sF oF i) (fun _ _ i _ => fl.length - (intOf i).toNat)
  case atStart => exact ⟨0, s0, o0, _, own0, Nat.zero_le _, rfl, hW0.out, by rw [List.drop_zero]; exact hk⟩
  case round =>
    obtain ⟨k, seen, o, ov, own, hkl, rfl, HW, hkid⟩ := hrel
    by_cases hlt : k < fl.length
    · obtain ⟨y, hy⟩ : ∃ y, fl[k]? = some y := ⟨_, List.getElem?_eq_getElem hlt⟩
      obtain ⟨b, off, cap', e, hc⟩ := RdI.cell (Rd.off hf1 HW.T hfo1) hy
      simp only [Value.slice.injEq] at e
      obtain ⟨rfl, -, rfl⟩ := e
      have i1 : (k : Int) < (fl.length : Int) := by omega
      have hE := Lib.hid (enter_any (y := y) HW.K rfl hn1 (by simp))
      go_wp2_with fail
      refine hE.out.mono ?_
      rintro e w2 ⟨rfl, he1, he2⟩
      have hdrop : fl.drop k = y :: fl.drop (k + 1) := by
        rw [List.drop_eq_getElem_cons hlt, (List.getElem?_eq_some_iff.1 hy).2]
      have hnext := hkid.out
      rw [hdrop] at hnext
      have hnx := hnext.next
      rw [hn.out] at hnx
      obtain ⟨seen2, ov2, stk2, sT, oT, HW2, hC, hK2⟩ : ∃ seen2 ov2 stk2 sT oT, WS Lv own0 w1 w2 gb sb ob S n (.slice av n c0) seen2 ov2 stk2 own o ∧ Hid (Conts L stk2 seen2 o sT oT) ∧ Hid (Kids L (fl.drop (k + 1)) sT oT sF oF) := by
        by_cases hv : (0 ≤ y ∧ y < n) ∧ y.toNat ∉ seen
        · obtain ⟨ov', hK', hT', hn'⟩ := he2 hv.1 hv.2
          obtain ⟨s1, o1, h1, h2⟩ := hnx.2 hv.1 hv.2
          exact ⟨_, ov', _, s1, o1, HW.enter hLv (by omega) hv.2 hK' hT' hn', Lib.hid h1, Lib.hid h2⟩
        · have hs : (0 ≤ y ∧ y < n) → y.toNat ∈ seen := fun h => by
            by_cases h' : y.toNat ∈ seen
            · exact h'
            · exact absurd ⟨h, h'⟩ hv
          obtain ⟨hK', hT'⟩ := he1 hs
          exact ⟨seen, ov, [], seen, o, HW.same hLv hK' hT', Lib.hid .nil, Lib.hid (hnx.1 hs)⟩
      clear hnx hnext he1 he2 hE HW hkid hdrop hy hc
      go_wp2_with fail
      go_loopg [12] (stkM L stk2 + unM L seen2) (fun m _ wx => WIn Lv own0 L w1 wx gb sb ob S n (.slice av n c0) sT oT m)
      case atStart => exact ⟨seen2, o, ov2, stk2, own, HW2, hC, Lib.hid rfl⟩
      case round =>
        clear HW2 hC
        obtain ⟨seen3, o3, ov3, stk3, own3, HW3, hC3, hm3⟩ := hrel
        have o0c : wr.cell? ⟨ob, 0, none⟩ = some ov3 := by rw [blk_cell HW3.K.o]; rfl
        have g0c : wr.cell? ⟨gb, 0, none⟩ = some (.slice av n c0) := by rw [blk_cell HW3.K.g]; rfl
        have hstk : stk3.length ≤ 100000 := by have := HW3.few; omega
        have hol : o3.length ≤ 100000 := by have := HW3.few; omega
        obtain ⟨ao, co, rfl⟩ := own_form HW3.K.row
        cases stk3 with
        | nil =>
          obtain ⟨rfl, rfl⟩ := hC3.out.done
          have d1 : decide ((0 : Int) < 0) = false := by simp
          simp only [List.length_nil] at o0c
          go_wp2_with fail
          exact ⟨⟨k + 1, sT, oT, _, own3, by omega, by go_num, HW3, hK2⟩, by simp [intOf]; omega⟩
        | cons p kk =>
          obtain ⟨x, t⟩ := p
          obtain ⟨r, hLx, htr⟩ : ∃ r, L[x]? = some r ∧ t ≤ r.length := by
            cases hC3.out with
            | cons h1 h2 _ _ => exact ⟨_, h1, h2⟩
          have hrl : r.length ≤ 100000 := hr.out r (List.mem_of_getElem? hLx)
          have hxn : x < n := by have := (List.getElem?_eq_some_iff.1 hLx).1; have := hn.out; omega
          obtain ⟨rb, co', eo⟩ := row_form HW3.K.row (by simp)
          simp only [Value.slice.injEq] at eo
          obtain ⟨rfl, -, rfl⟩ := eo
          simp only [List.length_cons] at o0c hstk
          have hrow := HW3.K.row
          have v0 : wr.cell? ⟨rb, kk.length * 2, none⟩ = some (.int .i64 x) := by
            rw [HW3.K.row.cellAt (kk.length * 2) (by simp), stkV_cons, List.getElem?_append_right (by rw [stkV_len]; exact Nat.le_refl _), stkV_len, Nat.sub_self]
            rfl
          have v1 : wr.cell? ⟨rb, kk.length * 2 + 1, none⟩ = some (.int .i64 t) := by
            rw [HW3.K.row.cellAt (kk.length * 2 + 1) (by simp; omega), stkV_cons, List.getElem?_append_right (by rw [stkV_len]; omega), stkV_len, show kk.length * 2 + 1 - kk.length * 2 = 1 from by omega]
            rfl
          obtain ⟨bg, og, cg, u, eg, hbg, hUg, hcg, hrg, hog⟩ := hg1.at hLx
          rw [hn.out] at eg
          simp only [Value.slice.injEq] at eg
          obtain ⟨rfl, -, rfl⟩ := eg
          obtain ⟨ar, cr, rfl⟩ := hrg.shape
          have gx := (cell_off HW3.T hbg hUg).trans hcg
          have hrx : RdI wr (.slice ar r.length cr) r := Rd.off hrg HW3.T (by rw [List.length_map]; exact hog)
          have d1 : decide ((kk.length : Int) + 1 > 0) = true := by simp
          have d2 : (kk.length : Int) + 1 - 1 = (kk.length : Int) := by omega
          have d3 : IntKind.i64.wrap ((kk.length : Int) + 1 - 1) = (kk.length : Int) := by rw [d2]; exact IntWalk.i64_in _ (by omega)
          have d4 : IntKind.i64.wrap (kk.length : Int) = (kk.length : Int) := IntWalk.i64_in _ (by omega)
          have i3 : (x : Int) < (n : Int) := by omega
          replace hrx := Lib.hid hrx
          replace hcg := Lib.hid hcg
          replace hrg := Lib.hid hrg
          by_cases htl : t = r.length
          · have d5 : ((t : Int) == (r.length : Int)) = true := by simp [htl]
            replace htl := Lib.hid htl
            go_wp2_with fail
            go_quiet (fail)
            have HW4 : WS Lv own0 w1 (wr.drewN nq) gb sb ob S n (.slice (some ⟨bg, og, none⟩) n c0) seen3 (.slice (some ⟨rb, 0, none⟩) (kk.length + 1) co) ((x, t) :: kk) own3 o3 := HW3.same hLv (HW3.K.kept (Touch.drewN wr nq (fun _ => False)) (fun _ h => h.elim)) (Touch.drewN wr nq _)
            have hcl := Lib.hid (hLv.call (x := x) HW4.lv hol)
            go_wp2_with fail
            refine hcl.out.mono ?_
            rintro e w3 ⟨rfl, own4, hlv4, hT4, hn4⟩
            obtain ⟨hK5, hoff5, hnew5, hT5⟩ := HW4.told hLv rfl hlv4 hT4 hn4
            have o5 : w3.cell? ⟨ob, 0, none⟩ = some (.slice (some ⟨rb, 0, none⟩) (kk.length + 1) co) := by rw [blk_cell hK5.o]; rfl
            have of5 : w3.frozen? ⟨ob, 0, none⟩ = false := by simp [World.frozen?, hK5.o]
            have TP : Touch w3 (w3.setCell ⟨ob, 0, none⟩ (.slice (some ⟨rb, 0, none⟩) kk.length co)) (fun b => b = ob) := (Touch.refl w3 (fun b => b = ob)).setCell (a := ⟨ob, 0, none⟩) (fun _ => rfl) _
            have HW6 : Hid (WS Lv own0 w1 (w3.setCell ⟨ob, 0, none⟩ (.slice (some ⟨rb, 0, none⟩) kk.length co)) gb sb ob S n (.slice (some ⟨bg, og, none⟩) n c0) seen3 (.slice (some ⟨rb, 0, none⟩) kk.length co) kk own4 (x :: o3)) :=
              Lib.hid ⟨hK5.pop, hLv.kept hlv4 TP (fun b hb e => (hoff5 b hb).2.2.1 e), hoff5, hnew5, Touch.join hT5 TP (fun _ _ e => .inl e), by have := HW4.few; simp only [List.length_cons] at this ⊢; omega⟩
            have hC6 := Lib.hid (hC3.out.pop hLx htl.out)
            have hmm : stkM L kk + unM L seen3 < gk := by
              rw [hm3.out]
              simp [stkM]
            have hcapk : kk.length ≤ co := by
              obtain ⟨_, ⟨e, _⟩ | ⟨g', cap', cur', e, _, _, hnc, _⟩⟩ := hK5.row
              · cases e
              · simp only [Value.slice.injEq] at e; simp only [List.length_cons] at hnc; omega
            have hsl1 : (kk.length : Int) ≤ (co : Int) := by omega
            clear hcl hK5 hoff5 hnew5 hT5 TP HW4 hlv4 hT4 hn4 v0 v1 gx hrow hC3
            go_wp2_with fail
            go_roundg (stkM L kk + unM L seen3)
            case rel => exact ⟨seen3, x :: o3, _, kk, own4, HW6.out, hC6, Lib.hid rfl⟩
            case measure => exact hmm
          · have d5 : ((t : Int) == (r.length : Int)) = false := by simp; omega
            have hrf : wr.frozen? ⟨rb, kk.length * 2 + 1, none⟩ = false := by
              obtain ⟨_, ⟨e, _⟩ | ⟨g', cap', cur', e, _, hg', _⟩⟩ := hrow
              · cases e
              · simp only [Value.slice.injEq, Option.some.injEq, Addr.mk.injEq] at e
                obtain ⟨⟨rfl, -, -⟩, -⟩ := e
                simp [World.frozen?, hg']
            have htlt : t < r.length := by omega
            go_wp2_with fail
            go_quiet (fail)
            have HW4 : WS Lv own0 w1 (wr.drewN nq) gb sb ob S n (.slice (some ⟨bg, og, none⟩) n c0) seen3 (.slice (some ⟨rb, 0, none⟩) (kk.length + 1) co) ((x, t) :: kk) own3 o3 := HW3.same hLv (HW3.K.kept (Touch.drewN wr nq (fun _ => False)) (fun _ h => h.elim)) (Touch.drewN wr nq _)
            have HW5 := HW4.bump hLv
            clear hrow
            go_wp2_with fail
            obtain ⟨wB, hwB⟩ : ∃ wB, wB = (wr.drewN nq).setCell ⟨rb, kk.length * 2 + 1, none⟩ (.int .i64 ((t : Int) + 1)) := ⟨_, rfl⟩
            rw [← hwB] at HW5 ⊢
            clear hwB HW4 v0 v1 gx g0c o0c hrx hrf
            have g0c : wB.cell? ⟨gb, 0, none⟩ = some (.slice (some ⟨bg, og, none⟩) n c0) := by rw [blk_cell HW5.K.g]; rfl
            have v0 : wB.cell? ⟨rb, kk.length * 2, none⟩ = some (.int .i64 x) := by
              rw [HW5.K.row.cellAt (kk.length * 2) (by first | omega | (simp; omega) | simp), stkV_cons, List.getElem?_append_right (by rw [stkV_len]; exact Nat.le_refl _), stkV_len, Nat.sub_self]
              rfl
            have v1 : wB.cell? ⟨rb, kk.length * 2 + 1, none⟩ = some (.int .i64 ((t : Int) + 1)) := by
              rw [HW5.K.row.cellAt (kk.length * 2 + 1) (by first | omega | (simp; omega) | simp), stkV_cons, List.getElem?_append_right (by rw [stkV_len]; omega), stkV_len, show kk.length * 2 + 1 - kk.length * 2 = 1 from by omega]
              rfl
            have gx := (cell_off HW5.T hbg hUg).trans hcg.out
            have hrx : RdI wB (.slice ar r.length cr) r := Rd.off hrg.out HW5.T (by rw [List.length_map]; exact hog)
            obtain ⟨y2, hy2⟩ : ∃ y2, r[t]? = some y2 := ⟨_, List.getElem?_eq_getElem htlt⟩
            obtain ⟨br, or', cr', er, hcr⟩ := RdI.cell hrx hy2
            simp only [Value.slice.injEq] at er
            obtain ⟨rfl, -, rfl⟩ := er
            have i4 : (t : Int) < (r.length : Int) := by omega
            have d6 : IntKind.i64.wrap (t : Int) = (t : Int) := IntWalk.i64_in _ (by omega)
            have d7 : (t : Int) + 1 - 1 = (t : Int) := by omega
            replace hrx := Lib.hid hrx
            have HW6 := HW5.same hLv (HW5.K.kept ((Touch.refl wB (fun _ => False)).drew) (fun _ h => h.elim)) ((Touch.refl wB _).drew)
            have g0d : wB.drew.cell? ⟨gb, 0, none⟩ = some (.slice (some ⟨bg, og, none⟩) n c0) := g0c
            have v0d : wB.drew.cell? ⟨rb, kk.length * 2, none⟩ = some (.int .i64 x) := v0
            have v1d : wB.drew.cell? ⟨rb, kk.length * 2 + 1, none⟩ = some (.int .i64 ((t : Int) + 1)) := v1
            have gxd : wB.drew.cell? ⟨bg, og + x, none⟩ = some (.slice (some ⟨br, or', none⟩) r.length cr) := gx
            have hcrd : wB.drew.cell? ⟨br, or' + t, none⟩ = some (.int .i64 y2) := hcr
            go_still_tail 15, (by kernel_rfl)
            change wpList _ _ _ _ _ wB.drew
            clear HW5 g0c v0 v1 gx hcr hrx
            generalize wB.drew = wD at *
            have hE2 := Lib.hid (enter_any (y := y2) HW6.K rfl hn1 (by simp only [List.length_cons]; omega))
            go_wp2_with fail
            refine hE2.out.mono ?_
            rintro e w4 ⟨rfl, he1, he2⟩
            have hdx : degL L x = r.length := by unfold degL; rw [hLx]; rfl
            have hmm : gk = (degL L x - t + 1 + stkM L kk) + unM L seen3 := by rw [hm3.out]; simp [stkM]
            by_cases hv : (0 ≤ y2 ∧ y2 < n) ∧ y2.toNat ∉ seen3
            · obtain ⟨ov', hK', hT', hn'⟩ := he2 hv.1 hv.2
              have HW7 := HW6.enter hLv (by omega) hv.2 hK' hT' hn'
              have hC7 := Lib.hid (hC3.out.push hLx (y := y2.toNat) (by rw [hy2]; congr 1; omega) (by rw [hn.out]; omega) hv.2)
              have hum := unM_push (L := L) (y := y2.toNat) (s := seen3) (by rw [hn.out]; omega) hv.2
              have hlt7 : stkM L ((y2.toNat, 0) :: (x, t + 1) :: kk) + unM L (y2.toNat :: seen3) < gk := by
                rw [hmm]
                simp only [stkM, List.map_cons, List.sum_cons] at *
                omega
              clear hmm hum he1 he2 hE2
              go_wp2_with fail
              go_roundg (stkM L ((y2.toNat, 0) :: (x, t + 1) :: kk) + unM L (y2.toNat :: seen3))
              case rel => exact ⟨_, o3, ov', _, own3, HW7, hC7, Lib.hid rfl⟩
              case measure => exact hlt7
            · have hs : (0 ≤ y2 ∧ y2 < n) → y2.toNat ∈ seen3 := fun h => by
                by_cases h' : y2.toNat ∈ seen3
                · exact h'
                · exact absurd ⟨h, h'⟩ hv
              obtain ⟨hK', hT'⟩ := he1 hs
              have HW7 := HW6.same hLv hK' hT'
              have hC7 := Lib.hid (hC3.out.skip hLx hy2 (by rw [hn.out]; exact hs))
              have hlt7 : stkM L ((x, t + 1) :: kk) + unM L seen3 < gk := by
                rw [hmm]
                simp only [stkM, List.map_cons, List.sum_cons]
                omega
              clear hmm he1 he2 hE2 hs
              go_wp2_with fail
              go_roundg (stkM L ((x, t + 1) :: kk) + unM L seen3)
              case rel => exact ⟨seen3, o3, _, _, own3, HW7, hC7, Lib.hid rfl⟩
              case measure => exact hlt7
    · obtain rfl : k = fl.length := by omega
      have i1 : decide ((fl.length : Int) < (fl.length : Int)) = false := by simp
      have hkid' := hkid.out
      rw [List.drop_length] at hkid'
      obtain ⟨rfl, rfl⟩ : sF = seen ∧ oF = o := by cases hkid'; exact ⟨rfl, rfl⟩
      have hfin : Hid (wr.heap[S]? = some (.cells (seenA n sF) 4 (0, 0)) ∧ (∃ own', Lv wr own' oF ∧ (∀ b, own' b → own0 b ∨ w.heap.size ≤ b) ∧ ∀ b, own' b → b ≠ S) ∧ Touch w wr (fun b => b = S ∨ own0 b)) := by
        refine Lib.hid ⟨HW.K.bs, ⟨own, HW.lv, fun b hb => ?_, fun b hb => (HW.off b hb).2.2.2.1⟩, Touch.join (Touch.of_below hb0 _) HW.T (fun c hc e => ?_)⟩
        · rcases HW.new b hb with h | h
          · exact .inl h
          · have := hgbe.out; exact .inr (by omega)
        · rcases e with e | e
          · have := hgbe.out; omega
          · exact e
      clear hkid' HW
      go_wp2_with fail
      go_end0
      exact ⟨rfl, hfin.out⟩
end Go.Proofs.Yteipncggndefmaa
