/- LaidT, RdO1, RdO2, RdO3, RdO4, RdO5, RdO6, RdO7. -/
import Derived.Test.YtgcanabckogmmaaDoorZA
import Derived.Test.YtgcanabckogmmaaDoorRows
import Derived.Test.YtgcanabckogmmaaDoorYK
import Derived.Test.YtgcanabckogmmaaDoorYI
import Derived.Lib.LaidTab
import Derived.Deep.CutBlock
namespace Go.Proofs.YtgcanabckogmmaaDoor
set_option linter.unusedVariables false
set_option linter.unusedSimpArgs false
section
def lits64 : DataW Unit → List Value
  | .agg l => l.map fun | .lit (.int k n) => Value.int k n | _ => undef
  | _ => []
noncomputable def lowL : Nat := (World.holding Tryd.prog default ⟨#[], #[], []⟩).heap.size
/-- A variable that holds these cells. -/
noncomputable def putG (h : Array Obj) (g : Nat) (cs : Array Value) : Array Obj := h.modify g fun
  | .cells _ t frozen => .cells cs t frozen
  | o => o
noncomputable def laidWorld (os : Os) : World :=
  let w0 := World.holding Tryd.prog os ⟨#[.cells #[.string ⟨#[105, 110, 118, 97, 108, 105, 100, 32, 115, 121, 110, 116, 97, 120]⟩] 128, .cells #[.string ⟨#[118, 97, 108, 117, 101, 32, 111, 117, 116, 32, 111, 102, 32, 114, 97, 110, 103, 101]⟩] 128], #[], []⟩
  { w0 with heap := putG (putG (putG (putG (putG w0.heap 1 #[.iface 126 (.pointer (some ⟨lowL, 0, none⟩))]) 2 #[.iface 126 (.pointer (some ⟨lowL + 1, 0, none⟩))])
      3 (lits64 Rows.laid_internal_strconv_uint64pow10).toArray) 4 (lits64 Rows.laid_math_bits_deBruijn32tab).toArray) 5 (lits64 Rows.laid_math_bits_deBruijn64tab).toArray }
end
section
open Go.RowKit Go.Maps

/-- What may stand where x stood. -/
def SoftV (x y : Value) : Prop := y = x ∨ (∃ s t, x = .string s ∧ y = .string t) ∨ (∃ k i j, x = .int k i ∧ y = .int k j) ∨ ∃ a n c, x = .slice a n c ∧ y = .slice none 0 0
theorem SoftV.trans {x y z : Value} (h : SoftV x y) (g : SoftV y z) : SoftV x z := by
  rcases h with rfl | ⟨s, t, rfl, rfl⟩ | ⟨k, i, j, rfl, rfl⟩ | ⟨a, n, c, rfl, rfl⟩
  · exact g
  · rcases g with rfl | ⟨s', t', e, rfl⟩ | ⟨k, i, j, e, rfl⟩ | ⟨a, n, c, e, rfl⟩
    · exact .inr (.inl ⟨_, _, rfl, rfl⟩)
    · exact .inr (.inl ⟨_, _, rfl, rfl⟩)
    · cases e
    · cases e
  · rcases g with rfl | ⟨s', t', e, rfl⟩ | ⟨k', i', j', e, rfl⟩ | ⟨a, n, c, e, rfl⟩
    · exact .inr (.inr (.inl ⟨_, _, _, rfl, rfl⟩))
    · cases e
    · injection e with e1 e2
      subst e1
      exact .inr (.inr (.inl ⟨_, _, _, rfl, rfl⟩))
    · cases e
  · rcases g with rfl | ⟨s', t', e, rfl⟩ | ⟨k', i', j', e, rfl⟩ | ⟨a', n', c', e, rfl⟩
    · exact .inr (.inr (.inr ⟨_, _, _, rfl, rfl⟩))
    · cases e
    · cases e
    · exact .inr (.inr (.inr ⟨_, _, _, rfl, rfl⟩))
/-- A world in which blocks from B to N were written over, kind by kind. -/
structure Soft (B N : Nat) (w w' : World) : Prop where
  touch : Touch w w' (fun k => B ≤ k ∧ k < N)
  cell : ∀ b o x, w.cell? ⟨b, o, none⟩ = some x → ∃ y, w'.cell? ⟨b, o, none⟩ = some y ∧ SoftV x y
  fz : ∀ (b : Nat) (cs : Array Value) (t : TypeId), w.heap[b]? = some (Obj.cells cs t (0, 0)) → ∃ cs', w'.heap[b]? = some (Obj.cells cs' t (0, 0))
section
variable {B N : Nat} {w w' w'' : World}
theorem Soft.refl (B N : Nat) (w : World) : Soft B N w w := ⟨Touch.refl _ _, fun _ _ x h => ⟨x, h, .inl rfl⟩, fun _ cs _ h => ⟨cs, h⟩⟩
theorem Soft.trans (h : Soft B N w w') (g : Soft B N w' w'') : Soft B N w w'' := by
  refine ⟨h.touch.trans g.touch, fun b o x hx => ?_, fun b cs t hb => ?_⟩
  · obtain ⟨y, h1, h2⟩ := h.cell b o x hx
    obtain ⟨z, h3, h4⟩ := g.cell b o y h1
    exact ⟨z, h3, h2.trans h4⟩
  · obtain ⟨cs', h1⟩ := h.fz b cs t hb
    exact g.fz b cs' t h1
/-- A block that may be written to. -/
def OwnB (B N : Nat) (w : World) (g : Nat) : Prop := B ≤ g ∧ g < N ∧ ∃ cs t, w.heap[g]? = some (.cells cs t (0, 0))
theorem OwnB.soft {g : Nat} (h : OwnB B N w g) (s : Soft B N w w') : OwnB B N w' g := by
  obtain ⟨h1, h2, cs, t, h3⟩ := h
  obtain ⟨cs', h4⟩ := s.fz g cs t h3
  exact ⟨h1, h2, cs', t, h4⟩
theorem OwnB.froz {g : Nat} (h : OwnB B N w g) (o : Nat) : w.frozen? ⟨g, o, none⟩ = false := by
  obtain ⟨-, -, cs, t, h3⟩ := h
  exact frozB h3 o
theorem Soft.set {g o : Nat} {x u : Value} (h : OwnB B N w g) (hx : w.cell? ⟨g, o, none⟩ = some x) (hu : SoftV x u) : Soft B N w (w.setCell ⟨g, o, none⟩ u) := by
  obtain ⟨h1, h2, cs, t, h3⟩ := h
  have hb := blk_set (i := o) u h3
  refine ⟨(Touch.refl w (fun k => B ≤ k ∧ k < N)).setCell (a := ⟨g, o, none⟩) (fun _ => ⟨h1, h2⟩) _, fun b o' y hy => ?_, fun b cs' t' hb' => ?_⟩
  · by_cases e : b = g
    · subst e
      by_cases e2 : o' = o
      · subst e2
        rw [hx] at hy
        injection hy with hy
        subst hy
        refine ⟨u, ?_, hu⟩
        rw [blk_cell hb]
        rw [blk_cell h3] at hx
        have := (Array.getElem?_eq_some_iff.1 hx).1
        rw [Array.getElem?_setIfInBounds_self_of_lt this]
      · refine ⟨y, ?_, .inl rfl⟩
        rw [blk_cell hb]
        rw [blk_cell h3] at hy
        rw [Array.getElem?_setIfInBounds_ne (fun e => e2 e.symm)]
        exact hy
    · refine ⟨y, ?_, .inl rfl⟩
      have := Touch.block ((Touch.refl w (fun k => k = g)).setCell (a := ⟨g, o, none⟩) (fun _ => rfl) u)
      unfold World.cell? at hy ⊢
      by_cases hlt : b < w.heap.size
      · simp only [this b hlt e]
        exact hy
      · have hn : w.heap[b]? = none := Array.getElem?_eq_none (by omega)
        simp [hn] at hy
  · by_cases e : b = g
    · subst e
      rw [h3] at hb'
      injection hb' with hb'
      injection hb' with e1 e2 e3
      subst e1 e2
      exact ⟨_, hb⟩
    · have := Touch.block ((Touch.refl w (fun k => k = g)).setCell (a := ⟨g, o, none⟩) (fun _ => rfl) u)
      exact ⟨cs', (this b (Array.getElem?_eq_some_iff.1 hb').1 e).trans hb'⟩
/-- A slice whose elements are of c cells, each cell of its kind. -/
def ShE (B N : Nat) (w : World) (c : Nat) (K : Nat → Value → Prop) (v : Value) : Prop :=
  ∃ a n cap, v = .slice a n cap ∧ n ≤ 9223372036854775807 ∧ (0 < n → ∃ g o, a = some ⟨g, o, none⟩ ∧ OwnB B N w g ∧ ∀ i, i < n → ∀ j, j < c → ∃ x, w.cell? ⟨g, o + i * c + j, none⟩ = some x ∧ K j x)
theorem ShE.nil (c : Nat) (K : Nat → Value → Prop) : ShE B N w c K (.slice none 0 0) := ⟨none, 0, 0, rfl, by omega, fun h => by omega⟩
theorem ShE.soft {c : Nat} {K K' : Nat → Value → Prop} {v v' : Value} (h : ShE B N w c K v) (s : Soft B N w w') (hv : SoftV v v') (hK : ∀ j x y, K j x → SoftV x y → K' j y) : ShE B N w' c K' v' := by
  obtain ⟨a, n, cap, rfl, hn, h⟩ := h
  have h0 : ShE B N w' c K' (.slice a n cap) := by
    refine ⟨a, n, cap, rfl, hn, fun h0 => ?_⟩
    obtain ⟨g, o, ha, ho, hc⟩ := h h0
    refine ⟨g, o, ha, ho.soft s, fun i hi j hj => ?_⟩
    obtain ⟨x, hx, hk⟩ := hc i hi j hj
    obtain ⟨y, hy, hs⟩ := s.cell _ _ _ hx
    exact ⟨y, hy, hK j x y hk hs⟩
  rcases hv with rfl | ⟨_, _, e, -⟩ | ⟨_, _, _, e, -⟩ | ⟨_, _, _, -, rfl⟩
  · exact h0
  · cases e
  · cases e
  · exact ShE.nil _ _
def KS (_ : Nat) (x : Value) : Prop := ∃ s, x = .string s
def ShS (B N : Nat) (w : World) : Value → Prop := ShE B N w 1 KS
def KI (B N : Nat) (w : World) (j : Nat) (x : Value) : Prop := if j = 0 then ∃ i, x = .int .u8 i else if j = 4 then ∃ i, x = .int .i64 i else if j = 6 ∨ j = 7 then ShS B N w x else ∃ s, x = .string s
def ShC (B N : Nat) (w : World) : Value → Prop := ShE B N w 8 (KI B N w)
def KB (B N : Nat) (w : World) (j : Nat) (x : Value) : Prop := if j = 0 then ∃ s, x = .string s else ShC B N w x
def ShB (B N : Nat) (w : World) : Value → Prop := ShE B N w 2 (KB B N w)
def KF (B N : Nat) (w : World) (j : Nat) (x : Value) : Prop := if j = 0 then ∃ s, x = .string s else if j = 1 then ShS B N w x else ShB B N w x
def ShF (B N : Nat) (w : World) : Value → Prop := ShE B N w 3 (KF B N w)
theorem soft_str {x y : Value} (h : ∃ s, x = .string s) (g : SoftV x y) : ∃ s, y = .string s := by
  obtain ⟨s, rfl⟩ := h
  rcases g with rfl | ⟨_, _, -, rfl⟩ | ⟨_, _, _, e, -⟩ | ⟨_, _, _, e, -⟩
  · exact ⟨s, rfl⟩
  · exact ⟨_, rfl⟩
  · cases e
  · cases e
theorem soft_int {x y : Value} {k : IntKind} (h : ∃ i, x = .int k i) (g : SoftV x y) : ∃ i, y = .int k i := by
  obtain ⟨i, rfl⟩ := h
  rcases g with rfl | ⟨_, _, e, -⟩ | ⟨_, _, _, e, rfl⟩ | ⟨_, _, _, e, -⟩
  · exact ⟨i, rfl⟩
  · cases e
  · injection e with e1 e2
    subst e1
    exact ⟨_, rfl⟩
  · cases e
theorem ShS.soft {x y : Value} (h : ShS B N w x) (s : Soft B N w w') (g : SoftV x y) : ShS B N w' y := ShE.soft h s g fun _ _ _ h g => soft_str h g
theorem KI.soft {j : Nat} {x y : Value} (h : KI B N w j x) (s : Soft B N w w') (g : SoftV x y) : KI B N w' j y := by
  unfold KI at h ⊢
  split
  · rw [if_pos (by assumption)] at h; exact soft_int h g
  · rw [if_neg (by assumption)] at h
    split
    · rw [if_pos (by assumption)] at h; exact soft_int h g
    · rw [if_neg (by assumption)] at h
      split
      · rw [if_pos (by assumption)] at h; exact ShS.soft h s g
      · rw [if_neg (by assumption)] at h; exact soft_str h g
theorem ShC.soft {x y : Value} (h : ShC B N w x) (s : Soft B N w w') (g : SoftV x y) : ShC B N w' y := ShE.soft h s g fun _ _ _ h g => KI.soft h s g
theorem KB.soft {j : Nat} {x y : Value} (h : KB B N w j x) (s : Soft B N w w') (g : SoftV x y) : KB B N w' j y := by
  unfold KB at h ⊢
  split
  · rw [if_pos (by assumption)] at h; exact soft_str h g
  · rw [if_neg (by assumption)] at h; exact ShC.soft h s g
theorem ShB.soft {x y : Value} (h : ShB B N w x) (s : Soft B N w w') (g : SoftV x y) : ShB B N w' y := ShE.soft h s g fun _ _ _ h g => KB.soft h s g
theorem KF.soft {j : Nat} {x y : Value} (h : KF B N w j x) (s : Soft B N w w') (g : SoftV x y) : KF B N w' j y := by
  unfold KF at h ⊢
  split
  · rw [if_pos (by assumption)] at h; exact soft_str h g
  · rw [if_neg (by assumption)] at h
    split
    · rw [if_pos (by assumption)] at h; exact ShS.soft h s g
    · rw [if_neg (by assumption)] at h; exact ShB.soft h s g
theorem ShF.soft {x y : Value} (h : ShF B N w x) (s : Soft B N w w') (g : SoftV x y) : ShF B N w' y := ShE.soft h s g fun _ _ _ h g => KF.soft h s g
/-- An element's cell. -/
theorem ShE.at {c : Nat} {K : Nat → Value → Prop} {a : Option Addr} {n cap i j : Nat} (h : ShE B N w c K (.slice a n cap)) (hi : i < n) (hj : j < c) : ∃ g o x, a = some ⟨g, o, none⟩ ∧ OwnB B N w g ∧ w.cell? ⟨g, o + i * c + j, none⟩ = some x ∧ K j x := by
  obtain ⟨a', n', cap', e, -, h⟩ := h
  injection e with e1 e2 e3
  subst e1 e2
  obtain ⟨g, o, ha, ho, hc⟩ := h (by omega)
  obtain ⟨x, hx, hk⟩ := hc i hi j hj
  exact ⟨g, o, x, ha, ho, hx, hk⟩
end
end
section
open Go.RowKit Go.Maps

/-- A world without what is in its first blocks. -/
def wipe (w : World) (B : Nat) : World := { w with heap := w.heap.mapIdx fun k o => if k < B then Obj.cells #[] 3 (0, 0) else o }
section
variable {w : World} {B : Nat}
theorem wipe_at (w : World) (B k : Nat) : (wipe w B).heap[k]? = if k < B then (w.heap[k]?.map fun _ => Obj.cells #[] 3 (0, 0)) else w.heap[k]? := by
  unfold wipe
  dsimp only
  rw [Array.getElem?_mapIdx]
  split <;> cases w.heap[k]? <;> simp [*]
theorem wipe_touch (w : World) (B : Nat) : Touch w (wipe w B) (fun k => k < B) := by
  refine ⟨rfl, rfl, rfl, by simp [wipe], fun k _ hn => ?_⟩
  rw [wipe_at, if_neg hn]
theorem wipe_size (w : World) (B : Nat) : (wipe w B).heap.size = w.heap.size := by simp [wipe]
theorem wipe_cell {g o : Nat} {x : Value} (h : (wipe w B).cell? ⟨g, o, none⟩ = some x) : B ≤ g ∧ w.cell? ⟨g, o, none⟩ = some x := by
  by_cases hg : g < B
  · exfalso
    have e := wipe_at w B g
    rw [if_pos hg] at e
    unfold World.cell? at h
    cases hw : w.heap[g]? with
    | none => rw [hw] at e; simp [e] at h
    | some ob => rw [hw] at e; simp [e] at h
  · have e := wipe_at w B g
    rw [if_neg hg] at e
    refine ⟨by omega, ?_⟩
    unfold World.cell? at h ⊢
    simp only [e] at h
    exact h
theorem wipe_own {v : Value} {g : Nat} (h : Fz (wipe w B) v) (hv : v.ownBlock = some g) (hB : B ≤ g) : OwnB B w.heap.size w g := by
  obtain ⟨cs, t, h1⟩ := h g hv
  have hlt := (Array.getElem?_eq_some_iff.1 h1).1
  rw [wipe_size] at hlt
  rw [wipe_at, if_neg (by omega)] at h1
  exact ⟨hB, hlt, cs, t, h1⟩
theorem she_of {α : Type} {c : Nat} {R : World → List Value → α → Prop} {K : Nat → Value → Prop} {v : Value} {L : List α} (h : REU c R (wipe w B) v L) (hc : 0 < c) (hl : L.length ≤ maxLen) (hk : ∀ cs d, d ∈ L → R (wipe w B) cs d → ∀ j x, cs[j]? = some x → K j x) : ShE B w.heap.size w c K v := by
  unfold maxLen at hl
  obtain ⟨h, hf⟩ := h
  rcases h with ⟨rfl, rfl | ⟨a, k, rfl⟩⟩ | ⟨b, off, cap, rfl, hlt, hx⟩
  · exact ShE.nil _ _
  · exact ⟨some a, 0, k, rfl, by omega, fun h => by omega⟩
  · refine ⟨_, _, _, rfl, hl, fun h0 => ?_⟩
    have key : ∀ i, i < L.length → ∀ j, j < c → ∃ x, (wipe w B).cell? ⟨b, off + i * c + j, none⟩ = some x ∧ K j x := fun i hi j hj => by
      obtain ⟨d, hd⟩ : ∃ d, L[i]? = some d := ⟨_, List.getElem?_eq_getElem hi⟩
      obtain ⟨cs, h1, h2, h3⟩ := hx i d hd
      have hj2 : j < cs.length := by omega
      exact ⟨cs[j], h3 j _ (List.getElem?_eq_getElem hj2), hk cs d (List.mem_of_getElem? hd) h1 j _ (List.getElem?_eq_getElem hj2)⟩
    obtain ⟨x, hx1, -⟩ := key 0 h0 0 hc
    have hB := (wipe_cell hx1).1
    refine ⟨b, off, rfl, wipe_own hf rfl hB, fun i hi j hj => ?_⟩
    obtain ⟨x, h1, h2⟩ := key i hi j hj
    exact ⟨x, (wipe_cell h1).2, h2⟩
theorem she_str {v : Value} {ss : List ByteArray} (h : RdS (wipe w B) v ss) (hf : Fz (wipe w B) v) (hl : ss.length ≤ maxLen) : ShS B w.heap.size w v := by
  unfold maxLen at hl
  rcases h with ⟨h0, rfl | ⟨a, k, rfl⟩⟩ | ⟨b, off, cap, rfl, hlt, hx⟩
  · exact ShE.nil _ _
  · exact ⟨some a, 0, k, rfl, by omega, fun h => by omega⟩
  · refine ⟨_, _, _, rfl, by simpa using hl, fun h0 => ?_⟩
    rw [List.length_map] at h0
    have key : ∀ i, i < ss.length → ∃ s, (wipe w B).cell? ⟨b, off + i, none⟩ = some (.string s) := fun i hi => ⟨ss[i], hx i (.string ss[i]) (by simp [hi])⟩
    obtain ⟨s, hs⟩ := key 0 h0
    have hB := (wipe_cell hs).1
    refine ⟨b, off, rfl, wipe_own hf rfl hB, fun i hi j hj => ?_⟩
    rw [List.length_map] at hi
    obtain ⟨s, hs⟩ := key i hi
    obtain rfl : j = 0 := by omega
    exact ⟨_, by rw [Nat.mul_one, Nat.add_zero]; exact (wipe_cell hs).2, s, rfl⟩
/-- What Parse told. -/
theorem shF_of {v : Value} {P : List Fun} (h : REU 3 RdFunU (wipe w B) v P) (hP : FitP P) : ShF B w.heap.size w v := by
  refine she_of h (by omega) (by have := hP.1; unfold maxLen; omega) fun cs d hd hr j x hx => ?_
  obtain ⟨f1, f2, f3⟩ := hP.2 d hd
  obtain ⟨vp, vb, rfl, ⟨hp, hfp⟩, hb⟩ := hr
  match j, hx with
  | 0, hx => simp at hx; subst hx; exact ⟨_, rfl⟩
  | 1, hx => simp at hx; subst hx; exact she_str hp hfp f1
  | 2, hx =>
    simp at hx
    subst hx
    refine she_of hb (by omega) (by unfold maxLen; omega) fun cs y hy hr j x hx => ?_
    obtain ⟨e1, e2⟩ := f3 y hy
    obtain ⟨vc, rfl, hcd⟩ := hr
    match j, hx with
    | 0, hx => simp at hx; subst hx; exact ⟨_, rfl⟩
    | 1, hx =>
      simp at hx
      subst hx
      refine she_of hcd (by omega) (by unfold maxLen; omega) fun cs z hz hr j x hx => ?_
      obtain ⟨i1, i2⟩ := e2 z hz
      obtain ⟨⟨va, vl, rfl, ha, hl⟩, hfz⟩ := hr
      have fa : Fz (wipe w B) va := hfz va (by simp [insV])
      have fl : Fz (wipe w B) vl := hfz vl (by simp [insV])
      unfold insV at hx
      match j, hx with
      | 0, hx => simp at hx; subst hx; exact ⟨_, rfl⟩
      | 1, hx => simp at hx; subst hx; exact ⟨_, rfl⟩
      | 2, hx => simp at hx; subst hx; exact ⟨_, rfl⟩
      | 3, hx => simp at hx; subst hx; exact ⟨_, rfl⟩
      | 4, hx => simp at hx; subst hx; exact ⟨_, rfl⟩
      | 5, hx => simp at hx; subst hx; exact ⟨_, rfl⟩
      | 6, hx => simp at hx; subst hx; exact she_str ha fa i1
      | 7, hx => simp at hx; subst hx; exact she_str hl fl i2
      | j + 8, hx => simp at hx
    | j + 2, hx => simp at hx
  | j + 3, hx => simp at hx
end
end
section
open Go.RowKit Go.Maps Go.Shelf
attribute [local go_sem] Oper.semAt_some

theorem soft_out {B N p o : Nat} {w w' : World} (h : Soft B N w w') (hp : N ≤ p) (hlt : p < w.heap.size) : w'.cell? ⟨p, o, none⟩ = w.cell? ⟨p, o, none⟩ := by
  have := h.touch.block p hlt (by omega)
  unfold World.cell?
  simp only [this]
theorem KF.one {B N : Nat} {w : World} {x : Value} (h : KF B N w 1 x) : ShS B N w x := by
  unfold KF at h
  rw [if_neg (by omega), if_pos rfl] at h
  exact h
theorem KF.two {B N : Nat} {w : World} {x : Value} (h : KF B N w 2 x) : ShB B N w x := by
  unfold KF at h
  rw [if_neg (by omega), if_neg (by omega)] at h
  exact h
theorem KB.one {B N : Nat} {w : World} {x : Value} (h : KB B N w 1 x) : ShC B N w x := by
  unfold KB at h
  rw [if_neg (by omega)] at h
  exact h
theorem KI.row {B N j : Nat} {w : World} {x : Value} (h : KI B N w j x) (hj : j = 6 ∨ j = 7) : ShS B N w x := by
  unfold KI at h
  rw [if_neg (by omega), if_neg (by omega), if_pos hj] at h
  exact h
/-- Nothing of its kind. -/
def zeroKI (j : Nat) : Value := if j = 0 then .int .u8 0 else if j = 4 then .int .i64 0 else if j = 6 ∨ j = 7 then .slice none 0 0 else .string ⟨#[]⟩
theorem KI.zero {B N j : Nat} {w : World} {x : Value} (h : KI B N w j x) : SoftV x (zeroKI j) := by
  unfold KI at h
  unfold zeroKI
  split
  · rw [if_pos (by assumption)] at h; obtain ⟨i, rfl⟩ := h; exact .inr (.inr (.inl ⟨_, _, _, rfl, rfl⟩))
  · rw [if_neg (by assumption)] at h
    split
    · rw [if_pos (by assumption)] at h; obtain ⟨i, rfl⟩ := h; exact .inr (.inr (.inl ⟨_, _, _, rfl, rfl⟩))
    · rw [if_neg (by assumption)] at h
      split
      · rw [if_pos (by assumption)] at h; obtain ⟨a, n, c, rfl, -⟩ := h; exact .inr (.inr (.inr ⟨_, _, _, rfl, rfl⟩))
      · rw [if_neg (by assumption)] at h; obtain ⟨s, rfl⟩ := h; exact .inr (.inl ⟨_, _, rfl, rfl⟩)
def zeroKF (j : Nat) : Value := if j = 0 then .string ⟨#[]⟩ else .slice none 0 0
theorem KF.zero {B N j : Nat} {w : World} {x : Value} (h : KF B N w j x) : SoftV x (zeroKF j) := by
  unfold KF at h
  unfold zeroKF
  split
  · rw [if_pos (by assumption)] at h; obtain ⟨s, rfl⟩ := h; exact .inr (.inl ⟨_, _, rfl, rfl⟩)
  · rw [if_neg (by assumption)] at h
    split at h
    · obtain ⟨a, n, c, rfl, -⟩ := h; exact .inr (.inr (.inr ⟨_, _, _, rfl, rfl⟩))
    · obtain ⟨a, n, c, rfl, -⟩ := h; exact .inr (.inr (.inr ⟨_, _, _, rfl, rfl⟩))
/-- Cells of an element, one after the other, are nothing of their kinds. -/
theorem soft_stepI {B N g p j : Nat} {w w1 : World} (s : Soft B N w w1) (ho : OwnB B N w g) (hc : ∃ x, w.cell? ⟨g, p + j, none⟩ = some x ∧ KI B N w j x) : Soft B N w (w1.setCell ⟨g, p + j, none⟩ (zeroKI j)) := by
  obtain ⟨x, hx, hk⟩ := hc
  obtain ⟨y, hy, hs⟩ := s.cell _ _ _ hx
  exact s.trans (Soft.set (ho.soft s) hy (hk.soft s hs).zero)
theorem soft_stepF {B N g p j : Nat} {w w1 : World} (s : Soft B N w w1) (ho : OwnB B N w g) (hc : ∃ x, w.cell? ⟨g, p + j, none⟩ = some x ∧ KF B N w j x) : Soft B N w (w1.setCell ⟨g, p + j, none⟩ (zeroKF j)) := by
  obtain ⟨x, hx, hk⟩ := hc
  obtain ⟨y, hy, hs⟩ := s.cell _ _ _ hx
  exact s.trans (Soft.set (ho.soft s) hy (hk.soft s hs).zero)
theorem soft8 {B N g p : Nat} {w : World} (ho : OwnB B N w g) (hc : ∀ j, j < 8 → ∃ x, w.cell? ⟨g, p + j, none⟩ = some x ∧ KI B N w j x) : Soft B N w ((((((((w.setCell ⟨g, p, none⟩ (.int .u8 0)).setCell ⟨g, p + 1, none⟩ (.string ⟨#[]⟩)).setCell ⟨g, p + 2, none⟩ (.string ⟨#[]⟩)).setCell ⟨g, p + 3, none⟩ (.string ⟨#[]⟩)).setCell ⟨g, p + 4, none⟩ (.int .i64 0)).setCell ⟨g, p + 5, none⟩ (.string ⟨#[]⟩)).setCell ⟨g, p + 6, none⟩ (.slice none 0 0)).setCell ⟨g, p + 7, none⟩ (.slice none 0 0)) :=
  soft_stepI (j := 7) (soft_stepI (j := 6) (soft_stepI (j := 5) (soft_stepI (j := 4) (soft_stepI (j := 3) (soft_stepI (j := 2) (soft_stepI (j := 1) (soft_stepI (j := 0) (Soft.refl _ _ _) ho (hc 0 (by omega))) ho (hc 1 (by omega))) ho (hc 2 (by omega))) ho (hc 3 (by omega))) ho (hc 4 (by omega))) ho (hc 5 (by omega))) ho (hc 6 (by omega))) ho (hc 7 (by omega))
theorem soft3 {B N g p : Nat} {w : World} (ho : OwnB B N w g) (hc : ∀ j, j < 3 → ∃ x, w.cell? ⟨g, p + j, none⟩ = some x ∧ KF B N w j x) : Soft B N w (((w.setCell ⟨g, p, none⟩ (.string ⟨#[]⟩)).setCell ⟨g, p + 1, none⟩ (.slice none 0 0)).setCell ⟨g, p + 2, none⟩ (.slice none 0 0)) :=
  soft_stepF (j := 2) (soft_stepF (j := 1) (soft_stepF (j := 0) (Soft.refl _ _ _) ho (hc 0 (by omega))) ho (hc 1 (by omega))) ho (hc 2 (by omega))
set_option maxRecDepth 20000 in
set_option maxHeartbeats 4000000 in
theorem own2 {c : Code} (hc : Func.blockOf Tryd.f6 2 = some c) {Q : Exit → Act → World → Prop} {w : World} {B N pb g o n cap i : Nat} {u0 u1 u2 u4 u5 u6 u7 u8 u11 u12 u13 u14 u15 u16 u17 u18 u19 u20 u21 u22 u23 u24 u25 u26 u27 u28 u29 u30 u31 u32 u33 u34 u35 u36 u37 u38 u39 u40 u41 u42 u43 u44 u45 u46 u47 u48 u49 u50 u51 u52 u53 u54 u55 u56 u57 u58 u59 u60 u61 u62 u63 u64 u65 u66 u67 u68 u69 u70 u71 u72 u73 u74 u75 u76 u77 u78 u79 u80 u81 u82 u83 u84 u85 u86 u87 u88 u89 u90 u91 u92 u93 u94 u95 u96 u97 u98 u99 u100 u101 u102 u103 u104 u105 u106 u107 u108 u109 u110 u111 u112 u113 u114 u115 u116 u117 u118 u119 u120 u121 u122 u123 u124 u125 u126 u127 u128 u129 u130 u131 u132 u133 u134 u135 u136 u137 u138 u139 u140 u141 : Value}
    (hpb : N ≤ pb) (lpb : pb < w.heap.size) (c1 : w.cell? ⟨pb, 0, none⟩ = some (.slice (some ⟨g, o, none⟩) n cap)) (hF : Hid (ShF B N w (.slice (some ⟨g, o, none⟩) n cap))) (hi : (i : Int) < (n : Int)) (hin : Hid (i < n)) (hPn : ∀ {x : List PanicEntry} {a a1 : Act} {w : World}, Q (.panic x) a w → a.defers = a1.defers → Q (.panic x) a1 w)
    (hQ : Hid (∀ {wx : World} {v10 v41 v42 v43 v44 v45 v46 v47 v48 v49 v50 v51 v52 v53 v54 v55 v56 v57 v58 v59 : Value}, Soft B N w wx → Q .normal { tmps := #[u0, u1, u2, .pointer (some ⟨pb, 0, none⟩), u4, u5, u6, u7, u8, .int .i64 i, v10, u11, u12, u13, u14, u15, u16, u17, u18, u19, u20, u21, u22, u23, u24, u25, u26, u27, u28, u29, u30, u31, u32, u33, u34, u35, u36, u37, u38, u39, u40, v41, v42, v43, v44, v45, v46, v47, v48, v49, v50, v51, v52, v53, v54, v55, v56, v57, v58, v59, u60, u61, u62, u63, u64, u65, u66, u67, u68, u69, u70, u71, u72, u73, u74, u75, u76, u77, u78, u79, u80, u81, u82, u83, u84, u85, u86, u87, u88, u89, u90, u91, u92, u93, u94, u95, u96, u97, u98, u99, u100, u101, u102, u103, u104, u105, u106, u107, u108, u109, u110, u111, u112, u113, u114, u115, u116, u117, u118, u119, u120, u121, u122, u123, u124, u125, u126, u127, u128, u129, u130, u131, u132, u133, u134, u135, u136, u137, u138, u139, u140, u141], defers := [] } wx)) :
    c.wp Tryd.prog Q { tmps := #[u0, u1, u2, .pointer (some ⟨pb, 0, none⟩), u4, u5, u6, u7, u8, .int .i64 i, .int .i64 0, u11, u12, u13, u14, u15, u16, u17, u18, u19, u20, u21, u22, u23, u24, u25, u26, u27, u28, u29, u30, u31, u32, u33, u34, u35, u36, u37, u38, u39, u40, u41, u42, u43, u44, u45, u46, u47, u48, u49, u50, u51, u52, u53, u54, u55, u56, u57, u58, u59, u60, u61, u62, u63, u64, u65, u66, u67, u68, u69, u70, u71, u72, u73, u74, u75, u76, u77, u78, u79, u80, u81, u82, u83, u84, u85, u86, u87, u88, u89, u90, u91, u92, u93, u94, u95, u96, u97, u98, u99, u100, u101, u102, u103, u104, u105, u106, u107, u108, u109, u110, u111, u112, u113, u114, u115, u116, u117, u118, u119, u120, u121, u122, u123, u124, u125, u126, u127, u128, u129, u130, u131, u132, u133, u134, u135, u136, u137, u138, u139, u140, u141], defers := [] } w := by
  conv at hc => lhs; whnf
  simp only [Option.some.injEq] at hc
  subst hc
  go_wp2_with fail
  go_loopw [10] (fun k wr => ∃ m : Nat, k = .int .i64 m ∧ m ≤ 9223372036854775807 ∧ Hid (Soft B N w wr)) (fun k _ => 9223372036854775807 - (intOf k).toNat)
  case atStart => exact ⟨0, rfl, by omega, Lib.hid (Soft.refl _ _ _)⟩
  case round =>
    obtain ⟨m, rfl, hm, hs⟩ := hrel
    have z1 := (soft_out hs.out hpb lpb).trans c1
    obtain ⟨g', o', x, e, hog, hx, hk⟩ := (ShF.soft hF.out hs.out (.inl rfl)).at hin.out (show 1 < 3 by omega)
    simp only [Option.some.injEq, Addr.mk.injEq] at e
    obtain ⟨rfl, rfl, -⟩ := e
    replace hk := hk.one
    obtain ⟨a, q, cq, rfl, hq, hr⟩ := hk
    by_cases hlt : m < q
    · obtain ⟨gs, os, rfl, hos, hcs⟩ := hr (by omega)
      obtain ⟨y, hy, s, rfl⟩ := hcs m hlt 0 (by omega)
      rw [Nat.mul_one, Nat.add_zero] at hy
      have fy := hos.froz (os + m)
      have i1 : (m : Int) < (q : Int) := by omega
      have hset := Soft.set (u := .string ⟨#[115, 112, 111, 105, 108, 116]⟩) hos hy (.inr (.inl ⟨s, _, rfl, rfl⟩))
      have hs2 := Lib.hid (hs.out.trans hset)
      clear hos hcs hr hset hog
      go_wp2_with fail
      exact ⟨⟨m + 1, by go_num, by omega, hs2⟩, by simp [intOf]; omega⟩
    · have i1 : decide ((m : Int) < (q : Int)) = false := by simp; omega
      clear hr hog
      go_wp2_with fail
      exact hQ.out hs.out

set_option maxRecDepth 20000 in
set_option maxHeartbeats 4000000 in
theorem own8 {c : Code} (hc : Func.blockOf Tryd.f6 8 = some c) {Q : Exit → Act → World → Prop} {w : World} {B N g o n cap i : Nat} {u0 u1 u2 u3 u4 u5 u6 u7 u8 u9 u10 u11 u15 u16 u17 u18 u19 u20 u21 u22 u23 u24 u25 u26 u27 u28 u29 u30 u31 u32 u33 u34 u35 u36 u37 u38 u39 u40 u41 u42 u43 u44 u45 u46 u47 u48 u49 u50 u51 u52 u53 u54 u55 u56 u57 u58 u59 u60 u61 u62 u63 u64 u65 u66 u67 u68 u69 u70 u71 u72 u73 u74 u75 u76 u77 u78 u79 u80 u81 u82 u83 u84 u85 u86 u87 u88 u89 u90 u91 u92 u93 u94 u95 u96 u97 u98 u99 u100 u101 u102 u103 u104 u105 u106 u107 u108 u109 u110 u111 u112 u113 u114 u115 u116 u117 u118 u119 u120 u121 u122 u123 u124 u125 u126 u127 u128 u129 u130 u131 u132 u133 u134 u135 u136 u137 u138 u139 u140 u141 : Value}
    (hC : Hid (ShC B N w (.slice (some ⟨g, o, none⟩) n cap))) (hi : (i : Int) < (n : Int)) (hin : Hid (i < n)) (hPn : ∀ {x : List PanicEntry} {a a1 : Act} {w : World}, Q (.panic x) a w → a.defers = a1.defers → Q (.panic x) a1 w)
    (hQ : Hid (∀ {wx : World} {v14 v87 v88 v89 v90 v91 v92 v93 v94 v95 v96 v97 v98 v99 v100 v101 v102 v103 : Value}, Soft B N w wx → Q .normal { tmps := #[u0, u1, u2, u3, u4, u5, u6, u7, u8, u9, u10, u11, .slice (some ⟨g, o, none⟩) n cap, .int .i64 i, v14, u15, u16, u17, u18, u19, u20, u21, u22, u23, u24, u25, u26, u27, u28, u29, u30, u31, u32, u33, u34, u35, u36, u37, u38, u39, u40, u41, u42, u43, u44, u45, u46, u47, u48, u49, u50, u51, u52, u53, u54, u55, u56, u57, u58, u59, u60, u61, u62, u63, u64, u65, u66, u67, u68, u69, u70, u71, u72, u73, u74, u75, u76, u77, u78, u79, u80, u81, u82, u83, u84, u85, u86, v87, v88, v89, v90, v91, v92, v93, v94, v95, v96, v97, v98, v99, v100, v101, v102, v103, u104, u105, u106, u107, u108, u109, u110, u111, u112, u113, u114, u115, u116, u117, u118, u119, u120, u121, u122, u123, u124, u125, u126, u127, u128, u129, u130, u131, u132, u133, u134, u135, u136, u137, u138, u139, u140, u141], defers := [] } wx)) :
    c.wp Tryd.prog Q { tmps := #[u0, u1, u2, u3, u4, u5, u6, u7, u8, u9, u10, u11, .slice (some ⟨g, o, none⟩) n cap, .int .i64 i, .int .i64 0, u15, u16, u17, u18, u19, u20, u21, u22, u23, u24, u25, u26, u27, u28, u29, u30, u31, u32, u33, u34, u35, u36, u37, u38, u39, u40, u41, u42, u43, u44, u45, u46, u47, u48, u49, u50, u51, u52, u53, u54, u55, u56, u57, u58, u59, u60, u61, u62, u63, u64, u65, u66, u67, u68, u69, u70, u71, u72, u73, u74, u75, u76, u77, u78, u79, u80, u81, u82, u83, u84, u85, u86, u87, u88, u89, u90, u91, u92, u93, u94, u95, u96, u97, u98, u99, u100, u101, u102, u103, u104, u105, u106, u107, u108, u109, u110, u111, u112, u113, u114, u115, u116, u117, u118, u119, u120, u121, u122, u123, u124, u125, u126, u127, u128, u129, u130, u131, u132, u133, u134, u135, u136, u137, u138, u139, u140, u141], defers := [] } w := by
  conv at hc => lhs; whnf
  simp only [Option.some.injEq] at hc
  subst hc
  go_wp2_with fail
  go_loopw [14] (fun k wr => ∃ m : Nat, k = .int .i64 m ∧ m ≤ 9223372036854775807 ∧ Hid (Soft B N w wr)) (fun k _ => 9223372036854775807 - (intOf k).toNat)
  case atStart => exact ⟨0, rfl, by omega, Lib.hid (Soft.refl _ _ _)⟩
  case round =>
    obtain ⟨m, rfl, hm, hs⟩ := hrel
    obtain ⟨g', o', x, e, hog, hx, hk⟩ := (ShC.soft hC.out hs.out (.inl rfl)).at hin.out (show 6 < 8 by omega)
    simp only [Option.some.injEq, Addr.mk.injEq] at e
    obtain ⟨rfl, rfl, -⟩ := e
    replace hk := hk.row (by omega)
    obtain ⟨a, q, cq, rfl, hq, hr⟩ := hk
    by_cases hlt : m < q
    · obtain ⟨gs, os, rfl, hos, hcs⟩ := hr (by omega)
      obtain ⟨y, hy, s, rfl⟩ := hcs m hlt 0 (by omega)
      rw [Nat.mul_one, Nat.add_zero] at hy
      have fy := hos.froz (os + m)
      have i1 : (m : Int) < (q : Int) := by omega
      have hset := Soft.set (u := .string ⟨#[115, 112, 111, 105, 108, 116]⟩) hos hy (.inr (.inl ⟨s, _, rfl, rfl⟩))
      have hs2 := Lib.hid (hs.out.trans hset)
      clear hos hcs hr hset hog
      go_wp2_with fail
      exact ⟨⟨m + 1, by go_num, by omega, hs2⟩, by simp [intOf]; omega⟩
    · have i1 : decide ((m : Int) < (q : Int)) = false := by simp; omega
      clear hr hog
      go_wp2_with fail
      exact hQ.out hs.out

set_option maxRecDepth 20000 in
set_option maxHeartbeats 4000000 in
theorem own10 {c : Code} (hc : Func.blockOf Tryd.f6 10 = some c) {Q : Exit → Act → World → Prop} {w : World} {B N g o n cap i : Nat} {u0 u1 u2 u3 u4 u5 u6 u7 u8 u9 u10 u11 u14 u16 u17 u18 u19 u20 u21 u22 u23 u24 u25 u26 u27 u28 u29 u30 u31 u32 u33 u34 u35 u36 u37 u38 u39 u40 u41 u42 u43 u44 u45 u46 u47 u48 u49 u50 u51 u52 u53 u54 u55 u56 u57 u58 u59 u60 u61 u62 u63 u64 u65 u66 u67 u68 u69 u70 u71 u72 u73 u74 u75 u76 u77 u78 u79 u80 u81 u82 u83 u84 u85 u86 u87 u88 u89 u90 u91 u92 u93 u94 u95 u96 u97 u98 u99 u100 u101 u102 u103 u104 u105 u106 u107 u108 u109 u110 u111 u112 u113 u114 u115 u116 u117 u118 u119 u120 u121 u122 u123 u124 u125 u126 u127 u128 u129 u130 u131 u132 u133 u134 u135 u136 u137 u138 u139 u140 u141 : Value}
    (hC : Hid (ShC B N w (.slice (some ⟨g, o, none⟩) n cap))) (hi : (i : Int) < (n : Int)) (hin : Hid (i < n)) (hPn : ∀ {x : List PanicEntry} {a a1 : Act} {w : World}, Q (.panic x) a w → a.defers = a1.defers → Q (.panic x) a1 w)
    (hQ : Hid (∀ {wx : World} {v15 v104 v105 v106 v107 v108 v109 v110 v111 v112 v113 v114 v115 v116 v117 v118 v119 v120 : Value}, Soft B N w wx → Q .normal { tmps := #[u0, u1, u2, u3, u4, u5, u6, u7, u8, u9, u10, u11, .slice (some ⟨g, o, none⟩) n cap, .int .i64 i, u14, v15, u16, u17, u18, u19, u20, u21, u22, u23, u24, u25, u26, u27, u28, u29, u30, u31, u32, u33, u34, u35, u36, u37, u38, u39, u40, u41, u42, u43, u44, u45, u46, u47, u48, u49, u50, u51, u52, u53, u54, u55, u56, u57, u58, u59, u60, u61, u62, u63, u64, u65, u66, u67, u68, u69, u70, u71, u72, u73, u74, u75, u76, u77, u78, u79, u80, u81, u82, u83, u84, u85, u86, u87, u88, u89, u90, u91, u92, u93, u94, u95, u96, u97, u98, u99, u100, u101, u102, u103, v104, v105, v106, v107, v108, v109, v110, v111, v112, v113, v114, v115, v116, v117, v118, v119, v120, u121, u122, u123, u124, u125, u126, u127, u128, u129, u130, u131, u132, u133, u134, u135, u136, u137, u138, u139, u140, u141], defers := [] } wx)) :
    c.wp Tryd.prog Q { tmps := #[u0, u1, u2, u3, u4, u5, u6, u7, u8, u9, u10, u11, .slice (some ⟨g, o, none⟩) n cap, .int .i64 i, u14, .int .i64 0, u16, u17, u18, u19, u20, u21, u22, u23, u24, u25, u26, u27, u28, u29, u30, u31, u32, u33, u34, u35, u36, u37, u38, u39, u40, u41, u42, u43, u44, u45, u46, u47, u48, u49, u50, u51, u52, u53, u54, u55, u56, u57, u58, u59, u60, u61, u62, u63, u64, u65, u66, u67, u68, u69, u70, u71, u72, u73, u74, u75, u76, u77, u78, u79, u80, u81, u82, u83, u84, u85, u86, u87, u88, u89, u90, u91, u92, u93, u94, u95, u96, u97, u98, u99, u100, u101, u102, u103, u104, u105, u106, u107, u108, u109, u110, u111, u112, u113, u114, u115, u116, u117, u118, u119, u120, u121, u122, u123, u124, u125, u126, u127, u128, u129, u130, u131, u132, u133, u134, u135, u136, u137, u138, u139, u140, u141], defers := [] } w := by
  conv at hc => lhs; whnf
  simp only [Option.some.injEq] at hc
  subst hc
  go_wp2_with fail
  go_loopw [15] (fun k wr => ∃ m : Nat, k = .int .i64 m ∧ m ≤ 9223372036854775807 ∧ Hid (Soft B N w wr)) (fun k _ => 9223372036854775807 - (intOf k).toNat)
  case atStart => exact ⟨0, rfl, by omega, Lib.hid (Soft.refl _ _ _)⟩
  case round =>
    obtain ⟨m, rfl, hm, hs⟩ := hrel
    obtain ⟨g', o', x, e, hog, hx, hk⟩ := (ShC.soft hC.out hs.out (.inl rfl)).at hin.out (show 7 < 8 by omega)
    simp only [Option.some.injEq, Addr.mk.injEq] at e
    obtain ⟨rfl, rfl, -⟩ := e
    replace hk := hk.row (by omega)
    obtain ⟨a, q, cq, rfl, hq, hr⟩ := hk
    by_cases hlt : m < q
    · obtain ⟨gs, os, rfl, hos, hcs⟩ := hr (by omega)
      obtain ⟨y, hy, s, rfl⟩ := hcs m hlt 0 (by omega)
      rw [Nat.mul_one, Nat.add_zero] at hy
      have fy := hos.froz (os + m)
      have i1 : (m : Int) < (q : Int) := by omega
      have hset := Soft.set (u := .string ⟨#[115, 112, 111, 105, 108, 116]⟩) hos hy (.inr (.inl ⟨s, _, rfl, rfl⟩))
      have hs2 := Lib.hid (hs.out.trans hset)
      clear hos hcs hr hset hog
      go_wp2_with fail
      exact ⟨⟨m + 1, by go_num, by omega, hs2⟩, by simp [intOf]; omega⟩
    · have i1 : decide ((m : Int) < (q : Int)) = false := by simp; omega
      clear hr hog
      go_wp2_with fail
      exact hQ.out hs.out
end
section
open Go.RowKit Go.Maps Go.Shelf
attribute [local go_sem] Oper.semAt_some

set_option maxRecDepth 20000 in
set_option maxHeartbeats 4000000 in
theorem own6 {c : Code} (hc : Func.blockOf Tryd.f6 6 = some c) {Q : Exit → Act → World → Prop} {w : World} {B N n cap : Nat} {a : Option Addr} {u0 u1 u2 u3 u4 u5 u6 u7 u8 u9 u10 u11 u14 u15 u16 u17 u18 u19 u20 u21 u22 u23 u24 u25 u26 u27 u28 u29 u30 u31 u32 u33 u34 u35 u36 u37 u38 u39 u40 u41 u42 u43 u44 u45 u46 u47 u48 u49 u50 u51 u52 u53 u54 u55 u56 u57 u58 u59 u60 u61 u62 u63 u64 u65 u66 u67 u68 u69 u70 u71 u72 u73 u74 u75 u76 u77 u78 u79 u80 u81 u82 u83 u84 u85 u86 u87 u88 u89 u90 u91 u92 u93 u94 u95 u96 u97 u98 u99 u100 u101 u102 u103 u104 u105 u106 u107 u108 u109 u110 u111 u112 u113 u114 u115 u116 u117 u118 u119 u120 u121 u122 u123 u124 u125 u126 u127 u128 u129 u130 u131 u132 u133 u134 u135 u136 u137 u138 u139 u140 u141 : Value}
    (hC : Hid (ShC B N w (.slice a n cap))) (hnm : n ≤ 9223372036854775807) (hPn : ∀ {x : List PanicEntry} {a a1 : Act} {w : World}, Q (.panic x) a w → a.defers = a1.defers → Q (.panic x) a1 w)
    (hQ : Hid (∀ {wx : World} {v13 v14 v15 v81 v82 v83 v84 v85 v86 v87 v88 v89 v90 v91 v92 v93 v94 v95 v96 v97 v98 v99 v100 v101 v102 v103 v104 v105 v106 v107 v108 v109 v110 v111 v112 v113 v114 v115 v116 v117 v118 v119 v120 v121 v122 v123 v124 : Value}, Soft B N w wx → Q .normal { tmps := #[u0, u1, u2, u3, u4, u5, u6, u7, u8, u9, u10, u11, .slice a n cap, v13, v14, v15, u16, u17, u18, u19, u20, u21, u22, u23, u24, u25, u26, u27, u28, u29, u30, u31, u32, u33, u34, u35, u36, u37, u38, u39, u40, u41, u42, u43, u44, u45, u46, u47, u48, u49, u50, u51, u52, u53, u54, u55, u56, u57, u58, u59, u60, u61, u62, u63, u64, u65, u66, u67, u68, u69, u70, u71, u72, u73, u74, u75, u76, u77, u78, u79, u80, v81, v82, v83, v84, v85, v86, v87, v88, v89, v90, v91, v92, v93, v94, v95, v96, v97, v98, v99, v100, v101, v102, v103, v104, v105, v106, v107, v108, v109, v110, v111, v112, v113, v114, v115, v116, v117, v118, v119, v120, v121, v122, v123, v124, u125, u126, u127, u128, u129, u130, u131, u132, u133, u134, u135, u136, u137, u138, u139, u140, u141], defers := [] } wx)) :
    c.wp Tryd.prog Q { tmps := #[u0, u1, u2, u3, u4, u5, u6, u7, u8, u9, u10, u11, .slice a n cap, .int .i64 0, u14, u15, u16, u17, u18, u19, u20, u21, u22, u23, u24, u25, u26, u27, u28, u29, u30, u31, u32, u33, u34, u35, u36, u37, u38, u39, u40, u41, u42, u43, u44, u45, u46, u47, u48, u49, u50, u51, u52, u53, u54, u55, u56, u57, u58, u59, u60, u61, u62, u63, u64, u65, u66, u67, u68, u69, u70, u71, u72, u73, u74, u75, u76, u77, u78, u79, u80, u81, u82, u83, u84, u85, u86, u87, u88, u89, u90, u91, u92, u93, u94, u95, u96, u97, u98, u99, u100, u101, u102, u103, u104, u105, u106, u107, u108, u109, u110, u111, u112, u113, u114, u115, u116, u117, u118, u119, u120, u121, u122, u123, u124, u125, u126, u127, u128, u129, u130, u131, u132, u133, u134, u135, u136, u137, u138, u139, u140, u141], defers := [] } w := by
  conv at hc => lhs; whnf
  simp only [Option.some.injEq] at hc
  subst hc
  go_wp2_with fail
  go_loopw [13, 14, 15] (fun k _ _ wr => ∃ m : Nat, k = .int .i64 m ∧ m ≤ 9223372036854775807 ∧ Hid (Soft B N w wr)) (fun k _ _ _ => 9223372036854775807 - (intOf k).toNat)
  case atStart => exact ⟨0, rfl, by omega, Lib.hid (Soft.refl _ _ _)⟩
  case round =>
    obtain ⟨m, rfl, hm, hs⟩ := hrel
    by_cases hlt : m < n
    · have i1 : (m : Int) < (n : Int) := by omega
      have hC2 := ShC.soft hC.out hs.out (.inl rfl)
      obtain ⟨g, o, x, rfl, -⟩ := hC2.at hlt (show 0 < 8 by omega)
      replace hC2 := Lib.hid hC2
      go_upto_block 8 with fail
      refine own8 (by kernel_rfl) (w := wr) hC2 i1 (Lib.hid hlt) (fun {_ _ _ _} h e => hPn h e) (Lib.hid ?_)
      intros
      rename_i hx1
      rename World => w1
      have hC3 := Lib.hid (ShC.soft hC2.out hx1 (.inl rfl))
      have hs1 := Lib.hid (hs.out.trans hx1)
      clear hx1
      go_upto_block 10 with fail
      refine own10 (by kernel_rfl) (w := w1) hC3 i1 (Lib.hid hlt) (fun {_ _ _ _} h e => hPn h e) (Lib.hid ?_)
      intros
      rename_i hx2
      rename World => w2
      have hC4 := ShC.soft hC3.out hx2 (.inl rfl)
      have hs2 := Lib.hid (hs1.out.trans hx2)
      have hall : OwnB B N w2 g ∧ ∀ j, j < 8 → ∃ x, w2.cell? ⟨g, o + m * 8 + j, none⟩ = some x ∧ KI B N w2 j x := by
        refine ⟨?_, fun j hj => ?_⟩
        · obtain ⟨g', o', x, e, h1, -⟩ := hC4.at hlt (show 0 < 8 by omega)
          simp only [Option.some.injEq, Addr.mk.injEq] at e
          obtain ⟨rfl, rfl, -⟩ := e
          exact h1
        · obtain ⟨g', o', x, e, -, h2, h3⟩ := hC4.at hlt hj
          simp only [Option.some.injEq, Addr.mk.injEq] at e
          obtain ⟨rfl, rfl, -⟩ := e
          exact ⟨x, h2, h3⟩
      have h8 := soft8 hall.1 hall.2
      obtain ⟨x0, y0, -⟩ := hall.2 0 (by omega)
      obtain ⟨x1, y1, -⟩ := hall.2 1 (by omega)
      obtain ⟨x2, y2, -⟩ := hall.2 2 (by omega)
      obtain ⟨x3, y3, -⟩ := hall.2 3 (by omega)
      obtain ⟨x4, y4, -⟩ := hall.2 4 (by omega)
      obtain ⟨x5, y5, -⟩ := hall.2 5 (by omega)
      obtain ⟨x6, y6, -⟩ := hall.2 6 (by omega)
      obtain ⟨x7, y7, -⟩ := hall.2 7 (by omega)
      rw [Nat.add_zero] at y0
      have f0 := hall.1.froz (o + m * 8)
      have f1 := hall.1.froz (o + m * 8 + 1)
      have f2 := hall.1.froz (o + m * 8 + 2)
      have f3 := hall.1.froz (o + m * 8 + 3)
      have f4 := hall.1.froz (o + m * 8 + 4)
      have f5 := hall.1.froz (o + m * 8 + 5)
      have f6 := hall.1.froz (o + m * 8 + 6)
      have f7 := hall.1.froz (o + m * 8 + 7)
      have hs3 := Lib.hid (hs2.out.trans h8)
      clear hall h8 hC4 hx2 hC2 hC3
      go_wp2_with fail
      exact ⟨⟨m + 1, by go_num, by omega, hs3⟩, by simp [intOf]; omega⟩
    · have i1 : decide ((m : Int) < (n : Int)) = false := by simp; omega
      go_wp2_with fail
      exact hQ.out hs.out
end
section
open Go.RowKit Go.Maps Go.Shelf
attribute [local go_sem] Oper.semAt_some

set_option maxRecDepth 20000 in
set_option maxHeartbeats 4000000 in
theorem own4 {c : Code} (hc : Func.blockOf Tryd.f6 4 = some c) {Q : Exit → Act → World → Prop} {w : World} {B N pb g o n cap i : Nat} {u0 u1 u2 u4 u5 u6 u7 u8 u10 u12 u13 u14 u15 u16 u17 u18 u19 u20 u21 u22 u23 u24 u25 u26 u27 u28 u29 u30 u31 u32 u33 u34 u35 u36 u37 u38 u39 u40 u41 u42 u43 u44 u45 u46 u47 u48 u49 u50 u51 u52 u53 u54 u55 u56 u57 u58 u59 u60 u61 u62 u63 u64 u65 u66 u67 u68 u69 u70 u71 u72 u73 u74 u75 u76 u77 u78 u79 u80 u81 u82 u83 u84 u85 u86 u87 u88 u89 u90 u91 u92 u93 u94 u95 u96 u97 u98 u99 u100 u101 u102 u103 u104 u105 u106 u107 u108 u109 u110 u111 u112 u113 u114 u115 u116 u117 u118 u119 u120 u121 u122 u123 u124 u125 u126 u127 u128 u129 u130 u131 u132 u133 u134 u135 u136 u137 u138 u139 u140 u141 : Value}
    (hpb : N ≤ pb) (lpb : pb < w.heap.size) (c1 : w.cell? ⟨pb, 0, none⟩ = some (.slice (some ⟨g, o, none⟩) n cap)) (hF : Hid (ShF B N w (.slice (some ⟨g, o, none⟩) n cap))) (hi : (i : Int) < (n : Int)) (hin : Hid (i < n)) (hPn : ∀ {x : List PanicEntry} {a a1 : Act} {w : World}, Q (.panic x) a w → a.defers = a1.defers → Q (.panic x) a1 w)
    (hQ : Hid (∀ {wx : World} {v11 v12 v13 v14 v15 v60 v61 v62 v63 v64 v65 v66 v67 v68 v69 v70 v71 v72 v73 v74 v75 v76 v77 v78 v79 v80 v81 v82 v83 v84 v85 v86 v87 v88 v89 v90 v91 v92 v93 v94 v95 v96 v97 v98 v99 v100 v101 v102 v103 v104 v105 v106 v107 v108 v109 v110 v111 v112 v113 v114 v115 v116 v117 v118 v119 v120 v121 v122 v123 v124 : Value}, Soft B N w wx → Q .normal { tmps := #[u0, u1, u2, .pointer (some ⟨pb, 0, none⟩), u4, u5, u6, u7, u8, .int .i64 i, u10, v11, v12, v13, v14, v15, u16, u17, u18, u19, u20, u21, u22, u23, u24, u25, u26, u27, u28, u29, u30, u31, u32, u33, u34, u35, u36, u37, u38, u39, u40, u41, u42, u43, u44, u45, u46, u47, u48, u49, u50, u51, u52, u53, u54, u55, u56, u57, u58, u59, v60, v61, v62, v63, v64, v65, v66, v67, v68, v69, v70, v71, v72, v73, v74, v75, v76, v77, v78, v79, v80, v81, v82, v83, v84, v85, v86, v87, v88, v89, v90, v91, v92, v93, v94, v95, v96, v97, v98, v99, v100, v101, v102, v103, v104, v105, v106, v107, v108, v109, v110, v111, v112, v113, v114, v115, v116, v117, v118, v119, v120, v121, v122, v123, v124, u125, u126, u127, u128, u129, u130, u131, u132, u133, u134, u135, u136, u137, u138, u139, u140, u141], defers := [] } wx)) :
    c.wp Tryd.prog Q { tmps := #[u0, u1, u2, .pointer (some ⟨pb, 0, none⟩), u4, u5, u6, u7, u8, .int .i64 i, u10, .int .i64 0, u12, u13, u14, u15, u16, u17, u18, u19, u20, u21, u22, u23, u24, u25, u26, u27, u28, u29, u30, u31, u32, u33, u34, u35, u36, u37, u38, u39, u40, u41, u42, u43, u44, u45, u46, u47, u48, u49, u50, u51, u52, u53, u54, u55, u56, u57, u58, u59, u60, u61, u62, u63, u64, u65, u66, u67, u68, u69, u70, u71, u72, u73, u74, u75, u76, u77, u78, u79, u80, u81, u82, u83, u84, u85, u86, u87, u88, u89, u90, u91, u92, u93, u94, u95, u96, u97, u98, u99, u100, u101, u102, u103, u104, u105, u106, u107, u108, u109, u110, u111, u112, u113, u114, u115, u116, u117, u118, u119, u120, u121, u122, u123, u124, u125, u126, u127, u128, u129, u130, u131, u132, u133, u134, u135, u136, u137, u138, u139, u140, u141], defers := [] } w := by
  conv at hc => lhs; whnf
  simp only [Option.some.injEq] at hc
  subst hc
  go_wp2_with fail
  go_loopw [11, 12, 13, 14, 15] (fun k _ _ _ _ wr => ∃ m : Nat, k = .int .i64 m ∧ m ≤ 9223372036854775807 ∧ Hid (Soft B N w wr)) (fun k _ _ _ _ _ => 9223372036854775807 - (intOf k).toNat)
  case atStart => exact ⟨0, rfl, by omega, Lib.hid (Soft.refl _ _ _)⟩
  case round =>
    obtain ⟨m, rfl, hm, hs⟩ := hrel
    have z1 := (soft_out hs.out hpb lpb).trans c1
    have hF2 := ShF.soft hF.out hs.out (.inl rfl)
    obtain ⟨g', o', x, e, -, hx, hk⟩ := hF2.at hin.out (show 2 < 3 by omega)
    simp only [Option.some.injEq, Addr.mk.injEq] at e
    obtain ⟨rfl, rfl, -⟩ := e
    replace hk := hk.two
    obtain ⟨ab, q, cq, rfl, hq, hr⟩ := id hk
    by_cases hlt : m < q
    · have i1 : (m : Int) < (q : Int) := by omega
      obtain ⟨gb, ob, y, rfl, -, hy, hky⟩ := hk.at hlt (show 1 < 2 by omega)
      replace hky := hky.one
      obtain ⟨ac, qc, cc, rfl, hqc, -⟩ := id hky
      replace hky := Lib.hid hky
      clear hr hk hF2
      go_upto_block 6 with fail
      refine own6 (by kernel_rfl) (w := wr) hky hqc (fun {_ _ _ _} h e => hPn h e) (Lib.hid ?_)
      intros
      rename_i hx1
      rename World => w1
      have hs1 := Lib.hid (hs.out.trans hx1)
      clear hx1 hx hy z1
      go_wp2_with fail
      exact ⟨⟨m + 1, by go_num, by omega, hs1⟩, by simp [intOf]; omega⟩
    · have i1 : decide ((m : Int) < (q : Int)) = false := by simp; omega
      clear hr hk hF2
      go_wp2_with fail
      exact hQ.out hs.out

set_option maxRecDepth 20000 in
set_option maxHeartbeats 4000000 in
theorem own0 {c : Code} (hc : Func.blockOf Tryd.f6 0 = some c) {Q : Exit → Act → World → Prop} {w : World} {B N pb n cap : Nat} {a : Option Addr} {u0 u1 u2 u4 u5 u6 u7 u8 u10 u11 u12 u13 u14 u15 u16 u17 u18 u19 u20 u21 u22 u23 u24 u25 u26 u27 u28 u29 u30 u31 u32 u33 u34 u35 u36 u37 u38 u39 u40 u41 u42 u43 u44 u45 u46 u47 u48 u49 u50 u51 u52 u53 u54 u55 u56 u57 u58 u59 u60 u61 u62 u63 u64 u65 u66 u67 u68 u69 u70 u71 u72 u73 u74 u75 u76 u77 u78 u79 u80 u81 u82 u83 u84 u85 u86 u87 u88 u89 u90 u91 u92 u93 u94 u95 u96 u97 u98 u99 u100 u101 u102 u103 u104 u105 u106 u107 u108 u109 u110 u111 u112 u113 u114 u115 u116 u117 u118 u119 u120 u121 u122 u123 u124 u125 u126 u127 u128 u129 u130 u131 u132 u133 u134 u135 u136 u137 u138 u139 u140 u141 : Value}
    (hpb : N ≤ pb) (lpb : pb < w.heap.size) (c1 : w.cell? ⟨pb, 0, none⟩ = some (.slice a n cap)) (hF : Hid (ShF B N w (.slice a n cap))) (hnm : n ≤ 9223372036854775807) (hPn : ∀ {x : List PanicEntry} {a a1 : Act} {w : World}, Q (.panic x) a w → a.defers = a1.defers → Q (.panic x) a1 w)
    (hQ : Hid (∀ {wx : World} {v9 v10 v11 v12 v13 v14 v15 v34 v35 v36 v37 v38 v39 v40 v41 v42 v43 v44 v45 v46 v47 v48 v49 v50 v51 v52 v53 v54 v55 v56 v57 v58 v59 v60 v61 v62 v63 v64 v65 v66 v67 v68 v69 v70 v71 v72 v73 v74 v75 v76 v77 v78 v79 v80 v81 v82 v83 v84 v85 v86 v87 v88 v89 v90 v91 v92 v93 v94 v95 v96 v97 v98 v99 v100 v101 v102 v103 v104 v105 v106 v107 v108 v109 v110 v111 v112 v113 v114 v115 v116 v117 v118 v119 v120 v121 v122 v123 v124 v125 v126 v127 v128 v129 : Value}, Soft B N w wx → Q .normal { tmps := #[u0, u1, u2, .pointer (some ⟨pb, 0, none⟩), u4, u5, u6, u7, u8, v9, v10, v11, v12, v13, v14, v15, u16, u17, u18, u19, u20, u21, u22, u23, u24, u25, u26, u27, u28, u29, u30, u31, u32, u33, v34, v35, v36, v37, v38, v39, v40, v41, v42, v43, v44, v45, v46, v47, v48, v49, v50, v51, v52, v53, v54, v55, v56, v57, v58, v59, v60, v61, v62, v63, v64, v65, v66, v67, v68, v69, v70, v71, v72, v73, v74, v75, v76, v77, v78, v79, v80, v81, v82, v83, v84, v85, v86, v87, v88, v89, v90, v91, v92, v93, v94, v95, v96, v97, v98, v99, v100, v101, v102, v103, v104, v105, v106, v107, v108, v109, v110, v111, v112, v113, v114, v115, v116, v117, v118, v119, v120, v121, v122, v123, v124, v125, v126, v127, v128, v129, u130, u131, u132, u133, u134, u135, u136, u137, u138, u139, u140, u141], defers := [] } wx)) :
    c.wp Tryd.prog Q { tmps := #[u0, u1, u2, .pointer (some ⟨pb, 0, none⟩), u4, u5, u6, u7, u8, .int .i64 0, u10, u11, u12, u13, u14, u15, u16, u17, u18, u19, u20, u21, u22, u23, u24, u25, u26, u27, u28, u29, u30, u31, u32, u33, u34, u35, u36, u37, u38, u39, u40, u41, u42, u43, u44, u45, u46, u47, u48, u49, u50, u51, u52, u53, u54, u55, u56, u57, u58, u59, u60, u61, u62, u63, u64, u65, u66, u67, u68, u69, u70, u71, u72, u73, u74, u75, u76, u77, u78, u79, u80, u81, u82, u83, u84, u85, u86, u87, u88, u89, u90, u91, u92, u93, u94, u95, u96, u97, u98, u99, u100, u101, u102, u103, u104, u105, u106, u107, u108, u109, u110, u111, u112, u113, u114, u115, u116, u117, u118, u119, u120, u121, u122, u123, u124, u125, u126, u127, u128, u129, u130, u131, u132, u133, u134, u135, u136, u137, u138, u139, u140, u141], defers := [] } w := by
  conv at hc => lhs; whnf
  simp only [Option.some.injEq] at hc
  subst hc
  go_wp2_with fail
  go_loopw [9, 10, 11, 12, 13, 14, 15] (fun k _ _ _ _ _ _ wr => ∃ m : Nat, k = .int .i64 m ∧ m ≤ 9223372036854775807 ∧ Hid (Soft B N w wr)) (fun k _ _ _ _ _ _ _ => 9223372036854775807 - (intOf k).toNat)
  case atStart => exact ⟨0, rfl, by omega, Lib.hid (Soft.refl _ _ _)⟩
  case round =>
    obtain ⟨m, rfl, hm, hs⟩ := hrel
    have z1 := (soft_out hs.out hpb lpb).trans c1
    by_cases hlt : m < n
    · have i1 : (m : Int) < (n : Int) := by omega
      have lpr : pb < wr.heap.size := Nat.lt_of_lt_of_le lpb hs.out.touch.size
      have hF2 := ShF.soft hF.out hs.out (.inl rfl)
      obtain ⟨g, o, x, rfl, -⟩ := hF2.at hlt (show 0 < 3 by omega)
      replace hF2 := Lib.hid hF2
      go_upto_block 2 with fail
      refine own2 (by kernel_rfl) (w := wr) hpb lpr z1 hF2 i1 (Lib.hid hlt) (fun {_ _ _ _} h e => hPn h e) (Lib.hid ?_)
      intros
      rename_i hx1
      rename World => w1
      have lp1 : pb < w1.heap.size := Nat.lt_of_lt_of_le lpr hx1.touch.size
      have z2 := (soft_out hx1 hpb lpr).trans z1
      have hF3 := Lib.hid (ShF.soft hF2.out hx1 (.inl rfl))
      have hs1 := Lib.hid (hs.out.trans hx1)
      clear hx1 z1
      go_upto_block 4 with fail
      refine own4 (by kernel_rfl) (w := w1) hpb lp1 z2 hF3 i1 (Lib.hid hlt) (fun {_ _ _ _} h e => hPn h e) (Lib.hid ?_)
      intros
      rename_i hx2
      rename World => w2
      have z3 := (soft_out hx2 hpb lp1).trans z2
      have hF4 := ShF.soft hF3.out hx2 (.inl rfl)
      have hs2 := Lib.hid (hs1.out.trans hx2)
      have hall : OwnB B N w2 g ∧ ∀ j, j < 3 → ∃ x, w2.cell? ⟨g, o + m * 3 + j, none⟩ = some x ∧ KF B N w2 j x := by
        refine ⟨?_, fun j hj => ?_⟩
        · obtain ⟨g', o', x, e, h1, -⟩ := hF4.at hlt (show 0 < 3 by omega)
          simp only [Option.some.injEq, Addr.mk.injEq] at e
          obtain ⟨rfl, rfl, -⟩ := e
          exact h1
        · obtain ⟨g', o', x, e, -, h2, h3⟩ := hF4.at hlt hj
          simp only [Option.some.injEq, Addr.mk.injEq] at e
          obtain ⟨rfl, rfl, -⟩ := e
          exact ⟨x, h2, h3⟩
      have h3 := soft3 hall.1 hall.2
      obtain ⟨x0, y0, -⟩ := hall.2 0 (by omega)
      obtain ⟨x1, y1, -⟩ := hall.2 1 (by omega)
      obtain ⟨x2, y2, -⟩ := hall.2 2 (by omega)
      rw [Nat.add_zero] at y0
      have f0 := hall.1.froz (o + m * 3)
      have f1 := hall.1.froz (o + m * 3 + 1)
      have f2 := hall.1.froz (o + m * 3 + 2)
      have hs3 := Lib.hid (hs2.out.trans h3)
      clear hall h3 hF4 hx2 hF2 hF3 z2
      go_wp2_with fail
      exact ⟨⟨m + 1, by go_num, by omega, hs3⟩, by simp [intOf]; omega⟩
    · have i1 : decide ((m : Int) < (n : Int)) = false := by simp; omega
      go_wp2_with fail
      exact hQ.out hs.out
end
section
open Go.RowKit Go.Maps Go.Shelf
attribute [local go_sem] Oper.semAt_some fld0 fld1 fld2

theorem post_allU {w w' : World} {R : Except Flt (List Fun)} {e : Ending} (h : ParsePost w R e w') : ∃ (va : Option Addr) (n vc : Nat), e = .returned (.tuple #[.agg #[.slice va n vc], .agg #[.int .i64 (errR R).1, .int .i64 (errR R).2.1], .int .i64 (errR R).2.2]) ∧ Below w.heap.size w w' ∧ n = (progR R).length ∧ ∀ w'', Touch w' w'' (fun k => k < w.heap.size) → REU 3 RdFunU w'' (.slice va n vc) (progR R) := by
  obtain ⟨hb, h⟩ := h
  cases R with
  | error f =>
    obtain ⟨l, c, er⟩ := f
    exact ⟨none, 0, 0, h, hb, rfl, fun w'' _ => ⟨RdE.nil _, fz_nil _⟩⟩
  | ok P =>
    obtain ⟨v, rfl, hr⟩ := h
    obtain ⟨va, vc, rfl⟩ := (hr w' (Touch.refl _ _)).1.form
    exact ⟨va, P.length, vc, rfl, hb, rfl, hr⟩
theorem soft_of_below {B N : Nat} {w w' : World} (h : Below w.heap.size w w') : Soft B N w w' := by
  refine ⟨Touch.of_below h _, fun b o x hx => ⟨x, ?_, .inl rfl⟩, fun b cs t hb => ⟨cs, (h.block b (Array.getElem?_eq_some_iff.1 hb).1).trans hb⟩⟩
  have hlt : b < w.heap.size := by
    unfold World.cell? at hx
    by_cases hlt : b < w.heap.size
    · exact hlt
    · have hn : w.heap[b]? = none := Array.getElem?_eq_none (by omega)
      simp [hn] at hx
  exact (h.cell (p := ⟨b, o, none⟩) hlt).trans hx
set_option maxRecDepth 20000 in
set_option maxHeartbeats 2000000 in
theorem own_great {w : World} {s : ByteArray} (h : 1500 < s.size) : Calls Tryd.prog 6 #[.string s] w fun e w' => e = .returned (.bool true) ∧ Below w.heap.size w w' := by
  have g1 : decide ((s.size : Int) > 1500) = true := by simp; omega
  clear h
  go_enter Tryd.func6, Tryd.ntmps6
  go_wp2_with fail
  go_ret
  exact ⟨rfl, Below.refl _ _⟩
set_option maxRecDepth 20000 in
set_option maxHeartbeats 4000000 in
theorem own_small {w : World} {s : ByteArray} (h : s.size ≤ 1500) : Calls Tryd.prog 6 #[.string s] w fun e w' => e = .returned (.bool true) ∧ Below w.heap.size w w' := by
  have g1 : decide ((s.size : Int) > 1500) = false := by simp; omega
  have k1 := Lib.hid (fun w' => parse_any (w := w') (s := s) (by omega))
  have hfit := Lib.hid (fit_all (s := s.data.toList) (by simp; omega))
  generalize parseL s.data.toList = R at k1 hfit
  clear h
  go_enter Tryd.func6, Tryd.ntmps6
  go_wp2_with fail
  refine (k1.out _).mono ?_
  intro e w1 h1
  obtain ⟨va, n1, vc, rfl, hb1, hn1, hr1⟩ := post_allU h1
  have hF1 : ShF w.heap.size w1.heap.size w1 (.slice va n1 vc) := shF_of (hr1 (wipe w1 w.heap.size) (wipe_touch _ _)) hfit.out
  have hnl : n1 ≤ 9223372036854775807 := by have := hfit.out.1; omega
  replace hF1 := Lib.hid hF1
  replace hb1 := Lib.hid hb1
  clear h1 hn1 hr1
  obtain ⟨W2, hW2⟩ : ∃ W2, ((w1.alloc (.cells #[.slice va n1 vc] 24)).alloc (.cells #[.int .i64 (errR R).1, .int .i64 (errR R).2.1] 26)) = W2 := ⟨_, rfl⟩
  have x1 : W2.heap[w1.heap.size]? = some (.cells #[.slice va n1 vc] 24) := by rw [← hW2]; exact at_oldP (at_newP rfl)
  have u1 : Below w1.heap.size w1 W2 := by rw [← hW2]; exact ((Below.refl _ _).alloc (Nat.le_refl _) _).alloc (by simp) _
  have hz1 := hb1.out.size
  replace hW2 := Lib.hid hW2
  go_upto_region 4 with fail
  rw [hW2.out]
  obtain ⟨pb, hpb⟩ : ∃ pb, pb = w1.heap.size := ⟨_, rfl⟩
  rw [← hpb] at x1 ⊢
  replace hpb := Lib.hid hpb
  go_wp2_with fail
  refine (k1.out _).mono ?_
  intro e w3 h3
  obtain ⟨vb, n2, vd, rfl, hb3, hn2, hr2⟩ := post_allU h3
  replace hr2 := Lib.hid hr2
  replace hb3 := Lib.hid hb3
  clear h3 hn2
  obtain ⟨W4, hW4⟩ : ∃ W4, ((w3.alloc (.cells #[.slice vb n2 vd] 24)).alloc (.cells #[.int .i64 (errR R).1, .int .i64 (errR R).2.1] 26)) = W4 := ⟨_, rfl⟩
  have x2 : W4.heap[w3.heap.size]? = some (.cells #[.slice vb n2 vd] 24) := by rw [← hW4]; exact at_oldP (at_newP rfl)
  have u3 : Below w3.heap.size w3 W4 := by rw [← hW4]; exact ((Below.refl _ _).alloc (Nat.le_refl _) _).alloc (by simp) _
  have hz2 := hb3.out.size
  have hz3 := u1.size
  have hz4 := u3.size
  have x1b := keepB u3 (keepB hb3.out x1)
  have c1 : W4.cell? ⟨pb, 0, none⟩ = some (.slice va n1 vc) := by rw [blk_cell x1b]; rfl
  have lpb : pb < W4.heap.size := (Array.getElem?_eq_some_iff.1 x1b).1
  have b13 : Below w1.heap.size w1 W4 := u1.trans ((hb3.out.trans (u3.mono hz2)).mono hz3)
  have hF4 := Lib.hid (ShF.soft hF1.out (soft_of_below (B := w.heap.size) (N := w1.heap.size) b13) (.inl rfl))
  have bw4 : Below w.heap.size w W4 := hb1.out.trans (b13.mono hz1)
  replace bw4 := Lib.hid bw4
  replace b13 := Lib.hid b13
  replace x2 := Lib.hid x2
  replace u3 := Lib.hid u3
  clear x1 x1b u1 hF1
  replace hW4 := Lib.hid hW4
  go_upto_block 0 with fail
  rw [hW4.out]
  obtain ⟨pc, hpc⟩ : ∃ pc, pc = w3.heap.size := ⟨_, rfl⟩
  rw [← hpc]
  replace hpc := Lib.hid hpc
  refine own0 (by kernel_rfl) (w := W4) (B := w.heap.size) (N := w1.heap.size) (by rw [hpb.out]; exact Nat.le_refl _) lpb c1 hF4 hnl (fun {_ a a1 _} h e => by cases a; cases a1; cases e; exact h) (Lib.hid ?_)
  intros
  rename_i hx
  rename World => wx
  have bwx : Below w.heap.size w wx := bw4.out.trans (hx.touch.below bw4.out.size (fun k hk h => by omega))
  have hx2 : wx.cell? ⟨pc, 0, none⟩ = some (.slice vb n2 vd) := by
    have hl := (Array.getElem?_eq_some_iff.1 x2.out).1
    rw [← hpc.out] at hl
    rw [soft_out hx (by rw [hpc.out]; omega) hl, blk_cell (by rw [hpc.out]; exact x2.out)]
    rfl
  have lpc : pc < wx.heap.size := by
    have hl := (Array.getElem?_eq_some_iff.1 x2.out).1
    rw [← hpc.out] at hl
    exact Nat.lt_of_lt_of_le hl hx.touch.size
  have t3x : Touch w3 wx (fun k => k < W2.heap.size) := (Touch.of_below u3.out _).then hx.touch (fun k hk h => by omega)
  have r2 := Lib.hid (hr2.out wx t3x).plain
  replace bwx := Lib.hid bwx
  clear hr2 hF4 c1 lpb x2 u3 b13 bw4 hx t3x hz1 hz2 hz3 hz4 hb1 hb3 hW2 hW4 hpb hpc hnl
  go_wp2_with fail
  refine (k1.out _).mono ?_
  intro e w5 h5
  obtain ⟨ve, n3, vf, rfl, hb5, hn3, hr3⟩ := post_all h5
  have r3 := hr3 w5 (Touch.refl _ _)
  have u5 : ∀ A C : Obj, Below w5.heap.size w5 ((w5.alloc A).alloc C) := fun A C => ((Below.refl _ _).alloc (Nat.le_refl _) _).alloc (by simp) _
  have bx5 : ∀ A C : Obj, Below wx.heap.size wx ((w5.alloc A).alloc C) := fun A C => hb5.trans ((u5 A C).mono hb5.size)
  have q1 : ∀ A C : Obj, ((w5.alloc A).alloc C).cell? ⟨pc, 0, none⟩ = some (.slice vb n2 vd) := fun A C => ((bx5 A C).cell (p := ⟨pc, 0, none⟩) lpc).trans hx2
  have q2 : ∀ C : Obj, ((w5.alloc (.cells #[.slice ve n3 vf] 24)).alloc C).cell? ⟨w5.heap.size, 0, none⟩ = some (.slice ve n3 vf) := fun C => by rw [blk_cell (at_oldP (at_newP rfl))]; rfl
  have lpc5 : pc < w5.heap.size := Nat.lt_of_lt_of_le lpc hb5.size
  have hsame : ∀ A C : Obj, Calls Tryd.prog 11 #[.agg #[.slice vb n2 vd], .agg #[.slice ve n3 vf]] ((w5.alloc A).alloc C) fun e w' => e = .returned (.bool true) ∧ Below ((w5.alloc A).alloc C).heap.size ((w5.alloc A).alloc C) w' := fun A C => same_yes (RdE.below (fun _ _ h => h.below (bx5 A C)) r2.out (bx5 A C)) (RdE.below (fun _ _ h => h.below (u5 A C)) r3 (u5 A C)) hfit.out
  have hend : ∀ A C : Obj, Below w.heap.size w ((w5.alloc A).alloc C) := fun A C => bwx.out.trans ((bx5 A C).mono bwx.out.size)
  replace hsame := Lib.hid hsame
  replace hend := Lib.hid hend
  clear h5 hn3 hr3 hb5 r2 r3 u5 bx5 hx2 bwx lpc
  go_wp2_with fail
  refine (hsame.out _ _).mono ?_
  rintro e w6 ⟨rfl, hb6⟩
  have hb6 := Lib.hid ((hend.out _ _).trans (hb6.mono (hend.out _ _).size))
  go_wp2_with fail
  refine reads_any.mono ?_
  rintro e w7 ⟨rfl, hb7⟩
  have hb7 := Lib.hid (hb6.out.trans (hb7.mono hb6.out.size))
  go_wp2_with fail
  go_ret
  exact ⟨rfl, hb7.out⟩
end
section
open Go.RowKit Go.Maps

theorem own_law {w : World} {s : ByteArray} : Calls Tryd.prog 6 #[.string s] w fun e w' => e = .returned (.bool true) ∧ Below w.heap.size w w' := by
  by_cases h : 1500 < s.size
  · exact own_great h
  · exact own_small (by omega)
end
end Go.Proofs.YtgcanabckogmmaaDoor
