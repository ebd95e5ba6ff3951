/- The next component of scc.Order, walked. -/
import Derived.Test.YtppkponnopnmdaaSOrd
import Derived.Test.YtppkponnopnmdaaSHeapP
namespace Go.Proofs.Ytppkponnopnmdaa
open Go.RowKit Go.Maps Go.Shelf

/-- What an order is made of: the boxes of the graph, of who is ahead, of the heap. -/
structure OB (b0 fb ab X A hb c : Nat) (fv : Value) (F : List (List Int)) (w : World) (v : Value) (cnt : Nat → Int) (l : List Int) : Prop where
  f : w.heap[fb]? = some (.cells #[fv] 36 (0, 0))
  b : w.heap[ab]? = some (.cells #[.slice (some ⟨A, 0, none⟩) c c] 26 (0, 0))
  x : w.heap[X]? = some (.cells #[.pointer (some ⟨hb, 0, none⟩)] 47 (0, 0))
  a : w.heap[A]? = some (.cells (markA c cnt) 3 (0, 0))
  H : HS w hb v l
  ord : Ord l l.length
  own : ∀ b, v.ownBlock = some b → b0 ≤ b ∧ b ≠ fb ∧ b ≠ ab ∧ b ≠ X ∧ b ≠ A
  rows : RdX (fun b => b0 ≤ b) w fv F
  at0 : b0 ≤ A ∧ b0 ≤ hb ∧ b0 ≤ w.heap.size
  ne : fb ≠ ab ∧ fb ≠ X ∧ fb ≠ A ∧ fb ≠ hb ∧ ab ≠ X ∧ ab ≠ A ∧ ab ≠ hb ∧ X ≠ A ∧ X ≠ hb ∧ A ≠ hb
/-- What a step turns. -/
structure NTo (w w' : World) (hb A : Nat) (v v' : Value) : Prop where
  T : Touch w w' (fun b => b = hb ∨ b = A ∨ v.ownBlock = some b)
  new : ∀ b, v'.ownBlock = some b → v.ownBlock = some b ∨ w.heap.size ≤ b
theorem NTo.refl (w : World) (hb A : Nat) (v : Value) : NTo w w hb A v v := ⟨Touch.refl _ _, fun _ h => .inl h⟩
theorem NTo.trans {a b c : World} {hb A : Nat} {v1 v2 v3 : Value} (h : NTo a b hb A v1 v2) (g : NTo b c hb A v2 v3) : NTo a c hb A v1 v3 :=
  ⟨Touch.join h.T g.T (fun k hk e => by
    rcases e with e | e | e
    · exact .inl e
    · exact .inr (.inl e)
    · rcases h.new k e with e | e
      · exact .inr (.inr e)
      · omega), fun b hb' => by
    rcases g.new b hb' with e | e
    · exact h.new b e
    · exact .inr (Nat.le_trans h.T.size e)⟩
theorem HTo.n {w w' : World} {hb A : Nat} {v v' : Value} (h : HTo w w' hb v v') : NTo w w' hb A v v' :=
  ⟨Touch.mono h.T (fun _ _ e => e.elim .inl (fun e => .inr (.inr e))), h.new⟩
section
variable {b0 fb ab X A hb c : Nat} {fv v v' : Value} {F : List (List Int)} {w w' : World} {cnt : Nat → Int} {l l' : List Int}
theorem OB.lts (O : OB b0 fb ab X A hb c fv F w v cnt l) : fb < w.heap.size ∧ ab < w.heap.size ∧ X < w.heap.size ∧ A < w.heap.size :=
  ⟨(Array.getElem?_eq_some_iff.1 O.f).1, (Array.getElem?_eq_some_iff.1 O.b).1, (Array.getElem?_eq_some_iff.1 O.x).1, (Array.getElem?_eq_some_iff.1 O.a).1⟩
/-- Behind a call of the heap's. -/
theorem OB.heap (O : OB b0 fb ab X A hb c fv F w v cnt l) (H : HS w' hb v' l') (ho : Ord l' l'.length) (T : HTo w w' hb v v') : OB b0 fb ab X A hb c fv F w' v' cnt l' := by
  obtain ⟨l1, l2, l3, l4⟩ := O.lts
  obtain ⟨n1, n2, n3, n4, n5, n6, n7, n8, n9, n10⟩ := O.ne
  have hb0 := O.at0
  refine ⟨(T.T.block fb l1 (fun e => ?_)).trans O.f, (T.T.block ab l2 (fun e => ?_)).trans O.b, (T.T.block X l3 (fun e => ?_)).trans O.x, (T.T.block A l4 (fun e => ?_)).trans O.a, H, ho, fun b hb' => ?_, O.rows.touch (Touch.mono T.T (fun k _ e => ?_)), ⟨hb0.1, hb0.2.1, Nat.le_trans hb0.2.2 T.T.size⟩, O.ne⟩
  · rcases e with e | e
    · omega
    · have := O.own _ e; omega
  · rcases e with e | e
    · omega
    · have := O.own _ e; omega
  · rcases e with e | e
    · omega
    · have := O.own _ e; omega
  · rcases e with e | e
    · omega
    · have := O.own _ e; omega
  · rcases T.new b hb' with e | e
    · exact O.own b e
    · omega
  · rcases e with e | e
    · omega
    · exact (O.own _ e).1
/-- Behind a store into who is ahead. -/
theorem OB.store {i : Nat} {z : Int} {cnt' : Nat → Int} (O : OB b0 fb ab X A hb c fv F w v cnt l) (hi : i < c) (h1 : cnt' i = z) (h2 : ∀ y, y ≠ i → cnt' y = cnt y) : OB b0 fb ab X A hb c fv F (w.setCell ⟨A, i, none⟩ (.int .i64 z)) v cnt' l ∧ NTo w (w.setCell ⟨A, i, none⟩ (.int .i64 z)) hb A v v := by
  obtain ⟨l1, l2, l3, l4⟩ := O.lts
  obtain ⟨n1, n2, n3, n4, n5, n6, n7, n8, n9, n10⟩ := O.ne
  have T : Touch w (w.setCell ⟨A, i, none⟩ (.int .i64 z)) (fun b => b = A) := (Touch.refl w (fun b => b = A)).setCell (a := ⟨A, i, none⟩) (fun _ => rfl) _
  refine ⟨⟨(T.block fb l1 n3).trans O.f, (T.block ab l2 n6).trans O.b, (T.block X l3 n8).trans O.x, ?_, O.H.kept T (fun b e => ⟨by omega, fun h => (O.own b h).2.2.2.2 e⟩), O.ord, O.own, O.rows.touch (Touch.mono T (fun k _ e => ?_)), ⟨O.at0.1, O.at0.2.1, Nat.le_trans O.at0.2.2 T.size⟩, O.ne⟩, Touch.mono T (fun k _ e => .inr (.inl e)), fun b h => .inl h⟩
  · rw [blk_set _ O.a, markA_set hi h1 h2]
  · have := O.at0.1; omega
theorem OB.congr {cnt' : Nat → Int} (O : OB b0 fb ab X A hb c fv F w v cnt l) (h : ∀ y, y < c → cnt y = cnt' y) : OB b0 fb ab X A hb c fv F w v cnt' l :=
  ⟨O.f, O.b, O.x, by rw [O.a, markA_congr h], O.H, O.ord, O.own, O.rows, O.at0, O.ne⟩
end
open Classical in
/-- Who is ahead, while one goes out. -/
noncomputable def cntQ (F : List (List Int)) (o : List Nat) (p : List Int) (y : Nat) : Int := (indeg F o y : Nat) - (if (y : Int) ∈ p then 1 else 0)
section
variable {F : List (List Int)} {o : List Nat} {c x y : Nat} {p r : List Int}
theorem cntQ_nil : cntQ F o [] y = (indeg F o y : Nat) := by simp [cntQ]
theorem cntQ_here (hx : (x : Int) ∉ p) : cntQ F o p x = (indeg F o x : Nat) := by simp [cntQ, hx]
theorem cntQ_next (hx : (x : Int) ∉ p) : cntQ F o (p ++ [(x : Int)]) x = cntQ F o p x - 1 := by simp [cntQ, hx]
theorem cntQ_other (hy : y ≠ x) : cntQ F o (p ++ [(x : Int)]) y = cntQ F o p y := by
  have : ((y : Int) ∈ p ++ [(x : Int)]) ↔ (y : Int) ∈ p := by
    rw [List.mem_append, List.mem_singleton]
    exact ⟨fun h => h.resolve_right (fun e => hy (Int.ofNat_inj.1 e)), .inl⟩
  simp only [cntQ, this]
theorem cntQ_done (hc : c ∉ o) (hl : c < F.length) (hr : F[c]? = some r) (hv : ∀ z ∈ r, 0 ≤ z ∧ z < F.length) : cntQ F o r y = (indeg F (o ++ [c]) y : Nat) := by
  have h1 := indeg_out (x := y) hc hl
  have h2 : Edge F c y ↔ (y : Int) ∈ r := by
    constructor
    · rintro ⟨_, r', hr', hm⟩
      rw [hr] at hr'
      exact Option.some.inj hr' ▸ hm
    · exact fun hm => ⟨by have := hv _ hm; omega, r, hr, hm⟩
  unfold cntQ
  by_cases he : (y : Int) ∈ r
  · rw [if_pos (h2.2 he)] at h1
    rw [if_pos he]
    omega
  · rw [if_neg (fun h => he (h2.1 h))] at h1
    rw [if_neg he]
    omega
end
end Go.Proofs.Ytppkponnopnmdaa
