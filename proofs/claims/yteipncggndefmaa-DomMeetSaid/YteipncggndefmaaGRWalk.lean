/- The document's own walk, and its order. -/
import Derived.Test.YteipncggndefmaaGSame
namespace Go.Proofs.Yteipncggndefmaa
open Go.RowKit Go.Maps Go.Shelf

/-- How the document's own walk stands: what is seen, what was left. -/
structure RW (w0 wr : World) (S n : Nat) (s : List Nat) (lv : Value) (o : List Nat) : Prop where
  bs : wr.heap[S]? = some (.cells (seenA n s) 4 (0, 0))
  T : Touch w0 wr (fun b => b = S)
  rd : RdI wr lv (o.map fun x : Nat => (x : Int))
  off : Off (fun b => b = S) lv o.length
def RWRow (L : List (List Int)) (w0 wr : World) (S : Nat) (r : List Int) (sB s1 o1 : List Nat) (lv j : Value) : Prop :=
  ∃ (m : Nat) (s o : List Nat), m ≤ r.length ∧ j = .int .i64 m ∧ RW w0 wr S L.length s lv o ∧ Kids L (r.drop m) s o s1 o1 ∧ (∀ x ∈ sB, x ∈ s) ∧ o.length + unseen L.length s ≤ 100000
theorem Kids.few {L : List (List Int)} {l : List Int} {s o s' o' : List Nat} (h : Kids L l s o s' o') : o'.length + unseen L.length s' ≤ o.length + unseen L.length s := by
  induction h with
  | nil => exact Nat.le_refl _
  | skip _ _ ih => exact ih
  | go hy hs _ _ _ ih1 ih2 =>
    have := unseen_lt hy hs
    simp only [List.length_cons] at ih2
    omega

theorem lit_own (w : World) (x : Int) : (w.alloc (.cells #[.int .i64 x] 3)).ownsRow w.heap.size 3 1 (.slice (some ⟨w.heap.size, 0, none⟩) 1 1) 1 [.int .i64 x] :=
  ⟨rfl, .inr ⟨w.heap.size, 1, #[.int .i64 x], rfl, Nat.le_refl _, heap_alloc_new _ _, Nat.le_refl _, by unfold maxLen; omega, rfl, rfl⟩⟩
/-- What stands ready for the document's own walk, made in any order. -/
structure RPrep (w w3 : World) (L : List (List Int)) (oN : Option Value) (oS : Option Nat) : Prop where
  old : Below w.heap.size w w3
  seen : ∀ S, oS = some S → w3.heap[S]? = some (.cells (seenA L.length []) 4 (0, 0)) ∧ w.heap.size ≤ S ∧ S < w3.heap.size
  nrm : ∀ g, oN = some g → RdX (fun b => oS = some b) w3 g (normL L)
section
variable {w w3 : World} {L : List (List Int)} {oN : Option Value} {oS : Option Nat}
theorem RPrep.start (w : World) : RPrep w w L none none := ⟨Below.refl _ _, fun _ h => (by cases h), fun _ h => (by cases h)⟩
theorem RPrep.below {w4 : World} (p : RPrep w w3 L oN oS) (hb : Below w3.heap.size w3 w4) : RPrep w w4 L oN oS := by
  refine ⟨p.old.trans (hb.mono p.old.size), fun S hS => ?_, fun g hg => (p.nrm g hg).below hb⟩
  obtain ⟨h1, h2, h3⟩ := p.seen S hS
  exact ⟨(hb.block S h3).trans h1, h2, Nat.lt_of_lt_of_le h3 hb.size⟩
theorem RPrep.drew (p : RPrep w w3 L oN oS) : RPrep w w3.drew L oN oS := p.below (Below.refl _ _).drew
theorem RPrep.see (p : RPrep w w3 L oN none) {S : Nat} (hS : S = w3.heap.size) : RPrep w (w3.alloc (.cells (seenA L.length []) 4)) L oN (some S) := by
  subst hS
  have hb : Below w3.heap.size w3 (w3.alloc (.cells (seenA L.length []) 4)) := (Below.refl _ _).alloc (Nat.le_refl _) _
  have q := p.below hb
  refine ⟨q.old, fun S h => ?_, fun g hg => ?_⟩
  · obtain rfl := Option.some.inj h
    exact ⟨heap_alloc_new _ _, p.old.size, by simp⟩
  · refine RdX.mono ((p.nrm g hg).plus.below hb) (fun b e => ?_)
    obtain rfl := Option.some.inj e
    exact .inr (Nat.le_refl _)
theorem RPrep.norm (p : RPrep w w3 L none oS) {g : Value} {w4 : World} (hb : Below w3.heap.size w3 w4) (M : RdX (fun b => b < w3.heap.size) w4 g (normL L)) : RPrep w w4 L (some g) oS := by
  have q := p.below hb
  refine ⟨q.old, q.seen, fun g' h => ?_⟩
  obtain rfl := Option.some.inj h
  exact M.mono (fun b e => (p.seen b e).2.2)
end
end Go.Proofs.Yteipncggndefmaa
