/- names: the rules that keep what they saw. -/
import Derived.Test.YtjblhiekccjdcaaRNQuest
namespace Go.Proofs.YtjblhiekccjdcaaR
open Go.RowKit Go.Maps Go.Shelf

theorem cat_len {α β : Type} {g : Nat → α → List β} {l : List α} {k : Nat} (h : ∀ i z, l[i]? = some z → (g i z).length ≤ k) : (cat g l).length ≤ l.length * k := by
  have key : ∀ n, n ≤ l.length → (cat g (l.take n)).length ≤ n * k := by
    intro n
    induction n with
    | zero => intro _; simp [cat]
    | succ n ih =>
      intro hn
      obtain ⟨z, hz⟩ : ∃ z, l[n]? = some z := ⟨_, List.getElem?_eq_getElem (by omega)⟩
      rw [cat_succ hz, List.length_append]
      have := ih (by omega)
      have := h n z hz
      rw [Nat.succ_mul]
      omega
  have := key l.length (Nat.le_refl _)
  rwa [List.take_length] at this
theorem parts_len {P : List Fun} (hP : POk P) : (partsL P).length ≤ 1100000000000000000 := by
  have h1 : (partsL P).length ≤ P.length * 1000001000001 := by
    refine cat_len (fun f d hd => ?_)
    have hdm := List.mem_of_getElem? hd
    unfold funL
    rw [List.length_cons]
    have h2 : (cat (fun b x => blkL f b d x) d.blocks).length ≤ d.blocks.length * 1000001 := by
      refine cat_len (fun b x hx => ?_)
      have hxm := List.mem_of_getElem? hx
      unfold blkL
      rw [List.length_cons]
      have h3 : (cat (fun i c => [Prt.ins f b i d x c]) x.code).length ≤ x.code.length * 1 := cat_len (fun _ _ _ => by simp)
      have := hP.l3 d hdm x hxm
      omega
    have := hP.l2 d hdm
    omega
  have := hP.l1
  omega
theorem pre_len {P : List Fun} (hP : POk P) {pre rest : List Prt} {x : Prt} (h : partsL P = pre ++ x :: rest) : pre.length ≤ 1100000000000000000 := by
  have h1 := parts_len hP
  rw [h, List.length_append] at h1
  omega
theorem snocP {Q : List Prt → Prop} (h0 : Q []) (hs : ∀ l x, Q l → Q (l ++ [x])) (l : List Prt) : Q l := by
  have : ∀ r : List Prt, Q r.reverse := by
    intro r
    induction r with
    | nil => exact h0
    | cons x r ih => rw [List.reverse_cons]; exact hs _ _ ih
  have := this l.reverse
  rwa [List.reverse_reverse] at this
/-- What a cell holds stays where a map's block is turned. -/
theorem cell_apart {w w' : World} {b : Nat} {l : List ByteArray} (hM : SetS w b l) (hT : Touch w w' (fun k => k = b)) {p : Addr} {v : Value} (h : w.cell? p = some v) : w'.cell? p = some v := by
  have hg : p.block ≠ b := by
    intro e
    obtain ⟨D, ⟨es, clock, hb, -⟩, -⟩ := hM
    simp [World.cell?, e, hb] at h
  rw [← h]
  unfold World.cell?
  rw [hT.block p.block (cell_size h) hg]
/-- A box that holds a set of texts, and its blocks. -/
structure SetBx (Bx : Nat) (l : List ByteArray) (U : Nat → Prop) (bm : Nat) (W : World) : Prop where
  box : W.heap[Bx]? = some (.cells #[.map (some bm)] 69 (0, 0))
  set : SetS W bm l
  ne : bm ≠ Bx
  own : ∀ k, U k ↔ k = Bx ∨ k = bm
theorem SetBx.calm {Bx : Nat} {l : List ByteArray} {U : Nat → Prop} {bm : Nat} {W W' : World} (h : SetBx Bx l U bm W) (hT : Touch W W' (fun k => ¬ U k)) : SetBx Bx l U bm W' :=
  ⟨(hT.block _ (Array.getElem?_eq_some_iff.1 h.box).1 (fun hn => hn ((h.own _).2 (.inl rfl)))).trans h.box, h.set.block (hT.block _ h.set.lt (fun hn => hn ((h.own _).2 (.inr rfl)))), h.ne, h.own⟩
theorem SetBx.below {Bx : Nat} {l : List ByteArray} {U : Nat → Prop} {bm : Nat} {W W' : World} (h : SetBx Bx l U bm W) (hb : Below W.heap.size W W') : SetBx Bx l U bm W' := h.calm (Touch.of_below hb _)
theorem SetBx.turned {Bx : Nat} {l l2 : List ByteArray} {U : Nat → Prop} {bm : Nat} {W W' : World} (h : SetBx Bx l U bm W) (hM : SetS W' bm l2) (hT : Touch W W' (fun k => k = bm)) : SetBx Bx l2 U bm W' :=
  ⟨(hT.block _ (Array.getElem?_eq_some_iff.1 h.box).1 (fun e => h.ne e.symm)).trans h.box, hM, h.ne, h.own⟩
end Go.Proofs.YtjblhiekccjdcaaR
