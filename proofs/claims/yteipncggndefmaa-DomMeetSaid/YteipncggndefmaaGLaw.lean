/- The laws' own words: what came in, 'great', 'own', 'known', 'wakes'. -/
import Derived.Test.YteipncggndefmaaGRBack
namespace Go.Proofs.Yteipncggndefmaa
open Go.RowKit Go.Maps Go.Shelf Go.WideShapes Go.ChangeShapes Go.ChangeAt Go.Deep

section
variable {H : Type} {enc : TypeId × Value → H} {P : Program} {w : World}
/-- A slice of numbers in a cell. -/
theorem rd_ints_in {t e : TypeId} {n : Nat} {cs : List Value} {x : DataW H × List MemPlace} (ht : P.underlying t = some (.slice e)) (he : P.underlying e = some (.int .i64)) (hc : P.cellsOf e = 1)
    (hn : DataW.trod enc P w 0 (fun _ => true) true n t cs = some x) : ∃ v xs, cs = [v] ∧ RdI w v xs ∧ (∀ y ∈ xs, (Lit.int .i64 y).wf = true) ∧ xs.length ≤ maxLen := by
  rcases open_ints ht he hc hn with ⟨e1, _⟩ | ⟨a', len, cap, zs, e1, _, hl, hm, hmm, _, hx, hw⟩
  · exact ⟨_, [], e1, Or.inl ⟨rfl, Or.inl rfl⟩, (fun x h => by cases h), Nat.zero_le _⟩
  · simp only [if_true] at hmm
    refine ⟨_, (List.range len).map (fun i => zs.getD i 0), e1, ?_, fun x hx' => ?_, by simp; omega⟩
    · have := rd_of (w := w) (v := .slice (some a') len cap) (X := fun i => .int .i64 (zs.getD i 0)) rfl (by omega : len ≤ zs.length) (fun i hi => hx i hi) (by
        by_cases h0 : len = 0
        · exact Or.inr h0
        · left
          have h1 := hx 0 (by omega)
          unfold World.cell? at h1
          split at h1
          · rename_i h2
            have := (Array.getElem?_eq_some_iff.1 h2).1
            unfold Addr.add at this
            split at this <;> simpa using this
          · cases h1)
      rw [RdI, List.map_map]
      exact this
    · obtain ⟨i, hi, rfl⟩ := List.mem_map.1 hx'
      rw [List.mem_range] at hi
      refine hw _ ?_
      have hlt : i < zs.length := by omega
      simp [List.getD, hlt]
/-- A slice of slices of numbers that came in. -/
theorem rd_graph {t e i : TypeId} {v : Value} {d : DataW H} {ps : List MemPlace} {base : Nat} (ht : P.underlying t = some (.slice e)) (he : P.underlying e = some (.slice i)) (hi : P.underlying i = some (.int .i64)) (hce : P.cellsOf e = 1) (hci : P.cellsOf i = 1)
    (hval : Value.okWide P w .any base t v) (h : DataW.Trod enc P w 0 (fun _ => true) true t v d ps) : ∃ L : List (List Int), RdG w v L ∧ L.length ≤ maxLen ∧ ∀ r ∈ L, r.length ≤ maxLen := by
  rcases rd_elems ht hce (by decide) hval h with h0 | ⟨b, off, len, cap, rfl, hb, hl, hx⟩
  · exact ⟨[], ⟨[], Or.inl ⟨rfl, h0⟩, rfl, fun i u l h _ => by simp at h⟩, Nat.zero_le _, fun r h => by cases h⟩
  · have hx' : ∀ i, i < len → ∃ x : Value × List Int, w.cell? ⟨b, off + i, none⟩ = some x.1 ∧ RdI w x.1 x.2 ∧ x.2.length ≤ maxLen := by
      intro k hk
      obtain ⟨cs', n, y, hlen, hce', htr⟩ := hx k hk
      obtain ⟨x1, xs, e1, r1, s1, l1⟩ := rd_ints_in he hi hci htr
      subst e1
      have := hce' 0 (by omega)
      rw [Nat.mul_one, Nat.add_zero] at this
      exact ⟨(x1, xs), this, r1, l1⟩
    let f : Nat → Value × List Int := fun k => if h : k < len then (hx' k h).choose else (.slice none 0 0, [])
    have hf : ∀ k, k < len → w.cell? ⟨b, off + k, none⟩ = some (f k).1 ∧ RdI w (f k).1 (f k).2 ∧ (f k).2.length ≤ maxLen := by
      intro k hk
      simp only [f, dif_pos hk]
      exact (hx' k hk).choose_spec
    refine ⟨(List.range len).map fun k => (f k).2, ⟨(List.range len).map fun k => (f k).1, Or.inr ⟨b, off, cap, by simp, hb, fun k u hu => ?_⟩, by simp, fun k u l hu hl' => ?_⟩, by simpa using hl, fun r hr => ?_⟩
    · have hlt : k < len := by have := (List.getElem?_eq_some_iff.1 hu).1; simpa using this
      simp [hlt] at hu
      rw [← hu]
      exact (hf k hlt).1
    · have hlt : k < len := by have := (List.getElem?_eq_some_iff.1 hu).1; simpa using this
      simp [hlt] at hu hl'
      rw [← hu, ← hl']
      exact (hf k hlt).2.1
    · obtain ⟨k, hk, rfl⟩ := List.mem_map.1 hr
      exact (hf k (List.mem_range.1 hk)).2.2
end

def GreatPost (w : World) (L : List (List Int)) (e : Ending) (w' : World) : Prop := ∃ q, e = .returned (.bool q) ∧ w = w' ∧ (q = false → L.length ≤ 200 ∧ ∀ r ∈ L, r.length ≤ 3000)
def OwnRel (w wr : World) (L : List (List Int)) (v i : Value) : Prop :=
  ∃ (k : Nat) (vs : List Value), k ≤ L.length ∧ i = .int .i64 k ∧ Outs w.heap.size wr v k vs L ∧ Below w.heap.size w wr
def knownL : List (List Int) := [[1, 2], [3], [3], [1]]
/-- Rows of a slice of slices whose blocks are known. -/
theorem rdg_of {w : World} {B : Nat} {vs : List Value} {L : List (List Int)} {t : TypeId} {n : Nat} (hn : n = L.length) (hb : w.heap[B]? = some (.cells vs.toArray t (0, 0))) (hl : vs.length = L.length) (h : ∀ (i : Nat) (u : Value) (l : List Int), vs[i]? = some u → L[i]? = some l → RdI w u l) : RdG w (.slice (some ⟨B, 0, none⟩) n n) L := by
  subst hn
  refine ⟨vs, .inr ⟨B, 0, L.length, by rw [hl], (Array.getElem?_eq_some_iff.1 hb).1, fun i u hu => ?_⟩, hl, h⟩
  rw [blk_cell hb, Nat.zero_add]
  simpa using hu
theorem rdi_of {w : World} {B : Nat} {l : List Int} {t : TypeId} {n : Nat} (hn : n = l.length) (hb : w.heap[B]? = some (.cells (l.map encI).toArray t (0, 0))) : RdI w (.slice (some ⟨B, 0, none⟩) n n) l := by
  subst hn
  refine .inr ⟨B, 0, l.length, by simp, (Array.getElem?_eq_some_iff.1 hb).1, fun i u hu => ?_⟩
  rw [blk_cell hb, Nat.zero_add]
  simpa using hu
theorem heap_alloc_at {w : World} {o : Obj} {b : Nat} (h : b = w.heap.size) : (w.alloc o).heap[b]? = some o := by
  subst h
  exact heap_alloc_new _ _
theorem heap_alloc_in {w : World} {o : Obj} {b : Nat} {x : Obj} (h : w.heap[b]? = some x) : (w.alloc o).heap[b]? = some x := by
  have hb := (Array.getElem?_eq_some_iff.1 h).1
  simp only [World.alloc]
  rw [Array.getElem?_push, if_neg (by omega)]
  exact h
end Go.Proofs.Yteipncggndefmaa
