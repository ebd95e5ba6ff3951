/- What UpdateTells asks, call by call. -/
import Derived.Test.YtdpmpppafkefoaaDoorTellM
import Derived.Deep.RegionHeld3
import Derived.Deep.AppendLies
namespace Go.Proofs.YtdpmpppafkefoaaDoor
open Go.RowKit Go.Maps

section
variable {w w1 w2 w' : World} {s t : Nat} {l o : List Nat} {v v' u : Value} {xs ys : List Int} {rs : List Lx}

theorem ASet.lt (h : ASet w (ptr s) l) : s < w.heap.size := by
  rcases h with ⟨h, _⟩ | ⟨so, bo, Do, h, T⟩
  · cases h
  · obtain rfl : s = so := by simpa using h
    exact T.lts
theorem New.low (h : New w w1 s l) : w.heap.size ≤ s := by
  obtain ⟨bm, D, S, h1, h2, h3⟩ := h
  exact h1
theorem eq_sets (S : ASet w (ptr s) l) (T : ASet w (ptr t) o) (hne : s ≠ t) : (binOp .eql 26 (ptr s) (ptr t)).run Tryd.prog w = .ok (.bool false) w := by
  rcases S with ⟨h, _⟩ | ⟨so, bo, Do, h, S⟩
  · cases h
  · obtain rfl : s = so := by simpa using h
    rcases T with ⟨h, _⟩ | ⟨so2, bo2, Do2, h, T⟩
    · cases h
    · obtain rfl : t = so2 := by simpa using h
      exact eq_other S T hne

theorem list_tells (S : ASet w (ptr s) l) (G : Gl w) (T : Tells ys l) (hlen : l.length ≤ 100000) : Calls Tryd.prog 12 #[ptr s] w fun e w' => ∃ v, e = .returned v ∧ RdI w' v ys ∧ Below w.heap.size w w' := by
  rcases S with ⟨h, _⟩ | ⟨so, bo, Do, h, S⟩
  · cases h
  · obtain rfl : s = so := by simpa using h
    refine (list_any S G hlen).mono ?_
    rintro e w' ⟨v, rs, rfl, h1, h2, h3, h4⟩
    refine ⟨v, rfl, ?_, h4⟩
    rw [← T.same h1 h2, RdI, ints_enc]
    rcases h3.2 with ⟨rfl, h0⟩ | ⟨g, cap, cur, rfl, g3, g4, g5⟩
    · have : rs = [] := List.eq_nil_of_length_eq_zero h0
      subst this
      exact rd_none w'
    · refine Or.inr ⟨g, 0, cap, by simp, (h3.lt g rfl).2, fun k u hu => ?_⟩
      have := h3.cells (g := g) rfl k u hu
      rw [add0] at this
      rw [Nat.zero_add]
      exact this

theorem same_eq (ha : RdI w v xs) (hb : RdI w u xs) (hl : xs.length ≤ 1000000) : Calls Tryd.prog 11 #[v, u] w fun e w' => e = .returned (.bool true) ∧ Below w.heap.size w w' := by
  refine (same_any ha hb hl).mono ?_
  rintro e w' ⟨rfl, n, rfl⟩
  rw [decide_eq_true rfl]
  exact ⟨rfl, below_drawn (Below.refl _ _) n⟩

theorem ofL_len (xs : List Int) : (ofL xs).length ≤ xs.length := by
  rw [ofL_uniL]
  simpa using uniL_len [] xs
theorem ofL_small {xs : List Int} (h : ∀ x ∈ xs, x < 9223372036854775808) : ∀ x ∈ ofL xs, x < 9223372036854775808 := by
  intro x hx
  rw [ofL_uniL, mem_uniL] at hx
  rcases hx with hx | hx
  · cases hx
  · exact h x hx.1
theorem storeR_len {xa xb xt : List Int} {o : Int} {single : Bool} {k : Nat} (ha : xa.length ≤ k) (hb : xb.length ≤ k) : (storeR xa xb xt o single).length ≤ k + k := by
  have := uniL_len xa xb
  unfold storeR
  split
  · simp
  · split
    · omega
    · split <;> omega
theorem storeL_len {A B T : List Nat} {o : Int} {single : Bool} {k : Nat} (ha : A.length ≤ k) (hb : B.length ≤ k) : (storeL A B T o single).length ≤ k + k := by
  have := uni_len A B
  unfold storeL
  split
  · simp
  · split
    · omega
    · split <;> omega

/-- The lists of a row's exits stand outside of the row. -/
def Out (w : World) (v : Value) (rs : List Lx) : Prop := ∀ m p l, (m, p, l) ∈ rs → RdI w p l ∧ ∀ b, p.ownBlock = some b → b < w.heap.size ∧ v.ownBlock ≠ some b
theorem out_step {m : Bool} {g k c n base : Nat} {O : Obj} {T : TypeId} {us : List Value} (hown : w.ownsRow base T 2 v n us) (h : Out w v rs) (hb1 : Below w.heap.size w w1) (hs : Strip w1 u ys) (hf : ∀ b, u.ownBlock = some b → w.heap.size ≤ b)
    (hgrow : (w1.alloc O).grownBy w2 v.ownBlock) (hat : v.ownBlock = some g ∨ g = w1.heap.size + 1) : Out w2 (.slice (some ⟨g, 0, none⟩) k c) (rs ++ [(m, u, ys)]) := by
  have hba : Below w1.heap.size w1 (w1.alloc O) := (Below.refl _ w1).alloc (Nat.le_refl _) O
  have ht : Touch (w1.alloc O) w2 (fun b => v.ownBlock = some b) := Touch.of_grown hgrow (fun k e => e)
  have hz := hb1.size
  have hz2 := ht.size
  simp at hz2
  intro m' p' l' hm
  rcases List.mem_append.1 hm with hm | hm
  · obtain ⟨h1, h2⟩ := h m' p' l' hm
    refine ⟨((h1.below hb1).below hba).touch ht (fun b hb => (h2 b hb).2), fun b hb => ⟨by have := (h2 b hb).1; omega, fun e => ?_⟩⟩
    simp [Value.ownBlock] at e
    subst e
    obtain ⟨h3, h4⟩ := h2 _ hb
    rcases hat with h | h
    · exact h4 h
    · omega
  · simp at hm
    obtain ⟨rfl, rfl, rfl⟩ := hm
    have h5 := strip_rd hs
    refine ⟨(h5.below hba).touch ht (fun b hb e => by have := hf b hb; have := (hown.lt b e).2; omega), fun b hb => ⟨by have := (hs.lt b hb).2; omega, fun e => ?_⟩⟩
    simp [Value.ownBlock] at e
    subst e
    have h6 := hf _ hb
    have h7 := (hs.lt _ hb).2
    rcases hat with h | h
    · have := (hown.lt _ h).2
      omega
    · omega
theorem infoRX : (Tryd.prog.info? 34).map (fun i => (i.zero, i.size, i.bytes)) = some (some (.agg #[.bool false, .slice none 0 0]), 2, 32) := by kernel_rfl
end
end Go.Proofs.YtdpmpppafkefoaaDoor
