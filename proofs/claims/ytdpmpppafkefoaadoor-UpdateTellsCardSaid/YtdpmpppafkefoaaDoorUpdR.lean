/- Rows of the law's exits that the law itself lays. -/
import Derived.Test.YtdpmpppafkefoaaDoorUpdM
namespace Go.Proofs.YtdpmpppafkefoaaDoor
open Go.RowKit Go.Maps

def cellsL (x : Lx) : List Value := [.bool x.1, x.2.1]
theorem infoLX : (Tryd.prog.info? 31).map (fun i => (i.zero, i.size, i.bytes)) = some (some (.agg #[.bool false, .slice none 0 0]), 2, 32) := by kernel_rfl

section
variable {w w1 : World} {v : Value} {ls : List Lx}

theorem flatL_at {i : Nat} {x : Lx} (h : ls[i]? = some x) : (ls.flatMap cellsL)[i * 2]? = some (.bool x.1) ∧ (ls.flatMap cellsL)[i * 2 + 1]? = some x.2.1 := by
  induction ls generalizing i with
  | nil => simp at h
  | cons y xs ih =>
    rw [List.flatMap_cons]
    cases i with
    | zero =>
      simp at h
      subst h
      simp [cellsL]
    | succ i =>
      have h2 := ih (i := i) (by simpa using h)
      rw [show (i + 1) * 2 = i * 2 + 2 from by omega, show i * 2 + 2 + 1 = (i * 2 + 1) + 2 from by omega]
      unfold cellsL at h2 ⊢
      simpa using h2
theorem flatL_len (ls : List Lx) : (ls.flatMap cellsL).length = ls.length * 2 := by
  induction ls with
  | nil => rfl
  | cons x X ih => rw [List.flatMap_cons, List.length_append, ih, List.length_cons]; simp [cellsL]; omega
theorem rowL_of_own {base n : Nat} {t : TypeId} (h : w.ownsRow base t 2 v n (ls.flatMap cellsL)) (hn : n = ls.length) (hs : ∀ m p l, (m, p, l) ∈ ls → RdI w p l ∧ ∀ x ∈ l, x < 9223372036854775808) : RowL w v ls := by
  subst hn
  refine ⟨?_, hs⟩
  rcases h.2 with ⟨rfl, h0⟩ | ⟨g, cap, cur, rfl, h1, h2, h3⟩
  · have : ls = [] := List.length_eq_zero_iff.1 h0
    subst this
    exact Or.inl ⟨rfl, Or.inl rfl⟩
  · refine Or.inr ⟨g, 0, cap, rfl, (Array.getElem?_eq_some_iff.1 h2).1, fun i m p l hi => ?_⟩
    have hlt : i < ls.length := (List.getElem?_eq_some_iff.1 hi).1
    obtain ⟨e1, e2⟩ := flatL_at hi
    rw [← h3.2.2.2, List.getElem?_take_of_lt (by omega), Array.getElem?_toList] at e1 e2
    rw [Nat.zero_add, blk_cell h2, blk_cell h2]
    exact ⟨e1, e2⟩
theorem oneCellsL (h : RowL w v ls) : ∀ u ∈ ls.flatMap cellsL, u.oneCell' = true := by
  intro u hu
  obtain ⟨⟨m, p, l⟩, hx, hu⟩ := List.mem_flatMap.1 hu
  obtain ⟨a, c, e⟩ := (h.2 m p l hx).1.form
  unfold cellsL at hu
  simp at hu
  rcases hu with rfl | rfl
  · rfl
  · rw [e]; rfl

/-- append([]Exit(nil), l...). -/
theorem wpList_append_rowL {ops : Array Oper} {rest : List Oper} {o : Oper} {a : Act} {Q : Exit → Act → World → Prop} (w : World) (hgd : o.guard = none) (s x : Operand) (t : TypeId)
    (ho : o.op = .call { callee := .builtin .append, args := #[s, x], argTypes := #[t, t] })
    (i : TypeInfo) (z : Value) (ht : Tryd.prog.underlying t = some (.slice 31)) (hi : Tryd.prog.info? 31 = some i) (hz : i.zero = some z) (hsize : i.size = 2) (hby : i.bytes = 32) (hzs : z.cells.size = 2)
    (hs : a.eval s = .slice none 0 0) (sv : Value) (hx : a.eval x = sv) (hrd : RowL w sv ls) (h63 : ls.length ≤ 1000)
    (h : ∀ v' w', w'.ownsRow w.heap.size 31 2 v' ls.length (ls.flatMap cellsL) → Below w.heap.size w w' → wpList Tryd.prog ops Q rest (a.put o.dst v') w') :
    wpList Tryd.prog ops Q (o :: rest) a w := by
  have hone := oneCellsL hrd
  rcases hrd.1 with ⟨rfl, rfl | ⟨ad, c, rfl⟩⟩ | ⟨b, off, cap, rfl, hlt, hc⟩
  · exact wpList_append_own_none (w := w) hgd s x t ho w.heap.size 31 i 2 ht hi (.slice none 0 0) 0 [] hs (World.ownsRow_nil _ _ _ _) hx (h _ w (World.ownsRow_nil _ _ _ _) (Below.refl _ _))
  · exact wpList_append_own_at w hgd s x t ho w.heap.size 31 i z 2 32 ht hi hz hsize hby hzs (by decide) (.slice none 0 0) 0 [] hs (World.ownsRow_nil _ _ _ _) ad 0 c [] hx rfl (by simp) (by simp) (by decide) (by decide) (Nat.le_refl _) (fun v' w' h2 h3 _ h4 => h v' w' h2 ((Touch.of_grown h3 (S := fun _ => False) (fun k e => by cases e)).below (Nat.le_refl _) (fun _ _ h => h)))
  · refine wpList_append_own_at w hgd s x t ho w.heap.size 31 i z 2 32 ht hi hz hsize hby hzs (by decide) (.slice none 0 0) 0 [] hs (World.ownsRow_nil _ _ _ _) ⟨b, off, none⟩ ls.length cap (ls.flatMap cellsL) hx (flatL_len ls) (fun j u hj => ?_) hone (by unfold maxLen; omega) (by omega) (Nat.le_refl _) (fun v' w' h2 h3 _ h4 => h v' w' (by simpa using h2) ((Touch.of_grown h3 (S := fun _ => False) (fun k e => by cases e)).below (Nat.le_refl _) (fun _ _ h => h)))
    have hj2 : j < ls.length * 2 := by rw [← flatL_len ls]; exact (List.getElem?_eq_some_iff.1 hj).1
    have hi' : j / 2 < ls.length := by omega
    obtain ⟨⟨m, p, l⟩, hxj⟩ : ∃ y, ls[j / 2]? = some y := ⟨_, List.getElem?_eq_getElem hi'⟩
    obtain ⟨e1, e2⟩ := flatL_at hxj
    obtain ⟨c1, c2⟩ := hc _ m p l hxj
    have hadd : (⟨b, off, none⟩ : Addr).add j = ⟨b, off + j, none⟩ := by unfold Addr.add; split <;> simp_all
    rw [hadd]
    rcases Nat.mod_two_eq_zero_or_one j with h0 | h0
    · have ej : j / 2 * 2 = j := by omega
      rw [ej] at e1 c1
      rw [hj] at e1
      rw [c1]
      exact e1.symm
    · have ej : j / 2 * 2 + 1 = j := by omega
      rw [ej] at e2
      rw [Nat.add_assoc, ej] at c2
      rw [hj] at e2
      rw [c2]
      exact e2.symm
end
end Go.Proofs.YtdpmpppafkefoaaDoor
