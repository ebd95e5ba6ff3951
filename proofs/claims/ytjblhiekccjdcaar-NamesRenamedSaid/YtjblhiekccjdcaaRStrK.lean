/- Texts as keys of maps; sets of texts. -/
import Derived.Test.YtjblhiekccjdcaaRApi
import Derived.Lib.Bytes
import Derived.Deep.LoopGhost
namespace Go.Proofs.YtjblhiekccjdcaaR
open Go.RowKit Go.Maps Go.WideMaps

instance memBytes (s : ByteArray) (ls : List ByteArray) : Decidable (s ∈ ls) := @List.instDecidableMemOfLawfulBEq ByteArray instBEqOfDecidableEq inferInstance s ls
def litS (s : ByteArray) : Lit := .string s.data.toList
theorem litS_inj {a b : ByteArray} (h : litS a = litS b) : a = b := by
  unfold litS at h
  simp only [Lit.string.injEq] at h
  exact ByteArray.ext (Array.toList_inj.1 h)
theorem litS_key (a : ByteArray) : WideAt.IsKeyLit (litS a) := trivial
theorem lawS : Keyed Try.prog 9 := string_keyed Try.underlying9
theorem zeroI (w : World) : (zeroValue 3).run Try.prog w = .ok (.int .i64 0) w := by kernel_rfl
theorem ownsMap_block {w w' : World} {P : Program} {k : TypeId} {R : Value → Option (DataW Unit × List MemPlace)} {b n : Nat} {D : DataW Unit} (h : w.ownsMap P k R b n D) (hb : w'.heap[b]? = w.heap[b]?) : w'.ownsMap P k R b n D := by
  obtain ⟨es, clock, h1, h2⟩ := h
  exact ⟨es, clock, hb.trans h1, h2⟩
theorem keyS (s : ByteArray) (h : s.size ≤ maxLen) : keyOf Try.prog 9 (.string s) = some (litS s) := keyOf_string_mk Try.underlying9 h
theorem zeroU0 (w : World) : (zeroValue 74).run Try.prog w = .ok (.agg #[]) w := by kernel_rfl
theorem own_tightS {k : TypeId} {R : Value → Option (DataW Unit × List MemPlace)} {w : World} {b n : Nat} {D : DataW Unit} (h : w.ownsMap Try.prog k R b n D) : w.ownsMap Try.prog k R b (Maps.size D) D := by
  obtain ⟨es, clock, hb, F, hs, rfl⟩ := h
  refine ⟨es, clock, hb, F, ?_, rfl⟩
  simp [Maps.size, length_sorted]

/-- A map that is a set of texts. -/
def SetS (w : World) (b : Nat) (l : List ByteArray) : Prop :=
  ∃ D : DataW Unit, w.ownsMap Try.prog 9 (unitElem (H := Unit)) b l.length D ∧ Maps.size D = l.length ∧ ∀ s, Maps.has D (litS s) = decide (s ∈ l)
theorem SetS.lt {w : World} {b : Nat} {l : List ByteArray} (h : SetS w b l) : b < w.heap.size := by
  obtain ⟨D, h1, -⟩ := h
  exact h1.lt
theorem SetS.block {w w' : World} {b : Nat} {l : List ByteArray} (h : SetS w b l) (hb : w'.heap[b]? = w.heap[b]?) : SetS w' b l := by
  obtain ⟨D, h1, h3⟩ := h
  exact ⟨D, ownsMap_block h1 hb, h3⟩
theorem SetS.new (w : World) : SetS (w.alloc (.map #[] 0)) w.heap.size [] := by
  refine ⟨.map [], World.ownsMap_made w _ _ _, rfl, fun s => ?_⟩
  simp [Maps.has]
def plusS (l : List ByteArray) (y : ByteArray) : List ByteArray := if y ∈ l then l else y :: l
theorem mem_plusS {l : List ByteArray} {y x : ByteArray} : x ∈ plusS l y ↔ x ∈ l ∨ x = y := by
  unfold plusS
  by_cases h : y ∈ l
  · rw [if_pos h]
    exact ⟨.inl, fun h1 => h1.elim id (fun e => e ▸ h)⟩
  · rw [if_neg h, List.mem_cons]
    exact ⟨fun h1 => h1.elim .inr .inl, fun h1 => h1.elim .inr .inl⟩
theorem plusS_len (l : List ByteArray) (y : ByteArray) : (plusS l y).length ≤ l.length + 1 := by
  unfold plusS
  split <;> simp
section
variable {w : World} {ops : Array Oper} {rest : List Oper} {o : Oper} {a : Act} {Q : Exit → Act → World → Prop}
theorem wpList_setS_put (hg : o.guard = none) (m x v : Operand) (hop : o.op = Op.mapUpdate 69 m x v) (b : Nat) (l : List ByteArray) (h : SetS w b l) (hm : a.eval m = .map (some b)) (y : ByteArray) (hx : a.eval x = .string y) (hv : a.eval v = .agg #[]) (hy : y.size ≤ maxLen) (hl : l.length ≤ 4000000000000000000)
    (hK : ∀ w', SetS w' b (plusS l y) → Touch w w' (fun k => k = b) → wpList Try.prog ops Q rest (a.put o.dst undef) w') : wpList Try.prog ops Q (o :: rest) a w := by
  obtain ⟨D, hown, hsz, hhas⟩ := h
  have hti := hown.tidy lawS
  refine wpList_mapUpdate_in w hg m x v 69 hop 9 74 lawS Try.underlying69 _ b l.length D hm hown (by unfold maxLen; omega) _ _ _ hx hv (keyS y hy) _ [] unitElem_mk ?_
  intro w' hown' hturn
  refine hK w' ?_ (Touch.of_grown hturn.grown (fun k hk => by cases hk; rfl))
  have hs2 := Maps.size_put hti (k := litS y) (.agg [])
  have hs3 : Maps.size (D.put (litS y) (.agg [])) = (plusS l y).length := by
    rw [hs2, hhas]
    unfold plusS
    by_cases hyl : y ∈ l
    · rw [if_pos hyl, decide_eq_true hyl, if_pos rfl, hsz]
    · rw [if_neg hyl, decide_eq_false hyl, hsz, List.length_cons]
      rfl
  refine ⟨_, hs3 ▸ own_tightS hown', hs3, fun s => ?_⟩
  by_cases e : s = y
  · subst e
    rw [Maps.has_put_same (k := litS s) hti.isMap trivial]
    exact (decide_eq_true (mem_plusS.2 (.inr rfl))).symm
  · rw [Maps.has_put_other (fun h => e (litS_inj h)), hhas]
    exact decide_eq_decide.2 ⟨fun h => mem_plusS.2 (.inl h), fun h => (mem_plusS.1 h).elim id (fun h => absurd h e)⟩
theorem wpList_setS_look (hg : o.guard = none) (m x : Operand) (hop : o.op = Op.lookup 69 m x true) (b : Nat) (l : List ByteArray) (h : SetS w b l) (hm : a.eval m = .map (some b)) (y : ByteArray) (hx : a.eval x = .string y) (hy : y.size ≤ maxLen)
    (hK : wpList Try.prog ops Q rest (a.put o.dst (.tuple #[.agg #[], .bool (decide (y ∈ l))])) w) : wpList Try.prog ops Q (o :: rest) a w := by
  obtain ⟨D, hown, hsz, hhas⟩ := h
  refine wpList_lookup_own_unit w hg m x 69 hop 9 74 lawS Try.underlying69 (zeroU0 w) b l.length D hm hown _ _ hx (keyS y hy) ?_
  rw [hhas]
  exact hK
end
end Go.Proofs.YtjblhiekccjdcaaR
