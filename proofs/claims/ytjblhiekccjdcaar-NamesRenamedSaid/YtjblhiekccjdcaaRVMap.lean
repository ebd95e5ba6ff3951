/- Maps from keys of any kind to values of any kind. -/
import Derived.Test.YtjblhiekccjdcaaRStrK
namespace Go.Proofs.YtjblhiekccjdcaaR
open Go.RowKit Go.Maps Go.WideMaps
attribute [local instance] Classical.propDecidable

/-- A value stands for itself. -/
def heldE (v : Value) : Option (DataW Value × List MemPlace) := some (.held v, [])
/-- What a map has of each key. -/
structure HMap (D : DataW Value) (f : Lit → Option Value) : Prop where
  isMap : IsMap D
  has : ∀ l, WideAt.IsKeyLit l → Maps.has D l = (f l).isSome
  at_ : ∀ l v, WideAt.IsKeyLit l → f l = some v → ∀ z, D.atKey l z = .held v
theorem HMap.nil : HMap (.map []) (fun _ => none) := ⟨isMap_empty, fun s _ => by simp [Maps.has], fun s n _ h => by cases h⟩
theorem HMap.put {D : DataW Value} {f : Lit → Option Value} (h : HMap D f) {y : Lit} (hy : WideAt.IsKeyLit y) (v : Value) : HMap (D.put y (.held v)) (fun s => if s = y then some v else f s) := by
  refine ⟨h.isMap.put _ _, fun s hs => ?_, fun s m hk hs z => ?_⟩
  · by_cases e : s = y
    · subst e
      rw [has_put_same h.isMap hs, if_pos rfl]
      rfl
    · rw [has_put_other (fun h => e h), h.has s hs, if_neg e]
  · by_cases e : s = y
    · subst e
      rw [if_pos rfl] at hs
      cases hs
      rw [atKey_put_same h.isMap hk]
    · rw [if_neg e] at hs
      rw [atKey_put_other (fun h => e h), h.at_ s m hk hs z]
/-- A block that is a map. -/
def VMap (w : World) (k : TypeId) (b n : Nat) (f : Lit → Option Value) : Prop := ∃ D : DataW Value, w.ownsMap Try.prog k heldE b n D ∧ HMap D f
section
variable {w : World} {k : TypeId} {b n : Nat} {f : Lit → Option Value}
theorem VMap.block {w' : World} (h : VMap w k b n f) (hb : w'.heap[b]? = w.heap[b]?) : VMap w' k b n f := by
  obtain ⟨D, ⟨es, clock, h1, h2⟩, h3⟩ := h
  exact ⟨D, ⟨es, clock, hb.trans h1, h2⟩, h3⟩
theorem VMap.lt (h : VMap w k b n f) : b < w.heap.size := by
  obtain ⟨D, h1, h2⟩ := h
  exact h1.lt
theorem VMap.more (h : VMap w k b n f) {n' : Nat} (hn : n ≤ n') : VMap w k b n' f := by
  obtain ⟨D, h1, h2⟩ := h
  exact ⟨D, h1.mono hn, h2⟩
theorem VMap.new (w : World) (k : TypeId) : VMap (w.alloc (.map #[] 0)) k w.heap.size 0 (fun _ => none) := ⟨.map [], World.ownsMap_made w _ _ _, HMap.nil⟩
variable {ops : Array Oper} {rest : List Oper} {o : Oper} {a : Act} {Q : Exit → Act → World → Prop}
theorem wpList_vmap_put (hg : o.guard = none) (m x v : Operand) (t : TypeId) (hop : o.op = Op.mapUpdate t m x v) (k e : TypeId) (K : Keyed Try.prog k) (ht : Try.prog.underlying t = some (.map k e)) (b n : Nat) (f : Lit → Option Value) (h : VMap w k b n f) (hn : n < maxLen) (hm : a.eval m = .map (some b)) (key val : Value) (kl : Lit) (hx : a.eval x = key) (hv : a.eval v = val) (hkey : keyOf Try.prog k key = some kl)
    (hK : ∀ w', VMap w' k b (n + 1) (fun s => if s = kl then some val else f s) → Touch w w' (fun j => j = b) → wpList Try.prog ops Q rest (a.put o.dst undef) w') : wpList Try.prog ops Q (o :: rest) a w := by
  obtain ⟨D, hown, hD⟩ := h
  refine wpList_mapUpdate_in w hg m x v t hop k e K ht heldE b n D hm hown hn key val kl hx hv hkey (.held val) [] rfl ?_
  intro w1 hown1 hturn1
  exact hK w1 ⟨_, hown1, hD.put (K.key hkey) val⟩ (Touch.of_grown hturn1.grown (fun b e => (Option.some.inj e).symm))
theorem wpList_vmap_ins (hg : o.guard = none) (m x v : Operand) (t : TypeId) (hop : o.op = Op.insert t m x v) (k e : TypeId) (K : Keyed Try.prog k) (ht : Try.prog.underlying t = some (.map k e)) (b n : Nat) (f : Lit → Option Value) (h : VMap w k b n f) (hn : n < maxLen) (hm : a.eval m = .map (some b)) (key val : Value) (kl : Lit) (hx : a.eval x = key) (hv : a.eval v = val) (hkey : keyOf Try.prog k key = some kl)
    (hK : ∀ w', VMap w' k b (n + 1) (fun s => if s = kl then some val else f s) → Touch w w' (fun j => j = b) → wpList Try.prog ops Q rest (a.put o.dst undef) w') : wpList Try.prog ops Q (o :: rest) a w := by
  obtain ⟨D, hown, hD⟩ := h
  refine wpList_plain hg fun K' hK' => ?_
  obtain ⟨w1, hrun, r1, r2⟩ := hown.store K ht hn hkey (d := .held val) (ps := []) rfl
  unfold Oper.wp
  simp [execOp, hop, hm, hx, hv, hrun, Result.andThen]
  exact hK' _ _ (hK w1 ⟨_, r1, hD.put (K.key hkey) val⟩ (Touch.of_grown r2.grown (fun b e => (Option.some.inj e).symm)))
theorem wpList_vmap_ok (hg : o.guard = none) (m x : Operand) (t : TypeId) (hop : o.op = Op.lookup t m x true) (k e : TypeId) (K : Keyed Try.prog k) (ht : Try.prog.underlying t = some (.map k e)) {z : Value} (hz : (zeroValue e).run Try.prog w = .ok z w) (b n : Nat) (f : Lit → Option Value) (h : VMap w k b n f) (hm : a.eval m = .map (some b)) (key : Value) (kl : Lit) (hx : a.eval x = key) (hkey : keyOf Try.prog k key = some kl)
    (hK : wpList Try.prog ops Q rest (a.put o.dst (.tuple #[(f kl).getD z, .bool (f kl).isSome])) w) : wpList Try.prog ops Q (o :: rest) a w := by
  obtain ⟨D, hown, hD⟩ := h
  refine wpList_lookup_own_ok w hg m x t hop k e K ht heldE hz (.held z) [] rfl b n D hm hown key kl hx hkey ?_
  intro v ps hv
  have hh := hD.has kl (K.key hkey)
  rw [hh]
  simp only [heldE, Option.some.injEq, Prod.mk.injEq] at hv
  cases hf : f kl with
  | none =>
    rw [hf] at hh hK
    rw [atKey_of_not_has hh] at hv
    obtain ⟨e1, -⟩ := hv
    cases e1
    exact hK
  | some u =>
    rw [hf] at hK
    rw [hD.at_ kl u (K.key hkey) hf] at hv
    obtain ⟨e1, -⟩ := hv
    cases e1
    exact hK
theorem wpList_vmap_at (hg : o.guard = none) (m x : Operand) (t : TypeId) (hop : o.op = Op.lookup t m x false) (k e : TypeId) (K : Keyed Try.prog k) (ht : Try.prog.underlying t = some (.map k e)) {z : Value} (hz : (zeroValue e).run Try.prog w = .ok z w) (b n : Nat) (f : Lit → Option Value) (h : VMap w k b n f) (hm : a.eval m = .map (some b)) (key : Value) (kl : Lit) (hx : a.eval x = key) (hkey : keyOf Try.prog k key = some kl)
    (hK : wpList Try.prog ops Q rest (a.put o.dst ((f kl).getD z)) w) : wpList Try.prog ops Q (o :: rest) a w := by
  obtain ⟨D, hown, hD⟩ := h
  refine wpList_plain hg fun K' hK' => ?_
  obtain ⟨v, ps, hrun, hv⟩ := hown.lookup K ht hz (zd := .held z) (zp := []) rfl hkey
  have hh := hD.has kl (K.key hkey)
  simp only [heldE, Option.some.injEq, Prod.mk.injEq] at hv
  have hv2 : v = (f kl).getD z := by
    cases hf : f kl with
    | none =>
      rw [hf] at hh
      rw [atKey_of_not_has hh] at hv
      obtain ⟨e1, -⟩ := hv
      cases e1
      rfl
    | some u =>
      rw [hD.at_ kl u (K.key hkey) hf] at hv
      obtain ⟨e1, -⟩ := hv
      cases e1
      rfl
  subst hv2
  unfold Oper.wp
  simp [execOp, hop, hm, hx, hrun, Result.andThen]
  exact hK' _ _ hK
end
end Go.Proofs.YtjblhiekccjdcaaR
