/- dom.take: a set of numbers as a map, one taken out. -/
import Derived.Test.YteipncggndefmaaDFront
import Derived.Maps.RangeWalk
import Derived.Deep.LoopGhost
namespace Go.Proofs.Yteipncggndefmaa
open Go.RowKit Go.Maps Go.Shelf

theorem lawI : Keyed Try.prog 3 := int_keyed Try.underlying3
theorem keyI (x : Nat) (h : x ≤ 1000000) : keyOf Try.prog 3 (.int .i64 x) = some (.int .i64 x) := keyOf_int_mk Try.underlying3 (WalkArith.wf_i64 (by omega))
theorem own_tight {k : TypeId} {R : Value → Option (DataW Unit × List MemPlace)} {w : World} {b n : Nat} {D : DataW Unit} (h : w.ownsMap Try.prog k R b n D) : w.ownsMap Try.prog k R b (Maps.size D) D := by
  obtain ⟨es, clock, hb, F, hs, rfl⟩ := h
  refine ⟨es, clock, hb, F, ?_, rfl⟩
  simp [Maps.size, length_sorted]
/-- A map that is a set of nodes. -/
def SetM (w : World) (b : Nat) (l : List Nat) : Prop :=
  ∃ D : DataW Unit, w.ownsMap Try.prog 3 (unitElem (H := Unit)) b l.length D ∧ Maps.size D = l.length ∧ l.Nodup ∧ (∀ x ∈ l, x ≤ 100000) ∧ ∀ kl : Lit, Maps.has D kl = true ↔ ∃ x ∈ l, kl = .int .i64 (x : Nat)
theorem SetM.lt {w : World} {b : Nat} {l : List Nat} (h : SetM w b l) : b < w.heap.size := by
  obtain ⟨D, h1, -⟩ := h
  exact h1.lt
theorem SetM.block {w w' : World} {b : Nat} {l : List Nat} (h : SetM w b l) (hb : w'.heap[b]? = w.heap[b]?) : SetM w' b l := by
  obtain ⟨D, ⟨es, clock, h1, h2⟩, h3⟩ := h
  exact ⟨D, ⟨es, clock, hb.trans h1, h2⟩, h3⟩
theorem SetM.new (w : World) : SetM (w.alloc (.map #[] 0)) w.heap.size [] := by
  refine ⟨.map [], World.ownsMap_made w _ _ _, rfl, List.nodup_nil, by simp, fun kl => ?_⟩
  simp [Maps.has]

set_option maxRecDepth 20000 in
set_option maxHeartbeats 1000000 in
theorem take_any {w : World} {b : Nat} {l : List Nat} (h : SetM w b l) (hl : l ≠ []) :
    Calls Try.prog 33 #[.map (some b)] w fun e w' => ∃ x : Nat, x ∈ l ∧ e = .returned (.int .i64 x) ∧ SetM w' b (l.erase x) ∧ Touch w w' (fun k => k = b) := by
  obtain ⟨D, hown, hsz, hnd, hsm, hhas⟩ := h
  obtain ⟨x0, hx0⟩ := List.exists_mem_of_ne_nil l hl
  have hblt := hown.lt
  have hti := Lib.hid (hown.tidy lawI)
  replace hsz := Lib.hid hsz
  replace hnd := Lib.hid hnd
  replace hhas := Lib.hid hhas
  replace hsm := Lib.hid hsm
  replace hl := Lib.hid hl
  go_enter Try.func33, Try.ntmps33
  go_wp2_with (first
    | (at_range; refine wpList_range_own _ rfl _ 45 rfl 3 46 lawI Try.underlying45 _ b l.length _ rfl hown ?_; intro w0 hrg0 hg0 hs0)
    | go_in)
  go_frame
  refine wp_loop_rounds 1 ?_
  rw [rounds_succ]
  go_wp2_with (first
    | (at_next; refine wpList_next_ranges (α := Int) (β := Unit) _ rfl _ rfl 3 lawI _ (Value.int .i64) (fun _ => .agg #[]) (fun key kl hk => by obtain ⟨x, rfl, _⟩ := Maps.keyOf_int_inv Try.underlying3 hk; exact ⟨x, rfl⟩) (fun v y hv => ⟨(), (unitElem_inv hv).1⟩) b w.heap.size l.length _ _ _ rfl hrg0 ?_ ?_)
    | go_in)
  · intro _ hl0
    exfalso
    have h1 := hl0 (.int .i64 (x0 : Nat))
    have h2 := (hhas.out (.int .i64 (x0 : Nat))).2 ⟨x0, hx0, rfl⟩
    rw [h1] at h2
    cases h2
  · intro x kl yd yp w1 cnt1 hkey hlk hv hat hrg1 hlt hg1 hs1 hen
    obtain ⟨x', ex, rfl, hwf⟩ := Maps.keyOf_int_inv Try.underlying3 hkey
    have ex' : x = x' := by simpa using ex
    subst ex'
    obtain ⟨z, hzl, ez⟩ := (hhas.out _).1 hlk
    have ez' : x = (z : Int) := by simpa using ez
    subst ez'
    clear hv hat ex ez
    have T1 : Touch w w1 (fun k => k = b ∨ k = w.heap.size) := Touch.trans (Touch.of_grown hg0 (fun k hk => by cases hk)) (Touch.of_grown hg1 (fun k hk => .inr (by cases hk; rfl)))
    replace T1 := Lib.hid T1
    clear hg0 hg1 hrg0 hown
    go_wp2_with (first
      | (at_delete; refine wpList_delete_ranges _ rfl _ _ 45 3 rfl 46 lawI Try.underlying45 _ b w.heap.size l.length _ _ _ rfl hrg1 _ _ rfl hkey ?_; intro w2 cnt2 hrg2 hle hturn; go_frame)
      | go_in)
    have hown2 := hrg2.owns
    have T2 : Touch w w2 (fun k => k = b) := by
      have h1 := Touch.trans T1.out (Touch.of_grown hturn.grown (fun k hk => .inl (by cases hk; rfl)))
      exact h1.mono (fun k hk e => e.elim id (fun e => by omega))
    have hfin : SetM w2 b (l.erase z) := by
      have hD := hti.out
      have hz1 := (hhas.out (.int .i64 (z : Nat))).2 ⟨z, hzl, rfl⟩
      have hsd := Maps.size_del hD (k := .int .i64 (z : Nat))
      rw [if_pos hz1, hsz.out] at hsd
      have hle2 : (l.erase z).length = l.length - 1 := List.length_erase_of_mem hzl
      have hs2 : Maps.size (D.del (.int .i64 (z : Nat))) = (l.erase z).length := by omega
      refine ⟨_, hs2 ▸ own_tight hown2, hs2, hnd.out.erase z, fun x hx => hsm.out x (List.mem_of_mem_erase hx), fun kl => ?_⟩
      by_cases e : kl = .int .i64 (z : Nat)
      · subst e
        rw [Maps.has_del_same]
        constructor
        · intro h; cases h
        · rintro ⟨x, hx, ex⟩
          have : x = z := by have : (z : Int) = x := by simpa using ex
                             omega
          subst this
          exact absurd hx (hnd.out.not_mem_erase)
      · rw [Maps.has_del_other e, hhas.out]
        constructor
        · rintro ⟨x, hx, rfl⟩
          exact ⟨x, (List.mem_erase_of_ne (fun e' => e (by rw [e']))).2 hx, rfl⟩
        · rintro ⟨x, hx, rfl⟩
          exact ⟨x, List.mem_of_mem_erase hx, rfl⟩
    replace hfin := Lib.hid hfin
    replace T2 := Lib.hid T2
    replace hzl := Lib.hid hzl
    clear hrg1 hrg2 hown2 hturn T1
    go_wp2_with fail
    go_ret
    exact ⟨z, hzl.out, rfl, hfin.out, T2.out⟩

def plusM (l : List Nat) (y : Nat) : List Nat := if y ∈ l then l else y :: l
theorem mem_plusM {l : List Nat} {y x : Nat} : x ∈ plusM l y ↔ x ∈ l ∨ x = y := by
  unfold plusM
  by_cases h : y ∈ l
  · rw [if_pos h]
    exact ⟨.inl, fun h1 => h1.elim id (fun e => e ▸ h)⟩
  · rw [if_neg h, List.mem_cons]
    exact ⟨fun h1 => h1.elim .inr .inl, fun h1 => h1.elim .inr .inl⟩
theorem plusM_len (l : List Nat) (y : Nat) : (plusM l y).length ≤ l.length + 1 := by
  unfold plusM
  split <;> simp
theorem nodup_small {l : List Nat} (h : l.Nodup) {m : Nat} (hl : ∀ x ∈ l, x ≤ m) : l.length ≤ m + 1 := by
  have := h.length_le_of_subset (l₂ := List.range (m + 1)) (fun x hx => List.mem_range.2 (by have := hl x hx; omega))
  simpa using this
section
variable {w : World} {ops : Array Oper} {rest : List Oper} {o : Oper} {a : Act} {Q : Exit → Act → World → Prop}
theorem wpList_setM_put (hg : o.guard = none) (m x v : Operand) (hop : o.op = Op.mapUpdate 45 m x v) (b : Nat) (l : List Nat) (h : SetM w b l) (hm : a.eval m = .map (some b)) (y : Nat) (hx : a.eval x = .int .i64 y) (hv : a.eval v = .agg #[]) (hy : y ≤ 100000)
    (hK : ∀ w', SetM w' b (plusM l y) → Touch w w' (fun k => k = b) → wpList Try.prog ops Q rest (a.put o.dst undef) w') : wpList Try.prog ops Q (o :: rest) a w := by
  obtain ⟨D, hown, hsz, hnd, hsm, hhas⟩ := h
  have hti := hown.tidy lawI
  have hlen := nodup_small hnd hsm
  refine wpList_mapUpdate_in w hg m x v 45 hop 3 46 lawI Try.underlying45 _ b l.length D hm hown (by unfold maxLen; omega) _ _ _ hx hv (keyI y (by omega)) _ [] unitElem_mk ?_
  intro w' hown' hturn
  refine hK w' ?_ (Touch.of_grown hturn.grown (fun k hk => by cases hk; rfl))
  have hs2 := Maps.size_put hti (k := .int .i64 (y : Nat)) (.agg [])
  have hs3 : Maps.size (D.put (.int .i64 (y : Nat)) (.agg [])) = (plusM l y).length := by
    rw [hs2]
    unfold plusM
    by_cases hyl : y ∈ l
    · rw [if_pos hyl, if_pos ((hhas _).2 ⟨y, hyl, rfl⟩), hsz]
    · rw [if_neg hyl, if_neg (fun h => ?_), hsz, List.length_cons]
      obtain ⟨z, hz, e⟩ := (hhas _).1 h
      have : y = z := by have : (y : Int) = z := by simpa using e
                         omega
      exact hyl (this ▸ hz)
  refine ⟨_, hs3 ▸ own_tight hown', hs3, ?_, fun z hz => ?_, fun kl => ?_⟩
  · unfold plusM
    by_cases hyl : y ∈ l
    · rw [if_pos hyl]; exact hnd
    · rw [if_neg hyl]; exact List.nodup_cons.2 ⟨hyl, hnd⟩
  · rcases mem_plusM.1 hz with h | h
    · exact hsm z h
    · omega
  · by_cases e : kl = .int .i64 (y : Nat)
    · subst e
      rw [Maps.has_put_same (k := .int .i64 (y : Nat)) hti.isMap trivial]
      exact ⟨fun _ => ⟨y, mem_plusM.2 (.inr rfl), rfl⟩, fun _ => rfl⟩
    · rw [Maps.has_put_other e, hhas]
      constructor
      · rintro ⟨z, hz, rfl⟩
        exact ⟨z, mem_plusM.2 (.inl hz), rfl⟩
      · rintro ⟨z, hz, rfl⟩
        rcases mem_plusM.1 hz with h | h
        · exact ⟨z, h, rfl⟩
        · exact absurd (by rw [h]) e
theorem wpList_setM_len (hg : o.guard = none) (m : Operand) (hop : o.op = Op.call { callee := Callee.builtin Builtin.len, args := #[m], argTypes := #[45] }) (b : Nat) (l : List Nat) (h : SetM w b l) (hm : a.eval m = .map (some b))
    (hK : wpList Try.prog ops Q rest (a.put o.dst (.int .i64 l.length)) w) : wpList Try.prog ops Q (o :: rest) a w := by
  obtain ⟨D, hown, hsz, -⟩ := h
  refine wpList_len_own w hg m 45 hop 3 46 Try.underlying45 _ b l.length D hm hown ?_
  rw [hsz]
  exact hK
end

/-- What Iterate comes to: those in frontiers of the nodes, or of such. -/
def ItR (F : List (List Int)) (l : List Int) (y : Nat) : Prop := ∃ s z : Nat, (s : Int) ∈ l ∧ Way F s z ∧ Edge F z y
/-- The state: s are marked, wt are waiting; of x the first j were gone through. -/
structure ItS (F : List (List Int)) (l : List Int) (s wt : List Nat) (now : Option (Nat × List Int × Nat)) : Prop where
  mark : ∀ y ∈ s, ItR F l y
  wait : ∀ x ∈ wt, x < F.length ∧ ((x : Int) ∈ l ∨ x ∈ s)
  cur : ∀ x r j, now = some (x, r, j) → F[x]? = some r ∧ ((x : Int) ∈ l ∨ x ∈ s) ∧ ∀ y : Nat, (y : Int) ∈ r.take j → y < F.length → y ∈ s
  done : ∀ x, x < F.length → ((x : Int) ∈ l ∨ x ∈ s) → x ∈ wt ∨ (∃ r j, now = some (x, r, j)) ∨ ∀ y, Edge F x y → y ∈ s
section
variable {F : List (List Int)} {l : List Int} {s wt : List Nat}
theorem ItS.take (h : ItS F l s wt none) {x : Nat} {r : List Int} (hx : x ∈ wt) (hr : F[x]? = some r) : ItS F l s (wt.erase x) (some (x, r, 0)) := by
  refine ⟨h.mark, fun y hy => h.wait y (List.mem_of_mem_erase hy), fun x' r' j' e => ?_, fun y hy hys => ?_⟩
  · simp only [Option.some.injEq, Prod.mk.injEq] at e
    obtain ⟨rfl, rfl, rfl⟩ := e
    exact ⟨hr, (h.wait x hx).2, fun y hy => by simp at hy⟩
  · rcases h.done y hy hys with h1 | ⟨r', j', h1⟩ | h1
    · by_cases e : y = x
      · subst e; exact .inr (.inl ⟨_, _, rfl⟩)
      · exact .inl ((List.mem_erase_of_ne e).2 h1)
    · cases h1
    · exact .inr (.inr h1)
theorem ItS.next {x j : Nat} {r : List Int} (h : ItS F l s wt (some (x, r, j))) {y : Int} (hy : r[j]? = some y) (hs : ∀ z : Nat, y = z → z < F.length → z ∈ s) : ItS F l s wt (some (x, r, j + 1)) := by
  have ht : r.take (j + 1) = r.take j ++ [y] := by rw [List.take_add_one, hy]; rfl
  refine ⟨h.mark, h.wait, fun x' r' j' e => ?_, fun z hz hzs => ?_⟩
  · simp only [Option.some.injEq, Prod.mk.injEq] at e
    obtain ⟨rfl, rfl, rfl⟩ := e
    obtain ⟨h1, h2, h3⟩ := h.cur x r j rfl
    refine ⟨h1, h2, fun z hz hzn => ?_⟩
    rw [ht] at hz
    rcases List.mem_append.1 hz with hz | hz
    · exact h3 z hz hzn
    · exact hs z (by have := List.mem_singleton.1 hz; omega) hzn
  · rcases h.done z hz hzs with h1 | ⟨r', j', h1⟩ | h1
    · exact .inl h1
    · simp only [Option.some.injEq, Prod.mk.injEq] at h1
      exact .inr (.inl ⟨r, j + 1, by rw [h1.1]⟩)
    · exact .inr (.inr h1)
theorem ItS.new {x j y : Nat} {r : List Int} (h : ItS F l s wt (some (x, r, j))) (hy : r[j]? = some (y : Int)) (hyn : y < F.length) : ItS F l (y :: s) (plusM wt y) (some (x, r, j)) := by
  obtain ⟨h1, h2, h3⟩ := h.cur x r j rfl
  have hxn : x < F.length := (List.getElem?_eq_some_iff.1 h1).1
  have he : Edge F x y := ⟨hyn, r, h1, List.mem_of_getElem? hy⟩
  refine ⟨fun z hz => ?_, fun z hz => ?_, fun x' r' j' e => ?_, fun z hz hzs => ?_⟩
  · rcases List.mem_cons.1 hz with rfl | hz
    · rcases h2 with h2 | h2
      · exact ⟨x, x, h2, .refl hxn, he⟩
      · obtain ⟨a, b, c1, c2, c3⟩ := h.mark x h2
        exact ⟨a, x, c1, .step c2 c3, he⟩
    · exact h.mark z hz
  · rcases mem_plusM.1 hz with hz | rfl
    · exact ⟨(h.wait z hz).1, (h.wait z hz).2.imp id (List.Mem.tail _)⟩
    · exact ⟨hyn, .inr (List.Mem.head _)⟩
  · simp only [Option.some.injEq, Prod.mk.injEq] at e
    obtain ⟨rfl, rfl, rfl⟩ := e
    exact ⟨h1, h2.imp id (List.Mem.tail _), fun z hz hzn => List.Mem.tail _ (h3 z hz hzn)⟩
  · by_cases e : z = y
    · subst e; exact .inl (mem_plusM.2 (.inr rfl))
    · have hzs' : (z : Int) ∈ l ∨ z ∈ s := hzs.imp id (fun h => (List.mem_cons.1 h).elim (fun e' => absurd e' e) id)
      rcases h.done z hz hzs' with h4 | h4 | h4
      · exact .inl (mem_plusM.2 (.inl h4))
      · exact .inr (.inl h4)
      · exact .inr (.inr (fun v hv => List.Mem.tail _ (h4 v hv)))
theorem ItS.row {x : Nat} {r : List Int} (h : ItS F l s wt (some (x, r, r.length))) : ItS F l s wt none := by
  obtain ⟨h1, h2, h3⟩ := h.cur x r r.length rfl
  refine ⟨h.mark, h.wait, fun x' r' j' e => (by cases e), fun z hz hzs => ?_⟩
  rcases h.done z hz hzs with h4 | ⟨r', j', h4⟩ | h4
  · exact .inl h4
  · simp only [Option.some.injEq, Prod.mk.injEq] at h4
    obtain ⟨rfl, -, -⟩ := h4
    refine .inr (.inr (fun v ⟨hv, r2, hr2, hm⟩ => ?_))
    obtain rfl := Option.some.inj (h1.symm.trans hr2)
    rw [List.take_length] at h3
    exact h3 v hm hv
  · exact .inr (.inr h4)
theorem ItS.end_ (h : ItS F l s [] none) (y : Nat) : y ∈ s ↔ ItR F l y := by
  refine ⟨h.mark y, ?_⟩
  have all : ∀ x, x < F.length → ((x : Int) ∈ l ∨ x ∈ s) → ∀ y, Edge F x y → y ∈ s := fun x hx hxs => by
    rcases h.done x hx hxs with h1 | ⟨_, _, h1⟩ | h1
    · cases h1
    · cases h1
    · exact h1
  rintro ⟨a, b, h1, h2, h3⟩
  have key : ∀ {b}, Way F a b → (b : Int) ∈ l ∨ b ∈ s := by
    intro b hw
    induction hw with
    | refl _ => exact .inl h1
    | @step b c hw e ih => exact .inr (all b e.lt.1 ih c e)
  exact all b h2.lt.2 (key h2) y h3
end
end Go.Proofs.Yteipncggndefmaa
