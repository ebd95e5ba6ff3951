/- scc's heap of numbers: its methods. -/
import Derived.Test.YtppkponnopnmdaaSComps
namespace Go.Proofs.Ytppkponnopnmdaa
open Go.RowKit Go.Maps Go.Shelf

/-- The heap: its cell, and a row of its own. -/
structure HS (w : World) (hb : Nat) (v : Value) (l : List Int) : Prop where
  blk : w.heap[hb]? = some (.cells #[v] 48 (0, 0))
  row : w.ownsRow 0 3 1 v l.length (l.map encI)
  ne : v.ownBlock ≠ some hb
/-- What a call turns. -/
structure HTo (w w' : World) (hb : Nat) (v v' : Value) : Prop where
  T : Touch w w' (fun b => b = hb ∨ v.ownBlock = some b)
  new : ∀ b, v'.ownBlock = some b → v.ownBlock = some b ∨ w.heap.size ≤ b
theorem HTo.refl (w : World) (hb : Nat) (v : Value) : HTo w w hb v v := ⟨Touch.refl _ _, fun _ h => .inl h⟩
theorem HTo.trans {a b c : World} {hb : Nat} {v1 v2 v3 : Value} (h : HTo a b hb v1 v2) (g : HTo b c hb v2 v3) : HTo a c hb v1 v3 :=
  ⟨Touch.join h.T g.T (fun k hk e => by
    rcases e with e | e
    · exact .inl e
    · rcases h.new k e with e | e
      · exact .inr e
      · omega), fun b hb' => by
    rcases g.new b hb' with e | e
    · exact h.new b e
    · exact .inr (Nat.le_trans h.T.size e)⟩
section
variable {w w' : World} {hb : Nat} {v : Value} {l : List Int}
theorem HS.c0 (H : HS w hb v l) : w.cell? ⟨hb, 0, none⟩ = some v := by rw [blk_cell H.blk]; rfl
theorem HS.f0 (H : HS w hb v l) : w.frozen? ⟨hb, 0, none⟩ = false := by simp [World.frozen?, H.blk]
theorem HS.lt (H : HS w hb v l) : hb < w.heap.size := (Array.getElem?_eq_some_iff.1 H.blk).1
theorem HS.form (H : HS w hb v l) : ∃ a c, v = .slice a l.length c := own_form H.row
theorem HS.kept {U : Nat → Prop} (H : HS w hb v l) (h : Touch w w' U) (hU : ∀ b, U b → b ≠ hb ∧ v.ownBlock ≠ some b) : HS w' hb v l :=
  ⟨(h.block hb H.lt (fun e => (hU _ e).1 rfl)).trans H.blk, ownsRow_touch H.row h (fun b hb e => (hU b e).2 hb), H.ne⟩
theorem HS.drew (H : HS w hb v l) : HS w.drew hb v l := H.kept (U := fun _ => False) ⟨rfl, rfl, rfl, Nat.le_refl _, fun _ _ _ => rfl⟩ (fun _ h => h.elim)
theorem HS.at (H : HS w hb v l) {i : Nat} {x : Int} (hi : l[i]? = some x) : ∃ g c, v = .slice (some ⟨g, 0, none⟩) l.length c ∧ w.cell? ⟨g, i, none⟩ = some (.int .i64 x) ∧ w.frozen? ⟨g, i, none⟩ = false ∧ g ≠ hb := by
  have hlt := (List.getElem?_eq_some_iff.1 hi).1
  obtain ⟨g, c, rfl⟩ := row_form H.row (by omega)
  refine ⟨g, c, rfl, ?_, ?_, fun e => H.ne (by rw [e]; rfl)⟩
  · rw [H.row.cellAt i (by simp; omega), List.getElem?_map, hi]; rfl
  · obtain ⟨_, ⟨e, _⟩ | ⟨g', cap', cur', e, _, hg, _⟩⟩ := H.row
    · cases e
    · simp only [Value.slice.injEq, Option.some.injEq, Addr.mk.injEq] at e
      obtain ⟨⟨rfl, -, -⟩, -⟩ := e
      simp [World.frozen?, hg]
end
section
variable {w : World} {hb : Nat} {v : Value} {l : List Int}
theorem len_h (H : HS w hb v l) : Calls Try.prog 89 #[v] w fun e w' => e = .returned (.int .i64 l.length) ∧ w = w' := by
  obtain ⟨a, c, rfl⟩ := H.form
  go_enter Try.func89, Try.ntmps89
  go_wp2_with fail
  go_ret
  exact ⟨rfl, rfl⟩
set_option maxHeartbeats 4000000 in
theorem less_h (H : HS w hb v l) {i j : Nat} {x y : Int} (hi : l[i]? = some x) (hj : l[j]? = some y) (hl : l.length ≤ 1000000) :
    Calls Try.prog 90 #[v, .int .i64 i, .int .i64 j] w fun e w' => e = .returned (.bool (decide (x < y))) ∧ HS w' hb v l ∧ HTo w w' hb v v := by
  obtain ⟨g, c, rfl, ci, fi, hg⟩ := H.at hi
  obtain ⟨g', c', e, cj, fj, -⟩ := H.at hj
  simp only [Value.slice.injEq, Option.some.injEq, Addr.mk.injEq] at e
  obtain ⟨⟨rfl, -⟩, -, rfl⟩ := e
  have i1 : (i : Int) < (l.length : Int) := by have := (List.getElem?_eq_some_iff.1 hi).1; omega
  have i2 : (j : Int) < (l.length : Int) := by have := (List.getElem?_eq_some_iff.1 hj).1; omega
  clear hi hj
  go_enter Try.func90, Try.ntmps90
  go_wp2_with fail
  go_quiet (fail)
  have H2 : HS (w.drewN nq) hb (.slice (some ⟨g, 0, none⟩) l.length c) l := H.kept (Touch.drewN w nq (fun _ => False)) (fun _ h => h.elim)
  go_wp2_with fail
  go_ret
  exact ⟨rfl, H2, Touch.drewN w nq _, fun _ h => .inl h⟩
theorem touch_drew (u : World) (S : Nat → Prop) : Touch u u.drew S := ⟨rfl, rfl, rfl, Nat.le_refl _, fun _ _ _ => rfl⟩
/-- Two numbers change places. -/
def swapL (l : List Int) (i j : Nat) (x y : Int) : List Int := (l.set i y).set j x
theorem swapL_len (l : List Int) (i j : Nat) (x y : Int) : (swapL l i j x y).length = l.length := by simp [swapL]
set_option maxHeartbeats 4000000 in
theorem swap_h (H : HS w hb v l) {i j : Nat} {x y : Int} (hi : l[i]? = some x) (hj : l[j]? = some y) (hl : l.length ≤ 1000000) :
    Calls Try.prog 93 #[v, .int .i64 i, .int .i64 j] w fun e w' => e = .returned (.tuple #[]) ∧ HS w' hb v (swapL l i j x y) ∧ HTo w w' hb v v := by
  obtain ⟨g, c, rfl, ci, fi, hg⟩ := H.at hi
  obtain ⟨g', c', e, cj, fj, -⟩ := H.at hj
  simp only [Value.slice.injEq, Option.some.injEq, Addr.mk.injEq] at e
  obtain ⟨⟨rfl, -⟩, -, rfl⟩ := e
  have i1 : (i : Int) < (l.length : Int) := by have := (List.getElem?_eq_some_iff.1 hi).1; omega
  have i2 : (j : Int) < (l.length : Int) := by have := (List.getElem?_eq_some_iff.1 hj).1; omega
  have hset : ∀ wq : World, HS wq hb (.slice (some ⟨g, 0, none⟩) l.length c) l → HS (wq.setCell ⟨g, i, none⟩ (.int .i64 y)) hb (.slice (some ⟨g, 0, none⟩) l.length c) (l.set i y) := fun wq Hq => by
    have hr := own_set (j := i) (x := .int .i64 y) Hq.row (by omega)
    refine ⟨?_, ?_, Hq.ne⟩
    · exact (((Touch.refl wq (fun b => b = g)).setCell (a := ⟨g, i, none⟩) (fun _ => rfl) _).block hb Hq.lt (fun e => hg e.symm)).trans Hq.blk
    · rw [List.length_set, List.map_set]; exact hr
  have cj' : (w.setCell ⟨g, i, none⟩ (.int .i64 y)).cell? ⟨g, j, none⟩ = some (.int .i64 y) := by
    have hj2 : (l.set i y)[j]? = some y := by
      by_cases hij : i = j
      · subst hij
        rw [List.getElem?_set_self (List.getElem?_eq_some_iff.1 hi).1]
      · rw [List.getElem?_set_ne hij, hj]
    obtain ⟨g2, c2, e2, q1, q2, -⟩ := (hset _ H).at hj2
    simp only [Value.slice.injEq, Option.some.injEq, Addr.mk.injEq] at e2
    obtain ⟨⟨rfl, -⟩, -⟩ := e2
    exact q1
  have fj' : (w.setCell ⟨g, i, none⟩ (.int .i64 y)).frozen? ⟨g, j, none⟩ = false := by
    obtain ⟨_, ⟨e, _⟩ | ⟨g', cap', cur', e, _, hg', _⟩⟩ := (hset _ H).row
    · cases e
    · simp only [Value.slice.injEq, Option.some.injEq, Addr.mk.injEq] at e
      obtain ⟨⟨rfl, -, -⟩, -⟩ := e
      simp [World.frozen?, hg']
  have hfin : Hid (HS (((w.setCell ⟨g, i, none⟩ (.int .i64 y)).setCell ⟨g, j, none⟩ (.int .i64 x)).drew) hb (.slice (some ⟨g, 0, none⟩) l.length c) (swapL l i j x y) ∧ HTo w (((w.setCell ⟨g, i, none⟩ (.int .i64 y)).setCell ⟨g, j, none⟩ (.int .i64 x)).drew) hb (.slice (some ⟨g, 0, none⟩) l.length c) (.slice (some ⟨g, 0, none⟩) l.length c)) := by
    have h1 := hset _ H
    have T1 : Touch w ((w.setCell ⟨g, i, none⟩ (.int .i64 y)).setCell ⟨g, j, none⟩ (.int .i64 x)) (fun b => b = g) := ((Touch.refl w (fun b => b = g)).setCell (a := ⟨g, i, none⟩) (fun _ => rfl) _).setCell (a := ⟨g, j, none⟩) (fun _ => rfl) _
    have h1r := h1.row
    rw [List.length_set] at h1r
    have hr := own_set (j := j) (x := .int .i64 x) h1r (by omega)
    have h2 : HS ((w.setCell ⟨g, i, none⟩ (.int .i64 y)).setCell ⟨g, j, none⟩ (.int .i64 x)) hb (.slice (some ⟨g, 0, none⟩) l.length c) (swapL l i j x y) :=
      ⟨(T1.block hb H.lt (fun e => hg e.symm)).trans H.blk, by rw [swapL_len]; unfold swapL; rw [List.map_set]; exact hr, H.ne⟩
    exact Lib.hid ⟨h2.drew, Touch.mono (T1.trans ⟨rfl, rfl, rfl, Nat.le_refl _, fun _ _ _ => rfl⟩) (fun k _ h => .inr (by rw [h]; rfl)), fun _ h => .inl h⟩
  clear hset
  clear hi hj
  go_enter Try.func93, Try.ntmps93
  go_wp2_with fail
  go_region_with (fail)
  all_goals
    go_wp2_with fail
    go_end0
    exact ⟨rfl, hfin.out⟩
/-- 'append' of a number. -/
theorem HS.push {w w2 : World} {hb gg c' : Nat} {v : Value} {l : List Int} {x : Int} (H : HS w hb v l) (hown : w2.ownsRow 0 3 1 (.slice (some ⟨gg, 0, none⟩) (l.length + 1) c') (l.length + 1) (l.map encI ++ [encI x])) (hT : Touch w w2 (fun b => v.ownBlock = some b)) (hat : v.ownBlock = some gg ∨ w.heap.size ≤ gg) :
    HS (w2.setCell ⟨hb, 0, none⟩ (.slice (some ⟨gg, 0, none⟩) (l.length + 1) c')) hb (.slice (some ⟨gg, 0, none⟩) (l.length + 1) c') (l ++ [x]) ∧ HTo w (w2.setCell ⟨hb, 0, none⟩ (.slice (some ⟨gg, 0, none⟩) (l.length + 1) c')) hb v (.slice (some ⟨gg, 0, none⟩) (l.length + 1) c') := by
  have hb2 : w2.heap[hb]? = some (.cells #[v] 48 (0, 0)) := (hT.block hb H.lt H.ne).trans H.blk
  have hne : gg ≠ hb := fun e => by
    rcases hat with h | h
    · exact H.ne (e ▸ h)
    · have := H.lt; omega
  have T3 : Touch w2 (w2.setCell ⟨hb, 0, none⟩ (.slice (some ⟨gg, 0, none⟩) (l.length + 1) c')) (fun b => b = hb) := (Touch.refl w2 (fun b => b = hb)).setCell (a := ⟨hb, 0, none⟩) (fun _ => rfl) _
  refine ⟨⟨?_, ?_, fun e => hne (Option.some.inj e)⟩, Touch.trans (Touch.mono hT (fun _ _ h => .inr h)) (Touch.mono T3 (fun _ _ h => .inl h)), fun b hb' => ?_⟩
  · rw [blk_set _ hb2]; rfl
  · rw [List.length_append, List.length_singleton, List.map_append]
    exact ownsRow_touch hown T3 (fun b hb' e => hne (by rw [← e]; exact Option.some.inj hb'))
  · obtain rfl : gg = b := Option.some.inj hb'
    exact hat
theorem assert_int (x : Int) (w : World) : (Instr.typeAssert (.iface 3 (.int .i64 x)) 20 3 false).run Try.prog w = .ok (.int .i64 x) w := by kernel_rfl
set_option maxHeartbeats 4000000 in
theorem push_h (H : HS w hb v l) (x : Int) (hl : l.length ≤ 1000000) :
    Calls Try.prog 92 #[.pointer (some ⟨hb, 0, none⟩), .iface 3 (.int .i64 x)] w fun e w' => e = .returned (.tuple #[]) ∧ ∃ v', HS w' hb v' (l ++ [x]) ∧ HTo w w' hb v v' := by
  obtain ⟨i0, hi0, hz0, hz1, hz2⟩ := info_parts infoI1
  have hta := assert_int x
  have c0 := H.c0
  have f0 := H.f0
  have hlt := H.lt
  have hrow := H.row
  have hne := H.ne
  obtain ⟨a, c, rfl⟩ := H.form
  have hcz : ∀ o, (w.alloc o).drew.cell? ⟨hb, 0, none⟩ = some (.slice a l.length c) := fun o => (World.cell?_alloc_past _ _ _ hlt).trans c0
  have hfz : ∀ o, (w.alloc o).drew.frozen? ⟨hb, 0, none⟩ = false := fun o => (World.frozen?_alloc_past _ _ _ hlt).trans f0
  have hnext : Hid (∀ (gg cap' : Nat) (w3 : World), w3.ownsRow 0 3 1 (.slice (some ⟨gg, 0, none⟩) (l.length + 1) cap') (l.length + 1) (l.map encI ++ [encI x]) → (w.alloc (.cells #[.int .i64 x] 3)).drew.grownBy w3 (Value.slice a l.length c).ownBlock → ((Value.slice a l.length c).ownBlock = some gg ∨ gg = w.heap.size + 1) →
      HS (w3.setCell ⟨hb, 0, none⟩ (.slice (some ⟨gg, 0, none⟩) (l.length + 1) cap')) hb (.slice (some ⟨gg, 0, none⟩) (l.length + 1) cap') (l ++ [x]) ∧ HTo w (w3.setCell ⟨hb, 0, none⟩ (.slice (some ⟨gg, 0, none⟩) (l.length + 1) cap')) hb (.slice a l.length c) (.slice (some ⟨gg, 0, none⟩) (l.length + 1) cap')) :=
    Lib.hid (fun gg cap' w3 hown hg hat => H.push hown ((((Touch.refl w _).alloc _).trans (touch_drew _ _)).trans (Touch.of_grown hg (fun k hk => hk))) (hat.imp id (fun h => by omega)))
  clear H
  go_enter Try.func92, Try.ntmps92
  go_wp2_with fail
  go_region_law
    (refine step_append_lies _ (by rfl) _ _ _ (by rfl) 0 3 i0 _ 1 8 Try.underlying48 hi0 hz0 hz1 hz2 rfl (by omega) (.slice a l.length c) l.length _ (by rfl) ((hrow.alloc _).drew) ⟨w.heap.size, 0, none⟩ 1 1 [.int .i64 x] (by rfl) (by rfl) (World.news_of_block (cs := #[.int .i64 x]) (t := 3) (fr := (0, 0)) (heap_alloc_new w _)) (by simp [Value.oneCell']) (by omega) (by unfold maxLen; omega) (by omega) (Nat.zero_le _) (w.heap.size + 1) (by simp) ?_
     intro gg cap' w3 hown2 hgrow hat hlt2
     have u4 : w3.frozen? ⟨hb, 0, none⟩ = false := (hgrow.frozen_far ⟨hb, 0, none⟩ (by simp; omega) (Ne.symm hne)).trans (hfz _)
     have u3 : w3.cell? ⟨hb, 0, none⟩ = some (.slice a l.length c) := (hgrow.cell_far ⟨hb, 0, none⟩ (by simp; omega) (Ne.symm hne)).trans (hcz _)
     have hfin := Lib.hid (hnext.out gg cap' w3 hown2 hgrow hat))
  all_goals
    go_wp2_with fail
    go_end0
    exact ⟨rfl, _, hfin.out⟩
set_option maxHeartbeats 4000000 in
theorem pop_h {x : Int} (H : HS w hb v (l ++ [x])) (hl : l.length ≤ 1000000) :
    Calls Try.prog 91 #[.pointer (some ⟨hb, 0, none⟩)] w fun e w' => e = .returned (.iface 3 (.int .i64 x)) ∧ ∃ v', HS w' hb v' l ∧ HTo w w' hb v v' := by
  have c0 := H.c0
  have f0 := H.f0
  obtain ⟨g, c, rfl, cx, fx, hg⟩ := H.at (i := l.length) (x := x) (by simp)
  rw [List.length_append, List.length_singleton] at c0
  have hrow : w.ownsRow 0 3 1 (.slice (some ⟨g, 0, none⟩) (l.length + 1) c) (l.length + 1) (l.map encI ++ [encI x]) := by
    have := H.row
    rwa [List.length_append, List.map_append] at this
  have hcap : l.length + 1 ≤ c := by
    obtain ⟨_, ⟨e, _⟩ | ⟨g', cap', cur', e, _, _, hnc, _⟩⟩ := hrow
    · cases e
    · simp only [Value.slice.injEq] at e; omega
  have hpop := own_pop hrow (by simp)
  have T3 : Touch w (w.setCell ⟨hb, 0, none⟩ (.slice (some ⟨g, 0, none⟩) l.length c)) (fun b => b = hb) := (Touch.refl w (fun b => b = hb)).setCell (a := ⟨hb, 0, none⟩) (fun _ => rfl) _
  have hfin : Hid (HS (w.setCell ⟨hb, 0, none⟩ (.slice (some ⟨g, 0, none⟩) l.length c)) hb (.slice (some ⟨g, 0, none⟩) l.length c) l ∧ HTo w (w.setCell ⟨hb, 0, none⟩ (.slice (some ⟨g, 0, none⟩) l.length c)) hb (.slice (some ⟨g, 0, none⟩) (l.length + 1) c) (.slice (some ⟨g, 0, none⟩) l.length c)) := by
    refine Lib.hid ⟨⟨?_, ownsRow_touch hpop T3 (fun b hb' e => hg (by rw [← e]; exact Option.some.inj hb')), fun e => hg (Option.some.inj e)⟩, Touch.mono T3 (fun _ _ h => .inl h), fun b h => .inl h⟩
    rw [blk_set _ H.blk]; rfl
  have d1 : IntKind.i64.wrap ((l.length : Int) + 1 - 1) = (l.length : Int) := by rw [show (l.length : Int) + 1 - 1 = l.length from by omega]; exact IntWalk.i64_in _ (by omega)
  have d2 : IntKind.i64.wrap (l.length : Int) = (l.length : Int) := IntWalk.i64_in _ (by omega)
  have d3 : (l.length : Int) + 1 - 1 = (l.length : Int) := by omega
  have hsl1 : (l.length : Int) ≤ (c : Int) := by omega
  rw [List.length_append, List.length_singleton]
  clear H hrow hpop T3
  go_enter Try.func91, Try.ntmps91
  go_wp2_with fail
  go_ret
  exact ⟨rfl, _, hfin.out⟩
end
end Go.Proofs.Ytppkponnopnmdaa
