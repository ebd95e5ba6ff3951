/- exits: the law's exits laid as update's, each with a set of its own. -/
import Derived.Test.YtdpmpppafkefoaaDoorUpdC
import Derived.Test.YtdpmpppafkefoaaDoorWakes
import Derived.Deep.RegionHeld3
import Derived.Deep.AppendLies
namespace Go.Proofs.YtdpmpppafkefoaaDoor
open Go.RowKit Go.Maps

/-- A slice that reads as the law's exits: a bool, and a list of numbers. -/
abbrev Lx := Bool × Value × List Int
def RowL (w : World) (v : Value) (ls : List Lx) : Prop :=
  ((ls = [] ∧ (v = .slice none 0 0 ∨ ∃ a c, v = .slice (some a) 0 c)) ∨ ∃ b off cap, v = .slice (some ⟨b, off, none⟩) ls.length cap ∧ b < w.heap.size ∧ ∀ i m p l, ls[i]? = some (m, p, l) → w.cell? ⟨b, off + i * 2, none⟩ = some (.bool m) ∧ w.cell? ⟨b, off + i * 2 + 1, none⟩ = some p) ∧
  ∀ m p l, (m, p, l) ∈ ls → RdI w p l ∧ ∀ x ∈ l, x < 9223372036854775808

section
variable {w w1 w' : World} {v : Value} {ls : List Lx} {L : List (Nat × List Nat)} {keep : Nat → Prop}

theorem RowL.form (h : RowL w v ls) : ∃ a c, v = .slice a ls.length c := by
  rcases h.1 with ⟨rfl, rfl | ⟨a, c, rfl⟩⟩ | ⟨b, off, cap, rfl, _⟩
  · exact ⟨none, 0, rfl⟩
  · exact ⟨some a, c, rfl⟩
  · exact ⟨_, cap, rfl⟩
theorem RowL.at (h : RowL w v ls) {i : Nat} {m : Bool} {p : Value} {l : List Int} (hi : ls[i]? = some (m, p, l)) : ∃ b off cap, v = .slice (some ⟨b, off, none⟩) ls.length cap ∧ b < w.heap.size ∧ w.cell? ⟨b, off + i * 2, none⟩ = some (.bool m) ∧ w.cell? ⟨b, off + i * 2 + 1, none⟩ = some p := by
  rcases h.1 with ⟨rfl, _⟩ | ⟨b, off, cap, e, hlt, hc⟩
  · simp at hi
  · exact ⟨b, off, cap, e, hlt, hc i m p l hi⟩
theorem RowL.below (h : RowL w v ls) (hb : Below w.heap.size w w1) : RowL w1 v ls := by
  refine ⟨or_map h.1 id ?_, fun m p l hm => ⟨(h.2 m p l hm).1.below hb, (h.2 m p l hm).2⟩⟩
  rintro ⟨b, off, cap, e, hlt, hc⟩
  exact ⟨b, off, cap, e, Nat.lt_of_lt_of_le hlt hb.size, fun i m p l hi => ⟨(hb.cell (p := ⟨b, off + i * 2, none⟩) hlt).trans (hc i m p l hi).1, (hb.cell (p := ⟨b, off + i * 2 + 1, none⟩) hlt).trans (hc i m p l hi).2⟩⟩

/-- A set that stands outside, put into one of the hall's. -/
theorem hall_union_old {w0 : World} {vo : Value} {i s : Nat} {l o : List Nat} (B : Hall w0 w L keep) (hi : L[i]? = some (s, l)) (T : ASet w0 vo o) (hlen : l.length + o.length ≤ 1000000) :
    Calls Tryd.prog 19 #[ptr s, vo] w fun e w' => (∃ b, e = .returned (.bool b)) ∧ Hall w0 w' (L.set i (s, uni l o)) keep ∧ Keeps keep w w' := by
  obtain ⟨bm, D, S, _, hgo⟩ := B.turn hi
  rcases T with ⟨rfl, rfl⟩ | ⟨so, bo, Do, rfl, T⟩
  · refine (union_other_nil _ w).mono ?_
    rintro e w' ⟨rfl, rfl⟩
    obtain ⟨h1, h2⟩ := hgo w' bm D (uni l []) (by rw [uni_nil]; exact S) (Or.inl rfl) (Touch.refl _ _)
    exact ⟨⟨_, rfl⟩, h1, h2⟩
  · have g1 := T.lts
    have g2 := T.ltm
    obtain ⟨F, f1, f2, f3⟩ := B.sets
    have hlow : w0.heap.size ≤ s := (f1 i s l hi).2.1
    have hbmlow : bm ≠ bo := by
      rintro rfl
      obtain ⟨⟨D2, S2⟩, _, h3⟩ := f1 i s l hi
      obtain ⟨mo, hb1⟩ := S.blk
      obtain ⟨mo2, hb2⟩ := S2.blk
      rw [hb1] at hb2
      simp at hb2
      omega
    refine (union_any S (T.below B.old) (by omega) hbmlow hlen).mono ?_
    rintro e w' ⟨rfl, ⟨D', S'⟩, ht⟩
    exact ⟨⟨_, rfl⟩, hgo w' _ _ _ S' (Or.inl rfl) ht⟩

/-- A row that the call has made grows, and is what is kept from then on. -/
theorem Hall.grow {w0 : World} {v v' : Value} (B : Hall w0 w L keep) (h : w.grownBy w' v.ownBlock) (hk : ∀ b, v.ownBlock = some b → keep b) (h0 : ∀ b, v.ownBlock = some b → w0.heap.size ≤ b) (hat : ∀ b, v'.ownBlock = some b → v.ownBlock = some b ∨ w.heap.size ≤ b) (hlt : ∀ b, v'.ownBlock = some b → b < w'.heap.size) :
    Hall w0 w' L (fun b => v'.ownBlock = some b) := by
  have ht : Touch w w' (fun b => v.ownBlock = some b) := Touch.of_grown h (fun k e => e)
  have B' := B.touch ht (fun k hk e => by have := h0 k e; omega) (fun k e => Or.inl (hk k e))
  obtain ⟨F, f1, f2, f3⟩ := B.sets
  refine ⟨B'.old, ⟨F, fun i s l hi => ?_, f2, fun b hb i s l hi => ?_⟩, hlt⟩
  · obtain ⟨⟨D, S⟩, h4⟩ := f1 i s l hi
    exact ⟨⟨D, S.kept ht (fun k hm e => by
      have h5 := f3 k (hk k e) i s l hi
      rcases hm with rfl | rfl
      · exact h5.1 rfl
      · exact h5.2 rfl)⟩, h4⟩
  · obtain ⟨⟨D, S⟩, h4⟩ := f1 i s l hi
    have g1 := S.lts
    have g2 := S.ltm
    rcases hat b hb with h | h
    · exact f3 b (hk b h) i s l hi
    · omega
end

/-- The exits that were made: whether, the set's block, its numbers. -/
abbrev Mx := Bool × Nat × List Nat
def cellsM (x : Mx) : List Value := [.bool x.1, ptr x.2.1]
def exOf (x : Mx) : Ex := (x.1, some ⟨x.2.1, 0, none⟩, x.2.2)

/-- What exits leaves: a row of its own of exits whose sets stand in a hall of their own. -/
def Exits (w w' : World) (v : Value) (X : List Mx) : Prop := w'.ownsRow w.heap.size 44 2 v X.length (X.flatMap cellsM) ∧ Hall w w' (X.map (·.2)) (fun b => v.ownBlock = some b)

theorem infoX : (Tryd.prog.info? 44).map (fun i => (i.zero, i.size, i.bytes)) = some (some (.agg #[.bool false, .pointer none]), 2, 16) := by kernel_rfl

section
variable {w w1 w' : World} {v : Value} {ls : List Lx} {X : List Mx}

theorem exits_step {ys : List Int} {s : Nat} {m : Bool} {w2 : World} {g cap : Nat} (h : Exits w w1 v X) (hall : Hall w w' (X.map (·.2) ++ [(s, numsOf ys)]) (fun b => v.ownBlock = some b)) (hb : w1.heap.size ≤ w'.heap.size)
    (hgrow : w'.grownBy w2 v.ownBlock) (hown : w2.ownsRow w.heap.size 44 2 (.slice (some ⟨g, 0, none⟩) (X.length + 1) cap) (X.length + 1) (X.flatMap cellsM ++ [.bool m, ptr s])) (hat : v.ownBlock = some g ∨ w'.heap.size ≤ g) (hlt : g < w2.heap.size) :
    Exits w w2 (.slice (some ⟨g, 0, none⟩) (X.length + 1) cap) (X ++ [(m, s, numsOf ys)]) := by
  refine ⟨?_, ?_⟩
  · rw [List.flatMap_append, List.length_append]
    exact hown
  · rw [List.map_append]
    refine hall.grow hgrow (fun b e => e) (fun b e => (h.1.lt b e).1) (fun b e => ?_) (fun b e => ?_)
    · simp [Value.ownBlock] at e
      subst e
      exact hat
    · simp [Value.ownBlock] at e
      subst e
      exact hlt

set_option maxRecDepth 20000 in
set_option maxHeartbeats 1000000 in
theorem exits_any (hl : RowL w v ls) (n : ls.length ≤ 1000) (nl : ∀ x ∈ ls, x.2.2.length ≤ 100000) : Calls Tryd.prog 9 #[v] w fun e w' => ∃ v' X, e = .returned v' ∧ Exits w w' v' X ∧ X.map (fun x => (x.1, x.2.2)) = ls.map (fun x => (x.1, numsOf x.2.2)) := by
  obtain ⟨i0, hi0, hz0, hz1, hz2⟩ := info_parts infoX
  obtain ⟨a, c, rfl⟩ := hl.form
  go_enter Tryd.func9, Tryd.ntmps9
  go_wp2_with fail
  go_loopw [3, 4] (fun o i wr => ∃ (j : Nat) (v' : Value) (X : List Mx), j ≤ ls.length ∧ i = .int .i64 j ∧ o = v' ∧ Exits w wr v' X ∧ X.map (fun x => (x.1, x.2.2)) = (ls.take j).map (fun x => (x.1, numsOf x.2.2))) (fun _ i _ => ls.length - (intOf i).toNat)
  case atStart => exact ⟨0, _, [], Nat.zero_le _, rfl, rfl, ⟨World.ownsRow_nil _ _ _ _, (Hall.init w).keeping (Below.refl _ _) (fun b e => by simp [Value.ownBlock] at e)⟩, rfl⟩
  case round =>
    obtain ⟨j, v', X, hj, rfl, rfl, hE, hX⟩ := hrel
    by_cases hlt : j < ls.length
    · obtain ⟨⟨m, p, l⟩, hxj⟩ : ∃ x, ls[j]? = some x := ⟨_, List.getElem?_eq_getElem hlt⟩
      obtain ⟨b, off, cap, e, hb, c0, c1⟩ := hl.at hxj
      simp only [Value.slice.injEq] at e
      obtain ⟨rfl, -, rfl⟩ := e
      have hmem := List.mem_of_getElem? hxj
      obtain ⟨hp, hp63⟩ := hl.2 m p l hmem
      have hpl := nl _ hmem
      have hXl : X.length = j := by
        have := congrArg List.length hX
        simp at this
        omega
      have hold := hE.2.old
      have d0 := (hold.cell (p := ⟨b, off + j * 2, none⟩) hb).trans c0
      have d1 := (hold.cell (p := ⟨b, off + j * 2 + 1, none⟩) hb).trans c1
      have hbr : b < wr.heap.size := Nat.lt_of_lt_of_le hb hold.size
      obtain ⟨pa, pc, rfl⟩ := hp.form
      have hpr := hp.below hold
      rw [List.length_map] at *
      have hXn : X.length ≤ 1000 := by omega
      replace hXl := Lib.hid hXl
      replace hX := Lib.hid hX
      replace hxj := Lib.hid (take_snoc hxj)
      clear c0 c1 hl nl hold hmem hp
      have hc := Lib.hid (hall_of (w := wr.drew) (hE.2.drawn 1) (hpr.below (w' := wr.drew) ⟨rfl, rfl, rfl, Nat.le_refl _, fun _ _ => rfl⟩) hp63 (Nat.le_trans hpl (by decide)))
      have hrow := hE.1
      have hown1 := hrow
      have hz := hE.2.old.size
      have hne : u3.ownBlock ≠ some b := fun e => by have := (hrow.lt b e).1; omega
      go_wp2_with fail
      go_region_held3 (fun w' => w'.cell? ⟨b, off + j * 2, none⟩ = some (.bool m) ∧ w'.cell? ⟨b, off + j * 2 + 1, none⟩ = some (.slice pa l.length pc))
        (first
          | go_keep
          | (go_split_ands
             refine ⟨?_, ?_⟩
             · (rw [hgrow.cell_far _ (by simp; omega) (Ne.symm hne)]; assumption)
             · (rw [hgrow.cell_far _ (by simp; omega) (Ne.symm hne)]; assumption)))
        (first
          | (go_at_call 6; refine hc.out.mono ?_; rintro e w1 ⟨s, rfl, hH, hb1, hsz⟩; have r0 := (hb1.cell (p := ⟨b, off + j * 2, none⟩) hbr).trans d0; have r1 := (hb1.cell (p := ⟨b, off + j * 2 + 1, none⟩) hbr).trans d1; clear hown1; have hown1 := ownsRow_touch hrow.drew (Touch.of_below hb1 (fun _ => False)) (fun _ _ h => h); have hbs : wr.heap.size ≤ w1.heap.size := hb1.size)
          | (refine step_append_lies _ (by rfl) _ _ _ (by rfl) w.heap.size 44 i0 _ 2 16 Tryd.underlying35 hi0 hz0 hz1 hz2 rfl (by omega) u3 X.length _ (by rfl) (hown1.alloc _)
              ⟨w1.heap.size, 0, none⟩ 1 1 [.bool m, ptr s] (by rfl) (by rfl) (World.news_of_block (cs := #[.bool m, ptr s]) (t := 44) (fr := (0, 0)) (heap_alloc_new w1 _)) (by simp [Value.oneCell'])
              (by omega) (by unfold maxLen; omega) (by omega) (by simp; omega) (w1.heap.size + 1) (by simp) ?_; intro gg cap' w2 hown2 hgrow hat hlt2))
      have hE2 := Lib.hid (exits_step (m := m) hE (hH.below ((Below.refl _ w1).alloc (Nat.le_refl _) (.cells #[.bool m, ptr s] 44))) (by simp; omega) hgrow hown2 (by rcases hat with h | h; exact Or.inl h; right; rw [h]; simp) hlt2)
      clear hE hH hrow hown1 hown2 hgrow hat r0 r1 d0 d1 hpr hc hb1
      go_wp2_with fail
      go_roundw
      case rel => exact ⟨j + 1, _, _, by omega, by go_num, rfl, hE2.out, by rw [hxj.out, List.map_append, List.map_append, hX.out]; rfl⟩
      case measure => simp [intOf]; omega
    · have : j = ls.length := by omega
      subst this
      rw [List.take_length] at hX
      clear hl
      go_wp2_with fail
      go_ret
      exact ⟨_, X, rfl, hE, hX⟩
end
end Go.Proofs.YtdpmpppafkefoaaDoor
