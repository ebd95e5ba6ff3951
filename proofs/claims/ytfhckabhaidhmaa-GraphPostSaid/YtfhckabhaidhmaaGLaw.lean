/- The laws' own words: what came in, 'great', 'own', 'known', 'wakes'. -/
import Derived.Test.YtfhckabhaidhmaaGRBack
namespace Go.Proofs.Ytfhckabhaidhmaa
open Go.RowKit Go.Maps Go.Shelf Go.WideShapes Go.ChangeShapes Go.ChangeAt Go.Deep

section
variable {H : Type} {enc : TypeId × Value → H} {P : Program} {w : World}
/-- A slice of numbers in a cell. -/
theorem rd_ints_in {t e : TypeId} {n : Nat} {cs : List Value} {x : DataW H × List MemPlace} (ht : P.underlying t = some (.slice e)) (he : P.underlying e = some (.int .i64)) (hc : P.cellsOf e = 1)
    (hn : DataW.trod enc P w 0 (fun _ => true) true n t cs = some x) : ∃ v xs, cs = [v] ∧ RdI w v xs ∧ (∀ y ∈ xs, (Lit.int .i64 y).wf = true) ∧ xs.length ≤ maxLen := by
  rcases open_ints ht he hc hn with ⟨e1, _⟩ | ⟨a', len, cap, zs, e1, _, hl, hm, hmm, _, hx, hw⟩
  · exact ⟨_, [], e1, Or.inl ⟨rfl, Or.inl rfl⟩, (fun x h => by cases h), Nat.zero_le _⟩
  · simp only [if_true] at hmm
    refine ⟨_, (List.range len).map (fun i => zs.getD i 0), e1, ?_, fun x hx' => ?_, by simp; omega⟩
    · have := rd_of (w := w) (v := .slice (some a') len cap) (X := fun i => .int .i64 (zs.getD i 0)) rfl (by omega : len ≤ zs.length) (fun i hi => hx i hi) (by
        by_cases h0 : len = 0
        · exact Or.inr h0
        · left
          have h1 := hx 0 (by omega)
          unfold World.cell? at h1
          split at h1
          · rename_i h2
            have := (Array.getElem?_eq_some_iff.1 h2).1
            unfold Addr.add at this
            split at this <;> simpa using this
          · cases h1)
      rw [RdI, List.map_map]
      exact this
    · obtain ⟨i, hi, rfl⟩ := List.mem_map.1 hx'
      rw [List.mem_range] at hi
      refine hw _ ?_
      have hlt : i < zs.length := by omega
      simp [List.getD, hlt]
/-- A slice of slices of numbers that came in. -/
theorem rd_graph {t e i : TypeId} {v : Value} {d : DataW H} {ps : List MemPlace} {base : Nat} (ht : P.underlying t = some (.slice e)) (he : P.underlying e = some (.slice i)) (hi : P.underlying i = some (.int .i64)) (hce : P.cellsOf e = 1) (hci : P.cellsOf i = 1)
    (hval : Value.okWide P w .any base t v) (h : DataW.Trod enc P w 0 (fun _ => true) true t v d ps) : ∃ L : List (List Int), RdG w v L ∧ L.length ≤ maxLen ∧ ∀ r ∈ L, r.length ≤ maxLen := by
  rcases rd_elems ht hce (by decide) hval h with h0 | ⟨b, off, len, cap, rfl, hb, hl, hx⟩
  · exact ⟨[], ⟨[], Or.inl ⟨rfl, h0⟩, rfl, fun i u l h _ => by simp at h⟩, Nat.zero_le _, fun r h => by cases h⟩
  · have hx' : ∀ i, i < len → ∃ x : Value × List Int, w.cell? ⟨b, off + i, none⟩ = some x.1 ∧ RdI w x.1 x.2 ∧ x.2.length ≤ maxLen := by
      intro k hk
      obtain ⟨cs', n, y, hlen, hce', htr⟩ := hx k hk
      obtain ⟨x1, xs, e1, r1, s1, l1⟩ := rd_ints_in he hi hci htr
      subst e1
      have := hce' 0 (by omega)
      rw [Nat.mul_one, Nat.add_zero] at this
      exact ⟨(x1, xs), this, r1, l1⟩
    let f : Nat → Value × List Int := fun k => if h : k < len then (hx' k h).choose else (.slice none 0 0, [])
    have hf : ∀ k, k < len → w.cell? ⟨b, off + k, none⟩ = some (f k).1 ∧ RdI w (f k).1 (f k).2 ∧ (f k).2.length ≤ maxLen := by
      intro k hk
      simp only [f, dif_pos hk]
      exact (hx' k hk).choose_spec
    refine ⟨(List.range len).map fun k => (f k).2, ⟨(List.range len).map fun k => (f k).1, Or.inr ⟨b, off, cap, by simp, hb, fun k u hu => ?_⟩, by simp, fun k u l hu hl' => ?_⟩, by simpa using hl, fun r hr => ?_⟩
    · have hlt : k < len := by have := (List.getElem?_eq_some_iff.1 hu).1; simpa using this
      simp [hlt] at hu
      rw [← hu]
      exact (hf k hlt).1
    · have hlt : k < len := by have := (List.getElem?_eq_some_iff.1 hu).1; simpa using this
      simp [hlt] at hu hl'
      rw [← hu, ← hl']
      exact (hf k hlt).2.1
    · obtain ⟨k, hk, rfl⟩ := List.mem_map.1 hr
      exact (hf k (List.mem_range.1 hk)).2.2
end

def GreatPost (w : World) (L : List (List Int)) (e : Ending) (w' : World) : Prop := ∃ q, e = .returned (.bool q) ∧ w = w' ∧ (q = false → L.length ≤ 200 ∧ ∀ r ∈ L, r.length ≤ 3000)
set_option maxRecDepth 20000 in
theorem great_any {w : World} {v : Value} {L : List (List Int)} (h : RdG w v L) : Calls Try.prog 9 #[v] w (GreatPost w L) := by
  obtain ⟨av, cap, rfl⟩ := h.form
  by_cases h0 : L.length ≤ 200
  · have d1 : decide ((L.length : Int) > 200) = false := by simp; omega
    go_enter Try.func9, Try.ntmps9
    go_wp2_with fail
    go_loop [3, 4] (fun n i => ∃ k m : Nat, k ≤ L.length ∧ i = .int .i64 k ∧ n = .int .i64 m ∧ m ≤ k * 3000 ∧ Hid (∀ r ∈ L.take k, r.length ≤ 3000)) (fun _ i => L.length - (intOf i).toNat)
    case atStart => exact ⟨0, 0, Nat.zero_le _, rfl, rfl, Nat.le_refl _, Lib.hid (by simp)⟩
    case round =>
      obtain ⟨k, m, hk, rfl, rfl, hm, hall⟩ := hrel
      by_cases hlt : k < L.length
      · obtain ⟨r, hrk⟩ : ∃ r, L[k]? = some r := ⟨_, List.getElem?_eq_getElem hlt⟩
        obtain ⟨b, off, cap', u, e, hbl, hcell, hrd⟩ := h.at hrk
        simp only [Value.slice.injEq] at e
        obtain ⟨rfl, -, rfl⟩ := e
        obtain ⟨ar, cr, rfl⟩ := hrd.shape
        have i1 : (k : Int) < (L.length : Int) := by omega
        have htk := Lib.hid (take_snoc hrk)
        replace hrd := Lib.hid hrd
        by_cases hr : r.length ≤ 3000
        · have d2 : decide ((r.length : Int) > 3000) = false := by simp; omega
          go_wp2_with fail
          go_round
          case rel => exact ⟨k + 1, m + r.length, by omega, by go_num, by go_num, by omega, Lib.hid (by rw [htk.out]; intro x hx; rcases List.mem_append.1 hx with hx | hx; exact hall.out x hx; rw [List.mem_singleton.1 hx]; exact hr)⟩
          case measure => simp [intOf]; omega
        · have d2 : decide ((r.length : Int) > 3000) = true := by simp; omega
          go_wp2_with fail
          go_ret
          exact ⟨_, rfl, rfl, fun h => by cases h⟩
      · obtain rfl : k = L.length := by omega
        have i1 : decide ((L.length : Int) < (L.length : Int)) = false := by simp
        go_wp2_with fail
        go_ret
        exact ⟨_, rfl, rfl, fun _ => ⟨h0, fun r hr => hall.out r (by rw [List.take_length]; exact hr)⟩⟩
  · have d1 : decide ((L.length : Int) > 200) = true := by simp; omega
    go_enter Try.func9, Try.ntmps9
    go_wp2_with fail
    go_ret
    exact ⟨_, rfl, rfl, fun h => by cases h⟩

def OwnRel (w wr : World) (L : List (List Int)) (v i : Value) : Prop :=
  ∃ (k : Nat) (vs : List Value), k ≤ L.length ∧ i = .int .i64 k ∧ Outs w.heap.size wr v k vs L ∧ Below w.heap.size w wr
set_option maxRecDepth 20000 in
set_option maxHeartbeats 4000000 in
theorem own_any {w : World} {v : Value} {L : List (List Int)} (h : RdG w v L) (hL : L.length ≤ 100000) (hr : ∀ r ∈ L, r.length ≤ 100000) : Calls Try.prog 11 #[v] w fun e w' => ∃ v', e = .returned v' ∧ RdX (fun b => b < w.heap.size) w' v' L ∧ Below w.heap.size w w' := by
  obtain ⟨av, cap, rfl⟩ := h.form
  obtain ⟨i0, hi0, hz0, hz1, hz2⟩ := info_parts infoL1
  obtain ⟨j0, hj0, hy0, hy1, hy2⟩ := info_parts infoI1
  have hr' := Lib.hid hr
  clear hr
  go_enter Try.func11, Try.ntmps11
  go_wp2_with fail
  go_loopw [3, 4] (fun v i wr => OwnRel w wr L v i) (fun _ i _ => L.length - (intOf i).toNat)
  case atStart => exact ⟨0, [], Nat.zero_le _, rfl, ⟨World.ownsRow_nil _ _ _ _, fun i u l hu _ => by simp at hu⟩, Below.refl _ _⟩
  case round =>
    obtain ⟨k, vs, hk, rfl, hO, hbw⟩ := hrel
    by_cases hlt : k < L.length
    · obtain ⟨r, hrk⟩ : ∃ r, L[k]? = some r := ⟨_, List.getElem?_eq_getElem hlt⟩
      have hrl : r.length ≤ 100000 := hr'.out r (List.mem_of_getElem? hrk)
      obtain ⟨b, off, cap', u, e, hbl, hcell0, hrd0⟩ := h.at hrk
      simp only [Value.slice.injEq] at e
      obtain ⟨rfl, -, rfl⟩ := e
      obtain ⟨ar, cr, rfl⟩ := hrd0.shape
      have hcell := (hbw.cell (p := ⟨b, off + k, none⟩) hbl).trans hcell0
      have i1 : (k : Int) < (L.length : Int) := by omega
      obtain ⟨ao, co, rfl⟩ := own_form hO.own
      have hrdw := Lib.hid (Rd.below hrd0 hbw)
      have hol := hbw.size
      clear hcell0
      go_wp2_with (at_builtin; refine wpList_append_rd _ rfl _ _ 28 rfl wr.heap.size 3 j0 (.int .i64 0) 8 Try.underlying28 hj0 hy0 hy1 hy2 rfl _ 0 [] rfl (World.ownsRow_nil _ _ _ _) _ (r.map encI) rfl hrdw.out (oneCells _) (by simp; unfold maxLen; omega) (by simp; omega) (Nat.le_refl _) ?_)
      intro v1 w1 hown1 hgrow1 hat1
      replace hown1 : w1.ownsRow wr.heap.size 3 1 v1 r.length (r.map encI) := by simpa using hown1
      have hb1 : Below wr.heap.size wr w1 := (Below.refl _ _).grown hgrow1 (Nat.le_refl _) (by simp [Value.ownBlock])
      have hO1 := hO.below hb1
      obtain ⟨a1, c1, rfl⟩ := own_form hown1
      have hofu : Off (fun b => (Value.slice ao k co).ownBlock = some b) (.slice a1 r.length c1) r.length := fun _ b e hb => by
        have h1 := (hown1.lt b e).1
        have h2 := (hO.own.lt b hb).2
        omega
      have hofb : Off (fun b => b < w.heap.size) (.slice a1 r.length c1) r.length := fun _ b e hb => by have := (hown1.lt b e).1; omega
      have hown := hO1.own
      have hbw1 := hbw.trans (hb1.mono hol)
      have hrdu := Lib.hid (strip_rd hown1)
      replace hrk := Lib.hid hrk
      clear hown1 hgrow1 hat1 hO
      go_wp2_with (at_builtin; refine wpList_append_own_at _ rfl _ _ 22 rfl w.heap.size 28 i0 _ 1 24 Try.underlying22 hi0 hz0 hz1 hz2 rfl (by decide) _ _ _ rfl (hown.alloc _) ⟨w1.heap.size, 0, none⟩ 1 1 [.slice a1 r.length c1] rfl rfl (World.news_of_block (cs := #[.slice a1 r.length c1]) (t := 28) (fr := (0, 0)) (heap_alloc_new w1 _)) (by simp [Value.oneCell']) (by unfold maxLen; omega) (by omega) (by have := hbw1.size; simp at this ⊢; omega) ?_)
      intro v' w2 hown2 hgrow hnil hat
      have hO2 := hO1.more hrk.out hrdu.out hofu hofb hown2 hgrow hat
      have hb2 : Below w.heap.size w w2 := (hbw1.alloc hbw1.size _).grown hgrow (by have := hbw1.size; simp; omega) (fun b hb => (hown.lt b hb).1)
      clear hown2 hgrow hnil hat hown hO1
      go_wp2_with fail
      exact ⟨⟨k + 1, _, by omega, by go_num, hO2, hb2⟩, by simp [intOf]; omega⟩
    · obtain rfl : k = L.length := by omega
      have i1 : decide ((L.length : Int) < (L.length : Int)) = false := by simp
      have hfin := Lib.hid (show RdX (fun b => b < w.heap.size) wr _ L from Outs.rd hO)
      clear hO
      go_wp2_with fail
      go_ret
      exact ⟨_, rfl, hfin.out, hbw⟩

def knownL : List (List Int) := [[1, 2], [3], [3], [1]]
/-- Rows of a slice of slices whose blocks are known. -/
theorem rdg_of {w : World} {B : Nat} {vs : List Value} {L : List (List Int)} {t : TypeId} {n : Nat} (hn : n = L.length) (hb : w.heap[B]? = some (.cells vs.toArray t (0, 0))) (hl : vs.length = L.length) (h : ∀ (i : Nat) (u : Value) (l : List Int), vs[i]? = some u → L[i]? = some l → RdI w u l) : RdG w (.slice (some ⟨B, 0, none⟩) n n) L := by
  subst hn
  refine ⟨vs, .inr ⟨B, 0, L.length, by rw [hl], (Array.getElem?_eq_some_iff.1 hb).1, fun i u hu => ?_⟩, hl, h⟩
  rw [blk_cell hb, Nat.zero_add]
  simpa using hu
theorem rdi_of {w : World} {B : Nat} {l : List Int} {t : TypeId} {n : Nat} (hn : n = l.length) (hb : w.heap[B]? = some (.cells (l.map encI).toArray t (0, 0))) : RdI w (.slice (some ⟨B, 0, none⟩) n n) l := by
  subst hn
  refine .inr ⟨B, 0, l.length, by simp, (Array.getElem?_eq_some_iff.1 hb).1, fun i u hu => ?_⟩
  rw [blk_cell hb, Nat.zero_add]
  simpa using hu
theorem heap_alloc_at {w : World} {o : Obj} {b : Nat} (h : b = w.heap.size) : (w.alloc o).heap[b]? = some o := by
  subst h
  exact heap_alloc_new _ _
theorem heap_alloc_in {w : World} {o : Obj} {b : Nat} {x : Obj} (h : w.heap[b]? = some x) : (w.alloc o).heap[b]? = some x := by
  have hb := (Array.getElem?_eq_some_iff.1 h).1
  simp only [World.alloc]
  rw [Array.getElem?_push, if_neg (by omega)]
  exact h
theorem known_g {w : World} : Calls Try.prog 25 #[] w fun e w' => ∃ v', e = .returned v' ∧ RdG w' v' knownL ∧ Below w.heap.size w w' := by
  go_enter Try.func25, Try.ntmps25
  go_wp2_with fail
  go_ret
  refine ⟨_, rfl, ?_, (((((Below.refl _ _).alloc (Nat.le_refl _) _).alloc (by simp) _).alloc (by simp; omega) _).alloc (by simp; omega) _).alloc (by simp; omega) _⟩
  refine rdg_of (vs := [.slice (some ⟨w.heap.size, 0, none⟩) 2 2, .slice (some ⟨w.heap.size + 1, 0, none⟩) 1 1, .slice (some ⟨w.heap.size + 1 + 1, 0, none⟩) 1 1, .slice (some ⟨w.heap.size + 1 + 1 + 1, 0, none⟩) 1 1]) (t := 28) rfl ?_ rfl ?_
  · exact heap_alloc_at (by simp)
  · intro i u l hu hl
    match i, hu, hl with
    | 0, hu, hl =>
      simp [knownL] at hu hl
      subst hu hl
      exact rdi_of (t := 3) rfl (heap_alloc_in (heap_alloc_in (heap_alloc_in (heap_alloc_in (heap_alloc_at rfl)))))
    | 1, hu, hl =>
      simp [knownL] at hu hl
      subst hu hl
      exact rdi_of (t := 3) rfl (heap_alloc_in (heap_alloc_in (heap_alloc_in (heap_alloc_at (by simp)))))
    | 2, hu, hl =>
      simp [knownL] at hu hl
      subst hu hl
      exact rdi_of (t := 3) rfl (heap_alloc_in (heap_alloc_in (heap_alloc_at (by simp))))
    | 3, hu, hl =>
      simp [knownL] at hu hl
      subst hu hl
      exact rdi_of (t := 3) rfl (heap_alloc_in (heap_alloc_at (by simp)))
    | (k + 4), hu, hl => simp at hu
end Go.Proofs.Ytfhckabhaidhmaa
