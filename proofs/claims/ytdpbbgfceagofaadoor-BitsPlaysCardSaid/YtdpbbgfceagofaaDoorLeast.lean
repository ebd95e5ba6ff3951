/- Least. -/
import Derived.Test.YtdpbbgfceagofaaDoorShrink
namespace Go.Proofs.YtdpbbgfceagofaaDoor
open Go.RowKit Go.Maps

/-- The library's table lies where it lies. -/
structure Gl (w : World) : Prop where
  tab : Tabs w
  lt : 0 < w.heap.size

theorem Gl.touch {w w' : World} {Q : Nat → Prop} (h : Gl w) (ht : Touch w w' Q) (hn : ¬ Q 0) : Gl w' := ⟨h.tab.touch h.lt ht hn, Nat.lt_of_lt_of_le h.lt ht.size⟩
theorem Gl.below {w w' : World} {B : Nat} (h : Gl w) (hb : Below B w w') (hB : 0 < B) : Gl w' :=
  ⟨fun j hj => (hb.cell (p := ⟨0, j, none⟩) hB).trans (h.tab j hj), Nat.lt_of_lt_of_le h.lt hb.size⟩

/-- m is the least number of l. -/
def Min (l : List Nat) (m : Nat) : Prop := m ∈ l ∧ ∀ n ∈ l, m ≤ n

section
variable {w w' : World} {sb bm : Nat} {D : DataW Unit} {l : List Nat}

theorem least_none {v : Value} (T : ASet w v ([] : List Nat)) : Calls Tryd.prog 27 #[v] w fun e w' => e = .returned (.tuple #[.int .i64 0, .bool false]) ∧ w' = w := by
  have hl := Lib.hid (len_a T)
  have hf := T.form
  clear T
  rcases hf with rfl | ⟨a, rfl⟩
  · go_enter Tryd.func27, Tryd.ntmps27
    go_wp2_with (go_at_call 29; refine hl.out.mono ?_; rintro e w' ⟨rfl, hw⟩; obtain rfl := hw.symm)
    go_ret2
    exact ⟨rfl, rfl⟩
  · go_enter Tryd.func27, Tryd.ntmps27
    go_wp2_with (go_at_call 29; refine hl.out.mono ?_; rintro e w' ⟨rfl, hw⟩; obtain rfl := hw.symm)
    go_ret2
    exact ⟨rfl, rfl⟩

theorem min_of (W : Words D l) {c k0 : Nat} (hb : Bit c k0 l) (hc : c ≠ 0) (hk : ∀ k, has D (key k) = true → k0 ≤ k) : Min l (64 * k0 + Lib.ctz 64 c) ∧ Lib.ctz 64 c < 64 := by
  obtain ⟨t, ht, hlt, hbt, hlow, _⟩ := lowest_split hc hb.1
  rw [← ht]
  refine ⟨⟨(hb.2 t hlt).1 hbt, fun n hn => ?_⟩, hlt⟩
  have h1 := hk _ (W.has_of_mem hn)
  by_cases e : n / 64 = k0
  · have h2 : c.testBit (n % 64) = true := (hb.2 _ (by omega)).2 (by rw [← e, Nat.div_add_mod]; exact hn)
    have h3 : ¬ n % 64 < t := fun hlt => by rw [hlow _ hlt] at h2; cases h2
    omega
  · omega

set_option maxHeartbeats 1000000 in
theorem least_some (S : SetAt w sb bm D l) (G : Gl w) (hne : l ≠ []) (hlen : l.length ≤ 1000000) : Calls Tryd.prog 27 #[.pointer (some ⟨sb, 0, none⟩)] w fun e w' => (∃ m : Nat, Min l m ∧ e = .returned (.tuple #[.int .i64 m, .bool true])) ∧ Below w.heap.size w w' := by
  have hl := Lib.hid (len_any S)
  have hlp := List.length_pos_iff.2 hne
  have h0 : ((l.length : Int) == 0) = false := by simp; omega
  obtain ⟨mo, hbl⟩ := S.blk
  have c0 : w.cell? ⟨sb, 0, none⟩ = some (.map (some bm)) := blk_cell hbl 0
  have hown := S.map
  go_enter Tryd.func27, Tryd.ntmps27
  go_wp2_with (first
    | (go_at_call 29; refine hl.out.mono ?_; rintro e w' ⟨rfl, hw⟩; obtain rfl := hw.symm)
    | (at_range; refine wpList_range_own _ rfl _ 53 rfl 3 57 law Tryd.underlying53 _ bm _ _ rfl hown ?_; intro w1 hrg0 hg0 hs0)
    | go_in)
  go_frame
  have hb1 : Below w.heap.size w w1 := (Below.refl _ w).grown hg0 (Nat.le_refl _) (fun k e => by cases e)
  have hss := S.lts
  have hsm := S.ltm
  clear hown hg0 hs0 hl
  generalize hr : w.heap.size = r at *
  go_loopw [4, 5] (fun x _ wr => ∃ (left : Lit → Bool) (cnt : Nat) (y : Int), wr.ranges Tryd.prog 3 elemU bm r (size D) D left cnt ∧ Below r w wr ∧ x = .int .i64 y ∧
      ((y = -1 ∧ ∀ k : Nat, has D (key k) = true → left (key k) = true) ∨ ∃ k0 : Nat, y = k0 ∧ k0 < 144115188075855872 ∧ has D (key k0) = true ∧ ∀ k : Nat, has D (key k) = true → left (key k) = false → k0 ≤ k))
    (fun _ _ wr => wr.rangeLeft bm r)
  case atStart =>
    exact ⟨_, _, -1, hrg0, hb1, rfl, Or.inl ⟨rfl, fun k h => h⟩⟩
  case round =>
    obtain ⟨left, cnt, y, hrg, hb, rfl, hy⟩ := hrel
    clear hrg0 hb1
    have hy2 := Lib.hid hy
    clear hy
    go_wp2_with (first
      | (at_next; refine wpList_next_ranges_ii _ rfl _ rfl 3 57 .i64 .u64 law Tryd.underlying3 Tryd.underlying57 bm r (size D) _ _ _ rfl hrg ?_ ?_)
      | go_in)
    · intro hc0 hl0
      rcases hy2.out with ⟨_, h1⟩ | ⟨k0, rfl, hk0, hh0, h1⟩
      · obtain ⟨n, hn⟩ := List.exists_mem_of_ne_nil l hne
        have := h1 _ (S.words.has_of_mem hn)
        rw [hl0] at this
        cases this
      · have S2 := S.below (hr ▸ hb)
        have G2 : Gl wr := G.below hb (hr ▸ G.lt)
        obtain ⟨c, hbc, h2, h3⟩ := S.words.word k0
        rw [hh0] at h2
        have hc : c ≠ 0 := of_decide_eq_true h2.symm
        have hmin := min_of S.words hbc hc (fun k hk => h1 k hk (hl0 _))
        have hlook := S2.look hbc (by omega)
        have htz := Lib.hid (tz G2.tab hbc.1)
        have hlt := hmin.2
        replace hmin := Lib.hid hmin.1
        obtain ⟨m2, hbl2⟩ := S2.blk
        have d0 : wr.cell? ⟨sb, 0, none⟩ = some (.map (some bm)) := blk_cell hbl2 0
        generalize Lib.ctz 64 c = t at *
        clear h1 h2 h3 hy2 hc hl0 hh0 hbl2 hbl c0
        go_wp2_with (go_at_call 38; refine htz.out.mono ?_; rintro e w3 ⟨rfl, hw⟩; obtain rfl := hw.symm)
        go_ret2
        exact ⟨⟨64 * k0 + t, hmin.out, by rw [show ((64 * k0 + t : Nat) : Int) = (k0 : Int) * 64 + (t : Int) by omega]; rfl⟩, by rw [hr]; exact hb⟩
    · intro x c w2 cnt1 hwx hwc hlx hat hrg1 hlt hg1 hs1 hen
      have hb2 : Below r w w2 := hb.grown hg1 (hr ▸ hb.size) (fun k e => by simp at e; omega)
      obtain ⟨k, d, rfl, rfl, hbd, hd0, hk⟩ := entry_word S.words S.small hat
      have hhk : has D (key k) = true := has_true_of_atKey hat
      clear hbd hat hwx hwc hlx hs1
      rcases hy2.out with ⟨rfl, h1⟩ | ⟨k0, rfl, hk0, hh0, h1⟩
      · replace h1 := Lib.hid h1
        clear hy2
        go_wp2_with fail
        go_roundw
        case rel =>
          refine ⟨_, cnt1, _, hrg1, hb2, rfl, Or.inr ⟨k, rfl, hk, hhk, fun k' hk' hl' => ?_⟩⟩
          rcases strike_key.1 hl' with h | h
          · rw [h1.out k' hk'] at h; cases h
          · omega
        case measure => rw [hrg1.left_eq, hrg.left_eq]; exact hlt
      · replace h1 := Lib.hid h1
        have hd1 : decide ((k0 : Int) < 0) = false := by simp
        clear hy2
        by_cases hkk : k < k0
        · have hd2 : decide ((k : Int) < (k0 : Int)) = true := by simp; omega
          have hd3 : decide (k < k0) = true := by simp; omega
          go_wp2_with fail
          go_roundw
          case rel =>
            refine ⟨_, cnt1, _, hrg1, hb2, rfl, Or.inr ⟨k, rfl, hk, hhk, fun k' hk' hl' => ?_⟩⟩
            rcases strike_key.1 hl' with h | h
            · have := h1.out k' hk' h; omega
            · omega
          case measure => rw [hrg1.left_eq, hrg.left_eq]; exact hlt
        · have hd2 : decide ((k : Int) < (k0 : Int)) = false := by simp; omega
          have hd3 : decide (k < k0) = false := by simp; omega
          go_wp2_with fail
          go_roundw
          case rel =>
            refine ⟨_, cnt1, _, hrg1, hb2, rfl, Or.inr ⟨k0, rfl, hk0, hh0, fun k' hk' hl' => ?_⟩⟩
            rcases strike_key.1 hl' with h | h
            · exact h1.out k' hk' h
            · omega
          case measure => rw [hrg1.left_eq, hrg.left_eq]; exact hlt
end
end Go.Proofs.YtdpbbgfceagofaaDoor
