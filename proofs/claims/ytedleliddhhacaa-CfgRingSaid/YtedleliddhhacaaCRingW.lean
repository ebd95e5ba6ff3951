/- The law CfgRing, walked. -/
import Derived.Test.YtedleliddhhacaaCRing
import Derived.Test.YtedleliddhhacaaCOwnW
namespace Go.Proofs.Ytedleliddhhacaa
open Go.RowKit Go.Maps

theorem infoBlk : (Try.prog.info? 44).map (fun i => (i.zero, i.size, i.bytes)) = some (some (.agg #[.string ⟨#[]⟩, .slice none 0 0]), 2, 40) := by kernel_rfl
/-- The blocks' cells, without their code. -/
def rawC (j : Nat) : List Value := (List.range j).flatMap fun i => [.string (nameB i), .slice none 0 0]
theorem rawC_succ (j : Nat) : rawC (j + 1) = rawC j ++ [.string (nameB j), .slice none 0 0] := by simp [rawC, List.range_succ]
theorem rawC_len : ∀ j, (rawC j).length = j * 2
  | 0 => rfl
  | j + 1 => by rw [rawC_succ, List.length_append, rawC_len j]; simp; omega
structure Ring1 (w wr : World) (S j : Nat) (v : Value) : Prop where
  blk : wr.heap[S]? = some (.cells #[.string b0, .slice none 0 0, v] 32 (0, 0))
  row : wr.ownsRow (S + 1) 44 2 v j (rawC j)
  low : Below w.heap.size w wr

theorem Ring1.next {w wr w1 w2 : World} {S j c gg cap : Nat} {a : Option Addr} (R : Ring1 w wr S j (.slice a j c)) (hSw : w.heap.size ≤ S) (hb1 : Below wr.heap.size wr w1)
    (hown : w2.ownsRow (S + 1) 44 2 (.slice (some ⟨gg, 0, none⟩) (j + 1) cap) (j + 1) (rawC j ++ [.string (nameB j), .slice none 0 0]))
    (hgrow : (w1.alloc (.cells #[.string (nameB j), .slice none 0 0] 44)).grownBy w2 (Value.slice a j c).ownBlock) :
    Ring1 w (w2.setCell ⟨S, 2, none⟩ (.slice (some ⟨gg, 0, none⟩) (j + 1) cap)) S (j + 1) (.slice (some ⟨gg, 0, none⟩) (j + 1) cap) := by
  have hSl : S < wr.heap.size := (Array.getElem?_eq_some_iff.1 R.blk).1
  have hs1 := hb1.size
  have hb := (hgrow.block S (by simp; omega) (fun e => by have := (R.row.lt S e.symm).1; omega)).trans ((at_oldC ((hb1.block S hSl).trans R.blk)))
  refine ⟨by rw [blk_set _ hb]; rfl, ?_, ?_⟩
  · rw [rawC_succ]
    exact ownsRow_setCell_below hown (a := ⟨S, 2, none⟩) (show S < S + 1 by omega) _
  · have h1 : Below w.heap.size w w1 := R.low.trans (hb1.mono R.low.size)
    exact ((h1.alloc h1.size _).grown hgrow (by have := h1.size; simp; omega) (fun b e => by have := (R.row.lt b e).1; omega)).setCell (show w.heap.size ≤ S from hSw) _

/-- An instruction in a block of its own. -/
def InsAt (wr : World) (g C : Nat) (vl : Value) (d : Ins) : Prop :=
  C ≠ g ∧ wr.heap[C]? = some (.cells (insV d (.slice none 0 0) vl).toArray 25 (0, 0)) ∧ d.args = [] ∧
    ((d.labels = [] ∧ vl = .slice none 0 0) ∨ ∃ D s, d.labels = [s] ∧ D ≠ g ∧ vl = .slice (some ⟨D, 0, none⟩) 1 1 ∧ wr.heap[D]? = some (.cells #[.string s] 9 (0, 0)))
theorem InsAt.kept {wr w' : World} {g C : Nat} {vl : Value} {d : Ins} (h : InsAt wr g C vl d) (hT : Touch wr w' (fun b => b = g)) : InsAt w' g C vl d := by
  obtain ⟨h1, h2, h3, h4⟩ := h
  refine ⟨h1, (hT.block C (Array.getElem?_eq_some_iff.1 h2).1 h1).trans h2, h3, h4.imp id ?_⟩
  rintro ⟨D, s, e1, e2, e3, e4⟩
  exact ⟨D, s, e1, e2, e3, (hT.block D (Array.getElem?_eq_some_iff.1 e4).1 e2).trans e4⟩
theorem InsAt.rd {wr : World} {g C : Nat} {vl : Value} {d : Ins} (h : InsAt wr g C vl d) : RdE 8 RdIns wr (.slice (some ⟨C, 0, none⟩) 1 1) [d] := by
  obtain ⟨h1, h2, h3, h4⟩ := h
  refine rde_oneC h2 ⟨_, _, rfl, by rw [h3]; exact rd_none _, ?_⟩ rfl
  rcases h4 with ⟨e1, rfl⟩ | ⟨D, s, e1, -, rfl, e4⟩
  · rw [e1]; exact rd_none _
  · rw [e1]; exact rd_ofC (f := Value.string) (l := [s]) (t := 9) rfl e4

/-- The ring, of which j blocks have their code. -/
structure Ring2 (w wr : World) (S g k c tb j : Nat) : Prop where
  blk : wr.heap[S]? = some (.cells #[.string b0, .slice none 0 0, .slice (some ⟨g, 0, none⟩) k c] 32 (0, 0))
  row : ∃ arr : Array Value, wr.heap[g]? = some (.cells arr 44 (0, 0)) ∧ k * 2 ≤ arr.size ∧ (∀ i, i < k → arr[i * 2]? = some (.string (nameB i))) ∧ ∀ i, i < j → ∃ C vl, arr[i * 2 + 1]? = some (.slice (some ⟨C, 0, none⟩) 1 1) ∧ InsAt wr g C vl (ringI k tb i)
  low : Below w.heap.size w wr
  gS : S < g
theorem raw_at : ∀ (k i : Nat), i < k → (rawC k)[i * 2]? = some (.string (nameB i))
  | 0, i, h => by omega
  | k + 1, i, h => by
    have hl := rawC_len k
    rw [rawC_succ]
    by_cases hi : i < k
    · rw [List.getElem?_append_left (by omega)]; exact raw_at k i hi
    · obtain rfl : i = k := by omega
      rw [List.getElem?_append_right (by omega), hl, Nat.sub_self]; rfl
theorem Ring1.two {w wr : World} {S k c g tb : Nat} (R : Ring1 w wr S k (.slice (some ⟨g, 0, none⟩) k c)) : Ring2 w wr S g k c tb 0 := by
  refine ⟨R.blk, ?_, R.low, by have := (R.row.lt g rfl).1; omega⟩
  obtain ⟨h0, ⟨e, _⟩ | ⟨g', cap', cur, e, hB, hg, hn, hc, hs, hx⟩⟩ := R.row
  · cases e
  · simp only [Value.slice.injEq, Option.some.injEq, Addr.mk.injEq] at e
    obtain ⟨⟨rfl, -, -⟩, -, rfl⟩ := e
    refine ⟨cur, hg, by rw [hs]; exact Nat.mul_le_mul_right _ hn, fun i hi => ?_, fun i hi => absurd hi (by omega)⟩
    have h1 := raw_at k i hi
    rw [← hx, List.getElem?_take] at h1
    split at h1
    · simpa using h1
    · cases h1
theorem Ring2.next {w wr wZ : World} {S g k c tb j C : Nat} {vl : Value} (R : Ring2 w wr S g k c tb j) (hSw : w.heap.size ≤ S) (hj : j < k) (hb : Below wr.heap.size wr wZ) (hC : InsAt wZ g C vl (ringI k tb j)) :
    Ring2 w (wZ.setCell ⟨g, j * 2 + 1, none⟩ (.slice (some ⟨C, 0, none⟩) 1 1)) S g k c tb (j + 1) := by
  obtain ⟨arr, h1, h2, h3, h4⟩ := R.row
  have hgl := (Array.getElem?_eq_some_iff.1 h1).1
  have hSl := (Array.getElem?_eq_some_iff.1 R.blk).1
  have h1' := (hb.block g hgl).trans h1
  have hgS := R.gS
  have hT : Touch wZ (wZ.setCell ⟨g, j * 2 + 1, none⟩ (.slice (some ⟨C, 0, none⟩) 1 1)) (fun b => b = g) := (Touch.refl wZ (fun b => b = g)).setCell (a := ⟨g, j * 2 + 1, none⟩) (fun _ => rfl) _
  refine ⟨(hT.block S (Nat.lt_of_lt_of_le hSl hb.size) (by omega)).trans ((hb.block S hSl).trans R.blk), ?_, (R.low.trans (hb.mono R.low.size)).setCell (show w.heap.size ≤ g by omega) _, hgS⟩
  refine ⟨arr.setIfInBounds (j * 2 + 1) (.slice (some ⟨C, 0, none⟩) 1 1), blk_set _ h1', by simpa using h2, fun i hi => ?_, fun i hi => ?_⟩
  · rw [Array.getElem?_setIfInBounds_ne (by omega)]
    exact h3 i hi
  · by_cases hij : i = j
    · subst hij
      exact ⟨C, vl, by rw [Array.getElem?_setIfInBounds_self_of_lt (by omega)], hC.kept hT⟩
    · obtain ⟨C', vl', e1, e2⟩ := h4 i (by omega)
      refine ⟨C', vl', by rw [Array.getElem?_setIfInBounds_ne (by omega)]; exact e1, (e2.kept (Touch.of_below hb _)).kept hT⟩
theorem Ring2.rd {w wr : World} {S g k c tb : Nat} (R : Ring2 w wr S g k c tb k) : RdFun wr [.string b0, .slice none 0 0, .slice (some ⟨g, 0, none⟩) k c] (ringF k tb) := by
  obtain ⟨arr, h1, h2, h3, h4⟩ := R.row
  refine ⟨_, _, rfl, rd_none _, .inr ⟨g, 0, c, by rw [ring_len], (Array.getElem?_eq_some_iff.1 h1).1, fun i d hd => ?_⟩⟩
  have hi : i < k := by have := (List.getElem?_eq_some_iff.1 hd).1; rwa [ring_len] at this
  rw [ring_at hi] at hd
  obtain rfl := Option.some.inj hd
  obtain ⟨C, vl, e1, e2⟩ := h4 i hi
  refine ⟨[.string (nameB i), .slice (some ⟨C, 0, none⟩) 1 1], ⟨_, rfl, e2.rd⟩, rfl, fun j u hu => ?_⟩
  rw [blk_cell h1, Nat.zero_add]
  match j, hu with
  | 0, hu => simp at hu; subst hu; exact h3 i hi
  | 1, hu => simp at hu; subst hu; exact e1
  | j + 2, hu => simp at hu

/-- A block that goes on has its code. -/
theorem goto_next {w wr w1 : World} {S g k c tb j : Nat} {s : ByteArray} (R : Ring2 w wr S g k c tb j) (hSw : w.heap.size ≤ S) (hj : j < k) (hb : Below wr.heap.size wr w1) (hg : g < w1.heap.size) (hI : ringI k tb j = insGoto [s]) :
    Ring2 w ((((w1.alloc (.cells #[.string s] 9)).alloc (.cells #[.int .u8 13, .string ⟨#[]⟩, .string ⟨#[]⟩, .string ⟨#[]⟩, .int .i64 0, .string ⟨#[]⟩, .slice none 0 0, .slice (some ⟨w1.heap.size, 0, none⟩) 1 1] 25)).alloc (.cells #[.int .u8 13, .string ⟨#[]⟩, .string ⟨#[]⟩, .string ⟨#[]⟩, .int .i64 0, .string ⟨#[]⟩, .slice none 0 0, .slice (some ⟨w1.heap.size, 0, none⟩) 1 1] 25)).setCell ⟨g, j * 2 + 1, none⟩ (.slice (some ⟨w1.heap.size + 1 + 1, 0, none⟩) 1 1)) S g k c tb (j + 1) := by
  refine R.next hSw hj (wZ := ((w1.alloc (.cells #[.string s] 9)).alloc (.cells #[.int .u8 13, .string ⟨#[]⟩, .string ⟨#[]⟩, .string ⟨#[]⟩, .int .i64 0, .string ⟨#[]⟩, .slice none 0 0, .slice (some ⟨w1.heap.size, 0, none⟩) 1 1] 25)).alloc (.cells #[.int .u8 13, .string ⟨#[]⟩, .string ⟨#[]⟩, .string ⟨#[]⟩, .int .i64 0, .string ⟨#[]⟩, .slice none 0 0, .slice (some ⟨w1.heap.size, 0, none⟩) 1 1] 25)) (vl := .slice (some ⟨w1.heap.size, 0, none⟩) 1 1) (((hb.alloc hb.size _).alloc (by have := hb.size; simp; omega) _).alloc (by have := hb.size; simp; omega) _) ?_
  rw [hI]
  exact ⟨by omega, at_newC (by simp), rfl, .inr ⟨w1.heap.size, s, rfl, by omega, rfl, at_oldC (at_oldC (at_newC rfl))⟩⟩

set_option maxRecDepth 20000 in
set_option maxHeartbeats 8000000 in
theorem cfgRing_any {w : World} {n0 k0 : Int} (h0 : 0 ≤ n0 ∧ n0 < 256) (h1 : 0 ≤ k0 ∧ k0 < 256) :
    Calls Try.prog 5 #[.int .u8 n0, .int .u8 k0] w fun e w' => e = .returned (.bool true) ∧ Below w.heap.size w w' := by
  obtain ⟨k, hk⟩ : ∃ k : Nat, (k : Int) = 1 + n0 % 40 := ⟨(1 + n0 % 40).toNat, by omega⟩
  obtain ⟨tb, htb⟩ : ∃ t : Nat, (t : Int) = k0 % ((k : Int) + 1) := ⟨(k0 % ((k : Int) + 1)).toNat, by have := Int.emod_nonneg k0 (b := (k : Int) + 1) (by omega); omega⟩
  have hk40 : k ≤ 40 ∧ 1 ≤ k := by omega
  have htk : tb ≤ k := by have := Int.emod_lt_of_pos k0 (b := (k : Int) + 1) (by omega); omega
  have e1 : n0.tmod 40 = n0 % 40 := Int.tmod_eq_emod_of_nonneg h0.1
  have e2 : 1 + n0 % 40 = (k : Int) := hk.symm
  have e3 : k0.tmod ((k : Int) + 1) = (tb : Int) := by rw [Int.tmod_eq_emod_of_nonneg h1.1]; exact htb.symm
  have hmod : 0 ≤ n0 % 40 ∧ n0 % 40 < 40 := by omega
  have e4 : ((k : Int) + 1 == 0) = false := by simp; omega
  replace hk := Lib.hid hk
  replace htb := Lib.hid htb
  go_enter Try.func5, Try.ntmps5
  go_wp2_with fail
  have hs1 : Ring1 w (w.alloc (.cells #[.string ⟨#[]⟩, .slice none 0 0, .slice none 0 0] 32)) w.heap.size 0 (.slice none 0 0) := ⟨at_newC rfl, World.ownsRow_nil _ _ _ _, (Below.refl _ _).alloc (Nat.le_refl _) _⟩
  obtain ⟨S, hS⟩ : ∃ S, S = w.heap.size := ⟨_, rfl⟩
  rw [← hS] at hs1 ⊢
  have hSw : w.heap.size ≤ S := by omega
  generalize (w.alloc (.cells #[.string ⟨#[]⟩, .slice none 0 0, .slice none 0 0] 32)) = w0 at hs1 ⊢
  replace hS := Lib.hid hS
  replace hs1 := Lib.hid hs1
  obtain ⟨i0, hi0, hz0, hz1, hz2⟩ := info_parts infoBlk
  go_loopw [8] (fun i wr => ∃ (j : Nat) (v : Value), j ≤ k ∧ i = .int .i64 j ∧ Hid (Ring1 w wr S j v)) (fun i _ => k - (intOf i).toNat)
  case atStart => exact ⟨0, _, Nat.zero_le _, rfl, hs1⟩
  case round =>
    clear hs1
    obtain ⟨j, v, hj, rfl, hR⟩ := hrel
    by_cases hlt : j < k
    · have i1 : (j : Int) < (k : Int) := by omega
      obtain ⟨a, c, rfl⟩ := own_form hR.out.row
      have hrow := hR.out.row
      have hSl : S < wr.heap.size := (Array.getElem?_eq_some_iff.1 hR.out.blk).1
      have c2 : wr.cell? ⟨S, 2, none⟩ = some (.slice a j c) := by rw [blk_cell hR.out.blk]; rfl
      have f2 : wr.frozen? ⟨S, 2, none⟩ = false := by simp [World.frozen?, hR.out.blk]
      have hlow := hR.out.low
      have hne : (Value.slice a j c).ownBlock ≠ some S := fun e => by have := (hrow.lt S e).1; omega
      have hsz := hlow.size
      go_wp2_with fail
      go_region_law (first
        | (go_simp; go_at_call 16; refine (name_any (i := j) (by omega)).mono ?_; rintro e w1 ⟨rfl, hb1⟩; have r2 := (hb1.cell (p := ⟨S, 2, none⟩) hSl).trans c2; have hrow2 := ownsRow_touch (hrow.drew) (Touch.of_below hb1 (fun _ => False)) (fun _ _ h => h); have hzw : wr.heap.size ≤ w1.heap.size := hb1.size; have q2 : ∀ o, (w1.alloc o).cell? ⟨S, 2, none⟩ = some (.slice a j c) := fun o => (World.cell?_alloc_past _ _ _ (by omega)).trans r2; have g2 : ∀ o, (w1.alloc o).frozen? ⟨S, 2, none⟩ = false := fun o => (World.frozen?_alloc_past _ _ _ (by omega)).trans ((hb1.frozen (p := ⟨S, 2, none⟩) hSl).trans f2); go_simp)
        | (refine step_append_lies _ (by rfl) _ _ _ (by rfl) (S + 1) 44 i0 _ 2 40 Try.underlying30 hi0 hz0 hz1 hz2 rfl (by omega) (.slice a j c) j _ (by rfl) (hrow2.alloc _) ⟨w1.heap.size, 0, none⟩ 1 1 [.string (nameB j), .slice none 0 0] (by rfl) (by rfl) (World.news_of_block (cs := #[.string (nameB j), .slice none 0 0]) (t := 44) (fr := (0, 0)) (heap_alloc_new w1 _)) (by simp [Value.oneCell']) (by omega) (by unfold maxLen; omega) (by omega) (by simp; omega) (w1.heap.size + 1) (by simp) ?_
           intro gg cap' w2 hown2 hgrow hat hlt2
           have t2 : w2.cell? ⟨S, 2, none⟩ = some (.slice a j c) := (hgrow.cell_far ⟨S, 2, none⟩ (by simp; omega) (Ne.symm hne)).trans (q2 _)
           have u2 : w2.frozen? ⟨S, 2, none⟩ = false := (hgrow.frozen_far ⟨S, 2, none⟩ (by simp; omega) (Ne.symm hne)).trans (g2 _)))
      all_goals
        have hfin := Lib.hid (hR.out.next hSw ⟨hb1.os, hb1.tape, hb1.output, hb1.size, hb1.block⟩ hown2 hgrow)
        clear hown2 hgrow hat hrow2 hrow t2 u2
        go_wp2_with fail
        exact ⟨⟨j + 1, _, by omega, by go_num, hfin⟩, by simp [intOf]; omega⟩
    · obtain rfl : j = k := by omega
      have i1 : decide ((j : Int) < (j : Int)) = false := by simp
      obtain ⟨g, c, e⟩ := row_form hR.out.row (by omega)
      subst e
      have hR2 := Lib.hid (hR.out.two (tb := tb))
      clear hR
      go_wp2_with fail
      go_loopw [9, 10] (fun i _ wr => ∃ q : Nat, q ≤ j ∧ i = .int .i64 q ∧ Hid (Ring2 w wr S g j c tb q)) (fun i _ _ => j - (intOf i).toNat)
      case atStart => exact ⟨0, Nat.zero_le _, rfl, hR2⟩
      case round =>
        clear hR2
        obtain ⟨q, hq, rfl, hR⟩ := hrel
        by_cases hltq : q < j
        · have i1 : (q : Int) < (j : Int) := by omega
          have hblk := hR.out.blk
          have hSl : S < wr.heap.size := (Array.getElem?_eq_some_iff.1 hblk).1
          obtain ⟨arr, ha, hal, -, -⟩ := hR.out.row
          have hgl : g < wr.heap.size := (Array.getElem?_eq_some_iff.1 ha).1
          have hN := Lib.hid (name_any (w := wr) (i := q + 1) (by omega))
          obtain ⟨y, hy⟩ : ∃ y, arr[q * 2 + 1]? = some y := ⟨_, Array.getElem?_eq_getElem (by omega)⟩
          have hcS : Hid (∀ wx : World, Below wr.heap.size wr wx → wx.cell? ⟨S, 2, none⟩ = some (.slice (some ⟨g, 0, none⟩) j c) ∧ wx.cell? ⟨g, q * 2 + 1, none⟩ = some y ∧ wx.frozen? ⟨g, q * 2 + 1, none⟩ = false ∧ S < wx.heap.size ∧ g < wx.heap.size) := Lib.hid (fun wx hb => by
            have b1 := (hb.block S hSl).trans hblk
            have b2 := (hb.block g hgl).trans ha
            exact ⟨by rw [blk_cell b1]; rfl, by rw [blk_cell b2]; exact hy, by simp [World.frozen?, b2], Nat.lt_of_lt_of_le hSl hb.size, Nat.lt_of_lt_of_le hgl hb.size⟩)
          clear hy ha hblk
          by_cases hlast : q + 1 = j
          · have d1 : ((q : Int) == (j : Int) - 1) = true := by simp; omega
            replace hlast := Lib.hid hlast
            go_upto_region 12 with (go_at_call 16; refine hN.out.mono ?_; rintro e w1 ⟨rfl, hb1⟩)
            have hb2 : Below wr.heap.size wr ((w1.alloc (.cells #[.string (nameB (q + 1))] 9)).alloc (.cells #[.int .u8 13, .string ⟨#[]⟩, .string ⟨#[]⟩, .string ⟨#[]⟩, .int .i64 0, .string ⟨#[]⟩, .slice none 0 0, .slice (some ⟨w1.heap.size, 0, none⟩) 1 1] 25)) := ((hb1.alloc hb1.size _).alloc (by have := hb1.size; simp; omega) _)
            have hI2 : ((w1.alloc (.cells #[.string (nameB (q + 1))] 9)).alloc (.cells #[.int .u8 13, .string ⟨#[]⟩, .string ⟨#[]⟩, .string ⟨#[]⟩, .int .i64 0, .string ⟨#[]⟩, .slice none 0 0, .slice (some ⟨w1.heap.size, 0, none⟩) 1 1] 25)).heap[w1.heap.size + 1]? = some (.cells #[.int .u8 13, .string ⟨#[]⟩, .string ⟨#[]⟩, .string ⟨#[]⟩, .int .i64 0, .string ⟨#[]⟩, .slice none 0 0, .slice (some ⟨w1.heap.size, 0, none⟩) 1 1] 25 (0, 0)) := at_newC (by simp)
            generalize ((w1.alloc (.cells #[.string (nameB (q + 1))] 9)).alloc (.cells #[.int .u8 13, .string ⟨#[]⟩, .string ⟨#[]⟩, .string ⟨#[]⟩, .int .i64 0, .string ⟨#[]⟩, .slice none 0 0, .slice (some ⟨w1.heap.size, 0, none⟩) 1 1] 25)) = w2 at hb2 hI2 ⊢
            have hgI : g < w1.heap.size + 1 := by have := hb1.size; omega
            have hSI : S < w1.heap.size + 1 := by have := hb1.size; omega
            have hwI : wr.heap.size ≤ w1.heap.size + 1 := by have := hb1.size; omega
            obtain ⟨D, hD⟩ : ∃ D, D = w1.heap.size := ⟨_, rfl⟩
            rw [← hD] at hI2 hgI hSI hwI ⊢
            clear hN hb1 hD
            go_wp2_with fail
            refine (name_any (i := tb) (by omega)).mono ?_
            rintro e w3 ⟨rfl, hb3⟩
            have hI3 := (hb3.block _ (Array.getElem?_eq_some_iff.1 hI2).1).trans hI2
            have hb23 := hb2.trans (hb3.mono hb2.size)
            have hIl := (Array.getElem?_eq_some_iff.1 hI3).1
            obtain ⟨v0, v1, v2, v3, v4, v5, v6, v7⟩ := cells8 hI3
            have fI : ∀ z, w3.frozen? ⟨D + 1, z, none⟩ = false := fun z => by simp [World.frozen?, hI3]
            clear hb2 hb3 hI2
            go_upto_region 14 with fail
            have hbs : Below wr.heap.size wr ((w3.setCell ⟨D + 1, 7, none⟩ (.slice (some ⟨w3.heap.size, 0, none⟩) 1 1)).alloc (.cells #[.string (nameB tb)] 9)) := (hb23.setCell (show wr.heap.size ≤ D + 1 from hwI) _).alloc (by have := hb23.size; simp [World.setCell]; omega) _
            have hI4 : ((w3.setCell ⟨D + 1, 7, none⟩ (.slice (some ⟨w3.heap.size, 0, none⟩) 1 1)).alloc (.cells #[.string (nameB tb)] 9)).heap[D + 1]? = some (.cells #[.int .u8 13, .string ⟨#[]⟩, .string ⟨#[]⟩, .string ⟨#[]⟩, .int .i64 0, .string ⟨#[]⟩, .slice none 0 0, .slice (some ⟨w3.heap.size, 0, none⟩) 1 1] 25 (0, 0)) := by
              refine at_oldC ?_
              rw [blk_set _ hI3]; rfl
            have hD4 : ((w3.setCell ⟨D + 1, 7, none⟩ (.slice (some ⟨w3.heap.size, 0, none⟩) 1 1)).alloc (.cells #[.string (nameB tb)] 9)).heap[w3.heap.size]? = some (.cells #[.string (nameB tb)] 9 (0, 0)) := by
              exact at_newC (by simp [World.setCell])
            have hgD : g < w3.heap.size := Nat.lt_of_lt_of_le hgl hb23.size
            clear v0 v1 v2 v3 v4 v5 v6 v7 fI hI3
            generalize ((w3.setCell ⟨D + 1, 7, none⟩ (.slice (some ⟨w3.heap.size, 0, none⟩) 1 1)).alloc (.cells #[.string (nameB tb)] 9)) = w4 at hbs hI4 hD4 ⊢
            obtain ⟨E, hE⟩ : ∃ E, E = w3.heap.size := ⟨_, rfl⟩
            rw [← hE] at hI4 hD4 hgD ⊢
            clear hb23 hIl hE
            have hIl := (Array.getElem?_eq_some_iff.1 hI4).1
            obtain ⟨v0, v1, v2, v3, v4, v5, v6, v7⟩ := cells8 hI4
            by_cases htj : tb = j
            · have d2 : ((tb : Int) == (j : Int)) = true := by simp; omega
              have hI : ringI j tb q = insRet := by rw [ringI, if_pos hlast.out, if_pos htj]
              have fI : ∀ z, w4.frozen? ⟨D + 1, z, none⟩ = false := fun z => by simp [World.frozen?, hI4]
              clear hlast
              go_upto_region 16 with fail
              have hb5 := (((((((hbs.setCell (p := ⟨D + 1, 0, none⟩) (show wr.heap.size ≤ D + 1 from hwI) (.int .u8 14)).setCell (p := ⟨D + 1, 1, none⟩) (show wr.heap.size ≤ D + 1 from hwI) (.string ⟨#[]⟩)).setCell (p := ⟨D + 1, 2, none⟩) (show wr.heap.size ≤ D + 1 from hwI) (.string ⟨#[]⟩)).setCell (p := ⟨D + 1, 3, none⟩) (show wr.heap.size ≤ D + 1 from hwI) (.string ⟨#[]⟩)).setCell (p := ⟨D + 1, 4, none⟩) (show wr.heap.size ≤ D + 1 from hwI) (.int .i64 0)).setCell (p := ⟨D + 1, 5, none⟩) (show wr.heap.size ≤ D + 1 from hwI) (.string ⟨#[]⟩)).setCell (p := ⟨D + 1, 6, none⟩) (show wr.heap.size ≤ D + 1 from hwI) (.slice none 0 0)).setCell (p := ⟨D + 1, 7, none⟩) (show wr.heap.size ≤ D + 1 from hwI) (.slice none 0 0)
              have hI5 := blk_set (i := 7) (.slice none 0 0) (blk_set (i := 6) (.slice none 0 0) (blk_set (i := 5) (.string ⟨#[]⟩) (blk_set (i := 4) (.int .i64 0) (blk_set (i := 3) (.string ⟨#[]⟩) (blk_set (i := 2) (.string ⟨#[]⟩) (blk_set (i := 1) (.string ⟨#[]⟩) (blk_set (i := 0) (.int .u8 14) hI4)))))))
              clear v0 v1 v2 v3 v4 v5 v6 v7 fI hI4 hD4 hbs
              generalize (World.setCell _ ⟨D + 1, 7, none⟩ (.slice none 0 0)) = w5 at hb5 hI5 ⊢
              replace hI5 : w5.heap[D + 1]? = some (.cells #[.int .u8 14, .string ⟨#[]⟩, .string ⟨#[]⟩, .string ⟨#[]⟩, .int .i64 0, .string ⟨#[]⟩, .slice none 0 0, .slice none 0 0] 25 (0, 0)) := by simpa using hI5
              obtain ⟨v0, v1, v2, v3, v4, v5, v6, v7⟩ := cells8 hI5
              have hIl5 := (Array.getElem?_eq_some_iff.1 hI5).1
              obtain ⟨cS, cG, fG, hS1, hG1⟩ := hcS.out w5 hb5
              have hbo : ∀ o, Below wr.heap.size wr (w5.alloc o) := fun o => hb5.alloc hb5.size _
              have cGo := fun o => (hcS.out _ (hbo o)).2.1
              have fGo := fun o => (hcS.out _ (hbo o)).2.2.1
              have hfin := Lib.hid (hR.out.next hSw hltq (hbo (.cells #[.int .u8 14, .string ⟨#[]⟩, .string ⟨#[]⟩, .string ⟨#[]⟩, .int .i64 0, .string ⟨#[]⟩, .slice none 0 0, .slice none 0 0] 25)) (C := w5.heap.size) (vl := .slice none 0 0) (by
                rw [hI]
                exact ⟨by omega, at_newC rfl, rfl, .inl ⟨rfl, rfl⟩⟩))
              rw [World.setCell_alloc_past _ _ _ _ hG1] at hfin
              clear hI cG fG
              go_wp2_with fail
              exact ⟨⟨q + 1, by omega, by go_num, hfin⟩, by simp [intOf]; omega⟩
            · have d2 : ((tb : Int) == (j : Int)) = false := by simp; omega
              have hI : ringI j tb q = insGoto [nameB tb] := by rw [ringI, if_pos hlast.out, if_neg htj]
              obtain ⟨cS, cG, fG, hS1, hG1⟩ := hcS.out w4 hbs
              have hbo : ∀ o, Below wr.heap.size wr (w4.alloc o) := fun o => hbs.alloc hbs.size _
              have cGo := fun o => (hcS.out _ (hbo o)).2.1
              have fGo := fun o => (hcS.out _ (hbo o)).2.2.1
              have hfin := Lib.hid (hR.out.next hSw hltq (hbo (.cells #[.int .u8 13, .string ⟨#[]⟩, .string ⟨#[]⟩, .string ⟨#[]⟩, .int .i64 0, .string ⟨#[]⟩, .slice none 0 0, .slice (some ⟨E, 0, none⟩) 1 1] 25)) (C := w4.heap.size) (vl := .slice (some ⟨E, 0, none⟩) 1 1) (by
                rw [hI]
                exact ⟨by omega, at_newC rfl, rfl, .inr ⟨E, nameB tb, rfl, by omega, rfl, at_oldC hD4⟩⟩))
              rw [World.setCell_alloc_past _ _ _ _ hG1] at hfin
              replace hD4 := Lib.hid hD4
              clear hlast hI cG fG
              go_wp2_with fail
              exact ⟨⟨q + 1, by omega, by go_num, hfin⟩, by simp [intOf]; omega⟩
          · have d1 : ((q : Int) == (j : Int) - 1) = false := by simp; omega
            have hI : Hid (ringI j tb q = insGoto [nameB (q + 1)]) := Lib.hid (by rw [ringI, if_neg hlast])
            go_wp2_with (go_at_call 16; refine hN.out.mono ?_; rintro e w1 ⟨rfl, hb1⟩; obtain ⟨cS, cG, fG, hS1, hG1⟩ := hcS.out w1 hb1; have hb3 : ∀ o1 o2 o3, Below wr.heap.size wr (((w1.alloc o1).alloc o2).alloc o3) := (fun o1 o2 o3 => (((hb1.alloc hb1.size _).alloc (by have := hb1.size; simp; omega) _).alloc (by have := hb1.size; simp; omega) _)); have cG3 := fun o1 o2 o3 => (hcS.out _ (hb3 o1 o2 o3)).2.1; have fG3 := fun o1 o2 o3 => (hcS.out _ (hb3 o1 o2 o3)).2.2.1)
            have hfin := Lib.hid (goto_next hR.out hSw hltq hb1 hG1 hI.out)
            exact ⟨⟨q + 1, by omega, by go_num, hfin⟩, by simp [intOf]; omega⟩
        · obtain rfl : q = j := by omega
          have i1 : decide ((q : Int) < (q : Int)) = false := by simp
          have hLp := Lib.hid (loops_any hR.out.rd (ring_small (tb := tb) hk40.1))
          obtain ⟨k0', k1', k2'⟩ := cells3 hR.out.blk
          have hlow := hR.out.low
          clear hR
          go_wp2_with fail
          refine hLp.out.mono ?_
          rintro e w1 ⟨hyes, -, hb1⟩
          obtain ⟨O, rfl, hO, -⟩ := hyes (ring_ok htk)
          rw [ring_len] at hO ⊢
          have hlow1 := hlow.trans (hb1.mono hlow.size)
          have hne : ((q : Int) != (q : Int)) = false := by simp
          replace hO := Lib.hid hO
          clear hyes hLp k0' k1' k2' hb1
          go_wp2_with fail
          go_loopw [12] (fun i wr => ∃ z : Nat, z ≤ q ∧ i = .int .i64 z ∧ wr = w1) (fun i _ => q - (intOf i).toNat)
          case atStart => exact ⟨0, Nat.zero_le _, rfl, rfl⟩
          case round =>
            obtain ⟨z, hz, rfl, rfl⟩ := hrel
            by_cases hltz : z < q
            · have i2 : (z : Int) < (q : Int) := by omega
              have c5 := blk_cell hO.out z
              rw [boolA_at hltz, ring_cyc hk40.1 htk hltz] at c5
              by_cases hle : tb ≤ z
              · rw [decide_eq_true hle] at c5
                have d5 : decide ((z : Int) ≥ (tb : Int)) = true := decide_eq_true (by omega)
                go_wp2_with fail
                exact ⟨⟨z + 1, by omega, by go_num, by first | rfl | trivial⟩, by simp [intOf]; omega⟩
              · rw [decide_eq_false hle] at c5
                have d5 : decide ((z : Int) ≥ (tb : Int)) = false := decide_eq_false (by omega)
                go_wp2_with fail
                exact ⟨⟨z + 1, by omega, by go_num, by first | rfl | trivial⟩, by simp [intOf]; omega⟩
            · obtain rfl : z = q := by omega
              have i2 : decide ((z : Int) < (z : Int)) = false := by simp
              go_wp2_with fail
              refine (tells_any).mono ?_
              rintro e w2 ⟨rfl, hb2⟩
              go_wp2_with fail
              go_ret
              exact ⟨rfl, hlow1.trans (hb2.mono hlow1.size)⟩
end Go.Proofs.Ytedleliddhhacaa
