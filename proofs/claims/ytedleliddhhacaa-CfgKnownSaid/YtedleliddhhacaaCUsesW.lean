/- The law CfgUses, walked. -/
import Derived.Test.YtedleliddhhacaaCLaw
namespace Go.Proofs.Ytedleliddhhacaa
open Go.RowKit Go.Maps

theorem cells8 {w : World} {B : Nat} {t : TypeId} {fr : Nat × Nat} {x0 x1 x2 x3 x4 x5 x6 x7 : Value} (h : w.heap[B]? = some (.cells #[x0, x1, x2, x3, x4, x5, x6, x7] t fr)) :
    w.cell? ⟨B, 0, none⟩ = some x0 ∧ w.cell? ⟨B, 1, none⟩ = some x1 ∧ w.cell? ⟨B, 2, none⟩ = some x2 ∧ w.cell? ⟨B, 3, none⟩ = some x3 ∧ w.cell? ⟨B, 4, none⟩ = some x4 ∧ w.cell? ⟨B, 5, none⟩ = some x5 ∧ w.cell? ⟨B, 6, none⟩ = some x6 ∧ w.cell? ⟨B, 7, none⟩ = some x7 := by
  simp only [blk_cell h]
  exact ⟨rfl, rfl, rfl, rfl, rfl, rfl, rfl, rfl⟩

set_option maxRecDepth 20000 in
set_option maxHeartbeats 4000000 in
theorem cfgUses_any {w : World} {cs : List Value} {d : Ins} (h : RdIns w cs d) (hlab : d.labels.length ≤ maxLen) :
    Calls Try.prog 3 #[.agg cs.toArray] w fun e w' => e = .returned (.bool true) ∧ Below w.heap.size w w' := by
  obtain ⟨va, vl, rfl, ha, hl⟩ := h
  obtain ⟨aa, ca, rfl⟩ := ha.form
  obtain ⟨al, cl, rfl⟩ := hl.form
  rw [List.length_map] at ha hl
  obtain ⟨i0, hi0, hz0, hz1, hz2⟩ := info_parts infoS1
  obtain ⟨n, hn⟩ : ∃ n, n = d.args.length := ⟨_, rfl⟩
  obtain ⟨p, hp⟩ : ∃ p, p = d.labels.length := ⟨_, rfl⟩
  unfold insV
  rw [List.length_map, List.length_map]
  rw [← hn] at ha ⊢
  rw [← hp] at hl hlab ⊢
  replace hn := Lib.hid hn
  replace hp := Lib.hid hp
  replace ha := Lib.hid ha
  replace hl := Lib.hid hl
  by_cases h100 : n ≤ 100
  · have d1 : decide ((n : Int) > 100) = false := by simp; omega
    have hbe0 : ∀ a b : Array Value, Below w.heap.size w (((w.alloc (.cells a 25)).alloc (.cells b 25)).alloc (.cells #[] 9)) := fun a b => (((Below.refl _ _).alloc (Nat.le_refl _) _).alloc (by simp) _).alloc (by simp; omega) _
    have hown0 : ∀ a b : Array Value, (((w.alloc (.cells a 25)).alloc (.cells b 25)).alloc (.cells #[] 9)).ownsRow (w.heap.size + 2) 9 1 (.slice (some ⟨w.heap.size + 1 + 1, 0, none⟩) 0 0) 0 [] := fun a b => by
      have := World.ownsRow_lit (base := w.heap.size + 2) (e := 9) (size := 1) ((w.alloc (.cells a 25)).alloc (.cells b 25)) #[] 0 (by simp) (by decide) rfl
      simpa using this
    go_enter Try.func3, Try.ntmps3
    go_wp2_with (at_builtin; refine wpList_append_rd _ rfl _ _ 23 rfl (w.heap.size + 2) 9 i0 (.string ⟨#[]⟩) 16 Try.underlying23 hi0 hz0 hz1 hz2 rfl _ 0 [] rfl (hown0 _ _) _ (d.args.map Value.string) rfl (Rd.below ha.out (hbe0 _ _)) (oneStr _) (by simp [← hn.out]; unfold maxLen; omega) (by simp [← hn.out]; omega) (by simp) ?_)
    intro v' w2 hown2 hgrow hat
    have hbS : w2.heap[w.heap.size]? = some (.cells #[.int .u8 d.op, .string d.dst, .string d.a, .string d.b, .int .i64 d.n, .string d.fn, .slice aa n ca, .slice al p cl] 25 (0, 0)) := by
      rw [hgrow.block _ (by simp; omega) (by simp [Value.ownBlock]; omega)]
      exact at_oldC (at_oldC (at_newC rfl))
    have hbS1 : w2.heap[w.heap.size + 1]? = some (.cells #[.int .u8 d.op, .string d.dst, .string d.a, .string d.b, .int .i64 d.n, .string d.fn, .slice aa n ca, .slice al p cl] 25 (0, 0)) := by
      rw [hgrow.block _ (by simp) (by simp [Value.ownBlock])]
      exact at_oldC (at_newC (by simp))
    have hb2 : Below w.heap.size w w2 := (hbe0 _ _).grown hgrow (by simp; omega) (fun b e => by simp [Value.ownBlock] at e; omega)
    obtain ⟨a2, c2, rfl⟩ := own_form hown2
    have hl2 : d.args.length = n := hn.out.symm
    rw [hl2] at hown2 ⊢
    replace hl2 := Lib.hid hl2
    replace hown2 := Lib.hid hown2
    obtain ⟨c00, c01, c02, c03, c04, c05, c06, c07⟩ := cells8 hbS
    obtain ⟨c10, c11, c12, c13, c14, c15, c16, c17⟩ := cells8 hbS1
    have fz : w2.frozen? ⟨w.heap.size + 1, 6, none⟩ = false := by simp [World.frozen?, hbS1]
    have hS := hb2.size
    clear hgrow hat hown0
    go_wp2_with fail
    clear c00 c01 c02 c03 c04 c05 c06 c07 c10 c11 c12 c13 c14 c15 c16 c17 fz
    have hbS' : (w2.setCell ⟨w.heap.size + 1, 6, none⟩ (.slice a2 n c2)).heap[w.heap.size]? = some (.cells #[.int .u8 d.op, .string d.dst, .string d.a, .string d.b, .int .i64 d.n, .string d.fn, .slice aa n ca, .slice al p cl] 25 (0, 0)) := by
      rw [Below.heap_setCell _ _ _ _ (by simp)]; exact hbS
    have hbS1' : (w2.setCell ⟨w.heap.size + 1, 6, none⟩ (.slice a2 n c2)).heap[w.heap.size + 1]? = some (.cells #[.int .u8 d.op, .string d.dst, .string d.a, .string d.b, .int .i64 d.n, .string d.fn, .slice a2 n c2, .slice al p cl] 25 (0, 0)) := by
      rw [blk_set _ hbS1]; rfl
    have hb3 : Below w.heap.size w (w2.setCell ⟨w.heap.size + 1, 6, none⟩ (.slice a2 n c2)) := hb2.setCell (show w.heap.size ≤ w.heap.size + 1 by omega) _
    have hown3 := ownsRow_setCell_below hown2.out (a := ⟨w.heap.size + 1, 6, none⟩) (show w.heap.size + 1 < w.heap.size + 2 by omega) (.slice a2 n c2)
    have hsz : (w2.setCell ⟨w.heap.size + 1, 6, none⟩ (.slice a2 n c2)).heap.size = w2.heap.size := by simp [World.setCell]
    generalize (w2.setCell ⟨w.heap.size + 1, 6, none⟩ (.slice a2 n c2)) = w3 at hbS' hbS1' hb3 hown3 hsz ⊢
    have hlt1 := (Array.getElem?_eq_some_iff.1 hbS1').1
    have hI3 : RdIns w3 (insV d (.slice a2 n c2) (.slice al p cl)) d := ⟨_, _, rfl, rds_own hown3, Rd.below hl.out hb3⟩
    refine (uses_any hI3 (by rw [hl2.out]; omega)).mono ?_
    rintro e w4 ⟨v4, rfl, hO4, hb4⟩
    have hbS4 := (hb4.block _ (by omega)).trans hbS'
    have hbS14 := (hb4.block _ hlt1).trans hbS1'
    have hb4' := hb3.trans (hb4.mono hb3.size)
    have hI4 := hI3.below hb4
    have hJ4 : RdIns w4 (insV d (.slice aa n ca) (.slice al p cl)) d := ⟨_, _, rfl, Rd.below ha.out hb4', Rd.below hl.out hb4'⟩
    have hlt4 := hb4.size
    clear hbS' hbS1' hb3 hown3 hsz hI3 hbS hbS1 hown2 hb2 hS hb4
    obtain ⟨c00, c01, c02, c03, c04, c05, c06, c07⟩ := cells8 hbS4
    have hR4 : RdS w4 v4 (usesL d) := rds_own hO4
    obtain ⟨a4, c4, rfl⟩ := own_form hO4
    obtain ⟨m, hm⟩ : ∃ m, m = (usesL d).length := ⟨_, rfl⟩
    have hml : m ≤ 102 := by
      rw [hm]
      refine Nat.le_trans (List.length_filter_le _ _) ?_
      simp [hl2.out]
      omega
    rw [← hm] at hR4 ⊢
    replace hm := Lib.hid hm
    replace hR4 := Lib.hid hR4
    replace hI4 := Lib.hid hI4
    replace hJ4 := Lib.hid hJ4
    clear hO4
    go_wp2_with fail
    refine (r5uses_any hJ4.out (by rw [hl2.out]; omega)).mono ?_
    rintro e w5 ⟨v5, rfl, hO5, hb5⟩
    have hbS5 := (hb5.block _ (by omega)).trans hbS4
    have hbS15 := (hb5.block _ (by omega)).trans hbS14
    have hR5 : RdS w5 v5 (usesL d) := rds_own hO5
    obtain ⟨a5, c5, rfl⟩ := own_form hO5
    rw [← hm.out] at hR5 ⊢
    have hR45 := Lib.hid (Rd.below hR4.out hb5)
    have hI5 := Lib.hid (hI4.out.below hb5)
    have hJ5 := Lib.hid (hJ4.out.below hb5)
    have hb5' := hb4'.trans (hb5.mono hb4'.size)
    replace hR5 := Lib.hid hR5
    clear c00 c01 c02 c03 c04 c05 c06 c07 hbS4 hbS14 hO5 hI4 hJ4 hR4 hb5 hlt4 hlt1
    obtain ⟨c00, c01, c02, c03, c04, c05, c06, c07⟩ := cells8 hbS5
    obtain ⟨c10, c11, c12, c13, c14, c15, c16, c17⟩ := cells8 hbS15
    have hne : ((m : Int) != (m : Int)) = false := by simp
    clear hbS5 hbS15
    go_wp2_with fail
    refine (r5sameI_yes hI5.out hJ5.out (by rw [hl2.out]; unfold maxLen; omega) (by rw [← hp.out]; exact hlab)).mono ?_
    rintro e w6 ⟨rfl, hb6⟩
    have hR46 := Lib.hid (Rd.below hR45.out hb6)
    have hR56 := Lib.hid (Rd.below hR5.out hb6)
    have hb6' := hb5'.trans (hb6.mono hb5'.size)
    clear c00 c01 c02 c03 c04 c05 c06 c07 c10 c11 c12 c13 c14 c15 c16 c17 hb6 hR5 hR45 hI5 hJ5 hb5'
    go_wp2_with fail
    go_loopw [6] (fun i wr => ∃ k q : Nat, k ≤ m ∧ i = .int .i64 k ∧ wr = w6.drewN q) (fun i _ => m - (intOf i).toNat)
    case atStart => exact ⟨0, 0, Nat.zero_le _, rfl, rfl⟩
    case round =>
      obtain ⟨k, q, hk, rfl, rfl⟩ := hrel
      by_cases hlt : k < m
      · obtain ⟨s, hs⟩ : ∃ s, (usesL d)[k]? = some s := ⟨_, List.getElem?_eq_getElem (by rw [← hm.out]; exact hlt)⟩
        obtain ⟨b, off, cap, e, hbl, hc⟩ := Rd.at hR46.out (i := k) (u := .string s) (by simp [hs])
        obtain ⟨b', off', cap', e', hbl', hc'⟩ := Rd.at hR56.out (i := k) (u := .string s) (by simp [hs])
        simp only [Value.slice.injEq] at e e'
        obtain ⟨rfl, -, rfl⟩ := e
        obtain ⟨rfl, -, rfl⟩ := e'
        have i1 : (k : Int) < (m : Int) := by omega
        have hss : (s.toList == s.toList) = true := by simp
        clear hs
        go_wp2_with fail
        go_quiet (fail)
        go_wp2_with fail
        exact ⟨⟨k + 1, q + nq, by omega, by go_num, by first | rfl | exact World.drewN_drewN _ _ _⟩, by simp [intOf]; omega⟩
      · obtain rfl : k = m := by omega
        have i1 : decide ((k : Int) < (k : Int)) = false := by simp
        go_wp2_with fail
        refine (tells_any).mono ?_
        rintro e w7 ⟨rfl, hb7⟩
        have hb6d := below_drawn hb6' q
        go_wp2_with fail
        go_ret
        exact ⟨rfl, hb6d.trans (hb7.mono hb6d.size)⟩
  · have d1 : decide ((n : Int) > 100) = true := by simp; omega
    go_enter Try.func3, Try.ntmps3
    go_wp2_with fail
    go_ret
    exact ⟨rfl, (Below.refl _ _).alloc (Nat.le_refl _) _⟩
end Go.Proofs.Ytedleliddhhacaa
