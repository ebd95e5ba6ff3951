/- TokenLaid: the walk. -/
import Derived.Test.YtobfcbmphobmfaaDoorLaidY
namespace Go.Proofs.YtobfcbmphobmfaaDoor
open Go.RowKit Go.Shelf

set_option maxRecDepth 20000 in
set_option maxHeartbeats 8000000 in
theorem laid_law {w : World} {v : Value} {L : List Wd} {bh : Nat} (h : RdWs w v L) (hL : L.length ≤ 100) (hbh : bh < 256) : Calls Tryd.prog 5 #[v, .int .u8 bh] w fun e w' => e = .returned (.bool true) ∧ Below w.heap.size w w' := by
  have hk := Lib.hid lexes_any
  have hL' := Lib.hid (fun s (h : s.size ≤ 10000) w => lex_told s w (by unfold maxLen; omega))
  obtain ⟨av, cap, rfl, hcell⟩ := h
  replace hcell := Lib.hid hcell
  have d1 : decide ((L.length : Int) > 100) = false := by simp; omega
  have hg0 : w.alloc (.cells #[.string ⟨#[32]⟩, .string ⟨#[9]⟩, .string ⟨#[10]⟩, .string ⟨#[13, 10]⟩, .string ⟨#[32, 59, 32, 97, 32, 40, 49, 32, 45, 10]⟩, .string ⟨#[10, 10, 32]⟩, .string ⟨#[59, 10]⟩] 9) = w.alloc (.cells gapsV 9) := rfl
  replace hg0 := Lib.hid hg0
  generalize hn : L.length = n at *
  replace hn := Lib.hid hn
  go_enter Tryd.func5, Tryd.ntmps5
  go_wp2_with fail
  rw [hg0.out]
  go_loopw [6, 7, 8, 9, 10, 11, 12, 13, 14, 15, 16, 17, 18, 19, 20] (fun t want ln cl sg i _ _ _ _ _ _ _ _ _ wr => LaidRel w wr n t want ln cl sg i) (fun _ _ _ _ _ i _ _ _ _ _ _ _ _ _ _ => n - (intOf i).toNat)
  case atStart => exact ⟨0, ⟨#[]⟩, [], true, Nat.zero_le _, rfl, rfl, .nil, rfl, rfl, rfl, Nat.le_refl _, rfl, World.ownsRow_nil _ _ _ _, Below.refl _ _⟩
  case round =>
    obtain ⟨k, tx, ts, s, hkn, rfl, rfl, hl, rfl, rfl, rfl, htx, hts, hrow, hbw⟩ := hrel
    by_cases hlt : k < n
    · have i1 : (k : Int) < (n : Int) := by omega
      obtain ⟨x, hx⟩ : ∃ x, L[k]? = some x := ⟨_, List.getElem?_eq_getElem (by rw [hn.out]; exact hlt)⟩
      obtain ⟨b, off, rfl, hb, x0, x1, x2, hk1, ha1, hs1⟩ := hcell.out k x hx
      have hbl : b < w.heap.size + 1 := Nat.lt_succ_of_lt hb
      have c0 := (hbw.cell (p := ⟨b, off + k * 3, none⟩) hbl).trans ((World.cell?_alloc_past _ _ _ hb).trans x0)
      have c1 := (hbw.cell (p := ⟨b, off + k * 3 + 1, none⟩) hbl).trans ((World.cell?_alloc_past _ _ _ hb).trans x1)
      have c2 := (hbw.cell (p := ⟨b, off + k * 3 + 2, none⟩) hbl).trans ((World.cell?_alloc_past _ _ _ hb).trans x2)
      replace hl := Lib.hid hl
      replace hts := Lib.hid hts
      replace hx := Lib.hid hx
      clear x0 x1 x2
      obtain ⟨sl, sc, hsl⟩ : ∃ sl sc, Hid (spotOf tx.data.toList = (sl, sc)) := ⟨_, _, Lib.hid rfl⟩
      rw [hsl.out]
      go_upto_block 1 with fail
      refine laid_round (by kernel_rfl) hsl i1 hL hb c0 c1 c2 hk1 ha1 hs1 hl htx hts hrow hbw (Lib.hid (fun h => ?_))
      replace h := Lib.hid h
      go_wp2_with fail
      exact ⟨h.out, by simp [intOf]; omega⟩
    · obtain rfl : k = n := by omega
      have htx0 : tx.size ≤ 6000 := by omega
      have hsb := spotL_le (1, 1) tx.data.toList
      obtain ⟨p1, p2, hp⟩ : ∃ p1 p2, Hid (spotOf tx.data.toList = (p1, p2)) := ⟨_, _, Lib.hid rfl⟩
      rw [show spotL (1, 1) tx.data.toList = (p1, p2) from hp.out, size_list] at hsb
      simp only at hsb
      obtain ⟨hsb1, hsb2⟩ := hsb
      rw [hp.out]
      simp only
      obtain ⟨bq, hbq⟩ : ∃ bq, Hid (decide (bh % 2 = 1) = bq) := ⟨_, Lib.hid rfl⟩
      have e1 : ((bh : Int) % 2 == 1) = bq := by rw [← hbq.out, Bool.eq_iff_iff]; simp; omega
      obtain ⟨i0, hi0, hz0, hz1, hz2⟩ := info_parts infoTok
      replace hl := Lib.hid hl
      -- with or without a comment behind
      obtain ⟨ty, c2, hty, hlex, htys, hc2⟩ : ∃ (ty : ByteArray) (c2 : Nat), Hid (ty = bif bq then tx ++ ⟨#[59, 32, 120]⟩ else tx) ∧ Hid (lex ty.data.toList 1 1 = .ok (ts ++ [⟨4, [], 0, p1, c2⟩])) ∧ ty.size ≤ 6003 ∧ Hid (c2 = bif bq then p2 + 3 else p2) := by
        cases bq
        · refine ⟨tx, p2, Lib.hid rfl, Lib.hid ?_, by omega, Lib.hid rfl⟩
          have := laid_end hl.out
          rw [hp.out] at this
          exact this
        · refine ⟨tx ++ ⟨#[59, 32, 120]⟩, p2 + 3, Lib.hid rfl, Lib.hid ?_, ?_, Lib.hid rfl⟩
          · have := laid_note hl.out
            rw [hp.out] at this
            rw [show (tx ++ (⟨#[59, 32, 120]⟩ : ByteArray)).data.toList = tx.data.toList ++ [59, 32, 120] from by simp]
            exact this
          · rw [← size_list, show (tx ++ (⟨#[59, 32, 120]⟩ : ByteArray)).data.toList = tx.data.toList ++ [59, 32, 120] from by simp, List.length_append, size_list]; simp; omega
      have hts' : ts.length ≤ 100 := by omega
      cases bq with
      | false =>
        go_upto_region 51 with fail
        have hty' : ty = tx := hty.out
        have hc2' : p2 = c2 := hc2.out.symm
        rw [← hty', hc2']
        clear hty' hc2'
        clear hty hc2 e1
        go_wp2_with (at_builtin; refine wpList_append_own_at _ rfl _ _ 22 rfl (w.heap.size + 1) 34 i0 _ 5 48 Tryd.underlying22 hi0 hz0 hz1 hz2 rfl (by decide) _ _ _ rfl (hrow.alloc _) ⟨wr.heap.size, 0, none⟩ 1 1 [.int .u8 4, .string ⟨#[]⟩, .int .i64 0, .int .i64 p1, .int .i64 c2] rfl rfl (World.news_of_block (cs := #[.int .u8 4, .string ⟨#[]⟩, .int .i64 0, .int .i64 p1, .int .i64 c2]) (t := 34) (fr := (0, 0)) (heap_alloc_new wr _)) (by simp [Value.oneCell']) (by unfold maxLen; omega) (by omega) (by have := hbw.size; simp at this ⊢; omega) ?_)
        intro v' w2 hown2 hgrow hnil hat
        have hb2 : Below (w.heap.size + 1) (w.alloc (.cells gapsV 9)) w2 := (hbw.alloc (by have := hbw.size; simp at this; omega) _).grown hgrow (by have := hbw.size; simp at this ⊢; omega) (fun b hb => (hrow.lt b hb).1)
        have hb3 : Below w.heap.size w w2 := ((Below.refl _ w).alloc (Nat.le_refl _) _).trans (hb2.mono (Nat.le_succ _))
        obtain ⟨out, hout⟩ : ∃ out, Hid (out = ts ++ [(⟨4, [], 0, p1, c2⟩ : Tok)]) := ⟨_, Lib.hid rfl⟩
        have hol : out.length = k + 1 := by rw [hout.out, List.length_append, hts]; rfl
        have hrw : RdT w2 v' out := by
          refine RowT.rd (w0 := w.alloc (.cells gapsV 9)) ?_
          unfold RowT
          rw [hout.out, List.length_append, List.flatMap_append, List.length_singleton, hts]
          simpa [cellsT] using hown2
        have htold : told ty = .ok out := by
          rw [told_short (by omega), hlex.out, hout.out]
        clear hown2 hgrow hnil hat hb2 hbw hrow hl hlex hout hts hi0 hz0 hz1 hz2
        replace htold := Lib.hid htold
        go_wp2_with fail
        refine (hL'.out ty (by omega) _).mono ?_
        rintro e1 w1 ⟨va, l1, k1, r1, rfl, hra, hwa, hb1⟩
        rw [htold.out] at hra hwa
        obtain ⟨rfl, rfl, rfl⟩ : 0 = l1 ∧ 0 = k1 ∧ 0 = r1 := by simpa [where'] using hwa
        have hra' : RdT w1 va out := hra
        obtain ⟨a1, ca1, rfl⟩ := hra'.form
        obtain ⟨a3, ca3, rfl⟩ := hrw.form
        rw [hol]
        have hrw1 := hrw.below hb1
        have hq0 := fun w => eql_spotN w 0 0 0 0
        simp at hq0
        have hb4 := hb3.trans (hb1.mono hb3.size)
        clear hra hwa hb1 hb3 hrw
        go_upto_region 53 with fail
        have hbx := hb4.alloc hb4.size (.cells #[.int .i64 0, .int .i64 0] 24)
        have hrx := hra'.below ((Below.refl _ w1).alloc (Nat.le_refl _) (.cells #[.int .i64 0, .int .i64 0] 24))
        have hrwx := hrw1.below ((Below.refl _ w1).alloc (Nat.le_refl _) (.cells #[.int .i64 0, .int .i64 0] 24))
        have y0 : (w1.alloc (.cells #[.int .i64 0, .int .i64 0] 24)).cell? ⟨w1.heap.size, 0, none⟩ = some (.int .i64 0) := by simp
        have y1 : (w1.alloc (.cells #[.int .i64 0, .int .i64 0] 24)).cell? ⟨w1.heap.size, 1, none⟩ = some (.int .i64 0) := by simp
        generalize (w1.alloc (.cells #[.int .i64 0, .int .i64 0] 24)) = wx at *
        clear hra' hrw1 hb4
        go_wp2_with fail
        clear y0 y1
        go_loopw [4, 24] (fun _ i wr => ∃ j : Nat, j ≤ k + 1 ∧ i = .int .i64 j ∧ Below wx.heap.size wx wr) (fun _ i _ => k + 1 - (intOf i).toNat)
        case atStart => exact ⟨0, Nat.zero_le _, rfl, Below.refl _ _⟩
        case round =>
          obtain ⟨j, hj, rfl, hbw⟩ := hrel
          by_cases hlt2 : j < k + 1
          · obtain ⟨t, ht⟩ : ∃ x, out[j]? = some x := ⟨_, List.getElem?_eq_getElem (by omega)⟩
            obtain ⟨g, cap, e, hg, c0, c1, c2, c3, c4⟩ := (hrx.below hbw).at ht
            obtain ⟨g2, cap2, e2, hg2, d0, d1, d2, d3, d4⟩ := (hrwx.below hbw).at ht
            simp only [Value.slice.injEq] at e e2
            obtain ⟨rfl, -, rfl⟩ := e
            obtain ⟨rfl, -, rfl⟩ := e2
            have i1 : (j : Int) < (k : Int) + 1 := by omega
            have hq := fun w => eq_tokT t t w
            simp only [tokB_refl] at hq
            clear hrx hrwx ht hol
            go_wp2_with fail
            go_quiet (fail)
            go_wp2_with fail
            exact ⟨⟨j + 1, by omega, by go_num, below_drawn hbw _⟩, by simp [intOf]; omega⟩
          · have g1 : decide ((j : Int) < (k : Int) + 1) = false := by simp; omega
            clear hol
            go_wp2_with fail
            refine (hk.out _).mono ?_
            rintro e3 w3 ⟨rfl, hb3⟩
            go_wp2_with fail
            go_ret
            exact ⟨rfl, (hbx.trans (hbw.mono hbx.size)).trans (hb3.mono (Nat.le_trans hbx.size hbw.size))⟩
      | true =>
        go_upto_region 51 with fail
        have hty' : ty = tx ++ ⟨#[59, 32, 120]⟩ := hty.out
        have hc2' : (p2 : Int) + 3 = (c2 : Int) := by have : c2 = p2 + 3 := hc2.out; omega
        rw [← hty', hc2']
        clear hty' hc2'
        clear hty hc2 e1
        go_wp2_with (at_builtin; refine wpList_append_own_at _ rfl _ _ 22 rfl (w.heap.size + 1) 34 i0 _ 5 48 Tryd.underlying22 hi0 hz0 hz1 hz2 rfl (by decide) _ _ _ rfl (hrow.alloc _) ⟨wr.heap.size, 0, none⟩ 1 1 [.int .u8 4, .string ⟨#[]⟩, .int .i64 0, .int .i64 p1, .int .i64 c2] rfl rfl (World.news_of_block (cs := #[.int .u8 4, .string ⟨#[]⟩, .int .i64 0, .int .i64 p1, .int .i64 c2]) (t := 34) (fr := (0, 0)) (heap_alloc_new wr _)) (by simp [Value.oneCell']) (by unfold maxLen; omega) (by omega) (by have := hbw.size; simp at this ⊢; omega) ?_)
        intro v' w2 hown2 hgrow hnil hat
        have hb2 : Below (w.heap.size + 1) (w.alloc (.cells gapsV 9)) w2 := (hbw.alloc (by have := hbw.size; simp at this; omega) _).grown hgrow (by have := hbw.size; simp at this ⊢; omega) (fun b hb => (hrow.lt b hb).1)
        have hb3 : Below w.heap.size w w2 := ((Below.refl _ w).alloc (Nat.le_refl _) _).trans (hb2.mono (Nat.le_succ _))
        obtain ⟨out, hout⟩ : ∃ out, Hid (out = ts ++ [(⟨4, [], 0, p1, c2⟩ : Tok)]) := ⟨_, Lib.hid rfl⟩
        have hol : out.length = k + 1 := by rw [hout.out, List.length_append, hts]; rfl
        have hrw : RdT w2 v' out := by
          refine RowT.rd (w0 := w.alloc (.cells gapsV 9)) ?_
          unfold RowT
          rw [hout.out, List.length_append, List.flatMap_append, List.length_singleton, hts]
          simpa [cellsT] using hown2
        have htold : told ty = .ok out := by
          rw [told_short (by omega), hlex.out, hout.out]
        clear hown2 hgrow hnil hat hb2 hbw hrow hl hlex hout hts hi0 hz0 hz1 hz2
        replace htold := Lib.hid htold
        go_wp2_with fail
        refine (hL'.out ty (by omega) _).mono ?_
        rintro e1 w1 ⟨va, l1, k1, r1, rfl, hra, hwa, hb1⟩
        rw [htold.out] at hra hwa
        obtain ⟨rfl, rfl, rfl⟩ : 0 = l1 ∧ 0 = k1 ∧ 0 = r1 := by simpa [where'] using hwa
        have hra' : RdT w1 va out := hra
        obtain ⟨a1, ca1, rfl⟩ := hra'.form
        obtain ⟨a3, ca3, rfl⟩ := hrw.form
        rw [hol]
        have hrw1 := hrw.below hb1
        have hq0 := fun w => eql_spotN w 0 0 0 0
        simp at hq0
        have hb4 := hb3.trans (hb1.mono hb3.size)
        clear hra hwa hb1 hb3 hrw
        go_upto_region 53 with fail
        have hbx := hb4.alloc hb4.size (.cells #[.int .i64 0, .int .i64 0] 24)
        have hrx := hra'.below ((Below.refl _ w1).alloc (Nat.le_refl _) (.cells #[.int .i64 0, .int .i64 0] 24))
        have hrwx := hrw1.below ((Below.refl _ w1).alloc (Nat.le_refl _) (.cells #[.int .i64 0, .int .i64 0] 24))
        have y0 : (w1.alloc (.cells #[.int .i64 0, .int .i64 0] 24)).cell? ⟨w1.heap.size, 0, none⟩ = some (.int .i64 0) := by simp
        have y1 : (w1.alloc (.cells #[.int .i64 0, .int .i64 0] 24)).cell? ⟨w1.heap.size, 1, none⟩ = some (.int .i64 0) := by simp
        generalize (w1.alloc (.cells #[.int .i64 0, .int .i64 0] 24)) = wx at *
        clear hra' hrw1 hb4
        go_wp2_with fail
        clear y0 y1
        go_loopw [4, 24] (fun _ i wr => ∃ j : Nat, j ≤ k + 1 ∧ i = .int .i64 j ∧ Below wx.heap.size wx wr) (fun _ i _ => k + 1 - (intOf i).toNat)
        case atStart => exact ⟨0, Nat.zero_le _, rfl, Below.refl _ _⟩
        case round =>
          obtain ⟨j, hj, rfl, hbw⟩ := hrel
          by_cases hlt2 : j < k + 1
          · obtain ⟨t, ht⟩ : ∃ x, out[j]? = some x := ⟨_, List.getElem?_eq_getElem (by omega)⟩
            obtain ⟨g, cap, e, hg, c0, c1, c2, c3, c4⟩ := (hrx.below hbw).at ht
            obtain ⟨g2, cap2, e2, hg2, d0, d1, d2, d3, d4⟩ := (hrwx.below hbw).at ht
            simp only [Value.slice.injEq] at e e2
            obtain ⟨rfl, -, rfl⟩ := e
            obtain ⟨rfl, -, rfl⟩ := e2
            have i1 : (j : Int) < (k : Int) + 1 := by omega
            have hq := fun w => eq_tokT t t w
            simp only [tokB_refl] at hq
            clear hrx hrwx ht hol
            go_wp2_with fail
            go_quiet (fail)
            go_wp2_with fail
            exact ⟨⟨j + 1, by omega, by go_num, below_drawn hbw _⟩, by simp [intOf]; omega⟩
          · have g1 : decide ((j : Int) < (k : Int) + 1) = false := by simp; omega
            clear hol
            go_wp2_with fail
            refine (hk.out _).mono ?_
            rintro e3 w3 ⟨rfl, hb3⟩
            go_wp2_with fail
            go_ret
            exact ⟨rfl, (hbx.trans (hbw.mono hbx.size)).trans (hb3.mono (Nat.le_trans hbx.size hbw.size))⟩

set_option maxRecDepth 20000 in
set_option maxHeartbeats 4000000 in
theorem laid_long {w : World} {a : Option Addr} {n cap bh : Nat} (h : 100 < n) : Calls Tryd.prog 5 #[.slice a n cap, .int .u8 bh] w fun e w' => e = .returned (.bool true) ∧ Below w.heap.size w w' := by
  have d1 : decide ((n : Int) > 100) = true := by simp; omega
  go_enter Tryd.func5, Tryd.ntmps5
  go_wp2_with fail
  go_ret
  exact ⟨rfl, Below.refl _ _⟩
end Go.Proofs.YtobfcbmphobmfaaDoor
