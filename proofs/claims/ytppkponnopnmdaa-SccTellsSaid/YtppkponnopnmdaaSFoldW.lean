/- scc.Fold, walked. -/
import Derived.Test.YtppkponnopnmdaaSFold
namespace Go.Proofs.Ytppkponnopnmdaa
open Go.RowKit Go.Maps Go.Shelf

theorem kernel_nil : Marks [] (fun _ => 0) := fun x y hx _ => by simp at hx
theorem fold_nil : FoldOf [] (fun _ => 0) [] := ⟨rfl, fun r hr => (by cases hr), fun a b => ⟨fun h => (by have := h.lt.1; simp at this), fun ⟨_, i, x, h, _⟩ => (by have := h.lt.1; simp at this)⟩⟩

set_option maxRecDepth 20000 in
set_option maxHeartbeats 8000000 in
theorem fold_any {w : World} {v : Value} {L : List (List Int)} (h : RdG w v L) (hL : L.length ≤ 300) (hr : ∀ r ∈ L, r.length ≤ 100000) :
    Calls Try.prog 17 #[v] w fun e w' => ∃ fv F m, e = .returned fv ∧ Marks L m ∧ FoldOf L m F ∧ RdG w' fv F ∧ Below w.heap.size w w' := by
  obtain ⟨av, c0, rfl⟩ := h.form
  have hC := Lib.hid (comps_any h (by omega) hr)
  by_cases hz : L.length = 0
  · have hL0 : L = [] := List.eq_nil_of_length_eq_zero hz
    subst hL0
    simp only [List.length_nil] at hC ⊢
    have hfin : Hid (∀ wx : World, RdG wx (.slice none 0 0) []) := Lib.hid (fun wx => ⟨[], Or.inl ⟨rfl, .inl rfl⟩, rfl, fun i u l hu hl => (by cases hu)⟩)
    clear h hr
    go_enter Try.func17, Try.ntmps17
    go_wp2_with fail
    refine hC.out.mono ?_
    rintro e w1 ⟨R, m, rfl, hR, hker, hRl, hb1⟩
    replace hb1 := Lib.hid hb1
    clear hR hker
    go_wp2_with fail
    go_ret
    exact ⟨_, [], fun _ => 0, rfl, kernel_nil, fold_nil, hfin.out _, hb1.out⟩
  · obtain ⟨n, hn⟩ : ∃ n, n = L.length := ⟨_, rfl⟩
    rw [← hn] at hC hL h hz ⊢
    have hr' := Lib.hid hr
    have hg := Lib.hid h
    have d0 : ((n : Int) == 0) = false := by simp; omega
    have hn0 : 0 < n := by omega
    replace hn := Lib.hid hn
    clear h hr hz
    go_enter Try.func17, Try.ntmps17
    go_wp2_with fail
    refine hC.out.mono ?_
    rintro e w1 ⟨R, m, rfl, hR, hker, hRl, hb1⟩
    rw [hn.out] at hker
    have hRd : RdI w1 (.slice (some ⟨R, 0, none⟩) n n) ((List.range n).map (numF n m)) := markA_rd hR rfl
    have hmx := Lib.hid (max_any hRd (by simpa using hn0) (by simp; omega))
    obtain ⟨c, hc⟩ : ∃ c, Hid (c = cntM m n) := ⟨_, Lib.hid rfl⟩
    have hcn : c ≤ n := by rw [hc.out]; exact cntM_le m n
    obtain ⟨f, hf⟩ : ∃ f : Nat → Nat, Hid (∀ x, x < n → numF n m x = (f x : Nat) ∧ f x < c) := ⟨fun x => (numF n m x).toNat, Lib.hid (fun x hx => by
      have := numF_lt (m := m) (Nat.le_refl n) hx
      show numF n m x = ((numF n m x).toNat : Int) ∧ (numF n m x).toNat < c
      rw [hc.out]
      omega)⟩
    replace hker := Lib.hid (show Marks L m from hker)
    replace hR := Lib.hid hR
    clear hC hRd
    go_wp2_with fail
    refine hmx.out.mono ?_
    rintro e w1 ⟨z, rfl, hz1, hz2, rfl⟩
    obtain rfl : z = (c : Int) - 1 := by
      obtain ⟨x, hx, rfl⟩ := List.mem_map.1 hz1
      have hx' := List.mem_range.1 hx
      have h1 := hf.out x hx'
      have h2 : 0 < c := by omega
      obtain ⟨y, hy, e⟩ := numF_onto (n := n) (m := m) (c := c - 1) (by rw [← hc.out]; omega)
      have h3 := hz2 (numF n m y) (List.mem_map.2 ⟨y, List.mem_range.2 hy, rfl⟩)
      omega
    have hcc : (c : Int) - 1 + 1 = (c : Int) := by omega
    have hc0 : 1 ≤ c := by
      have := hf.out 0 hn0
      omega
    have hmk := make_rows c (by omega) w1
    have hF0 := Lib.hid (fill_new (w := w1) (n := c))
    have hbe0 : Below w1.heap.size w1 (w1.alloc (.cells (Array.replicate c (Value.slice none 0 0)) 26)) := (Below.refl _ _).alloc (Nat.le_refl _) _
    have hlt0 : w1.heap.size < (w1.alloc (.cells (Array.replicate c (Value.slice none 0 0)) 26)).heap.size := by simp
    have hRs : R < w1.heap.size := (Array.getElem?_eq_some_iff.1 hR.out).1
    have hg1 := hg.out.below (hb1.trans (hbe0.mono hb1.size))
    have hN := Lib.hid (norm_any hg1 (by rw [← hn.out]; omega) hr'.out)
    have hR2 := (hbe0.block R hRs).trans hR.out
    replace hR := Lib.hid hR2
    clear hz1 hz2 hmx hg1 hR2
    generalize hw2 : (w1.alloc (.cells (Array.replicate c (Value.slice none 0 0)) 26)) = w2 at *
    clear hw2
    obtain ⟨G, hG⟩ : ∃ G, G = w1.heap.size := ⟨_, rfl⟩
    rw [← hG] at hF0 hbe0 hlt0 hmk hRs
    replace hG := Lib.hid hG
    go_wp2_with fail
    clear hmk
    refine hN.out.mono ?_
    rintro e w3 ⟨Gn, vsn, rfl, Mn, hb3⟩
    have hX := Mn.off (U := fun b => b = G) (fun b e => by rw [e]; exact hlt0) (n := n) (cap := n) (by rw [normL_len]; exact hn.out)
    obtain ⟨N, hNe⟩ : ∃ N, Hid (normL L = N) := ⟨_, Lib.hid rfl⟩
    have hNl : N.length = n := by rw [← hNe.out, normL_len, hn.out]
    have hnf := norm_form L
    rw [hNe.out] at hX hnf
    have hlens : Hid (∀ r ∈ N, r.length ≤ n) := Lib.hid (fun r hr => by
      have := rise_lenN (hnf r hr).1 (hnf r hr).2
      rwa [hNl] at this)
    replace hnf := Lib.hid hnf
    have hF1 : Hid (Fill w3 w3 G G (List.replicate c (Value.slice none 0 0)) (List.replicate c [])) := by
      have h1 := hF0.out.M.below hb3
      refine Lib.hid ⟨h1, fun i u b hu hb => ?_, Touch.refl _ _⟩
      obtain rfl := List.eq_of_mem_replicate (List.mem_of_getElem? hu)
      cases hb
    have hI0 : Hid (FI N f c n 0 0 (List.replicate c [])) := Lib.hid FI.start
    have hRw : Hid (∀ wx : World, Touch w3 wx (fun b => b = G) → wx.heap[R]? = some (.cells (markA n (numF n m)) 3 (0, 0))) := Lib.hid (fun wx hT =>
      (hT.block R (by have := hb3.size; omega) (by omega)).trans ((hb3.block R (by omega)).trans hR.out))
    have hbw3 : Below w.heap.size w w3 := (hb1.trans (hbe0.mono (by have := hG.out; have := hb1.size; omega))).trans (hb3.mono (by have := hG.out; have := hb1.size; omega))
    have hGw : w.heap.size ≤ G := by have := hG.out; have := hb1.size; omega
    have hG3 : G < w3.heap.size := by have := hb3.size; omega
    rw [← hn.out]
    replace hNl := Lib.hid hNl
    replace hX := Lib.hid hX
    clear Mn hF0 hN hb3 hbe0 hR hg hb1
    go_wp2_with fail
    go_loopw [5, 6, 8, 9, 10, 23, 28, 29, 30] (fun _ _ _ _ _ i _ _ _ wr => ∃ (k : Nat) (vs : List Value) (B : List (List Int)), k ≤ n ∧ i = .int .i64 k ∧ Fill w3 wr G G vs B ∧ FI N f c n k 0 B) (fun _ _ _ _ _ i _ _ _ _ => n - (intOf i).toNat)
    case atStart => exact ⟨0, _, _, Nat.zero_le _, rfl, hF1.out, hI0.out⟩
    case round =>
      clear hF1 hI0
      obtain ⟨k, vs, B, hk, rfl, hF, hI⟩ := hrel
      by_cases hlt : k < n
      · obtain ⟨r, hrk⟩ : ∃ r, N[k]? = some r := ⟨_, List.getElem?_eq_getElem (by rw [hNl.out]; exact hlt)⟩
        have hrl : r.length ≤ n := hlens.out r (List.mem_of_getElem? hrk)
        have hrf := hnf.out r (List.mem_of_getElem? hrk)
        obtain ⟨b, off, cap', u, e, hbl, hbG, hcell1, hrd1, hoff⟩ := hX.out.at hrk
        rw [hNl.out] at e
        simp only [Value.slice.injEq, Option.some.injEq, Addr.mk.injEq] at e
        obtain ⟨⟨rfl, rfl, -⟩, -, rfl⟩ := e
        obtain ⟨ar, cr, rfl⟩ := hrd1.shape
        rw [Nat.zero_add] at hcell1
        have hcell := (cell_off hF.T hbl hbG).trans hcell1
        have i1 : (k : Int) < (n : Int) := by omega
        replace hrf := Lib.hid hrf
        replace hrd1 := Lib.hid hrd1
        replace hF := Lib.hid hF
        replace hI := Lib.hid hI
        clear hcell1
        go_wp2_with fail
        clear hcell
        go_loopw [8, 9, 10, 30] (fun _ _ _ j wx => ∃ (q : Nat) (vs : List Value) (B : List (List Int)), q ≤ r.length ∧ j = .int .i64 q ∧ Fill w3 wx G G vs B ∧ FI N f c n k q B) (fun _ _ _ j _ => r.length - (intOf j).toNat)
        case atStart => exact ⟨0, vs, B, Nat.zero_le _, rfl, hF.out, hI.out⟩
        case round =>
          clear hF hI
          obtain ⟨q, vs1, B1, hq, rfl, hF, hI⟩ := hrel
          by_cases hltq : q < r.length
          · obtain ⟨x, hx⟩ : ∃ x, r[q]? = some x := ⟨_, List.getElem?_eq_getElem hltq⟩
            obtain ⟨hx0, hxn⟩ := hrf.out.2 x (List.mem_of_getElem? hx)
            rw [hNl.out] at hxn
            obtain ⟨y, rfl⟩ : ∃ y : Nat, x = y := ⟨x.toNat, by omega⟩
            have hyn : y < n := by omega
            obtain ⟨b2, off2, cap2, e2, hc2⟩ := RdI.cell (Rd.off hrd1.out hF.T (by rw [List.length_map]; exact hoff)) hx
            simp only [Value.slice.injEq] at e2
            obtain ⟨rfl, -, rfl⟩ := e2
            have i2 : (q : Int) < (r.length : Int) := by omega
            have i3 : (y : Int) < (n : Int) := by omega
            have cR1 : wr.cell? ⟨R, k, none⟩ = some (.int .i64 (f k)) := by rw [blk_cell (hRw.out _ hF.T), markA_at hlt, (hf.out k hlt).1]
            have cR2 : wr.cell? ⟨R, y, none⟩ = some (.int .i64 (f y)) := by rw [blk_cell (hRw.out _ hF.T), markA_at hyn, (hf.out y hyn).1]
            have hfk := (hf.out k hlt).2
            have hfy := (hf.out y hyn).2
            replace hF := Lib.hid hF
            by_cases hne : f k = f y
            · have hI2 := Lib.hid (hI.skip hrk hx hne)
              have d1 : ((f k : Int) != (f y : Int)) = false := by simp [hne]
              replace hne := Lib.hid hne
              clear hI
              go_wp2_with fail
              go_quiet (fail)
              have hF2 := Lib.hid (hF.out.drewN nq)
              clear hF
              go_wp2_with fail
              exact ⟨⟨q + 1, vs1, B1, by omega, by go_num, hF2.out, hI2.out⟩, by simp [intOf]; omega⟩
            · have d1 : ((f k : Int) != (f y : Int)) = true := by simp; omega
              obtain ⟨F, hFy⟩ : ∃ F, B1[f k]? = some F := ⟨_, List.getElem?_eq_getElem (by rw [hI.len]; exact hfk)⟩
              have hfl : F.length ≤ 90000 := by
                have h1 := hI.low F (List.mem_of_getElem? hFy)
                have h2 : k * n ≤ 299 * n := Nat.mul_le_mul_right _ (by omega)
                omega
              have hI2 := Lib.hid (hI.push hrk hx hne hFy hfy)
              obtain ⟨a, ha⟩ : ∃ a, a = f k := ⟨_, rfl⟩
              obtain ⟨d, hd⟩ : ∃ d, d = f y := ⟨_, rfl⟩
              rw [← ha] at cR1 hfk hFy d1 hI2
              rw [← hd] at cR2 hfy d1 hI2
              have i4 : (a : Int) < (c : Int) := by omega
              clear hI hne ha hd
              go_wp2_with fail
              go_quiet (fail)
              obtain ⟨i0, hi0, hz0, hz1, hz2⟩ := info_parts infoI1
              have hFq := hF.out.drewN nq
              obtain ⟨wq, hwq⟩ : ∃ wq, wq = wr.drewN nq := ⟨_, rfl⟩
              rw [← hwq] at hFq ⊢
              obtain ⟨u1, hu1, hrow⟩ := hFq.M.at hFy
              have hgc := hFq.M.cell hu1
              have hle := Nat.le_trans (Nat.le_of_lt hG3) hFq.T.size
              have hrow' := hrow
              obtain ⟨au, cu, rfl⟩ := own_form hrow
              clear cR1 cR2 hc2 hwq hF
              go_wp2_with (at_builtin; refine wpList_append_own_at _ rfl _ _ 26 rfl G 3 i0 _ 1 8 Try.underlying26 hi0 hz0 hz1 hz2 rfl (by decide) _ _ _ rfl (hrow.alloc _) ⟨wq.heap.size, 0, none⟩ 1 1 [.int .i64 d] rfl rfl (World.news_of_block (cs := #[.int .i64 d]) (t := 3) (fr := (0, 0)) (heap_alloc_new wq _)) (by simp [Value.oneCell']) (by unfold maxLen; omega) (by omega) (by simp; omega) ?_)
              intro v' w2 hown2 hgrow hnil hat
              obtain ⟨⟨av2, cv2, rfl⟩, hc3, hf3, hF2⟩ := hFq.appended hu1 hFy hown2 hgrow hat
              replace hF2 := Lib.hid hF2
              clear hown2 hgrow hnil hat hgc hrow hrow' hu1 hFq
              go_wp2_with fail
              exact ⟨⟨q + 1, _, _, by omega, by go_num, hF2.out, hI2.out⟩, by simp [intOf]; omega⟩
          · obtain rfl : q = r.length := by omega
            have i2 : decide ((r.length : Int) < (r.length : Int)) = false := by simp
            have hI2 := Lib.hid (hI.next hrk rfl hrl)
            replace hF := Lib.hid hF
            clear hI
            go_wp2_with fail
            exact ⟨⟨k + 1, vs1, B1, by omega, by go_num, hF.out, hI2.out⟩, by simp [intOf]; omega⟩
      · obtain rfl : k = n := by omega
        have i1 : decide ((k : Int) < (k : Int)) = false := by simp
        have hgd : RdG wr (.slice (some ⟨G, 0, none⟩) c c) B := hF.M.rd hI.len.symm
        have hN2 := Lib.hid (norm_any hgd (by rw [hI.len]; omega) (fun r hr => by
          have h1 := hI.low r hr
          have h2 : k * k ≤ 300 * 300 := Nat.mul_le_mul hL hL
          omega))
        rw [hI.len] at hN2
        have hlB := hI.len
        have hbz : Below w.heap.size w wr := hbw3.trans (hF.T.below hbw3.size (fun b hb e => by omega))
        have hfold : Hid (FoldOf L m (normL B)) := by
          rw [← hNe.out, hc.out] at hI
          have e : k = L.length := hn.out
          subst e
          exact Lib.hid (FI.fold hI (fun x hx => (hf.out x hx).1))
        replace hlB := Lib.hid hlB
        clear hF hI hgd
        go_wp2_with fail
        refine hN2.out.mono ?_
        rintro e w5 ⟨G5, vs5, rfl, M5, hb5⟩
        have hg5 : Hid (RdG w5 (.slice (some ⟨G5, 0, none⟩) c c) (normL B)) := Lib.hid (M5.rd (by rw [normL_len, hlB.out]))
        have hb6 := hbz.trans (hb5.mono hbz.size)
        clear hN2 M5 hb5
        go_wp2_with fail
        go_ret
        exact ⟨_, _, m, rfl, hker.out, hfold.out, hg5.out, hb6⟩
end Go.Proofs.Ytppkponnopnmdaa
