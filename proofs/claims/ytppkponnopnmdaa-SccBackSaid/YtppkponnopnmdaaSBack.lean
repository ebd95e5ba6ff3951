/- SccBack: the walk. -/
import Derived.Test.YtppkponnopnmdaaSLaw
import Derived.StillTailTactics
namespace Go.Proofs.Ytppkponnopnmdaa
open Go.RowKit Go.Maps Go.Shelf Go.WideShapes Go.ChangeShapes Go.ChangeAt Go.Deep

theorem wp_tailB {P : Program} {id : Nat} {Q : Exit → Act → World → Prop} {a : Act} {w : World} {l : List Oper} (n : Nat) (hm : P.follows .mixedOrders = true) (hB : Region.lexTailB .any l.toArray n = true)
    (h : wpStill P l.toArray w.drew (fun a' => wpList P l.toArray Q (l.drop n) a' w.drew) (l.take n) a) : (Code.region id l.toArray true).wp P Q a w :=
  wp_region_still_tail n hm hB h
theorem way_turn {L : List (List Int)} {a b : Nat} : Way (backL L) a b ↔ Way L b a := by
  constructor
  · intro h
    induction h with
    | refl h => exact .refl (by rwa [backL_len] at h)
    | step _ e ih => exact Way.head (edge_back.1 e) ih
  · intro h
    induction h with
    | refl h => exact .refl (by rwa [backL_len])
    | step _ e ih => exact Way.head (edge_back.2 e) ih
theorem sc_turn {L : List (List Int)} {a b : Nat} : SC (backL L) a b ↔ SC L a b := by
  unfold SC
  rw [way_turn, way_turn]
  exact And.comm
theorem Marks.turn {L : List (List Int)} {m : Nat → Int} (h : Marks L m) : Marks (backL L) m := by
  intro x y hx hy
  rw [backL_len] at hx hy
  rw [sc_turn]
  exact h x y hx hy
theorem cyc_turn (L : List (List Int)) (x : Nat) : cycB (backL L) x = cycB L x := by
  rw [Bool.eq_iff_iff, cycB_iff, cycB_iff]
  unfold cycP
  rw [edge_back]
  simp only [sc_turn]
theorem FoldOf.turn {L F : List (List Int)} {m : Nat → Int} (h : FoldOf L m F) : FoldOf (backL L) m (backL F) := by
  refine ⟨by rw [backL_len, backL_len, h.len], back_form F, fun a b => ?_⟩
  rw [edge_back, h.edge, backL_len]
  constructor
  · rintro ⟨h1, i, x, e, h2, h3⟩
    exact ⟨fun e => h1 e.symm, x, i, edge_back.2 e, h3, h2⟩
  · rintro ⟨h1, i, x, e, h2, h3⟩
    exact ⟨fun e => h1 e.symm, x, i, edge_back.1 e, h3, h2⟩

set_option maxRecDepth 20000 in
set_option maxHeartbeats 8000000 in
theorem back_any8 {w : World} {v : Value} {L : List (List Int)} (h : RdG w v L) : Calls Try.prog 7 #[v] w fun e w' => e = .returned (.bool true) ∧ Below w.heap.size w w' := by
  obtain ⟨av, cap, rfl⟩ := h.form
  go_enter Try.func7, Try.ntmps7
  go_wp2_with fail
  refine (great8_any h).mono ?_
  rintro e w' ⟨q, rfl, rfl, hq⟩
  cases q with
  | true =>
    go_wp2_with fail
    refine wakes8_g.mono ?_
    rintro e w1 ⟨rfl, hb⟩
    go_wp2_with fail
    go_ret
    exact ⟨rfl, hb⟩
  | false =>
    obtain ⟨hL60, hr60⟩ := hq rfl
    clear hq
    have hr1 : Hid (∀ r ∈ L, r.length ≤ 100000) := Lib.hid (fun r hr' => by have := hr60 r hr'; omega)
    obtain ⟨n, hn⟩ : ∃ n, n = L.length := ⟨_, rfl⟩
    rw [← hn] at h hL60 ⊢
    have hBk := Lib.hid (back_any h (by omega) hr1.out)
    rw [← hn] at hBk
    have hBr : Hid (∀ r ∈ backL L, r.length ≤ 100000) := Lib.hid (fun r hr => by
      obtain ⟨h1, h2⟩ := back_form L r hr
      have := rise_lenN h1 h2
      rw [backL_len] at this
      omega)
    obtain ⟨B, hB⟩ : ∃ B, B = backL L := ⟨_, rfl⟩
    have hBl : B.length = n := by rw [hB, backL_len, hn]
    rw [← hB] at hBk hBr
    replace hn := Lib.hid hn
    replace hB := Lib.hid hB
    replace hBl := Lib.hid hBl
    clear hr60
    go_wp2_with fail
    refine hBk.out.mono ?_
    rintro e w1 ⟨G, vs, rfl, M, hb1⟩
    have hg1 : RdG w1 (.slice (some ⟨G, 0, none⟩) n n) B := M.rd hBl.out.symm
    have hK1 : Hid (∀ wx : World, Below w1.heap.size w1 wx → RdG wx (.slice (some ⟨G, 0, none⟩) n n) B ∧ RdG wx (.slice av n cap) L ∧ Below w.heap.size w wx) := Lib.hid (fun wx hb => ⟨hg1.below hb, h.below (hb1.trans (hb.mono hb1.size)), hb1.trans (hb.mono hb1.size)⟩)
    have hC1 := Lib.hid (cyclic_any (hK1.out _ (Below.refl _ _)).2.1 (by rw [← hn.out]; omega) hr1.out)
    rw [← hn.out] at hC1
    clear hBk M h hb1 hg1
    go_wp2_with fail
    refine hC1.out.mono ?_
    rintro e w2 ⟨O1, rfl, hO1, hOl1, hb2⟩
    have hC2 := Lib.hid (cyclic_any (hK1.out _ hb2).1 (by rw [hBl.out]; omega) hBr.out)
    rw [hBl.out] at hC2
    have hOs1 := (Array.getElem?_eq_some_iff.1 hO1).1
    replace hO1 := Lib.hid hO1
    clear hC1 hOl1
    go_wp2_with fail
    refine hC2.out.mono ?_
    rintro e w3 ⟨O2, rfl, hO2, hOl2, hb3⟩
    have hO13 := (hb3.block O1 hOs1).trans hO1.out
    have hb13 := hb2.trans (hb3.mono hb2.size)
    have hO2' : w3.heap[O2]? = some (.cells (boolA n (cycB L)) 4 (0, 0)) := by
      rw [hO2, hB.out]
      simp only [show cycB (backL L) = cycB L from funext (cyc_turn L)]
    have hK3 : Hid (∀ wx : World, Below w3.heap.size w3 wx → wx.heap[O1]? = some (.cells (boolA n (cycB L)) 4 (0, 0)) ∧ wx.heap[O2]? = some (.cells (boolA n (cycB L)) 4 (0, 0)) ∧ RdG wx (.slice (some ⟨G, 0, none⟩) n n) B ∧ RdG wx (.slice av n cap) L ∧ Below w.heap.size w wx) := Lib.hid (fun wx hb => by
      obtain ⟨h1, h2, h3⟩ := hK1.out _ (hb13.trans (hb.mono hb13.size))
      exact ⟨(hb.block O1 (Array.getElem?_eq_some_iff.1 hO13).1).trans hO13, (hb.block O2 (Array.getElem?_eq_some_iff.1 hO2').1).trans hO2', h1, h2, h3⟩)
    have hD1 := Lib.hid (comps_any (hK3.out _ (Below.refl _ _)).2.2.2.1 (by rw [← hn.out]; omega) hr1.out)
    rw [← hn.out] at hD1
    clear hC2 hO2 hOl2 hO1 hO13 hO2' hOs1 hb2 hb3 hb13 hK1
    go_wp2_with fail
    refine hD1.out.mono ?_
    rintro e w4 ⟨R1, m1, rfl, hR1, hk1, hRl1, hb4⟩
    have hk1' : Marks L m1 := fun x y hx hy => hk1 x y (by rw [hn.out]; exact hx) (by rw [hn.out]; exact hy)
    have hD2 := Lib.hid (comps_any (hK3.out _ hb4).2.2.1 (by rw [hBl.out]; omega) hBr.out)
    rw [hBl.out] at hD2
    have hRd1 : RdI w4 (.slice (some ⟨R1, 0, none⟩) n n) ((List.range n).map (numF n m1)) := markA_rd hR1 rfl
    replace hRd1 := Lib.hid hRd1
    replace hk1' := Lib.hid hk1'
    clear hD1 hR1 hk1 hRl1
    go_wp2_with fail
    refine hD2.out.mono ?_
    rintro e w5 ⟨R2, m2, rfl, hR2, hk2, hRl2, hb5⟩
    have hk2' : Marks B m2 := fun x y hx hy => hk2 x y (by rw [← hBl.out]; exact hx) (by rw [← hBl.out]; exact hy)
    have hlist : (List.range n).map (numF n m2) = (List.range n).map (numF n m1) := by
      apply List.map_congr_left
      intro x hx
      have h1 := hk1'.out.turn
      rw [← hB.out] at h1
      exact kernel_num (n := n) (fun x y hx hy => hk2'.kernel h1 x y (by rw [hBl.out]; exact hx) (by rw [hBl.out]; exact hy)) x (List.mem_range.1 hx)
    have hRd2 : RdI w5 (.slice (some ⟨R2, 0, none⟩) n n) ((List.range n).map (numF n m1)) := markA_rd hR2 hlist.symm
    have hSm := Lib.hid (same_any (Rd.below hRd1.out hb5) hRd2 (by simp; omega))
    rw [decide_eq_true rfl] at hSm
    have hb45 := hb4.trans (hb5.mono hb4.size)
    have dne : ((n : Int) != (n : Int)) = false := by simp
    clear hD2 hR2 hk2 hk2' hlist hRl2 hRd1 hRd2 hb4 hb5
    go_wp2_with fail
    refine hSm.out.mono ?_
    rintro e w6 ⟨rfl, n6, e6⟩
    have hb6 := Lib.hid (below_drawn hb45 n6)
    rw [← e6] at hb6
    clear hSm hb45 e6
    go_wp2_with fail
    go_loopw [2, 6] (fun _ i wx => ∃ k : Nat, k ≤ n ∧ i = .int .i64 k ∧ Below w3.heap.size w3 wx) (fun _ i _ => n - (intOf i).toNat)
    case atStart => exact ⟨0, Nat.zero_le _, by rfl, hb6.out⟩
    case round =>
      clear hb6
      obtain ⟨k, hk, rfl, hbk⟩ := hrel
      obtain ⟨hO1x, hO2x, hBx, hLx, hbw⟩ := hK3.out _ hbk
      by_cases hlt : k < n
      · have i1 : (k : Int) < (n : Int) := by omega
        obtain ⟨t, ht⟩ : ∃ t, t = cycB L k := ⟨_, rfl⟩
        have c1 : wr.cell? ⟨O1, k, none⟩ = some (.bool t) := by rw [blk_cell hO1x, boolA_at hlt, ht]
        have c2 : wr.cell? ⟨O2, k, none⟩ = some (.bool t) := by rw [blk_cell hO2x, boolA_at hlt, ht]
        have d1 : (t != t) = false := by simp
        clear hO1x hO2x hBx hLx hbw ht
        go_wp2_with fail
        go_quiet (fail)
        go_wp2_with fail
        exact ⟨⟨k + 1, by omega, by go_num, below_drawn hbk _⟩, by simp [intOf]; omega⟩
      · obtain rfl : k = n := by omega
        have i1 : decide ((k : Int) < (k : Int)) = false := by simp
        have hF1 := Lib.hid (fold_any hBx (by rw [hBl.out]; omega) hBr.out)
        have hb0 := Lib.hid hbk
        clear hO1x hO2x hBx hLx hbw
        go_wp2_with fail
        refine hF1.out.mono ?_
        rintro e w7 ⟨fv1, F1, mf1, rfl, hkf1, hf1, hg1, hb7⟩
        have hbk7 := hbk.trans (hb7.mono hbk.size)
        obtain ⟨hO1x, hO2x, hBx, hLx, hbw⟩ := hK3.out _ hbk7
        have hF2 := Lib.hid (fold_any hLx (by rw [← hn.out]; omega) hr1.out)
        replace hg1 := Lib.hid hg1
        clear hF1 hO1x hO2x hBx hLx hbw hb7
        go_wp2_with fail
        refine hF2.out.mono ?_
        rintro e w8 ⟨fv2, F2, mf2, rfl, hkf2, hf2, hg2, hb8⟩
        have hbk8 := hbk7.trans (hb8.mono hbk7.size)
        have hFe : F1 = backL F2 := by
          rw [hB.out] at hkf1 hf1
          exact hf1.det hkf1 hkf2.turn hf2.turn
        subst hFe
        obtain ⟨c, hc⟩ : ∃ c, c = F2.length := ⟨_, rfl⟩
        have hcn : c ≤ k := by have h1 := cntM_le mf2 L.length; have h2 := hf2.len; have h3 := hn.out; omega
        obtain ⟨a1, c1, rfl⟩ : ∃ a j, fv1 = .slice a c j := by
          obtain ⟨a, j, e⟩ := hg1.out.form
          exact ⟨a, j, by rw [e, backL_len, hc]⟩
        obtain ⟨a2, c2, rfl⟩ : ∃ a j, fv2 = .slice a c j := by rw [hc]; exact hg2.form
        have hF2l : ∀ r ∈ F2, r.length ≤ c := fun r hr => by
          have h1 := hf2.form r hr
          have := rise_lenN h1.1 h1.2
          omega
        have hBk2 := Lib.hid (back_any hg2 (by rw [← hc]; omega) (fun r hr => by have := hF2l r hr; omega))
        rw [← hc] at hBk2
        have hg18 := hg1.out.below hb8
        have hrows : Hid (∀ r ∈ backL F2, r.length ≤ c) := Lib.hid (fun r hr => by
          obtain ⟨h1, h2⟩ := back_form F2 r hr
          have := rise_lenN h1 h2
          rw [backL_len] at this
          omega)
        have hcl : Hid ((backL F2).length = c) := Lib.hid (by rw [backL_len, hc])
        replace hc := Lib.hid hc
        replace hg18 := Lib.hid hg18
        clear hF2 hg1 hb8 hbk7 hkf1 hf1 hkf2 hf2 hg2 hF2l
        go_wp2_with fail
        refine hBk2.out.mono ?_
        rintro e w9 ⟨G9, vs9, rfl, M9, hb9⟩
        have hg9 : RdG w9 (.slice (some ⟨G9, 0, none⟩) c c) (backL F2) := M9.rd hcl.out.symm
        have hg19 := hg18.out.below hb9
        have hbk9 := Lib.hid (hbk8.trans (hb9.mono hbk8.size))
        have hK9 : Hid (∀ wx : World, Below w9.heap.size w9 wx → RdG wx (.slice (some ⟨G9, 0, none⟩) c c) (backL F2) ∧ RdG wx (.slice a1 c c1) (backL F2) ∧ Below w.heap.size w wx) := Lib.hid (fun wx hb =>
          ⟨hg9.below hb, hg19.below hb, (hK3.out _ (hbk9.out.trans (hb.mono hbk9.out.size))).2.2.2.2⟩)
        have dnc : ((c : Int) != (c : Int)) = false := by simp
        clear hBk2 M9 hb9 hg9 hg19 hg18 hbk8
        go_wp2_with fail
        go_loopw [2, 9] (fun _ i wx => ∃ q : Nat, q ≤ c ∧ i = .int .i64 q ∧ Below w9.heap.size w9 wx) (fun _ i _ => c - (intOf i).toNat)
        case atStart => exact ⟨0, Nat.zero_le _, by rfl, Below.refl _ _⟩
        case round =>
          obtain ⟨q, hq, rfl, hbq⟩ := hrel
          obtain ⟨hx1, hx2, hbw⟩ := hK9.out _ hbq
          by_cases hltq : q < c
          · have i2 : (q : Int) < (c : Int) := by omega
            obtain ⟨r, hrq⟩ : ∃ r, (backL F2)[q]? = some r := ⟨_, List.getElem?_eq_getElem (by rw [hcl.out]; exact hltq)⟩
            have hrl := hrows.out r (List.mem_of_getElem? hrq)
            obtain ⟨b1, o1', k1, u1, e1, _, cc1, hr1x⟩ := hx2.at hrq
            obtain ⟨b2, o2', k2, u2, e2, _, cc2, hr2x⟩ := hx1.at hrq
            rw [hcl.out] at e1 e2
            simp only [Value.slice.injEq, Option.some.injEq, Addr.mk.injEq] at e1 e2
            obtain ⟨rfl, -, rfl⟩ := e1
            obtain ⟨⟨rfl, rfl, -⟩, -⟩ := e2
            obtain ⟨ar1, cr1, rfl⟩ := hr1x.shape
            obtain ⟨ar2, cr2, rfl⟩ := hr2x.shape
            rw [Nat.zero_add] at cc2
            have hSr : Hid (∀ (wq : World), Below wr.heap.size wr wq → Calls Try.prog 10 #[.slice ar1 r.length cr1, .slice ar2 r.length cr2] wq fun e w' => e = .returned (.bool true) ∧ ∃ n, w' = wq.drewN n) := Lib.hid (fun wq hb => by
              have := same_any (Rd.below hr1x hb) (Rd.below hr2x hb) (by omega)
              rwa [decide_eq_true rfl] at this)
            clear hx1 hx2 hr1x hr2x hrq hbw
            go_wp2_with fail
            refine wp_tailB 8 (by kernel_rfl) (by kernel_rfl) ?_
            simp only [List.take_succ_cons, List.take_zero, List.drop_succ_cons, List.drop_zero]
            repeat still_step
            refine wpStill_nil ?_
            go_wp2_with (go_at_call 10; refine (hSr.out _ ((Below.refl _ _).drew)).mono ?_; rintro e w7 ⟨rfl, n7, e7⟩)
            exact ⟨⟨q + 1, by omega, by go_num, below_drawn hbq _⟩, by simp [intOf]; omega⟩
          · obtain rfl : q = c := by omega
            have i2 : decide ((q : Int) < (q : Int)) = false := by simp
            clear hx1 hx2
            go_wp2_with fail
            refine wakes8_g.mono ?_
            rintro e w10 ⟨rfl, hb10⟩
            have hfin := hbw.trans (hb10.mono hbw.size)
            go_wp2_with fail
            go_ret
            exact ⟨rfl, hfin⟩
end Go.Proofs.Ytppkponnopnmdaa
