/- GraphForm: the walk. -/
import Derived.Test.YtfhckabhaidhmaaGLawB
namespace Go.Proofs.Ytfhckabhaidhmaa
open Go.RowKit Go.Maps Go.Shelf Go.WideShapes Go.ChangeShapes Go.ChangeAt Go.Deep

theorem reached_norm {L : List (List Int)} {fl : List Int} {x : Nat} : Reached (normL L) fl x ↔ Reached L fl x := by
  unfold Reached
  constructor
  · rintro ⟨f, hf, h⟩; exact ⟨f, hf, way_norm.1 h⟩
  · rintro ⟨f, hf, h⟩; exact ⟨f, hf, way_norm.2 h⟩
theorem post_norm {L : List (List Int)} {y : Int} {o : List Nat} (h : PostOf (normL L) y o) : PostOf L y o := by
  obtain ⟨s, h⟩ := h
  rw [normL_norm] at h
  exact ⟨s, h⟩
theorem post_few {L : List (List Int)} {y : Int} {o : List Nat} (h : PostOf L y o) : o.length ≤ L.length := by
  obtain ⟨s', hk⟩ := h
  have := hk.few
  have := unseen_all (normL L).length []
  rw [normL_len] at *
  simp at *
  omega
set_option maxRecDepth 20000 in
set_option maxHeartbeats 4000000 in
theorem gform_any {w : World} {v : Value} {L : List (List Int)} {y : Int} (h : RdG w v L) : Calls Try.prog 8 #[v, .int .i64 y] w fun e w' => e = .returned (.bool true) ∧ Below w.heap.size w w' := by
  obtain ⟨av, cap, rfl⟩ := h.form
  go_enter Try.func8, Try.ntmps8
  go_wp2_with fail
  refine (great_any h).mono ?_
  rintro e w' ⟨q, rfl, rfl, hq⟩
  by_cases hln : 60 < L.length
  · have d1 : decide ((L.length : Int) > 60) = true := by simp; omega
    clear hq
    cases q
    all_goals
      go_wp2_with fail
      refine wakes_g.mono ?_
      rintro e w1 ⟨rfl, hb⟩
      go_wp2_with fail
      go_ret
      exact ⟨rfl, hb⟩
  have d1 : decide ((L.length : Int) > 60) = false := by simp; omega
  cases q with
  | true =>
    go_wp2_with fail
    refine wakes_g.mono ?_
    rintro e w1 ⟨rfl, hb⟩
    go_wp2_with fail
    go_ret
    exact ⟨rfl, hb⟩
  | false =>
    obtain ⟨hL, hr⟩ := hq rfl
    clear hq
    have hr1 : Hid (∀ r ∈ L, r.length ≤ 100000) := Lib.hid (fun r hr' => by have := hr r hr'; omega)
    have hrN : Hid (∀ r ∈ normL L, r.length ≤ 100000) := Lib.hid (fun r hr' => by have := norm_lens hr r hr'; omega)
    clear hr
    have hnl := normL_len L
    go_wp2_with fail
    refine (norm_any h (by omega) hr1.out).mono ?_
    rintro e w1 ⟨G, vs, rfl, M, hold⟩
    have hN := M.rd (n := L.length) (cap := L.length) hnl.symm
    have hg := h.below hold
    clear M
    go_wp2_with fail
    refine (norm_any hN (by omega) hrN.out).mono ?_
    rintro e w2 ⟨G2, vs2, rfl, M2, hb2⟩
    have hT := M2.rd (n := L.length) (cap := L.length) (by rw [normL_len, hnl])
    rw [normL_norm] at hT
    replace hN := hN.below hb2
    replace hg := hg.below hb2
    replace hold := hold.trans (hb2.mono hold.size)
    clear M2 hb2
    rw [hnl]
    obtain ⟨n, hn⟩ : ∃ n, n = L.length := ⟨_, rfl⟩
    rw [← hn] at hnl hT hN hg h hL hln d1 ⊢
    have hLL : L.length ≤ 100000 := by omega
    have hNN : (normL L).length ≤ 100000 := by omega
    replace hn := Lib.hid hn
    have hne : ((n : Int) != (n : Int)) = false := by simp
    go_wp2_with fail
    go_loopw [7, 8] (fun i _ wr => BackRel w2 wr n i) (fun i _ _ => n - (intOf i).toNat)
    case atStart => exact ⟨0, Nat.zero_le _, rfl, Below.refl _ _⟩
    case round =>
      obtain ⟨k, hk, rfl, hb⟩ := hrel
      have hTr := hT.below hb
      have hNr := hN.below hb
      by_cases hlt : k < n
      · have i1 : (k : Int) < (n : Int) := by omega
        obtain ⟨l, hl⟩ : ∃ l, (normL L)[k]? = some l := ⟨_, List.getElem?_eq_getElem (by omega)⟩
        have hll := hrN.out l (List.mem_of_getElem? hl)
        obtain ⟨hlp, hlx⟩ := norm_form L l (List.mem_of_getElem? hl)
        rw [hnl] at hlx
        obtain ⟨b1, o1, c1, u1, e1, hbl1, hc1, hd1⟩ := hNr.at hl
        obtain ⟨b2, o2, c2, u2, e2, -, hc2, hd2⟩ := hTr.at hl
        simp only [Value.slice.injEq] at e1 e2
        obtain ⟨e1, -, -⟩ := e1
        obtain ⟨e2, -, -⟩ := e2
        simp only [Option.some.injEq, Addr.mk.injEq] at e1 e2
        obtain ⟨rfl, rfl, -⟩ := e1
        obtain ⟨rfl, rfl, -⟩ := e2
        rw [Nat.zero_add] at hc1 hc2
        obtain ⟨a1, d1', rfl⟩ := hd1.shape
        obtain ⟨a2, d2', rfl⟩ := hd2.shape
        have hS := Lib.hid (fun m => (same_any (w := wr.drewN m) (Rd.below hd1 (below_drawn (Below.refl _ _) m)) (Rd.below hd2 (below_drawn (Below.refl _ _) m)) (by omega)).mono (R' := fun e w' => e = .returned (.bool true) ∧ ∃ q, w' = (wr.drewN m).drewN q) (fun e w' ⟨he, h⟩ => ⟨by rw [he]; simp, h⟩))
        have hbw : Below wr.heap.size wr wr := Below.refl _ _
        replace hl := Lib.hid hl
        replace hd1 := Lib.hid hd1
        replace hlp := Lib.hid hlp
        replace hlx := Lib.hid hlx
        clear hd2 hTr hNr
        go_wp2_with fail
        go_quiet ((go_at_call 22; exact Calls.quiet_of (hS.out _)))
        have hb' := below_drawn hbw nq
        clear hS
        go_wp2_with fail
        go_loopw [8] (fun j wx => BackRel wr wx l.length j) (fun j _ => l.length - (intOf j).toNat)
        case atStart => exact ⟨0, Nat.zero_le _, rfl, hb'⟩
        case round =>
          obtain ⟨m, hm, rfl, hbx⟩ := hrel
          have hc1' := (hbx.cell (p := ⟨G, k, none⟩) hbl1).trans hc1
          by_cases hltm : m < l.length
          · have i2 : (m : Int) < (l.length : Int) := by omega
            obtain ⟨x, hx⟩ : ∃ x, l[m]? = some x := ⟨_, List.getElem?_eq_getElem hltm⟩
            obtain ⟨hx0, hxn⟩ := hlx.out x (List.mem_of_getElem? hx)
            obtain ⟨b3, off3, cap3, e3, hc3⟩ := RdI.cell (Rd.below hd1.out hbx) hx
            simp only [Value.slice.injEq] at e3
            obtain ⟨rfl, -, rfl⟩ := e3
            have g1 : decide (x < 0) = false := by simp; omega
            have g2 : decide (x ≥ (n : Int)) = false := by simp; omega
            by_cases hm0 : m = 0
            · subst hm0
              rw [Nat.add_zero] at hc3
              clear hx hc1 hc2
              go_wp2_with fail
              go_quiet (fail)
              have hbq := below_drawn hbx nq
              go_wp2_with fail
              exact ⟨⟨1, by omega, by go_num, hbq⟩, by simp [intOf]; omega⟩
            · obtain ⟨z, hz⟩ : ∃ z, l[m - 1]? = some z := ⟨_, List.getElem?_eq_getElem (by omega)⟩
              have hzx : z < x := by
                have h1 := List.pairwise_iff_getElem.1 hlp.out (m - 1) m (by omega) hltm (by omega)
                rw [(List.getElem?_eq_some_iff.1 hx).2, (List.getElem?_eq_some_iff.1 hz).2] at h1
                exact h1
              have hc4 := row_cell (Rd.below hd1.out hbx) hz
              obtain ⟨j, rfl⟩ : ∃ j, m = j + 1 := ⟨m - 1, by omega⟩
              rw [Nat.add_sub_cancel] at hc4
              have g3 : decide (((j + 1 : Nat) : Int) > 0) = true := by simp <;> omega
              have g4 : decide (x ≤ z) = false := by simp; omega
              have g5 : ((j + 1 : Nat) : Int) - 1 = (j : Int) := by omega
              have g6 : IntKind.i64.wrap (((j + 1 : Nat) : Int) - 1) = (j : Int) := by rw [g5]; exact IntWalk.i64_in _ (by omega)
              have g7 : (j : Int) < (l.length : Int) := by omega
              clear hx hz hc1 hc2 hm0
              go_wp2_with fail
              go_quiet (fail)
              have hbq := below_drawn hbx nq
              clear g5 g6
              go_wp2_with fail
              exact ⟨⟨j + 1 + 1, by omega, by go_num, hbq⟩, by simp [intOf]; omega⟩
          · obtain rfl : m = l.length := by omega
            have i2 : decide ((l.length : Int) < (l.length : Int)) = false := by simp
            have hb3 := hb.trans (hbx.mono hb.size)
            go_wp2_with fail
            exact ⟨⟨k + 1, by omega, by go_num, hb3⟩, by simp [intOf]; omega⟩
      · obtain rfl : k = n := by omega
        have i1 : decide ((k : Int) < (k : Int)) = false := by simp
        replace hold := hold.trans (hb.mono hold.size)
        replace hg := hg.below hb
        clear hTr hNr hT
        replace hN := hN.below hb
        go_wp2_with fail
        obtain ⟨wa, hwa⟩ : ∃ wa, Hid (wr.alloc (.cells #[.int .i64 y] 3) = wa) := ⟨_, Lib.hid rfl⟩
        have hba : Below wr.heap.size wr wa := by rw [← hwa.out]; exact (Below.refl _ _).alloc (Nat.le_refl _) _
        have hfa : RdI wa (.slice (some ⟨wr.heap.size, 0, none⟩) 1 1) [y] := by rw [← hwa.out]; exact rdi_of (t := 3) rfl (heap_alloc_at rfl)
        rw [hwa.out]
        replace hold := hold.trans (hba.mono hold.size)
        replace hg := hg.below hba
        replace hN := hN.below hba
        clear hb hba hwa
        refine (reach_any hg hLL hr1.out hfa (by simp)).mono ?_
        rintro e w3 ⟨S, s, rfl, hs, hsm, -, hb3⟩
        rw [← hn.out]
        replace hold := hold.trans (hb3.mono hold.size)
        replace hg := hg.below hb3
        replace hN := hN.below hb3
        have hsl := (Array.getElem?_eq_some_iff.1 hs).1
        replace hs := Lib.hid hs
        replace hsm := Lib.hid hsm
        clear hb3 hfa
        go_wp2_with fail
        obtain ⟨wc, hwc⟩ : ∃ wa, Hid (w3.alloc (.cells #[.int .i64 y] 3) = wa) := ⟨_, Lib.hid rfl⟩
        have hbc : Below w3.heap.size w3 wc := by rw [← hwc.out]; exact (Below.refl _ _).alloc (Nat.le_refl _) _
        have hfc : RdI wc (.slice (some ⟨w3.heap.size, 0, none⟩) 1 1) [y] := by rw [← hwc.out]; exact rdi_of (t := 3) rfl (heap_alloc_at rfl)
        rw [hwc.out]
        replace hold := hold.trans (hbc.mono hold.size)
        replace hg := hg.below hbc
        replace hN := hN.below hbc
        refine (reach_any hN hNN hrN.out hfc (by simp)).mono ?_
        rintro e w4 ⟨S2, s2, rfl, hs2, hsm2, -, hb4⟩
        rw [hnl] at hs2 ⊢
        have hb34 := hbc.trans (hb4.mono hbc.size)
        have hs1 := (hb34.block S hsl).trans hs.out
        rw [← hn.out] at hs1
        rw [seenA_ext (s := s2) (t := s) (fun x => ((hsm2 x).trans reached_norm).trans (hsm.out x).symm)] at hs2
        replace hold := hold.trans (hb4.mono hold.size)
        replace hg := hg.below hb4
        replace hN := hN.below hb4
        clear hbc hwc hb4 hb34 hfc hsm2 hsm hs hsl hrN
        replace hs1 := Lib.hid hs1
        replace hs2 := Lib.hid hs2
        go_wp2_with fail
        go_loopw [11] (fun j wx => ∃ m q : Nat, m ≤ k ∧ j = .int .i64 m ∧ wx = w4.drewN q) (fun j _ => k - (intOf j).toNat)
        case atStart => exact ⟨0, 0, Nat.zero_le _, rfl, rfl⟩
        case round =>
          obtain ⟨m, q, hm, rfl, rfl⟩ := hrel
          by_cases hltm : m < k
          · have i2 : (m : Int) < (k : Int) := by omega
            have c1 : w4.cell? ⟨S, m, none⟩ = some (.bool (decide (m ∈ s))) := by rw [blk_cell hs1.out]; exact seenA_at hltm
            have c2 : w4.cell? ⟨S2, m, none⟩ = some (.bool (decide (m ∈ s))) := by rw [blk_cell hs2.out]; exact seenA_at hltm
            generalize hqq : decide (m ∈ s) = qq at c1 c2
            replace hqq := Lib.hid hqq
            cases qq
            all_goals
              go_wp2_with fail
              go_quiet (fail)
              go_wp2_with fail
              exact ⟨⟨m + 1, q + nq, by omega, by go_num, rfl⟩, by simp [intOf]; omega⟩
          · obtain rfl : m = k := by omega
            have i2 : decide ((m : Int) < (m : Int)) = false := by simp
            have hbq := below_drawn (Below.refl w4.heap.size w4) q
            replace hold := hold.trans (hbq.mono hold.size)
            replace hg := hg.below hbq
            replace hN := hN.below hbq
            clear hs1 hs2 hbq
            go_wp2_with fail
            refine (post_any hg hLL hr1.out).mono ?_
            rintro e w6 ⟨lv, o, rfl, hown, hpo, hb6⟩
            replace hN := hN.below hb6
            have hlv : RdI w6 lv (o.map fun x : Nat => (x : Int)) := strip_rd (base := (w4.drewN q).heap.size) (n := o.length) (by rw [List.map_map]; exact hown)
            replace hold := hold.trans (hb6.mono hold.size)
            clear hb6 hown hg
            replace hpo := Lib.hid hpo
            have hrN2 : Hid (∀ r ∈ normL L, r.length ≤ 100000) := Lib.hid (norm_lens hr1.out)
            go_wp2_with fail
            refine (post_any hN hNN hrN2.out).mono ?_
            rintro e w7 ⟨lv2, o2, rfl, hown2, hpo2, hb7⟩
            have ho1 := post_few hpo.out
            obtain rfl := post_det (post_norm hpo2) hpo.out
            have hlv2 : RdI w7 lv2 (o.map fun x : Nat => (x : Int)) := strip_rd (base := w6.heap.size) (n := o.length) (by rw [List.map_map]; exact hown2)
            replace hlv := Rd.below hlv hb7
            replace hold := hold.trans (hb7.mono hold.size)
            clear hb7 hpo hpo2 hown2
            go_wp2_with fail
            refine (same_any hlv hlv2 (by simp; omega)).mono ?_
            rintro e w8 ⟨rfl, n8, e8⟩
            replace hold := below_drawn hold n8
            rw [← e8] at hold
            clear e8 hlv hlv2
            go_wp2_with fail
            refine wakes_g.mono ?_
            rintro e w9 ⟨rfl, hb⟩
            replace hold := hold.trans (hb.mono hold.size)
            go_wp2_with fail
            go_ret
            exact ⟨rfl, hold⟩
end Go.Proofs.Ytfhckabhaidhmaa
