/- SccTells: the walk. -/
import Derived.Test.YtppkponnopnmdaaSROrder
namespace Go.Proofs.Ytppkponnopnmdaa
open Go.RowKit Go.Maps Go.Shelf Go.WideShapes Go.ChangeShapes Go.ChangeAt Go.Deep

theorem boolA_list (n : Nat) (q : Nat → Bool) : boolA n q = seenA n ((List.range n).filter q) := boolA_seen (fun x hx => by
  rw [Bool.eq_iff_iff, decide_eq_true_iff, List.mem_filter, List.mem_range]
  exact ⟨fun h => ⟨hx, h⟩, fun h => h.2⟩)
set_option maxRecDepth 20000 in
set_option maxHeartbeats 8000000 in
theorem tells_any8 {w : World} {v : Value} {L : List (List Int)} (h : RdG w v L) : Calls Try.prog 3 #[v] w fun e w' => e = .returned (.bool true) ∧ Below w.heap.size w w' := by
  obtain ⟨av, cap, rfl⟩ := h.form
  go_enter Try.func3, Try.ntmps3
  go_wp2_with fail
  refine (great8_any h).mono ?_
  rintro e w' ⟨q, rfl, rfl, hq⟩
  cases q with
  | true =>
    go_wp2_with fail
    refine wakes8_g.mono ?_
    rintro e w1 ⟨rfl, hb⟩
    go_wp2_with fail
    go_ret
    exact ⟨rfl, hb⟩
  | false =>
    obtain ⟨hL60, hr60⟩ := hq rfl
    clear hq
    have hr1 : Hid (∀ r ∈ L, r.length ≤ 100000) := Lib.hid (fun r hr' => by have := hr60 r hr'; omega)
    obtain ⟨n, hn⟩ : ∃ n, n = L.length := ⟨_, rfl⟩
    rw [← hn] at h hL60 ⊢
    have hC := Lib.hid (comps_any h (by omega) hr1.out)
    rw [← hn] at hC
    have hK : Hid (∀ wx : World, Below w.heap.size w wx → RdG wx (.slice av n cap) L) := Lib.hid (fun wx hb => h.below hb)
    replace hn := Lib.hid hn
    clear hr60 h
    go_wp2_with fail
    refine hC.out.mono ?_
    rintro e w1 ⟨R, m, rfl, hR, hkm, hRl, hold⟩
    have hm : Marks L m := fun x y hx hy => hkm x y (by rw [hn.out]; exact hx) (by rw [hn.out]; exact hy)
    have hRd1 := Lib.hid (markA_rd (cap := n) hR rfl)
    have hrC := Lib.hid (rcomps_any (hK.out _ hold) (by rw [← hn.out]; omega) hr1.out hm)
    rw [← hn.out] at hrC
    replace hm := Lib.hid hm
    clear hC hR hkm hRl
    go_wp2_with fail
    refine hrC.out.mono ?_
    rintro e w2 ⟨A, rfl, hA, hAl, hb2⟩
    have hRd2 : RdI w2 (.slice (some ⟨A, 0, none⟩) n n) ((List.range n).map (numF n m)) := markA_rd hA rfl
    have hS1 := Lib.hid (same_any (Rd.below hRd1.out hb2) hRd2 (by simp; omega))
    rw [decide_eq_true rfl] at hS1
    replace hold := hold.trans (hb2.mono hold.size)
    clear hrC hA hAl hb2 hRd1 hRd2
    go_wp2_with fail
    refine hS1.out.mono ?_
    rintro e w3 ⟨rfl, n3, e3⟩
    replace hold := below_drawn hold n3
    rw [← e3] at hold
    have hY := Lib.hid (cyclic_any (hK.out _ hold) (by rw [← hn.out]; omega) hr1.out)
    rw [← hn.out] at hY
    clear hS1 e3
    go_wp2_with fail
    refine hY.out.mono ?_
    rintro e w4 ⟨O, rfl, hO, hOl, hb4⟩
    replace hold := hold.trans (hb4.mono hold.size)
    have hOs := (Array.getElem?_eq_some_iff.1 hO).1
    have hrY := Lib.hid (rcyclic_any (hK.out _ hold) (by rw [← hn.out]; omega) hr1.out)
    rw [← hn.out] at hrY
    rw [boolA_list] at hO
    replace hO := Lib.hid hO
    clear hY hOl hb4
    go_wp2_with fail
    refine hrY.out.mono ?_
    rintro e w5 ⟨O2, rfl, hO2, hOl2, hb5⟩
    rw [boolA_list] at hO2
    have hBs := Lib.hid (rbools_yes (ca := n) (cb := n) ((hb5.block O hOs).trans hO.out) hO2 (by omega))
    replace hold := hold.trans (hb5.mono hold.size)
    clear hrY hOl2 hb5 hO hO2 hOs
    go_wp2_with fail
    refine hBs.out.mono ?_
    rintro e w6 ⟨rfl, n6, e6⟩
    replace hold := below_drawn hold n6
    rw [← e6] at hold
    have hF := Lib.hid (fold_any (hK.out _ hold) (by rw [← hn.out]; omega) hr1.out)
    clear hBs e6
    go_wp2_with fail
    refine hF.out.mono ?_
    rintro e w7 ⟨fv, F, mf, rfl, hkf, hfold, hg7, hb7⟩
    replace hold := hold.trans (hb7.mono hold.size)
    have hrF := Lib.hid (rfold_any (hK.out _ hold) (by rw [← hn.out]; omega) hr1.out hkf)
    have hFl : F.length ≤ n := by have h1 := cntM_le mf L.length; have h2 := hfold.len; have h3 := hn.out; omega
    have hFr : ∀ r ∈ F, r.length ≤ 1000000 := fun r hr => by
      have h1 := hfold.form r hr
      have := rise_lenN h1.1 h1.2
      omega
    replace hg7 := Lib.hid hg7
    replace hFr := Lib.hid hFr
    replace hkf := Lib.hid hkf
    replace hfold := Lib.hid hfold
    clear hF hb7
    go_wp2_with fail
    refine hrF.out.mono ?_
    rintro e w8 ⟨G, F2, rfl, hfold2, hg8, hb8⟩
    obtain rfl := hfold2.det hkf.out hkf.out hfold.out
    have hSg := Lib.hid (rsameg_yes (hg7.out.below hb8) hg8 (by omega) hFr.out)
    replace hold := hold.trans (hb8.mono hold.size)
    clear hrF hg7 hg8 hb8 hfold2
    go_wp2_with fail
    refine hSg.out.mono ?_
    rintro e w9 ⟨rfl, n9, e9⟩
    replace hold := below_drawn hold n9
    rw [← e9] at hold
    have hOr := Lib.hid (order_any (hK.out _ hold) (by rw [← hn.out]; omega) hr1.out)
    clear hSg e9
    go_wp2_with fail
    refine hOr.out.mono ?_
    rintro e w10 ⟨r1, F3, m3, o1, rfl, hk3, hf3, ho3, hrd1, hb10⟩
    replace hold := hold.trans (hb10.mono hold.size)
    have hrO := Lib.hid (rorder_any (hK.out _ hold) (by rw [← hn.out]; omega) hr1.out hk3)
    replace hrd1 := Lib.hid hrd1
    replace hk3 := Lib.hid hk3
    replace hf3 := Lib.hid hf3
    replace ho3 := Lib.hid ho3
    clear hOr hb10
    go_wp2_with fail
    refine hrO.out.mono ?_
    rintro e w11 ⟨r2, F4, o2, rfl, hf4, ho4, hrd2, hb11⟩
    obtain rfl := hf4.det hk3.out hk3.out hf3.out
    obtain rfl := ho4.det ho3.out
    have hol : o2.length ≤ 1000000 := by
      have h1 := cntM_le m3 L.length
      have h2 := hf3.out.len
      have h3 := ho3.out.len
      have h4 := hn.out
      omega
    have hS2 := Lib.hid (same_any (xs := natL o2) (ys := natL o2) (Rd.below hrd1.out hb11) hrd2 (by simpa [natL] using hol))
    rw [decide_eq_true rfl] at hS2
    replace hold := hold.trans (hb11.mono hold.size)
    clear hrO hrd1 hrd2 hb11 hf4 ho4
    go_wp2_with fail
    refine hS2.out.mono ?_
    rintro e w12 ⟨rfl, n12, e12⟩
    replace hold := below_drawn hold n12
    rw [← e12] at hold
    clear hS2 e12
    go_wp2_with fail
    refine wakes8_g.mono ?_
    rintro e w13 ⟨rfl, hb13⟩
    replace hold := hold.trans (hb13.mono hold.size)
    clear hb13
    go_wp2_with fail
    go_ret
    exact ⟨rfl, hold⟩
end Go.Proofs.Ytppkponnopnmdaa
