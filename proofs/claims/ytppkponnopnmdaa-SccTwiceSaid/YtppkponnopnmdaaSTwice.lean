/- SccTwice: the walk. -/
import Derived.Test.YtppkponnopnmdaaSLaw
import Derived.StillTailTactics
namespace Go.Proofs.Ytppkponnopnmdaa
open Go.RowKit Go.Maps Go.Shelf Go.WideShapes Go.ChangeShapes Go.ChangeAt Go.Deep

theorem wp_tailT {P : Program} {id : Nat} {Q : Exit → Act → World → Prop} {a : Act} {w : World} {l : List Oper} (n : Nat) (hm : P.follows .mixedOrders = true) (hB : Region.lexTailB .any l.toArray n = true)
    (h : wpStill P l.toArray w.drew (fun a' => wpList P l.toArray Q (l.drop n) a' w.drew) (l.take n) a) : (Code.region id l.toArray true).wp P Q a w :=
  wp_region_still_tail n hm hB h
/-- Each by itself. -/
def idM (x : Nat) : Int := x
theorem keys_id (n : Nat) : keysOf ((List.range n).map idM) = (List.range n).map idM :=
  keysOf_nodup _ (List.pairwise_map.2 (List.Pairwise.imp (fun {a b} hab e => hab (Int.ofNat_inj.1 e)) List.nodup_range))
theorem cnt_id (n : Nat) : cntM idM n = n := by unfold cntM; rw [keys_id]; simp
theorem num_id {n x : Nat} (hx : x < n) : numF n idM x = x := by
  unfold numF
  have h1 : place (keysOf ((List.range n).map idM)) (idM x) = x := place_of (nodup_keysOf _) (by rw [keys_id, List.getElem?_map, List.getElem?_range hx]; rfl)
  rw [h1]
theorem FoldOf.alone {L F : List (List Int)} {m : Nat → Int} (hm : Marks L m) (h : FoldOf L m F) : Marks F idM := by
  intro x y hx _
  constructor
  · intro e
    obtain rfl : x = y := Int.ofNat_inj.1 e
    exact .refl hx
  · rintro ⟨h1, h2⟩
    rw [h.apart hm h1 h2]
theorem FoldOf.again {L F : List (List Int)} {m : Nat → Int} (h : FoldOf L m F) : FoldOf F idM F := by
  refine ⟨(cnt_id _).symm, h.form, fun a b => ?_⟩
  constructor
  · intro e
    exact ⟨((h.edge a b).1 e).1, a, b, e, num_id e.lt.1, num_id e.lt.2⟩
  · rintro ⟨_, i, x, e, h1, h2⟩
    rw [num_id e.lt.1] at h1
    rw [num_id e.lt.2] at h2
    obtain rfl : i = a := Int.ofNat_inj.1 h1
    obtain rfl : x = b := Int.ofNat_inj.1 h2
    exact e

set_option maxRecDepth 20000 in
set_option maxHeartbeats 8000000 in
theorem twice_any8 {w : World} {v : Value} {L : List (List Int)} (h : RdG w v L) : Calls Try.prog 6 #[v] w fun e w' => e = .returned (.bool true) ∧ Below w.heap.size w w' := by
  obtain ⟨av, cap, rfl⟩ := h.form
  go_enter Try.func6, Try.ntmps6
  go_wp2_with fail
  refine (great8_any h).mono ?_
  rintro e w' ⟨q, rfl, rfl, hq⟩
  cases q with
  | true =>
    go_wp2_with fail
    refine wakes8_g.mono ?_
    rintro e w1 ⟨rfl, hb⟩
    go_wp2_with fail
    go_ret
    exact ⟨rfl, hb⟩
  | false =>
    obtain ⟨hL60, hr60⟩ := hq rfl
    clear hq
    have hr1 : Hid (∀ r ∈ L, r.length ≤ 100000) := Lib.hid (fun r hr' => by have := hr60 r hr'; omega)
    obtain ⟨n, hn⟩ : ∃ n, n = L.length := ⟨_, rfl⟩
    rw [← hn] at h hL60 ⊢
    have hFo := Lib.hid (fold_any h (by omega) hr1.out)
    replace hn := Lib.hid hn
    clear hr60
    go_wp2_with fail
    refine hFo.out.mono ?_
    rintro e w1 ⟨fv, F, m, rfl, hker, hfold, hg1, hb1⟩
    obtain ⟨c, hc⟩ : ∃ c, c = F.length := ⟨_, rfl⟩
    have hcn : c ≤ n := by have h1 := cntM_le m L.length; have h2 := hfold.len; have h3 := hn.out; omega
    obtain ⟨af, cf, rfl⟩ : ∃ a k, fv = .slice a c k := by rw [hc]; exact hg1.form
    have halone := hfold.alone hker
    have hagain := hfold.again
    have hFl : ∀ r ∈ F, r.length ≤ c := fun r hr => by
      have h1 := hfold.form r hr
      have := rise_lenN h1.1 h1.2
      omega
    have hFr : ∀ r ∈ F, r.length ≤ 100000 := fun r hr => by have := hFl r hr; omega
    have hCo := Lib.hid (comps_any hg1 (by rw [← hc]; omega) hFr)
    rw [← hc] at hCo
    have hgK : Hid (∀ wx : World, Below w1.heap.size w1 wx → RdG wx (.slice af c cf) F) := Lib.hid (fun wx hb => hg1.below hb)
    have hLK : Hid (∀ wx : World, Below w1.heap.size w1 wx → RdG wx (.slice av n cap) L ∧ Below w.heap.size w wx) := Lib.hid (fun wx hb => ⟨h.below (hb1.trans (hb.mono hb1.size)), hb1.trans (hb.mono hb1.size)⟩)
    replace hc := Lib.hid hc
    replace hFr := Lib.hid hFr
    replace hFl := Lib.hid hFl
    replace halone := Lib.hid halone
    replace hagain := Lib.hid hagain
    clear hFo hg1 h hb1
    go_wp2_with fail
    refine hCo.out.mono ?_
    rintro e w2 ⟨R, mm, rfl, hR, hkm, hRl, hb2⟩
    have hnum : ∀ x, x < c → numF c mm x = x := fun x hx => by
      have h1 : Marks F mm := fun x y hx hy => hkm x y (by rw [hc.out]; exact hx) (by rw [hc.out]; exact hy)
      rw [kernel_num (n := c) (fun x y hx hy => h1.kernel halone.out x y (by rw [← hc.out]; exact hx) (by rw [← hc.out]; exact hy)) x hx, num_id hx]
    rw [markA_congr hnum] at hR
    have hF2 := Lib.hid (fold_any (hgK.out _ hb2) (by rw [← hc.out]; omega) hFr.out)
    have hRs := (Array.getElem?_eq_some_iff.1 hR).1
    replace hR := Lib.hid hR
    clear hCo hkm hnum hRl
    go_wp2_with fail
    refine hF2.out.mono ?_
    rintro e w3 ⟨fv2, F2, m2, rfl, hker2, hfold2, hg3, hb3⟩
    obtain rfl := hfold2.det hker2 halone.out hagain.out
    obtain ⟨a2, c2, rfl⟩ : ∃ a k, fv2 = .slice a c k := by rw [hc.out]; exact hg3.form
    have hb23 := hb2.trans (hb3.mono hb2.size)
    have hR3 := (hb3.block R hRs).trans hR.out
    have dne : ((c : Int) != (c : Int)) = false := by simp
    have hO1 := Lib.hid (order_any (hgK.out _ hb23) (by rw [← hc.out]; omega) hFr.out)
    have hK3 : Hid (∀ wx : World, Below w3.heap.size w3 wx → RdG wx (.slice a2 c c2) F2 ∧ RdG wx (.slice af c cf) F2 ∧ wx.heap[R]? = some (.cells (markA c (fun x => (x : Int))) 3 (0, 0)) ∧ RdG wx (.slice av n cap) L ∧ Below w.heap.size w wx) := Lib.hid (fun wx hb => by
      have hb' := hb23.trans (hb.mono hb23.size)
      obtain ⟨h1, h2⟩ := hLK.out _ hb'
      exact ⟨hg3.below hb, hgK.out _ hb', (hb.block R (Array.getElem?_eq_some_iff.1 hR3).1).trans hR3, h1, h2⟩)
    have hOrF : Hid (∀ (m' : Nat → Int) (F' : List (List Int)) (o' : List Nat), Marks F2 m' → FoldOf F2 m' F' → OrdOf F' o' → OrdOf F2 o') := Lib.hid (fun m' F' o' h1 h2 h3 => by
      rw [h2.det h1 halone.out hagain.out] at h3
      exact h3)
    replace hfold := Lib.hid hfold
    replace hker := Lib.hid hker
    clear hF2 hg3 hb3 hb2 hb23 hR3 hR hker2 hfold2 hgK hLK
    go_wp2_with fail
    refine hO1.out.mono ?_
    rintro e w4 ⟨r1, F3, m3, o1, rfl, hk3, hf3, ho3, hrd1, hb4⟩
    have hord1 := hOrF.out m3 F3 o1 hk3 hf3 ho3
    have hO2 := Lib.hid (order_any (hK3.out _ hb4).2.2.2.1 (by rw [← hn.out]; omega) hr1.out)
    replace hord1 := Lib.hid hord1
    replace hrd1 := Lib.hid hrd1
    clear hO1 hk3 hf3 ho3
    go_wp2_with fail
    refine hO2.out.mono ?_
    rintro e w5 ⟨r2, F4, m4, o2, rfl, hk4, hf4, ho4, hrd2, hb5⟩
    obtain rfl := hf4.det hk4 hker.out hfold.out
    obtain rfl := hord1.out.det ho4
    have hb45 := hb4.trans (hb5.mono hb4.size)
    have hol : o1.length ≤ 1000000 := by rw [ho4.len, ← hc.out]; omega
    have hSm := Lib.hid (same_any (Rd.below hrd1.out hb5) hrd2 (by simpa using hol))
    rw [decide_eq_true rfl] at hSm
    clear hO2 hk4 hf4 ho4 hrd2 hrd1 hb5 hb4
    go_wp2_with fail
    refine hSm.out.mono ?_
    rintro e w6 ⟨rfl, n6, e6⟩
    have hb6 := Lib.hid (below_drawn hb45 n6)
    rw [← e6] at hb6
    clear hSm hb45 e6
    go_wp2_with fail
    go_loopw [2, 6] (fun _ i wx => ∃ k : Nat, k ≤ c ∧ i = .int .i64 k ∧ Below w3.heap.size w3 wx) (fun _ i _ => c - (intOf i).toNat)
    case atStart => exact ⟨0, Nat.zero_le _, by rfl, hb6.out⟩
    case round =>
      clear hb6
      obtain ⟨k, hk, rfl, hbk⟩ := hrel
      by_cases hlt : k < c
      · obtain ⟨hg2x, hgx, hRx, _, _⟩ := hK3.out _ hbk
        have i1 : (k : Int) < (c : Int) := by omega
        obtain ⟨r, hrk⟩ : ∃ r, F4[k]? = some r := ⟨_, List.getElem?_eq_getElem (by rw [← hc.out]; exact hlt)⟩
        have hrl := hFl.out r (List.mem_of_getElem? hrk)
        obtain ⟨b1, o1', c1, u1, e1, _, cc1, hr1x⟩ := hgx.at hrk
        obtain ⟨b2, o2', c2', u2, e2, _, cc2, hr2x⟩ := hg2x.at hrk
        rw [← hc.out] at e1 e2
        simp only [Value.slice.injEq] at e1 e2
        obtain ⟨rfl, -, rfl⟩ := e1
        obtain ⟨rfl, -, rfl⟩ := e2
        obtain ⟨ar1, cr1, rfl⟩ := hr1x.shape
        obtain ⟨ar2, cr2, rfl⟩ := hr2x.shape
        have cR : wr.cell? ⟨R, k, none⟩ = some (.int .i64 k) := by rw [blk_cell hRx, markA_at hlt]
        have d1 : ((k : Int) != (k : Int)) = false := by simp
        have hSr : Hid (∀ (wq : World), Below wr.heap.size wr wq → Calls Try.prog 10 #[.slice ar1 r.length cr1, .slice ar2 r.length cr2] wq fun e w' => e = .returned (.bool true) ∧ ∃ n, w' = wq.drewN n) := Lib.hid (fun wq hb => by
          have := same_any (Rd.below hr1x hb) (Rd.below hr2x hb) (by omega)
          rwa [decide_eq_true rfl] at this)
        clear hRx hg2x hgx hr1x hr2x hrk
        go_wp2_with fail
        refine wp_tailT 15 (by kernel_rfl) (by kernel_rfl) ?_
        simp only [List.take_succ_cons, List.take_zero, List.drop_succ_cons, List.drop_zero]
        repeat still_step
        refine wpStill_nil ?_
        go_wp2_with (go_at_call 10; refine (hSr.out _ ((Below.refl _ _).drew)).mono ?_; rintro e w7 ⟨rfl, n7, e7⟩)
        exact ⟨⟨k + 1, by omega, by go_num, below_drawn hbk _⟩, by simp [intOf]; omega⟩
      · obtain rfl : k = c := by omega
        have i1 : decide ((k : Int) < (k : Int)) = false := by simp
        have hbw := (hK3.out _ hbk).2.2.2.2
        go_wp2_with fail
        refine wakes8_g.mono ?_
        rintro e w9 ⟨rfl, hb9⟩
        have hfin := hbw.trans (hb9.mono hbw.size)
        go_wp2_with fail
        go_ret
        exact ⟨rfl, hfin⟩
end Go.Proofs.Ytppkponnopnmdaa
