/- SccGoes: the walk. -/
import Derived.Test.YtppkponnopnmdaaSLaw
namespace Go.Proofs.Ytppkponnopnmdaa
open Go.RowKit Go.Maps Go.Shelf Go.WideShapes Go.ChangeShapes Go.ChangeAt Go.Deep

theorem OrdOf.nodup {F : List (List Int)} {o : List Nat} (h : OrdOf F o) : o.Nodup := by
  rw [List.nodup_iff_pairwise_ne, List.pairwise_iff_getElem]
  intro i j hi hj hij e
  have h1 := (h.next j o[j] (List.getElem?_eq_getElem hj)).1.2.1
  rw [← e] at h1
  exact h1 (List.mem_take_iff_getElem.2 ⟨i, by omega, rfl⟩)
theorem OrdOf.lt {F : List (List Int)} {o : List Nat} (h : OrdOf F o) : ∀ x ∈ o, x < F.length := by
  intro x hx
  obtain ⟨i, hi⟩ := List.getElem?_of_mem hx
  exact (h.next i x hi).1.1
theorem OrdOf.mem {F : List (List Int)} {o : List Nat} (h : OrdOf F o) {x : Nat} (hx : x < F.length) : x ∈ o := by
  by_cases hm : x ∈ o
  · exact hm
  · have h1 := nodup_len (n := F.length) (k := (x :: o).map (fun y : Nat => (y : Int))) (List.pairwise_map.2 (List.Pairwise.imp (fun {a b} hab e => hab (Int.ofNat_inj.1 e)) (List.nodup_cons.2 ⟨hm, h.nodup⟩))) (fun z hz => by
      obtain ⟨y, hy, rfl⟩ := List.mem_map.1 hz
      rcases List.mem_cons.1 hy with rfl | hy
      · omega
      · have := h.lt y hy; omega)
    simp [h.len] at h1
    omega
theorem OrdOf.on {F : List (List Int)} {o : List Nat} (h : OrdOf F o) {a b : Nat} (e : Edge F a b) : o.idxOf a < o.idxOf b := by
  have hb := h.mem e.lt.2
  have h1 := List.idxOf_lt_length_of_mem hb
  have h2 := (h.next (o.idxOf b) b (by rw [List.getElem?_eq_getElem h1, List.getElem_idxOf])).1.2.2 a e
  obtain ⟨j, hj, e2⟩ := List.mem_take_iff_getElem.1 h2
  have h3 : o.idxOf a = j := by
    have h4 := List.getElem_idxOf (List.idxOf_lt_length_of_mem (h.mem e.lt.1))
    exact (List.getElem_inj h.nodup).1 (h4.trans e2.symm)
  omega
/-- Where the first ones stand, counted from one. -/
def atF (o : List Nat) (i : Nat) (x : Nat) : Int := if x ∈ o.take i then (o.idxOf x : Int) + 1 else 0
def GoIn (w3 wx : World) (r : List Int) (j : Value) : Prop := ∃ q : Nat, q ≤ r.length ∧ j = .int .i64 q ∧ Below w3.heap.size w3 wx

set_option maxRecDepth 20000 in
set_option maxHeartbeats 8000000 in
theorem goes_any8 {w : World} {v : Value} {L : List (List Int)} (h : RdG w v L) : Calls Try.prog 5 #[v] w fun e w' => e = .returned (.bool true) ∧ Below w.heap.size w w' := by
  obtain ⟨av, cap, rfl⟩ := h.form
  go_enter Try.func5, Try.ntmps5
  go_wp2_with fail
  refine (great8_any h).mono ?_
  rintro e w' ⟨q, rfl, rfl, hq⟩
  cases q with
  | true =>
    go_wp2_with fail
    refine wakes8_g.mono ?_
    rintro e w1 ⟨rfl, hb⟩
    go_wp2_with fail
    go_ret
    exact ⟨rfl, hb⟩
  | false =>
    obtain ⟨hL60, hr60⟩ := hq rfl
    clear hq
    have hr1 : Hid (∀ r ∈ L, r.length ≤ 100000) := Lib.hid (fun r hr' => by have := hr60 r hr'; omega)
    obtain ⟨n, hn⟩ : ∃ n, n = L.length := ⟨_, rfl⟩
    rw [← hn] at h hL60 ⊢
    have hFo := Lib.hid (fold_any h (by omega) hr1.out)
    replace hn := Lib.hid hn
    clear hr60
    go_wp2_with fail
    refine hFo.out.mono ?_
    rintro e w1 ⟨fv, F, m, rfl, hker, hfold, hg1, hb1⟩
    have hOr := Lib.hid (order_any (h.below hb1) (by rw [← hn.out]; omega) hr1.out)
    obtain ⟨c, hc⟩ : ∃ c, c = F.length := ⟨_, rfl⟩
    have hcn : c ≤ n := by have h1 := cntM_le m L.length; have h2 := hfold.len; have h3 := hn.out; omega
    obtain ⟨af, cf, rfl⟩ : ∃ a k, fv = .slice a c k := by rw [hc]; exact hg1.form
    replace hc := Lib.hid hc
    clear hFo
    go_wp2_with fail
    refine hOr.out.mono ?_
    rintro e w2 ⟨rv, F', m', o, rfl, hker', hfold', hord, hrd, hb2⟩
    obtain rfl := hfold'.det hker' hker hfold
    have hol : o.length = c := by rw [hord.len, hc.out]
    obtain ⟨ao, co, rfl⟩ : ∃ a k, rv = .slice a c k := by
      obtain ⟨a, k, e⟩ := hrd.form
      exact ⟨a, k, by rw [e]; simp [hol]⟩
    have hb12 := hb1.trans (hb2.mono hb1.size)
    have hCo := Lib.hid (comps_any (h.below hb12) (by rw [← hn.out]; omega) hr1.out)
    rw [← hn.out] at hCo
    clear hOr hker' hfold'
    have hrd' := Lib.hid hrd
    have hg1' := Lib.hid hg1
    clear hrd hg1
    go_wp2_with fail
    refine hCo.out.mono ?_
    rintro e w3 ⟨R, mm, rfl, hR, hkm, hRl, hb3⟩
    have hkm2 : Marks L mm := fun x y hx hy => hkm x y (by rw [hn.out]; exact hx) (by rw [hn.out]; exact hy)
    have hnum : ∀ x, x < n → numF n mm x = numF n m x := fun x hx => kernel_num (n := n) (fun x y hx hy => hkm2.kernel hker x y (by rw [← hn.out]; exact hx) (by rw [← hn.out]; exact hy)) x hx
    rw [markA_congr hnum] at hR
    have hb13 := hb12.trans (hb3.mono hb12.size)
    have hRs := (Array.getElem?_eq_some_iff.1 hR).1
    have hro3 : RdI w3 (.slice ao c co) (o.map fun x : Nat => (x : Int)) := Rd.below hrd'.out hb3
    have hgF3 : RdG w3 (.slice af c cf) F' := hg1'.out.below (hb2.trans (hb3.mono hb2.size))
    have dne : ((c : Int) != (c : Int)) = false := by simp
    have hmk := make_ints c (by omega) w3
    obtain ⟨A, hA⟩ : ∃ A, A = w3.heap.size := ⟨_, rfl⟩
    rw [← hA] at hmk hRs
    obtain ⟨w4, hw4⟩ : ∃ u, u = w3.alloc (.cells (markA c (fun _ => 0)) 3) := ⟨_, rfl⟩
    rw [← hw4] at hmk
    have hA4 : w4.heap[A]? = some (.cells (markA c (fun _ => 0)) 3 (0, 0)) := by rw [hw4, hA]; exact heap_alloc_new w3 _
    have hb4 : Below A w3 w4 := by rw [hw4, hA]; exact (Below.refl _ _).alloc (Nat.le_refl _) _
    have hAl : A < w4.heap.size := (Array.getElem?_eq_some_iff.1 hA4).1
    have hK : Hid (∀ wx : World, Touch w4 wx (fun b => b = A) → Below w.heap.size w wx ∧ wx.heap[R]? = some (.cells (markA n (numF n m)) 3 (0, 0)) ∧ RdI wx (.slice ao c co) (o.map fun x : Nat => (x : Int)) ∧ RdG wx (.slice af c cf) F' ∧ RdG wx (.slice av n cap) L) := Lib.hid (fun wx hT => by
      have hbx : Below A w3 wx := hb4.trans (hT.below (by omega) (fun b hb e => by omega))
      have hbx' : Below w3.heap.size w3 wx := hA ▸ hbx
      have hbw := hb13.trans (hbx'.mono hb13.size)
      exact ⟨hbw, (hbx.block R hRs).trans hR, Rd.below hro3 hbx', hgF3.below hbx', h.below hbw⟩)
    replace hker := Lib.hid hker
    replace hfold := Lib.hid hfold
    replace hord := Lib.hid hord
    replace hol := Lib.hid hol
    replace hA := Lib.hid hA
    replace hw4 := Lib.hid hw4
    clear hCo hR hkm hkm2 hnum hRl hb1 hb2 hb3 hb12 hb13 hro3 hgF3 hb4 h hrd' hg1'
    go_wp2_with fail
    clear hmk
    go_loopw [2, 7] (fun _ i wr => ∃ k : Nat, k ≤ c ∧ i = .int .i64 k ∧ wr.heap[A]? = some (.cells (markA c (atF o k)) 3 (0, 0)) ∧ Touch w4 wr (fun b => b = A)) (fun _ i _ => c - (intOf i).toNat)
    case atStart => exact ⟨0, Nat.zero_le _, by rfl, by rw [hA4, markA_congr (m' := atF o 0) (fun x _ => by simp [atF])], Touch.refl _ _⟩
    case round =>
      obtain ⟨k, hk, rfl, hAk, hT⟩ := hrel
      by_cases hlt : k < c
      · obtain ⟨hbw, hRx, hox, hFx, hLx⟩ := hK.out _ hT
        obtain ⟨x, hx⟩ : ∃ x, o[k]? = some x := ⟨_, List.getElem?_eq_getElem (by rw [hol.out]; exact hlt)⟩
        have hxc : x < c := by rw [hc.out]; exact hord.out.lt x (List.mem_of_getElem? hx)
        have hnot := (hord.out.next k x hx).1.2.1
        have hidx : o.idxOf x = k := by
          have h1 := (List.getElem?_eq_some_iff.1 hx).1
          have h2 := List.getElem_idxOf (List.idxOf_lt_length_of_mem (List.mem_of_getElem? hx))
          exact (List.getElem_inj hord.out.nodup).1 (h2.trans (List.getElem?_eq_some_iff.1 hx).2.symm)
        obtain ⟨b, off, cap', e, hcx⟩ := RdI.cell hox (i := k) (x := (x : Int)) (by rw [List.getElem?_map, hx]; rfl)
        simp only [Value.slice.injEq] at e
        obtain ⟨rfl, -, rfl⟩ := e
        have i1 : (k : Int) < (c : Int) := by omega
        have i2 : (x : Int) < (c : Int) := by omega
        have d1 : decide ((x : Int) < 0) = false := by simp
        have d2 : decide ((x : Int) ≥ (c : Int)) = false := by simp; omega
        have d2' : decide (c ≤ x) = false := by simp; omega
        have cA : wr.cell? ⟨A, x, none⟩ = some (.int .i64 0) := by rw [blk_cell hAk, markA_at hxc]; simp [atF, hnot]
        have fA : wr.frozen? ⟨A, x, none⟩ = false := by simp [World.frozen?, hAk]
        have hb : (wr.setCell ⟨A, x, none⟩ (.int .i64 ((k : Int) + 1))).heap[A]? = some (.cells (markA c (atF o (k + 1))) 3 (0, 0)) := by
          have ht : o.take (k + 1) = o.take k ++ [x] := take_snoc hx
          rw [blk_set _ hAk, markA_set hxc (m' := atF o (k + 1))]
          · unfold atF; rw [ht, if_pos (by simp), hidx]
          · intro y hy
            have : (y ∈ o.take (k + 1)) ↔ y ∈ o.take k := by rw [ht, List.mem_append, List.mem_singleton]; exact ⟨fun h => h.resolve_right hy, .inl⟩
            unfold atF
            simp only [this]
        have hT2 := hT.trans ((Touch.refl wr (fun b => b = A)).setCell (a := ⟨A, x, none⟩) (fun _ => rfl) (.int .i64 ((k : Int) + 1)))
        replace hb := Lib.hid hb
        replace hT2 := Lib.hid hT2
        clear hAk hT hbw hRx hox hFx hLx hnot hidx
        go_wp2_with fail
        exact ⟨⟨k + 1, by omega, by go_num, hb.out, hT2.out⟩, by simp [intOf]; omega⟩
      · obtain rfl : k = c := by omega
        obtain ⟨hbw, hRx, hox, hFx, hLx⟩ := hK.out _ hT
        have i1 : decide ((k : Int) < (k : Int)) = false := by simp
        have hN := Lib.hid (norm_any hLx (by rw [← hn.out]; omega) hr1.out)
        rw [← hn.out] at hN
        have hAs := (Array.getElem?_eq_some_iff.1 hAk).1
        have hRs2 := (Array.getElem?_eq_some_iff.1 hRx).1
        replace hAk := Lib.hid hAk
        replace hRx := Lib.hid hRx
        replace hFx := Lib.hid hFx
        clear hT hox hLx
        go_wp2_with fail
        refine hN.out.mono ?_
        rintro e w5 ⟨Gn, vsn, rfl, Mn, hb5⟩
        have hg5 : RdG w5 (.slice (some ⟨Gn, 0, none⟩) n n) (normL L) := Mn.rd (by rw [normL_len]; exact hn.out)
        have hbw5 := hbw.trans (hb5.mono hbw.size)
        have hA5 := (hb5.block A hAs).trans hAk.out
        have hR5 := (hb5.block R hRs2).trans hRx.out
        have hF5 := hFx.out.below hb5
        have hK5 : Hid (∀ wx : World, Below w5.heap.size w5 wx → Below w.heap.size w wx ∧ wx.heap[R]? = some (.cells (markA n (numF n m)) 3 (0, 0)) ∧ wx.heap[A]? = some (.cells (markA k (atF o k)) 3 (0, 0)) ∧ RdG wx (.slice (some ⟨Gn, 0, none⟩) n n) (normL L) ∧ RdG wx (.slice af k cf) F') := Lib.hid (fun wx hb =>
          ⟨hbw5.trans (hb.mono hbw5.size), (hb.block R (Array.getElem?_eq_some_iff.1 hR5).1).trans hR5, (hb.block A (Array.getElem?_eq_some_iff.1 hA5).1).trans hA5, hg5.below hb, hF5.below hb⟩)
        have hat : Hid (∀ x, x < k → atF o k x = (o.idxOf x : Int) + 1) := Lib.hid (fun x hx => by
          unfold atF
          rw [if_pos]
          rw [List.take_of_length_le (by rw [hol.out]; exact Nat.le_refl _)]
          exact hord.out.mem (by rw [← hc.out]; exact hx))
        clear hN Mn hb5 hg5 hbw5 hA5 hR5 hF5 hAk hRx hFx hAs hRs2 hbw
        go_wp2_with fail
        go_loopw [2, 9, 10, 11, 12] (fun _ i _ _ _ wx => ∃ s : Nat, s ≤ n ∧ i = .int .i64 s ∧ Below w5.heap.size w5 wx) (fun _ i _ _ _ _ => n - (intOf i).toNat)
        case atStart => exact ⟨0, Nat.zero_le _, by rfl, Below.refl _ _⟩
        case round =>
          obtain ⟨s, hs, rfl, hbs⟩ := hrel
          by_cases hlts : s < n
          · obtain ⟨r, hrs⟩ : ∃ r, (normL L)[s]? = some r := ⟨_, List.getElem?_eq_getElem (by rw [normL_len, ← hn.out]; exact hlts)⟩
            have hrf := norm_form L r (List.mem_of_getElem? hrs)
            have i2 : (s : Int) < (n : Int) := by omega
            have hrl : r.length ≤ n := by
              have := rise_lenN hrf.1 hrf.2
              rwa [normL_len, ← hn.out] at this
            replace hrs := Lib.hid hrs
            replace hrf := Lib.hid hrf
            go_wp2_with fail
            go_loopw [2, 10, 11, 12] (fun _ j _ _ wx => GoIn w5 wx r j) (fun _ j _ _ _ => r.length - (intOf j).toNat)
            case atStart => exact ⟨0, Nat.zero_le _, by rfl, hbs⟩
            case round =>
              clear hbs
              obtain ⟨j, hj, rfl, hbs⟩ := hrel
              obtain ⟨hbw, hRx, hAx, hgx, hFx⟩ := hK5.out _ hbs
              obtain ⟨bn, on, cn, un, en, _, cN, hrn⟩ := hgx.at hrs.out
              rw [normL_len, ← hn.out] at en
              simp only [Value.slice.injEq, Option.some.injEq, Addr.mk.injEq] at en
              obtain ⟨⟨rfl, rfl, -⟩, -⟩ := en
              obtain ⟨ar, cr, rfl⟩ := hrn.shape
              rw [Nat.zero_add] at cN
              by_cases hltj : j < r.length
              · obtain ⟨x, hx⟩ : ∃ x, r[j]? = some x := ⟨_, List.getElem?_eq_getElem hltj⟩
                obtain ⟨hx0, hxn⟩ := hrf.out.2 x (List.mem_of_getElem? hx)
                obtain ⟨y, rfl⟩ : ∃ y : Nat, x = y := ⟨x.toNat, by omega⟩
                have hyn : y < n := by rw [normL_len, ← hn.out] at hxn; omega
                have hedge : Edge L s y := edge_norm.1 ⟨by rw [normL_len, ← hn.out]; exact hyn, r, hrs.out, List.mem_of_getElem? hx⟩
                obtain ⟨b2, o2, cap2, e2, hc2⟩ := RdI.cell hrn hx
                simp only [Value.slice.injEq] at e2
                obtain ⟨rfl, -, rfl⟩ := e2
                have i3 : (j : Int) < (r.length : Int) := by omega
                have i4 : (y : Int) < (n : Int) := by omega
                have hfl := hfold.out.len
                rw [← hc.out, ← hn.out] at hfl
                have n1 := numF_lt (m := m) (Nat.le_refl n) hlts
                have n2 := numF_lt (m := m) (Nat.le_refl n) hyn
                obtain ⟨a, ha⟩ : ∃ a : Nat, numF n m s = a := ⟨(numF n m s).toNat, by omega⟩
                obtain ⟨d, hd⟩ : ∃ d : Nat, numF n m y = d := ⟨(numF n m y).toNat, by omega⟩
                have hak : a < k := by omega
                have hdk : d < k := by omega
                have cR1 : wr.cell? ⟨R, s, none⟩ = some (.int .i64 a) := by rw [blk_cell hRx, markA_at hlts, ha]
                have cR2 : wr.cell? ⟨R, y, none⟩ = some (.int .i64 d) := by rw [blk_cell hRx, markA_at hyn, hd]
                have cA1 : wr.cell? ⟨A, a, none⟩ = some (.int .i64 ((o.idxOf a : Int) + 1)) := by rw [blk_cell hAx, markA_at hak, hat.out a hak]
                have cA2 : wr.cell? ⟨A, d, none⟩ = some (.int .i64 ((o.idxOf d : Int) + 1)) := by rw [blk_cell hAx, markA_at hdk, hat.out d hdk]
                have hon : a ≠ d → o.idxOf a < o.idxOf d := fun hne => hord.out.on ((hfold.out.edge a d).2 ⟨hne, s, y, hedge, by rw [← hn.out]; exact ha, by rw [← hn.out]; exact hd⟩)
                obtain ⟨p1, hp1⟩ : ∃ p, p = o.idxOf a := ⟨_, rfl⟩
                obtain ⟨p2, hp2⟩ : ∃ p, p = o.idxOf d := ⟨_, rfl⟩
                rw [← hp1] at cA1 hon
                rw [← hp2] at cA2 hon
                have d1 : decide ((a : Int) < 0) = false := by simp
                have d2 : decide ((d : Int) < 0) = false := by simp
                have d3 : decide ((a : Int) ≥ (k : Int)) = false := by simp; omega
                have d4 : decide ((d : Int) ≥ (k : Int)) = false := by simp; omega
                have d3' : decide (k ≤ a) = false := by simp; omega
                have d4' : decide (k ≤ d) = false := by simp; omega
                have i5 : (a : Int) < (k : Int) := by omega
                have i6 : (d : Int) < (k : Int) := by omega
                clear hx hedge hRx hAx hgx hFx hbw hrn n1 n2 ha hd hfl hp1 hp2
                by_cases hne : a = d
                · subst hne
                  have d5 : ((a : Int) != (a : Int)) = false := by simp
                  clear hon
                  go_wp2_with fail
                  go_quiet (fail)
                  have hbq := Lib.hid (below_drawn hbs nq)
                  go_wp2_with fail
                  go_quiet (fail)
                  go_wp2_with fail
                  exact ⟨⟨j + 1, by omega, by go_num, below_drawn hbs _⟩, by simp [intOf]; omega⟩
                · have d5 : ((a : Int) != (d : Int)) = true := by simp; omega
                  have hpp := hon hne
                  have d6 : decide ((p1 : Int) + 1 ≥ (p2 : Int) + 1) = false := by simp; omega
                  clear hon
                  go_wp2_with fail
                  go_quiet (fail)
                  have hbq := Lib.hid (below_drawn hbs nq)
                  go_wp2_with fail
                  go_quiet (fail)
                  go_wp2_with fail
                  exact ⟨⟨j + 1, by omega, by go_num, below_drawn hbs _⟩, by simp [intOf]; omega⟩
              · obtain rfl : j = r.length := by omega
                have i3 : decide ((r.length : Int) < (r.length : Int)) = false := by simp
                clear hRx hAx hgx hFx hbw hrn
                go_wp2_with fail
                exact ⟨⟨s + 1, by omega, by go_num, hbs⟩, by simp [intOf]; omega⟩
          · obtain rfl : s = n := by omega
            have i2 : decide ((s : Int) < (s : Int)) = false := by simp
            obtain ⟨hbw, hRx, hAx, hgx, hFx⟩ := hK5.out _ hbs
            have hFr : Hid (∀ r ∈ F', r.length ≤ 100000) := Lib.hid (fun r hr => by
              have h1 := hfold.out.form r hr
              have := rise_lenN h1.1 h1.2
              have := hc.out
              omega)
            have hY := Lib.hid (cyclic_any hFx (by rw [← hc.out]; omega) hFr.out)
            rw [← hc.out] at hY
            have hno : Hid (∀ x, x < k → cycB F' x = false) := Lib.hid (fun x hx => by
              rw [Bool.eq_false_iff]
              intro h
              rcases cycB_iff.1 h with ⟨y, hy, h1, h2⟩ | h1
              · exact hy (hfold.out.apart hker.out h2 h1)
              · exact ((hfold.out.edge x x).1 h1).1 rfl)
            clear hRx hAx hgx hFx
            go_wp2_with fail
            refine hY.out.mono ?_
            rintro e w6 ⟨O, rfl, hO, hOl, hb6⟩
            have hbw6 := hbw.trans (hb6.mono hbw.size)
            replace hO := Lib.hid hO
            clear hY hbw hb6 hbs
            go_wp2_with fail
            go_loopw [2, 14] (fun _ i wx => ∃ q : Nat, q ≤ k ∧ i = .int .i64 q ∧ wx = w6) (fun _ i _ => k - (intOf i).toNat)
            case atStart => exact ⟨0, Nat.zero_le _, by rfl, by first | rfl | exact trivial⟩
            case round =>
              obtain ⟨q, hq, rfl, rfl⟩ := hrel
              by_cases hltq : q < k
              · have i3 : (q : Int) < (k : Int) := by omega
                have cO : wr.cell? ⟨O, q, none⟩ = some (.bool false) := by rw [blk_cell hO.out, boolA_at hltq, hno.out q hltq]
                go_wp2_with fail
                exact ⟨⟨q + 1, by omega, by go_num, by first | rfl | exact trivial⟩, by simp [intOf]; omega⟩
              · obtain rfl : q = k := by omega
                have i3 : decide ((q : Int) < (q : Int)) = false := by simp
                go_wp2_with fail
                refine wakes8_g.mono ?_
                rintro e w9 ⟨rfl, hb9⟩
                have hfin := hbw6.trans (hb9.mono hbw6.size)
                go_wp2_with fail
                go_ret
                exact ⟨rfl, hfin⟩
end Go.Proofs.Ytppkponnopnmdaa
