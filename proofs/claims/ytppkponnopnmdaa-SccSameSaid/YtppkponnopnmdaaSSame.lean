/- SccSame: the walk. -/
import Derived.Test.YtppkponnopnmdaaSLaw
namespace Go.Proofs.Ytppkponnopnmdaa
open Go.RowKit Go.Maps Go.Shelf Go.WideShapes Go.ChangeShapes Go.ChangeAt Go.Deep

theorem leads_q (L : List (List Int)) (a b : Int) : ∃ q : Bool, (q = true ↔ leadsP L a b) := ⟨@decide (leadsP L a b) (Classical.propDecidable _), by simp⟩
theorem leadsP_nat {L : List (List Int)} {a b : Nat} : leadsP L a b ↔ Way L a b := by
  unfold leadsP
  rw [Int.toNat_natCast, Int.toNat_natCast]
  exact ⟨fun h => h.2.2, fun h => ⟨by omega, by omega, h⟩⟩
/-- One of the first ones lies with a node on one circle, and is another one. -/
def circP (L : List (List Int)) (i k : Nat) : Prop := ∃ y, y < k ∧ y ≠ i ∧ SC L i y
theorem circP_all {L : List (List Int)} {i : Nat} : circP L i L.length ↔ ∃ y, y ≠ i ∧ SC L i y :=
  ⟨fun ⟨y, _, h1, h2⟩ => ⟨y, h1, h2⟩, fun ⟨y, h1, h2⟩ => ⟨y, h2.1.lt.2, h1, h2⟩⟩

def SIn (L : List (List Int)) (i n : Nat) (w3 wx : World) (b j : Value) : Prop := ∃ (k : Nat) (q : Bool), k ≤ n ∧ j = .int .i64 k ∧ b = .bool q ∧ (q = true ↔ circP L i k) ∧ Below w3.heap.size w3 wx
def SIn2 (L : List (List Int)) (i k : Nat) (r : List Int) (wr wx : World) (b j : Value) : Prop := ∃ (s : Nat) (q : Bool), s ≤ r.length ∧ j = .int .i64 s ∧ b = .bool q ∧ (q = true ↔ circP L i k ∨ (i : Int) ∈ r.take s) ∧ wx = wr
set_option maxRecDepth 20000 in
set_option maxHeartbeats 8000000 in
theorem same_any8 {w : World} {v : Value} {L : List (List Int)} (h : RdG w v L) : Calls Try.prog 4 #[v] w fun e w' => e = .returned (.bool true) ∧ Below w.heap.size w w' := by
  obtain ⟨av, cap, rfl⟩ := h.form
  go_enter Try.func4, Try.ntmps4
  go_wp2_with fail
  refine (great8_any h).mono ?_
  rintro e w' ⟨q, rfl, rfl, hq⟩
  cases q with
  | true =>
    go_wp2_with fail
    refine wakes8_g.mono ?_
    rintro e w1 ⟨rfl, hb⟩
    go_wp2_with fail
    go_ret
    exact ⟨rfl, hb⟩
  | false =>
    obtain ⟨hL60, hr60⟩ := hq rfl
    clear hq
    by_cases h40 : L.length ≤ 40
    · have d1 : decide ((L.length : Int) > 40) = false := by simp; omega
      have hr1 : Hid (∀ r ∈ L, r.length ≤ 100000) := Lib.hid (fun r hr' => by have := hr60 r hr'; omega)
      obtain ⟨n, hn⟩ : ∃ n, n = L.length := ⟨_, rfl⟩
      rw [← hn] at h d1 h40 hL60 ⊢
      have hC := Lib.hid (comps_any h (by omega) hr1.out)
      rw [← hn] at hC
      replace hn := Lib.hid hn
      clear hr60
      go_wp2_with fail
      refine hC.out.mono ?_
      rintro e w1 ⟨R, m, rfl, hR, hker, hRl, hb1⟩
      have hker : Hid (Marks L m) := Lib.hid (fun x y hx hy => hker x y (by rw [hn.out]; exact hx) (by rw [hn.out]; exact hy))
      have hY := Lib.hid (cyclic_any (h.below hb1) (by rw [← hn.out]; omega) hr1.out)
      rw [← hn.out] at hY
      have hRs := (Array.getElem?_eq_some_iff.1 hR).1
      replace hR := Lib.hid hR
      clear hC
      go_wp2_with fail
      refine hY.out.mono ?_
      rintro e w2 ⟨O, rfl, hO, hOl, hb2⟩
      have hOs := (Array.getElem?_eq_some_iff.1 hO).1
      have hb12 := hb1.trans (hb2.mono hb1.size)
      have hN := Lib.hid (norm_any (h.below hb12) (by rw [← hn.out]; omega) hr1.out)
      rw [← hn.out] at hN
      have dne : ((n : Int) != (n : Int)) = false := by simp
      replace hO := Lib.hid hO
      clear hY
      go_wp2_with fail
      refine hN.out.mono ?_
      rintro e w3 ⟨Gn, vsn, rfl, Mn, hb3⟩
      have hg3 : RdG w3 (.slice (some ⟨Gn, 0, none⟩) n n) (normL L) := Mn.rd (by rw [normL_len]; exact hn.out)
      have hb13 := hb12.trans (hb3.mono hb12.size)
      have hR3 := (hb3.block R (by have := hb2.size; omega)).trans ((hb2.block R hRs).trans hR.out)
      have hO3 := (hb3.block O hOs).trans hO.out
      have hK : Hid (∀ wr : World, Below w3.heap.size w3 wr → wr.heap[R]? = some (.cells (markA n (numF n m)) 3 (0, 0)) ∧ wr.heap[O]? = some (.cells (boolA n (cycB L)) 4 (0, 0)) ∧ RdG wr (.slice (some ⟨Gn, 0, none⟩) n n) (normL L) ∧ RdG wr (.slice av n cap) L ∧ Below w.heap.size w wr) :=
        Lib.hid (fun wr hb => ⟨(hb.block R (Array.getElem?_eq_some_iff.1 hR3).1).trans hR3, (hb.block O (Array.getElem?_eq_some_iff.1 hO3).1).trans hO3, hg3.below hb, h.below (hb13.trans (hb.mono hb13.size)), hb13.trans (hb.mono hb13.size)⟩)
      clear hN Mn hb3 hR hO hOs hRs hOl hRl hb2 hb1 hb12 hb13 hR3 hO3 hg3 h
      go_wp2_with fail
      go_loopw [2, 6, 7, 8, 9, 10, 11] (fun _ t i _ _ _ _ wr => ∃ k : Nat, k ≤ n ∧ i = .int .i64 k ∧ t = .int .i64 (cntM m k : Nat) ∧ Below w3.heap.size w3 wr) (fun _ _ i _ _ _ _ _ => n - (intOf i).toNat)
      case atStart => exact ⟨0, Nat.zero_le _, rfl, rfl, Below.refl _ _⟩
      case round =>
        obtain ⟨i, hi, rfl, rfl, hbw⟩ := hrel
        by_cases hlt : i < n
        · obtain ⟨hRr, hOr, hNr, hLr, hbww⟩ := hK.out _ hbw
          have i1 : (i : Int) < (n : Int) := by omega
          have cR : wr.cell? ⟨R, i, none⟩ = some (.int .i64 (numF n m i)) := by rw [blk_cell hRr]; exact markA_at hlt
          have hnl := numF_lt (m := m) (Nat.le_refl n) hlt
          have hcl := cntM_le m i
          obtain ⟨c, hc⟩ : ∃ c : Nat, numF n m i = c := ⟨(numF n m i).toNat, by omega⟩
          rw [hc] at cR
          obtain ⟨t, ht⟩ : ∃ t, t = cntM m i := ⟨_, rfl⟩
          obtain ⟨t', ht'⟩ : ∃ t, t = cntM m (i + 1) := ⟨_, rfl⟩
          have hcase : (c = t ∧ t' = t + 1) ∨ (c < t ∧ t' = t) := by
            by_cases hx : ∃ j, j < i ∧ m j = m i
            · obtain ⟨j, h1, h2⟩ := hx
              refine .inr ⟨?_, by rw [ht', ht, cntM_old h1 h2]⟩
              have h3 := numF_lt (m := m) (Nat.le_of_lt hlt) h1
              rw [(numF_eq (by omega) hlt).2 h2, hc] at h3
              omega
            · have h1 : ∀ j, j < i → m j ≠ m i := fun j h1 h2 => hx ⟨j, h1, h2⟩
              have h2 := numF_new hlt h1
              exact .inl ⟨by omega, by rw [ht', ht, cntM_new h1]⟩
          rw [← ht] at hcl ⊢
          have d2 : decide ((c : Int) > (t : Int)) = false := by simp; omega
          have d2' : decide (t < c) = false := by simp; omega
          have d3 : decide ((c : Int) < 0) = false := by simp
          obtain ⟨r, hri⟩ : ∃ r, (normL L)[i]? = some r := ⟨_, List.getElem?_eq_getElem (by rw [normL_len, ← hn.out]; exact hlt)⟩
          have hrform := norm_form L r (List.mem_of_getElem? hri)
          have hrl : r.length ≤ n := by
            have := rise_lenN hrform.1 hrform.2
            rwa [normL_len, ← hn.out] at this
          have hcy : cycP L i ↔ circP L i n ∨ (i : Int) ∈ r := by
            have h1 : Edge L i i ↔ (i : Int) ∈ r := by
              rw [← edge_norm]
              constructor
              · rintro ⟨_, r', hr', hm⟩
                rw [hri] at hr'
                exact Option.some.inj hr' ▸ hm
              · exact fun hm => ⟨by rw [normL_len, ← hn.out]; exact hlt, r, hri, hm⟩
            unfold cycP
            rw [hn.out, circP_all, h1]
          replace hcy := Lib.hid hcy
          replace hri := Lib.hid hri
          replace hcl := Lib.hid hcl
          replace hbw := Lib.hid hbw
          replace ht' := Lib.hid ht'
          have hc' := Lib.hid hc
          clear hRr hOr hNr hLr hbww ht hnl hc hrform
          go_upto_if 62 with fail
          go_cut [6] from 57 to 64 (fun u wx => u = .int .i64 (t' : Nat) ∧ wx = wr)
          case first =>
            rcases hcase with ⟨rfl, hcase⟩ | ⟨hcase0, rfl⟩
            · have d4 : ((c : Int) == (c : Int)) = true := by simp
              have hc60 : c ≤ 60 := by have := hcl.out; omega
              have e4 : (c : Int) + 1 = (t' : Int) := by omega
              replace hcase := Lib.hid hcase
              go_wp2_with fail
              go_meet
              exact ⟨by rfl, by first | rfl | exact trivial⟩
            · have d4 : ((c : Int) == (t' : Int)) = false := by simp; omega
              have hc60 : t' ≤ 60 := by have := hcl.out; omega
              go_wp2_with fail
              go_meet
              exact ⟨by rfl, by first | rfl | exact trivial⟩
          case rest =>
            obtain ⟨rfl, rfl⟩ := hcut
            clear hcase d2 d2' d3
            go_wp2_with fail
            go_loopw [2, 8, 9, 10] (fun _ b j _ wx => SIn L i n w3 wx b j) (fun _ _ j _ _ => n - (intOf j).toNat)
            case atStart => exact ⟨0, false, Nat.zero_le _, by rfl, rfl, ⟨fun h => (by cases h), fun ⟨y, h, _⟩ => (by omega)⟩, hbw.out⟩
            case round =>
              clear hbw cR
              obtain ⟨k, q, hk, rfl, rfl, hqq, hbw⟩ := hrel
              by_cases hltk : k < n
              · obtain ⟨hRr, hOr, hNr, hLr, hbww⟩ := hK.out _ hbw
                have i2 : (k : Int) < (n : Int) := by omega
                obtain ⟨q1, hq1⟩ := leads_q L i k
                obtain ⟨q2, hq2⟩ := leads_q L k i
                have hbt : ((q1 && q2) = true ↔ SC L i k) := by
                  rw [Bool.and_eq_true, hq1, hq2, leadsP_nat, leadsP_nat]
                  exact Iff.rfl
                have hz : (numF n m i == numF n m k) = (q1 && q2) := by
                  rw [Bool.eq_iff_iff, beq_iff_eq, hbt, numF_eq hlt hltk]
                  exact hker.out i k (by rw [← hn.out]; exact hlt) (by rw [← hn.out]; exact hltk)
                have hnl := numF_lt (m := m) (Nat.le_refl n) hltk
                obtain ⟨f, hf⟩ : ∃ c : Nat, numF n m k = c := ⟨(numF n m k).toNat, by omega⟩
                rw [hc'.out, hf] at hz
                have hnx : Hid (∀ q', q' = (q || ((q1 && q2) && decide (k ≠ i))) → (q' = true ↔ circP L i (k + 1))) := Lib.hid (fun q' e => by
                  rw [e, Bool.or_eq_true, hqq, Bool.and_eq_true, hbt, decide_eq_true_iff]
                  constructor
                  · rintro (⟨y, h1, h2⟩ | ⟨h1, h2⟩)
                    · exact ⟨y, by omega, h2⟩
                    · exact ⟨k, by omega, h2, h1⟩
                  · rintro ⟨y, h1, h2, h3⟩
                    by_cases e : y = k
                    · subst e; exact .inr ⟨h3, h2⟩
                    · exact .inl ⟨y, by omega, h2, h3⟩)
                have hcells : Hid (∀ wq : World, Below w3.heap.size w3 wq → wq.cell? ⟨R, i, none⟩ = some (.int .i64 c) ∧ wq.cell? ⟨R, k, none⟩ = some (.int .i64 f)) := Lib.hid (fun wq hb => by
                  have h1 := (hK.out _ hb).1
                  exact ⟨by rw [blk_cell h1, markA_at hlt, hc'.out], by rw [blk_cell h1, markA_at hltk, hf]⟩)
                have hki0 : ((k : Int) != (i : Int)) = decide (k ≠ i) := by
                  rw [Bool.eq_iff_iff, bne_iff_ne, decide_eq_true_iff]
                  omega
                obtain ⟨bki, hbki⟩ : ∃ b, b = decide (k ≠ i) := ⟨_, rfl⟩
                rw [← hbki] at hki0
                have hki : Hid (decide (k ≠ i) = bki) := Lib.hid hbki.symm
                have hle1 := Lib.hid (leads_any hLr (by rw [← hn.out]; omega) hr1.out hq1)
                have hle2 := Lib.hid (fun (wq : World) (hb : Below w3.heap.size w3 wq) => leads_any (hK.out _ hb).2.2.2.1 (by rw [← hn.out]; omega) hr1.out hq2)
                replace hqq := Lib.hid hqq
                clear hRr hOr hNr hLr hbww hnl hf hq1 hq2 hbt hbki
                cases bki
                all_goals
                  cases q1 with
                  | false =>
                    go_wp2_with fail
                    refine hle1.out.mono ?_
                    rintro e w5 ⟨rfl, hb5⟩
                    have hbw5 := hbw.trans (hb5.mono hbw.size)
                    obtain ⟨c1, c2⟩ := hcells.out _ hbw5
                    have hz2 : ((c : Int) == (f : Int)) = false := hz
                    clear hz
                    clear hle1 hle2 hb5
                    go_wp2_with fail
                    go_quiet (fail)
                    have hbq := Lib.hid (below_drawn hbw5 nq)
                    cases q
                    all_goals
                      go_wp2_with fail
                      exact ⟨⟨k + 1, _, by omega, by go_num, rfl, hnx.out _ (by simp [hki.out]), hbq.out⟩, by simp [intOf]; omega⟩
                  | true =>
                    cases q2 with
                    | false =>
                      go_wp2_with fail
                      refine hle1.out.mono ?_
                      rintro e w4 ⟨rfl, hb4⟩
                      have hbw4 := hbw.trans (hb4.mono hbw.size)
                      have hl2 := Lib.hid (hle2.out _ hbw4)
                      go_wp2_with fail
                      refine hl2.out.mono ?_
                      rintro e w5 ⟨rfl, hb5⟩
                      have hbw5 := hbw4.trans (hb5.mono hbw4.size)
                      obtain ⟨c1, c2⟩ := hcells.out _ hbw5
                      have hz2 : ((c : Int) == (f : Int)) = false := hz
                      clear hz
                      clear hle1 hle2 hb5 hl2 hb4 hbw4
                      go_wp2_with fail
                      go_quiet (fail)
                      have hbq := Lib.hid (below_drawn hbw5 nq)
                      cases q
                      all_goals
                        go_wp2_with fail
                        exact ⟨⟨k + 1, _, by omega, by go_num, rfl, hnx.out _ (by simp [hki.out]), hbq.out⟩, by simp [intOf]; omega⟩
                    | true =>
                      go_wp2_with fail
                      refine hle1.out.mono ?_
                      rintro e w4 ⟨rfl, hb4⟩
                      have hbw4 := hbw.trans (hb4.mono hbw.size)
                      have hl2 := Lib.hid (hle2.out _ hbw4)
                      go_wp2_with fail
                      refine hl2.out.mono ?_
                      rintro e w5 ⟨rfl, hb5⟩
                      have hbw5 := hbw4.trans (hb5.mono hbw4.size)
                      obtain ⟨c1, c2⟩ := hcells.out _ hbw5
                      have hz2 : ((c : Int) == (f : Int)) = true := hz
                      clear hz
                      clear hle1 hle2 hb5 hl2 hb4 hbw4
                      go_wp2_with fail
                      go_quiet (fail)
                      have hbq := Lib.hid (below_drawn hbw5 nq)
                      cases q
                      all_goals
                        go_wp2_with fail
                        exact ⟨⟨k + 1, _, by omega, by go_num, rfl, hnx.out _ (by simp [hki.out]), hbq.out⟩, by simp [intOf]; omega⟩
              · --{fin
                obtain rfl : k = n := by omega
                have i2 : decide ((k : Int) < (k : Int)) = false := by simp
                have hqn := Lib.hid hqq
                have hbw' := Lib.hid hbw
                clear hqq
                go_wp2_with fail
                go_loopw [8, 11] (fun b j wx => SIn2 L i k r wr wx b j) (fun _ j _ => r.length - (intOf j).toNat)
                case atStart => exact ⟨0, q, Nat.zero_le _, by rfl, rfl, (by simpa using hqn.out), rfl⟩
                case round =>
                  clear hqn
                  obtain ⟨s, q3, hs, rfl, rfl, hq3, rfl⟩ := hrel
                  obtain ⟨hRr, hOr, hNr, hLr, hbww⟩ := hK.out _ hbw'.out
                  obtain ⟨bn, on, cn, un, en, _, cN, hrn⟩ := hNr.at hri.out
                  rw [normL_len, ← hn.out] at en
                  simp only [Value.slice.injEq, Option.some.injEq, Addr.mk.injEq] at en
                  obtain ⟨⟨rfl, rfl, -⟩, -⟩ := en
                  obtain ⟨ar, cr, rfl⟩ := hrn.shape
                  rw [Nat.zero_add] at cN
                  by_cases hlts : s < r.length
                  · obtain ⟨x, hx⟩ : ∃ x, r[s]? = some x := ⟨_, List.getElem?_eq_getElem hlts⟩
                    obtain ⟨b2, o2, cap2, e2, hc2⟩ := RdI.cell hrn hx
                    simp only [Value.slice.injEq] at e2
                    obtain ⟨rfl, -, rfl⟩ := e2
                    have i3 : (s : Int) < (r.length : Int) := by omega
                    have htk := take_snoc hx
                    have hnx3 : Hid (∀ q', q' = (q3 || (x == (i : Int))) → (q' = true ↔ circP L i k ∨ (i : Int) ∈ r.take (s + 1))) := Lib.hid (fun q' e => by
                      rw [e, Bool.or_eq_true, hq3, beq_iff_eq, htk, List.mem_append, List.mem_singleton]
                      constructor
                      · rintro ((h | h) | h)
                        · exact .inl h
                        · exact .inr (.inl h)
                        · exact .inr (.inr h.symm)
                      · rintro (h | h | h)
                        · exact .inl (.inl h)
                        · exact .inl (.inr h)
                        · exact .inr h.symm)
                    obtain ⟨bx, hbx⟩ : ∃ b, b = (x == (i : Int)) := ⟨_, rfl⟩
                    rw [← hbx] at hnx3
                    have hbx' := hbx.symm
                    clear hx htk hRr hOr hNr hLr hbww hq3 hbx
                    cases q3
                    all_goals
                      go_wp2_with fail
                      exact ⟨⟨s + 1, _, by omega, by go_num, rfl, hnx3.out _ (by simp), by first | rfl | exact trivial⟩, by simp [intOf]; omega⟩
                  · obtain rfl : s = r.length := by omega
                    have i3 : decide ((r.length : Int) < (r.length : Int)) = false := by simp
                    have cO : wr.cell? ⟨O, i, none⟩ = some (.bool q3) := by
                      rw [blk_cell hOr, boolA_at hlt]
                      congr 2
                      rw [Bool.eq_iff_iff, cycB_iff, hcy.out, hq3, List.take_length]
                    have dq : (q3 != q3) = false := by simp
                    clear hRr hOr hNr hLr hbww hq3 hrn
                    go_wp2_with fail
                    exact ⟨⟨i + 1, by omega, by go_num, by rw [← ht'.out], hbw'.out⟩, by simp [intOf]; omega⟩
        · obtain rfl : i = n := by omega
          have i1 : decide ((i : Int) < (i : Int)) = false := by simp
          have hbww := (hK.out _ hbw).2.2.2.2
          go_wp2_with fail
          refine wakes8_g.mono ?_
          rintro e w9 ⟨rfl, hb9⟩
          have hfin := hbww.trans (hb9.mono hbww.size)
          go_wp2_with fail
          go_ret
          exact ⟨rfl, hfin⟩
    · have d1 : decide ((L.length : Int) > 40) = true := by simp; omega
      go_wp2_with fail
      refine wakes8_g.mono ?_
      rintro e w1 ⟨rfl, hb⟩
      go_wp2_with fail
      go_ret
      exact ⟨rfl, hb⟩
end Go.Proofs.Ytppkponnopnmdaa
