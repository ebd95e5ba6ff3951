/- GraphBack: the walk. -/
import Derived.Test.YtfhckabhaidhmaaGLawY
import Derived.Test.YtfhckabhaidhmaaGLawF
namespace Go.Proofs.Ytfhckabhaidhmaa
open Go.RowKit Go.Maps Go.Shelf Go.WideShapes Go.ChangeShapes Go.ChangeAt Go.Deep

theorem rise_len' {n : Int} : ∀ (r : List Int) (a : Int), r.Pairwise (· < ·) → (∀ x ∈ r, a ≤ x ∧ x < n) → (r.length : Int) ≤ max 0 (n - a)
  | [], a, _, _ => by simp; omega
  | x :: r, a, hp, hx => by
    rw [List.pairwise_cons] at hp
    have h1 := rise_len' r (x + 1) hp.2 (fun y hy => ⟨by have := hp.1 y hy; omega, (hx y (List.Mem.tail _ hy)).2⟩)
    have h2 := hx x (List.Mem.head _)
    rw [List.length_cons]
    omega
theorem rise_len {n : Nat} {r : List Int} (hp : r.Pairwise (· < ·)) (hx : ∀ x ∈ r, 0 ≤ x ∧ x < n) : r.length ≤ n := by
  have := rise_len' (n := n) r 0 hp hx
  omega
theorem leadsP_back {L : List (List Int)} {a b : Int} : leadsP (backL L) b a ↔ leadsP L a b := by
  unfold leadsP
  rw [way_back_iff]
  exact ⟨fun ⟨x, y, z⟩ => ⟨y, x, z⟩, fun ⟨x, y, z⟩ => ⟨y, x, z⟩⟩
def BackRel (w0 wr : World) (n : Nat) (i : Value) : Prop := ∃ k : Nat, k ≤ n ∧ i = .int .i64 k ∧ Below w0.heap.size w0 wr
set_option maxRecDepth 20000 in
set_option maxHeartbeats 4000000 in
theorem gback_any {w : World} {v : Value} {L : List (List Int)} (h : RdG w v L) : Calls Try.prog 5 #[v] w fun e w' => e = .returned (.bool true) ∧ Below w.heap.size w w' := by
  obtain ⟨av, cap, rfl⟩ := h.form
  go_enter Try.func5, Try.ntmps5
  go_wp2_with fail
  refine (great_any h).mono ?_
  rintro e w' ⟨q, rfl, rfl, hq⟩
  by_cases hln : 60 < L.length
  · have d1 : decide ((L.length : Int) > 60) = true := by simp; omega
    clear hq
    cases q
    all_goals
      go_wp2_with fail
      refine wakes_g.mono ?_
      rintro e w1 ⟨rfl, hb⟩
      go_wp2_with fail
      go_ret
      exact ⟨rfl, hb⟩
  have d1 : decide ((L.length : Int) > 60) = false := by simp; omega
  cases q with
  | true =>
    go_wp2_with fail
    refine wakes_g.mono ?_
    rintro e w1 ⟨rfl, hb⟩
    go_wp2_with fail
    go_ret
    exact ⟨rfl, hb⟩
  | false =>
    obtain ⟨hL, hr⟩ := hq rfl
    clear hq
    have hr1 : Hid (∀ r ∈ L, r.length ≤ 100000) := Lib.hid (fun r hr' => by have := hr r hr'; omega)
    have hrN : Hid (∀ r ∈ normL L, r.length ≤ 1000000) := Lib.hid (fun r hr' => by have := norm_lens hr r hr'; omega)
    have hrB : Hid (∀ r ∈ backL L, r.length ≤ 100000000) := Lib.hid (fun r hr' => by have := back_lens hr r hr'; have : L.length * 3000 ≤ 60 * 3000 := Nat.mul_le_mul_right _ (by omega); omega)
    have hrB1 : Hid (∀ r ∈ backL L, r.length ≤ 100000) := Lib.hid (fun r hr' => by
      obtain ⟨hp, hx⟩ := back_form L r hr'
      have := rise_len hp (fun x hx' => hx x hx')
      rw [backL_len] at this
      omega)
    clear hr hrB
    go_wp2_with fail
    refine (back_any h (by omega) hr1.out).mono ?_
    rintro e w1 ⟨G, vs, rfl, M, hold⟩
    have hB := M.rd (n := L.length) (cap := L.length) (backL_len L).symm
    have hg := h.below hold
    clear M
    go_wp2_with fail
    refine (norm_any hg (by omega) hr1.out).mono ?_
    rintro e w2 ⟨G2, vs2, rfl, M2, hb2⟩
    have hN := M2.rd (n := L.length) (cap := L.length) (normL_len L).symm
    replace hB := hB.below hb2
    replace hg := hg.below hb2
    replace hold := hold.trans (hb2.mono hold.size)
    clear M2 hb2
    have hbl := backL_len L
    go_wp2_with fail
    refine (back_any hB (by omega) hrB1.out).mono ?_
    rintro e w3 ⟨G3, vs3, rfl, M3, hb3⟩
    have hT := M3.rd (n := L.length) (cap := L.length) (by rw [backL_len, hbl])
    rw [back_back] at hT
    replace hB := hB.below hb3
    replace hN := hN.below hb3
    replace hg := hg.below hb3
    replace hold := hold.trans (hb3.mono hold.size)
    clear M3 hb3
    rw [hbl]
    obtain ⟨n, hn⟩ : ∃ n, n = L.length := ⟨_, rfl⟩
    have hnl := normL_len L
    rw [← hn] at hnl hbl hT hB hN hg h hL hln d1 ⊢
    have hLL : L.length ≤ 100000 := by omega
    have hBL : (backL L).length ≤ 100000 := by omega
    replace hn := Lib.hid hn
    have hne : ((n : Int) != (n : Int)) = false := by simp
    go_wp2_with fail
    go_loopw [6, 7] (fun i _ wr => BackRel w3 wr n i) (fun i _ _ => n - (intOf i).toNat)
    case atStart => exact ⟨0, Nat.zero_le _, rfl, Below.refl _ _⟩
    case round =>
      obtain ⟨k, hk, rfl, hb⟩ := hrel
      have hTr := hT.below hb
      have hNr := hN.below hb
      by_cases hlt : k < n
      · have i1 : (k : Int) < (n : Int) := by omega
        obtain ⟨l, hl⟩ : ∃ l, (normL L)[k]? = some l := ⟨_, List.getElem?_eq_getElem (by omega)⟩
        have hll := hrN.out l (List.mem_of_getElem? hl)
        obtain ⟨b1, o1, c1, u1, e1, -, hc1, hd1⟩ := hNr.at hl
        obtain ⟨b2, o2, c2, u2, e2, -, hc2, hd2⟩ := hTr.at hl
        simp only [Value.slice.injEq] at e1 e2
        obtain ⟨e1, -, -⟩ := e1
        obtain ⟨e2, -, -⟩ := e2
        simp only [Option.some.injEq, Addr.mk.injEq] at e1 e2
        obtain ⟨rfl, rfl, -⟩ := e1
        obtain ⟨rfl, rfl, -⟩ := e2
        rw [Nat.zero_add] at hc1 hc2
        obtain ⟨a1, d1', rfl⟩ := hd1.shape
        obtain ⟨a2, d2', rfl⟩ := hd2.shape
        have hS := Lib.hid (fun m => (same_any (w := wr.drewN m) (Rd.below hd1 (below_drawn (Below.refl _ _) m)) (Rd.below hd2 (below_drawn (Below.refl _ _) m)) hll).mono (R' := fun e w' => e = .returned (.bool true) ∧ ∃ q, w' = (wr.drewN m).drewN q) (fun e w' ⟨he, h⟩ => ⟨by rw [he]; simp, h⟩))
        replace hl := Lib.hid hl
        clear hd1 hd2 hTr hNr
        go_wp2_with fail
        go_quiet ((go_at_call 22; exact Calls.quiet_of (hS.out _)))
        have hb' := below_drawn hb nq
        go_wp2_with fail
        go_loopw [7] (fun j wx => BackRel w3 wx n j) (fun j _ => n - (intOf j).toNat)
        case atStart => exact ⟨0, Nat.zero_le _, rfl, hb'⟩
        case round =>
          clear hb hb' hc1 hc2
          obtain ⟨m, hm, rfl, hb⟩ := hrel
          by_cases hltm : m < n
          · have i2 : (m : Int) < (n : Int) := by omega
            have hgr := hg.below hb
            have hBr := hB.below hb
            obtain ⟨q, hq⟩ := leads_bool L k m
            have hq2 : Hid (q = true ↔ leadsP (backL L) m k) := Lib.hid (by rw [leadsP_back]; exact hq)
            replace hq := Lib.hid hq
            go_wp2_with fail
            refine (leads_any hgr hLL hr1.out hq.out).mono ?_
            rintro e w4 ⟨rfl, hb4⟩
            replace hb := hb.trans (hb4.mono hb.size)
            replace hBr := hBr.below hb4
            clear hb4 hgr
            go_wp2_with fail
            refine (leads_any hBr hBL hrB1.out hq2.out).mono ?_
            rintro e w5 ⟨rfl, hb5⟩
            replace hb := hb.trans (hb5.mono hb.size)
            clear hb5 hBr hq hq2
            cases q
            all_goals
              go_wp2_with fail
              exact ⟨⟨m + 1, by omega, by go_num, hb⟩, by simp [intOf]; omega⟩
          · obtain rfl : m = n := by omega
            have i2 : decide ((m : Int) < (m : Int)) = false := by simp
            go_wp2_with fail
            exact ⟨⟨k + 1, by omega, by go_num, hb⟩, by simp [intOf]; omega⟩
      · obtain rfl : k = n := by omega
        have i1 : decide ((k : Int) < (k : Int)) = false := by simp
        replace hold := hold.trans (hb.mono hold.size)
        clear hTr hNr hT hN hB hg
        go_wp2_with fail
        refine wakes_g.mono ?_
        rintro e w8 ⟨rfl, hb8⟩
        replace hold := hold.trans (hb8.mono hold.size)
        go_wp2_with fail
        go_ret
        exact ⟨rfl, hold⟩
end Go.Proofs.Ytfhckabhaidhmaa
