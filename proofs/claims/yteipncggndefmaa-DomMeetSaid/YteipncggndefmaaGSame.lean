/- The same rows, the same truths. -/
import Derived.Test.YteipncggndefmaaGRReach
namespace Go.Proofs.Yteipncggndefmaa
open Go.RowKit Go.Maps Go.Shelf

theorem RdG.drewN {w : World} {v : Value} {L : List (List Int)} (h : RdG w v L) (n : Nat) : RdG (w.drewN n) v L := h.below (below_drawn (Below.refl _ _) n)
set_option maxRecDepth 20000 in
set_option maxHeartbeats 4000000 in
theorem rsameg_yes {w : World} {a b : Value} {L : List (List Int)} (ha : RdG w a L) (hb : RdG w b L) (hL : L.length ≤ 1000000) (hr : ∀ r ∈ L, r.length ≤ 1000000) : Calls Try.prog 15 #[a, b] w fun e w' => e = .returned (.bool true) ∧ ∃ n, w' = w.drewN n := by
  obtain ⟨aa, ca, rfl⟩ := ha.form
  obtain ⟨ab, cb, rfl⟩ := hb.form
  have hr' := Lib.hid hr
  clear hr
  have hne : ((L.length : Int) != (L.length : Int)) = false := by simp
  go_enter Try.func15, Try.ntmps15
  go_wp2_with fail
  go_loopw [4, 5] (fun _ i wr => ∃ k n : Nat, k ≤ L.length ∧ i = .int .i64 k ∧ wr = w.drewN n) (fun _ i _ => L.length - (intOf i).toNat)
  case atStart => exact ⟨0, 0, Nat.zero_le _, rfl, rfl⟩
  case round =>
    obtain ⟨k, n, hk, rfl, hwr⟩ := hrel
    have ha' : RdG wr (.slice aa L.length ca) L := by rw [hwr]; exact ha.drewN n
    have hb' : RdG wr (.slice ab L.length cb) L := by rw [hwr]; exact hb.drewN n
    replace hwr := Lib.hid hwr
    by_cases hlt : k < L.length
    · obtain ⟨l, hl⟩ : ∃ l, L[k]? = some l := ⟨_, List.getElem?_eq_getElem hlt⟩
      have hll := hr'.out l (List.mem_of_getElem? hl)
      obtain ⟨b1, o1, c1, u1, e1, -, hc1, hd1⟩ := ha'.at hl
      obtain ⟨b2, o2, c2, u2, e2, -, hc2, hd2⟩ := hb'.at hl
      simp only [Value.slice.injEq] at e1 e2
      obtain ⟨rfl, -, rfl⟩ := e1
      obtain ⟨rfl, -, rfl⟩ := e2
      obtain ⟨a1, d1, rfl⟩ := hd1.shape
      obtain ⟨a2, d2, rfl⟩ := hd2.shape
      have i1 : (k : Int) < (L.length : Int) := by omega
      have hS := Lib.hid (fun m => (same_any (w := wr.drewN m) (Rd.below hd1 (below_drawn (Below.refl _ _) m)) (Rd.below hd2 (below_drawn (Below.refl _ _) m)) hll).mono (R' := fun e w' => e = .returned (.bool true) ∧ ∃ q, w' = (wr.drewN m).drewN q) (fun e w' ⟨he, h⟩ => ⟨by rw [he]; simp, h⟩))
      clear hd1 hd2 ha hb hl ha' hb'
      go_wp2_with fail
      go_quiet ((go_at_call 11; exact Calls.quiet_of (hS.out _)))
      go_wp2_with fail
      exact ⟨⟨k + 1, _, by omega, by go_num, by rw [hwr.out, World.drewN_drewN]⟩, by simp [intOf]; omega⟩
    · obtain rfl : k = L.length := by omega
      have i1 : decide ((L.length : Int) < (L.length : Int)) = false := by simp
      go_wp2_with fail
      go_ret
      exact ⟨rfl, n, hwr.out⟩

theorem seenA_ext {n : Nat} {s t : List Nat} (h : ∀ x, x ∈ s ↔ x ∈ t) : seenA n s = seenA n t := by
  unfold seenA
  congr 1
  apply List.map_congr_left
  intro x _
  congr 1
  rw [Bool.eq_iff_iff]
  simp [h]
set_option maxRecDepth 20000 in
set_option maxHeartbeats 4000000 in
theorem rleads_any {w : World} {v : Value} {L : List (List Int)} {a b : Int} {q : Bool} (h : RdG w v L) (hL : L.length ≤ 100000) (hr : ∀ r ∈ L, r.length ≤ 100000) (hq : q = true ↔ leadsP L a b) :
    Calls Try.prog 26 #[v, .int .i64 a, .int .i64 b] w fun e w' => e = .returned (.bool q) ∧ Below w.heap.size w w' := by
  obtain ⟨av, c0, rfl⟩ := h.form
  by_cases hb : 0 ≤ b ∧ b < L.length
  · have d1 : decide (b ≥ 0) = true := by simpa using hb.1
    have d2 : decide (b < (L.length : Int)) = true := by simpa using hb.2
    obtain ⟨y, rfl⟩ : ∃ y : Nat, b = y := ⟨b.toNat, by omega⟩
    have hyn : y < L.length := by omega
    have hb0 : Below w.heap.size w (w.alloc (.cells #[.int .i64 a] 3)) := (Below.refl _ _).alloc (Nat.le_refl _) _
    have hfd : RdI (w.alloc (.cells #[.int .i64 a] 3)) (.slice (some ⟨w.heap.size, 0, none⟩) 1 1) [a] := Or.inr ⟨w.heap.size, 0, 1, rfl, by simp, cell_new1 _ _ _⟩
    have hR := Lib.hid (rreach_any (h.below hb0) hL hr hfd (by simp))
    have hq' : ∀ s : List Nat, (∀ z, z ∈ s ↔ Reached L [a] z) → decide (y ∈ s) = q := by
      intro s hs
      rw [Bool.eq_iff_iff, decide_eq_true_iff, hs, hq]
      unfold leadsP
      rw [Int.toNat_natCast]
      constructor
      · rintro ⟨f, hf, hw⟩
        obtain rfl : (f : Int) = a := by simpa using hf
        exact ⟨by omega, by omega, by rw [Int.toNat_natCast]; exact hw⟩
      · rintro ⟨h0, -, hw⟩
        exact ⟨a.toNat, by simp; omega, hw⟩
    replace hq' := Lib.hid hq'
    replace hb0 := Lib.hid hb0
    have i1 : (y : Int) < (L.length : Int) := by omega
    clear hb hq h hfd
    go_enter Try.func26, Try.ntmps26
    go_wp2_with fail
    refine hR.out.mono ?_
    rintro e w2 ⟨S, s, rfl, hS, hs, hlow, hb2⟩
    have hc : w2.cell? ⟨S, y, none⟩ = some (.bool q) := by rw [blk_cell hS, seenA_at hyn, hq'.out s hs]
    have hb3 := hb0.out.trans (hb2.mono hb0.out.size)
    clear hS hs
    go_wp2_with fail
    go_ret
    exact ⟨rfl, hb3⟩
  · obtain rfl : q = false := by
      cases q with
      | false => rfl
      | true =>
        have h1 := hq.1 rfl
        have h2 := leads_lt h1
        exact absurd ⟨h1.2.1, h2.2⟩ hb
    clear hq
    by_cases h0 : 0 ≤ b
    · have d1 : decide (b ≥ 0) = true := by simpa using h0
      have d2 : decide (b < (L.length : Int)) = false := by simpa using fun h => hb ⟨h0, h⟩
      clear hb
      go_enter Try.func26, Try.ntmps26
      go_wp2_with fail
      go_ret
      exact ⟨rfl, Below.refl _ _⟩
    · have d1 : decide (b ≥ 0) = false := by simpa using h0
      clear hb
      go_enter Try.func26, Try.ntmps26
      go_wp2_with fail
      go_ret
      exact ⟨rfl, Below.refl _ _⟩
end Go.Proofs.Yteipncggndefmaa
