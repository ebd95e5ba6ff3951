/- The laws' own words: 'great', 'known', 'wakes'. -/
import Derived.Test.YtppkponnopnmdaaSKnown
namespace Go.Proofs.Ytppkponnopnmdaa
open Go.RowKit Go.Maps Go.Shelf Go.WideShapes Go.ChangeShapes Go.ChangeAt Go.Deep

def GreatPost8 (w : World) (L : List (List Int)) (e : Ending) (w' : World) : Prop := ∃ q, e = .returned (.bool q) ∧ w = w' ∧ (q = false → L.length ≤ 60 ∧ ∀ r ∈ L, r.length ≤ 60)
set_option maxRecDepth 20000 in
theorem great8_any {w : World} {v : Value} {L : List (List Int)} (h : RdG w v L) : Calls Try.prog 8 #[v] w (GreatPost8 w L) := by
  obtain ⟨av, cap, rfl⟩ := h.form
  by_cases h0 : L.length ≤ 60
  · have d1 : decide ((L.length : Int) > 60) = false := by simp; omega
    go_enter Try.func8, Try.ntmps8
    go_wp2_with fail
    go_loop [3] (fun i => ∃ k : Nat, k ≤ L.length ∧ i = .int .i64 k ∧ Hid (∀ r ∈ L.take k, r.length ≤ 60)) (fun i => L.length - (intOf i).toNat)
    case atStart => exact ⟨0, Nat.zero_le _, rfl, Lib.hid (by simp)⟩
    case round =>
      obtain ⟨k, hk, rfl, hall⟩ := hrel
      by_cases hlt : k < L.length
      · obtain ⟨r, hrk⟩ : ∃ r, L[k]? = some r := ⟨_, List.getElem?_eq_getElem hlt⟩
        obtain ⟨b, off, cap', u, e, hbl, hcell, hrd⟩ := h.at hrk
        simp only [Value.slice.injEq] at e
        obtain ⟨rfl, -, rfl⟩ := e
        obtain ⟨ar, cr, rfl⟩ := hrd.shape
        have i1 : (k : Int) < (L.length : Int) := by omega
        have htk := Lib.hid (take_snoc hrk)
        replace hrd := Lib.hid hrd
        by_cases hr : r.length ≤ 60
        · have d2 : decide ((r.length : Int) > 60) = false := by simp; omega
          go_wp2_with fail
          go_round
          case rel => exact ⟨k + 1, by omega, by go_num, Lib.hid (by rw [htk.out]; intro x hx; rcases List.mem_append.1 hx with hx | hx; exact hall.out x hx; rw [List.mem_singleton.1 hx]; exact hr)⟩
          case measure => simp [intOf]; omega
        · have d2 : decide ((r.length : Int) > 60) = true := by simp; omega
          go_wp2_with fail
          go_ret
          exact ⟨_, rfl, rfl, fun h => by cases h⟩
      · obtain rfl : k = L.length := by omega
        have i1 : decide ((L.length : Int) < (L.length : Int)) = false := by simp
        go_wp2_with fail
        go_ret
        exact ⟨_, rfl, rfl, fun _ => ⟨h0, fun r hr => hall.out r (by rw [List.take_length]; exact hr)⟩⟩
  · have d1 : decide ((L.length : Int) > 60) = true := by simp; omega
    go_enter Try.func8, Try.ntmps8
    go_wp2_with fail
    go_ret
    exact ⟨_, rfl, rfl, fun h => by cases h⟩

theorem known8_g {w : World} : Calls Try.prog 24 #[] w fun e w' => ∃ v', e = .returned v' ∧ RdG w' v' knownS ∧ Below w.heap.size w w' := by
  go_enter Try.func24, Try.ntmps24
  go_wp2_with fail
  go_ret
  refine ⟨_, rfl, ?_, ((((((Below.refl _ _).alloc (Nat.le_refl _) _).alloc (by simp) _).alloc (by simp; omega) _).alloc (by simp; omega) _).alloc (by simp; omega) _).alloc (by simp; omega) _⟩
  refine rdg_of (vs := [.slice (some ⟨w.heap.size, 0, none⟩) 1 1, .slice (some ⟨w.heap.size + 1, 0, none⟩) 1 1, .slice (some ⟨w.heap.size + 1 + 1, 0, none⟩) 2 2, .slice (some ⟨w.heap.size + 1 + 1 + 1, 0, none⟩) 1 1, .slice (some ⟨w.heap.size + 1 + 1 + 1 + 1, 0, none⟩) 1 1]) (t := 26) rfl ?_ rfl ?_
  · exact heap_alloc_at (by simp)
  · intro i u l hu hl
    match i, hu, hl with
    | 0, hu, hl =>
      simp [knownS] at hu hl
      subst hu hl
      exact rdi_of (t := 3) rfl (heap_alloc_in (heap_alloc_in (heap_alloc_in (heap_alloc_in (heap_alloc_in (heap_alloc_at rfl))))))
    | 1, hu, hl =>
      simp [knownS] at hu hl
      subst hu hl
      exact rdi_of (t := 3) rfl (heap_alloc_in (heap_alloc_in (heap_alloc_in (heap_alloc_in (heap_alloc_at (by simp))))))
    | 2, hu, hl =>
      simp [knownS] at hu hl
      subst hu hl
      exact rdi_of (t := 3) rfl (heap_alloc_in (heap_alloc_in (heap_alloc_in (heap_alloc_at (by simp)))))
    | 3, hu, hl =>
      simp [knownS] at hu hl
      subst hu hl
      exact rdi_of (t := 3) rfl (heap_alloc_in (heap_alloc_in (heap_alloc_at (by simp))))
    | 4, hu, hl =>
      simp [knownS] at hu hl
      subst hu hl
      exact rdi_of (t := 3) rfl (heap_alloc_in (heap_alloc_at (by simp)))
    | (k + 5), hu, hl => simp at hu
theorem boolA_seen {n : Nat} {q : Nat → Bool} {s : List Nat} (h : ∀ x, x < n → q x = decide (x ∈ s)) : boolA n q = seenA n s := by
  unfold boolA seenA
  congr 1
  apply List.map_congr_left
  intro x hx
  rw [h x (List.mem_range.1 hx)]

set_option maxRecDepth 20000 in
set_option maxHeartbeats 4000000 in
theorem wakes8_g {w : World} : Calls Try.prog 9 #[] w fun e w' => e = .returned (.bool true) ∧ Below w.heap.size w w' := by
  go_enter Try.func9, Try.ntmps9
  go_wp2_with fail
  refine known8_g.mono ?_
  rintro e w1 ⟨v1, rfl, h1, hold⟩
  go_wp2_with fail
  refine (comps_any h1 (by decide) (by decide)).mono ?_
  rintro e w2 ⟨R, m, rfl, hR, hker, hRl, hb2⟩
  have hr2 : RdI w2 (.slice (some ⟨R, 0, none⟩) 5 5) [0, 1, 1, 2, 3] := by
    refine markA_rd hR ?_
    rw [← num_known]
    apply List.map_congr_left
    intro x hx
    exact kernel_num (marks_known.kernel hker) x (List.mem_range.1 hx)
  replace hold := hold.trans (hb2.mono hold.size)
  clear hR hker hRl hb2 h1
  go_wp2_with fail
  have hb3 : Below w2.heap.size w2 (w2.alloc (.cells #[.int .i64 0, .int .i64 1, .int .i64 1, .int .i64 2, .int .i64 3] 3)) := (Below.refl _ _).alloc (Nat.le_refl _) _
  refine (same_any (xs := [0, 1, 1, 2, 3]) (ys := [0, 1, 1, 2, 3]) (hr2.below hb3) (rdi_of (t := 3) rfl (heap_alloc_at rfl)) (by decide)).mono ?_
  rintro e w3 ⟨rfl, n3, e3⟩
  replace hold := below_drawn (hold.trans (hb3.mono hold.size)) n3
  rw [← e3] at hold
  clear e3 hb3 hr2
  go_wp2_with fail
  refine known8_g.mono ?_
  rintro e w4 ⟨v4, rfl, h4, hb4⟩
  replace hold := hold.trans (hb4.mono hold.size)
  clear hb4
  go_wp2_with fail
  refine (cyclic_any h4 (by decide) (by decide)).mono ?_
  rintro e w5 ⟨O, rfl, hO, hOl, hb5⟩
  have hO5 : w5.heap[O]? = some (.cells (seenA 5 [1, 2, 3]) 4 (0, 0)) := by
    rw [hO]
    congr 2
    exact boolA_seen (fun x hx => by rw [cyc_known x hx]; simp)
  have hOs := (Array.getElem?_eq_some_iff.1 hO5).1
  replace hold := hold.trans (hb5.mono hold.size)
  replace hO5 := Lib.hid hO5
  clear hO hOl hb5 h4
  go_wp2_with fail
  have hb6 : Below w5.heap.size w5 (w5.alloc (.cells #[.bool false, .bool true, .bool true, .bool true, .bool false] 4)) := (Below.refl _ _).alloc (Nat.le_refl _) _
  refine (rbools_yes (A := O) (B := w5.heap.size) (n := 5) (s := [1, 2, 3]) ((hb6.block O hOs).trans hO5.out) (heap_alloc_at rfl) (by decide)).mono ?_
  rintro e w7 ⟨rfl, n7, e7⟩
  replace hold := below_drawn (hold.trans (hb6.mono hold.size)) n7
  rw [← e7] at hold
  clear e7 hb6 hO5 hOs
  go_wp2_with fail
  refine known8_g.mono ?_
  rintro e w8 ⟨v8, rfl, h8, hb8⟩
  replace hold := hold.trans (hb8.mono hold.size)
  clear hb8
  go_wp2_with fail
  refine (order_any h8 (by decide) (by decide)).mono ?_
  rintro e w9 ⟨rv, F, m, o, rfl, hker, hfold, hord, hrd, hb9⟩
  obtain rfl := hfold.det hker marks_known fold_known
  obtain rfl := hord.det ord_known
  replace hold := hold.trans (hb9.mono hold.size)
  clear hb9 hker hfold hord h8
  go_wp2_with fail
  have hb10 : Below w9.heap.size w9 (w9.alloc (.cells #[.int .i64 3, .int .i64 0, .int .i64 1, .int .i64 2] 3)) := (Below.refl _ _).alloc (Nat.le_refl _) _
  refine (same_any (xs := [3, 0, 1, 2]) (ys := [3, 0, 1, 2]) (Rd.below hrd hb10) (rdi_of (t := 3) rfl (heap_alloc_at rfl)) (by decide)).mono ?_
  rintro e w11 ⟨rfl, n11, e11⟩
  replace hold := below_drawn (hold.trans (hb10.mono hold.size)) n11
  rw [← e11] at hold
  clear e11 hb10 hrd
  go_wp2_with fail
  go_ret
  exact ⟨rfl, hold⟩
end Go.Proofs.Ytppkponnopnmdaa
