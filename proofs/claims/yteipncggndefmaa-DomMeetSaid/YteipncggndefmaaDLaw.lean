/- The laws' own words: 'great', 'known', 'wakes'. -/
import Derived.Test.YteipncggndefmaaDKnown
import Derived.Test.YteipncggndefmaaGSame
namespace Go.Proofs.Yteipncggndefmaa
open Go.RowKit Go.Maps Go.Shelf Go.WideShapes Go.ChangeShapes Go.ChangeAt Go.Deep

def GreatPost9 (w : World) (L : List (List Int)) (e : Ending) (w' : World) : Prop := ∃ q, e = .returned (.bool q) ∧ w = w' ∧ (q = false → L.length ≤ 20 ∧ ∀ r ∈ L, r.length ≤ 20)
set_option maxRecDepth 20000 in
theorem great9_any {w : World} {v : Value} {L : List (List Int)} (h : RdG w v L) : Calls Try.prog 8 #[v] w (GreatPost9 w L) := by
  obtain ⟨av, cap, rfl⟩ := h.form
  by_cases h0 : L.length ≤ 20
  · have d1 : decide ((L.length : Int) > 20) = false := by simp; omega
    go_enter Try.func8, Try.ntmps8
    go_wp2_with fail
    go_loop [3] (fun i => ∃ k : Nat, k ≤ L.length ∧ i = .int .i64 k ∧ Hid (∀ r ∈ L.take k, r.length ≤ 20)) (fun i => L.length - (intOf i).toNat)
    case atStart => exact ⟨0, Nat.zero_le _, rfl, Lib.hid (by simp)⟩
    case round =>
      obtain ⟨k, hk, rfl, hall⟩ := hrel
      by_cases hlt : k < L.length
      · obtain ⟨r, hrk⟩ : ∃ r, L[k]? = some r := ⟨_, List.getElem?_eq_getElem hlt⟩
        obtain ⟨b, off, cap', u, e, hbl, hcell, hrd⟩ := h.at hrk
        simp only [Value.slice.injEq] at e
        obtain ⟨rfl, -, rfl⟩ := e
        obtain ⟨ar, cr, rfl⟩ := hrd.shape
        have i1 : (k : Int) < (L.length : Int) := by omega
        have htk := Lib.hid (take_snoc hrk)
        replace hrd := Lib.hid hrd
        by_cases hr : r.length ≤ 20
        · have d2 : decide ((r.length : Int) > 20) = false := by simp; omega
          go_wp2_with fail
          go_round
          case rel => exact ⟨k + 1, by omega, by go_num, Lib.hid (by rw [htk.out]; intro x hx; rcases List.mem_append.1 hx with hx | hx; exact hall.out x hx; rw [List.mem_singleton.1 hx]; exact hr)⟩
          case measure => simp [intOf]; omega
        · have d2 : decide ((r.length : Int) > 20) = true := by simp; omega
          go_wp2_with fail
          go_ret
          exact ⟨_, rfl, rfl, fun h => by cases h⟩
      · obtain rfl : k = L.length := by omega
        have i1 : decide ((L.length : Int) < (L.length : Int)) = false := by simp
        go_wp2_with fail
        go_ret
        exact ⟨_, rfl, rfl, fun _ => ⟨h0, fun r hr => hall.out r (by rw [List.take_length]; exact hr)⟩⟩
  · have d1 : decide ((L.length : Int) > 20) = true := by simp; omega
    go_enter Try.func8, Try.ntmps8
    go_wp2_with fail
    go_ret
    exact ⟨_, rfl, rfl, fun h => by cases h⟩

set_option maxRecDepth 20000 in
theorem known9_g {w : World} : Calls Try.prog 23 #[] w fun e w' => ∃ v', e = .returned v' ∧ RdG w' v' knownL ∧ Below w.heap.size w w' := by
  go_enter Try.func23, Try.ntmps23
  go_wp2_with fail
  go_ret
  refine ⟨_, rfl, ?_, (((((Below.refl _ _).alloc (Nat.le_refl _) _).alloc (by simp) _).alloc (by simp; omega) _).alloc (by simp; omega) _).alloc (by simp; omega) _⟩
  refine rdg_of (vs := [.slice (some ⟨w.heap.size, 0, none⟩) 2 2, .slice (some ⟨w.heap.size + 1, 0, none⟩) 1 1, .slice (some ⟨w.heap.size + 1 + 1, 0, none⟩) 1 1, .slice (some ⟨w.heap.size + 1 + 1 + 1, 0, none⟩) 1 1]) (t := 25) rfl ?_ rfl ?_
  · exact heap_alloc_at (by simp)
  · intro i u l hu hl
    match i, hu, hl with
    | 0, hu, hl =>
      simp [knownL] at hu hl
      subst hu hl
      exact rdi_of (t := 3) rfl (heap_alloc_in (heap_alloc_in (heap_alloc_in (heap_alloc_in (heap_alloc_at rfl)))))
    | 1, hu, hl =>
      simp [knownL] at hu hl
      subst hu hl
      exact rdi_of (t := 3) rfl (heap_alloc_in (heap_alloc_in (heap_alloc_in (heap_alloc_at (by simp)))))
    | 2, hu, hl =>
      simp [knownL] at hu hl
      subst hu hl
      exact rdi_of (t := 3) rfl (heap_alloc_in (heap_alloc_in (heap_alloc_at (by simp))))
    | 3, hu, hl =>
      simp [knownL] at hu hl
      subst hu hl
      exact rdi_of (t := 3) rfl (heap_alloc_in (heap_alloc_at (by simp)))
    | (k + 4), hu, hl => simp at hu

theorem litF_below {W : World} {x y z u : Obj} : Below W.heap.size W ((((W.alloc x).alloc y).alloc z).alloc u) :=
  ((((Below.refl _ _).alloc (Nat.le_refl _) _).alloc (by simp) _).alloc (by simp; omega) _).alloc (by simp; omega) _
theorem litF {W : World} {b : Nat} (hb : b = W.heap.size) : RdG ((((W.alloc (.cells #[.int .i64 3] 3)).alloc (.cells #[.int .i64 3] 3)).alloc (.cells #[.int .i64 1] 3)).alloc (.cells #[.slice none 0 0, .slice (some ⟨b, 0, none⟩) 1 1, .slice (some ⟨b + 1, 0, none⟩) 1 1, .slice (some ⟨b + 1 + 1, 0, none⟩) 1 1] 25)) (.slice (some ⟨b + 1 + 1 + 1, 0, none⟩) 4 4) frontK := by
  refine rdg_of (vs := [.slice none 0 0, .slice (some ⟨b, 0, none⟩) 1 1, .slice (some ⟨b + 1, 0, none⟩) 1 1, .slice (some ⟨b + 1 + 1, 0, none⟩) 1 1]) (t := 25) rfl (heap_alloc_at (by simp [hb])) rfl ?_
  intro i u l hu hl
  match i, hu, hl with
  | 0, hu, hl =>
    simp [frontK] at hu hl
    subst hu hl
    exact rd_none _
  | 1, hu, hl =>
    simp [frontK] at hu hl
    subst hu hl
    exact rdi_of (t := 3) (l := [3]) rfl (heap_alloc_in (heap_alloc_in (heap_alloc_in (heap_alloc_at hb))))
  | 2, hu, hl =>
    simp [frontK] at hu hl
    subst hu hl
    exact rdi_of (t := 3) (l := [3]) rfl (heap_alloc_in (heap_alloc_in (heap_alloc_at (by simp [hb]))))
  | 3, hu, hl =>
    simp [frontK] at hu hl
    subst hu hl
    exact rdi_of (t := 3) (l := [1]) rfl (heap_alloc_in (heap_alloc_at (by simp [hb])))
  | (k + 4), hu, hl => simp at hu

set_option maxRecDepth 20000 in
set_option maxHeartbeats 4000000 in
theorem wakes9_g {w : World} : Calls Try.prog 9 #[] w fun e w' => e = .returned (.bool true) ∧ Below w.heap.size w w' := by
  go_enter Try.func9, Try.ntmps9
  go_wp2_with fail
  refine known9_g.mono ?_
  rintro e w1 ⟨v1, rfl, h1, hold⟩
  go_wp2_with fail
  refine (tree_any h1 (by decide) (by decide)).mono ?_
  rintro e w2 ⟨TB, t, rfl, hI2, hD2, htl, -, hb2⟩
  obtain rfl := tree_knownD hD2 htl
  rw [show knownL.length = 4 from rfl]
  have hT2 := hI2.rd (n := 4) rfl
  replace hold := hold.trans (hb2.mono hold.size)
  clear hI2 hD2 htl hb2 h1
  go_wp2_with fail
  refine known9_g.mono ?_
  rintro e w3 ⟨v3, rfl, h3, hb3⟩
  have hT3 := hT2.below hb3
  replace hold := hold.trans (hb3.mono hold.size)
  clear hT2 hb3
  go_wp2_with fail
  refine (frontier_any h3 (by decide) (by decide)).mono ?_
  rintro e w4 ⟨G, vs, B, rfl, M4, hF4, hb4⟩
  rw [show rootN knownL 0 = 0 from rfl] at hF4
  obtain rfl := front_knownD hF4
  rw [show knownL.length = 4 from rfl]
  have hG4 := M4.rd (n := 4) (cap := 4) rfl
  have hT4 := hT3.below hb4
  replace hold := hold.trans (hb4.mono hold.size)
  clear hT3 M4 hF4 hb4 h3
  have hb5 : Below w4.heap.size w4 (w4.alloc (.cells #[.int .i64 (-1), .int .i64 0, .int .i64 0, .int .i64 0] 3)) := (Below.refl _ _).alloc (Nat.le_refl _) _
  replace hG4 := Lib.hid hG4
  replace hT4 := Lib.hid hT4
  replace hold := Lib.hid hold
  go_wp2_with fail
  refine (same_any (xs := [-1, 0, 0, 0]) (ys := [-1, 0, 0, 0]) (hT4.out.below hb5) (rdi_of (t := 3) rfl (heap_alloc_at rfl)) (by decide)).mono ?_
  rintro e w5 ⟨rfl, n5, e5⟩
  have hB5 : Below w4.heap.size w4 w5 := by rw [e5]; exact below_drawn hb5 n5
  clear e5 hb5
  have hT5 := hT4.out.below hB5
  have hG5 := Lib.hid (hG4.out.below hB5)
  have hold5 := Lib.hid (hold.out.trans (hB5.mono hold.out.size))
  have hT5' := Lib.hid hT5
  clear hT4 hG4 hold hB5 hT5
  have e1 : domL 4 [-1, 0, 0, 0] 0 3 = true := by decide
  have e2 : domL 4 [-1, 0, 0, 0] 1 3 = false := by decide
  go_wp2_with fail
  refine (dom_any (a := 0) (b := 3) hT5'.out (by decide)).mono ?_
  rintro e w6 ⟨rfl, rfl⟩
  rw [show domL ([-1, 0, 0, 0] : List Int).length [-1, 0, 0, 0] 0 3 = true from e1]
  go_wp2_with fail
  refine (dom_any (a := 1) (b := 3) hT5'.out (by decide)).mono ?_
  rintro e w6 ⟨rfl, rfl⟩
  rw [show domL ([-1, 0, 0, 0] : List Int).length [-1, 0, 0, 0] 1 3 = false from e2]
  go_wp2_with fail
  refine (rsameg_yes (hG5.out.below litF_below) (litF rfl) (by decide) (by decide)).mono ?_
  rintro e w7 ⟨rfl, n7, e7⟩
  have hB7 : Below w6.heap.size w6 w7 := by rw [e7]; exact below_drawn litF_below n7
  clear e7
  have hG7 := Lib.hid (hG5.out.below hB7)
  have hold7 := Lib.hid (hold5.out.trans (hB7.mono hold5.out.size))
  clear hT5' hG5 hold5 hB7
  have hb8 : Below w7.heap.size w7 (w7.alloc (.cells #[.int .i64 2] 3)) := (Below.refl _ _).alloc (Nat.le_refl _) _
  go_wp2_with fail
  refine (iterate_any (F := frontK) (l := [2]) (hG7.out.below hb8) (by decide) (by decide) (rdi_of (t := 3) rfl (heap_alloc_at rfl)) (by decide)).mono ?_
  rintro e w9 ⟨v9, out, rfl, hO9, hIt, hb9⟩
  obtain rfl := iter_knownD hIt
  have hR9 := strip_rd hO9
  have hold9 := Lib.hid (hold7.out.trans ((hb8.trans (hb9.mono (by simp))).mono hold7.out.size))
  obtain ⟨a9, c9, rfl⟩ := own_form hO9
  clear hO9 hIt hb9 hb8 hG7 hold7
  replace hR9 := Lib.hid hR9
  have hb10 : Below w9.heap.size w9 (w9.alloc (.cells #[.int .i64 1, .int .i64 3] 3)) := (Below.refl _ _).alloc (Nat.le_refl _) _
  go_wp2_with fail
  refine (same_any (xs := [1, 3]) (ys := [1, 3]) (hR9.out.below hb10) (rdi_of (t := 3) rfl (heap_alloc_at rfl)) (by decide)).mono ?_
  rintro e wz ⟨rfl, nz, ez⟩
  have hfin : Hid (Below w.heap.size w wz) := Lib.hid (by rw [ez]; exact below_drawn (hold9.out.trans (hb10.mono hold9.out.size)) nz)
  clear ez hb10 hold9 hR9
  go_wp2_with fail
  go_ret
  exact ⟨rfl, hfin.out⟩
end Go.Proofs.Yteipncggndefmaa
