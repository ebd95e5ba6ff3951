/- What is known of the known graph: 'wakes'. -/
import Derived.Test.YtfhckabhaidhmaaGLaw
namespace Go.Proofs.Ytfhckabhaidhmaa
open Go.RowKit Go.Maps Go.Shelf Go.WideShapes Go.ChangeShapes Go.ChangeAt Go.Deep

theorem normL_known : normL knownL = knownL := by decide
theorem post_det {L : List (List Int)} {y : Int} {o o' : List Nat} (h : PostOf L y o) (h' : PostOf L y o') : o' = o := by
  obtain ⟨s, h⟩ := h
  obtain ⟨s', h'⟩ := h'
  exact (h.det h').2
theorem known_post : PostOf knownL 0 [0, 2, 1, 3] := by
  refine ⟨[2, 3, 1, 0], ?_⟩
  rw [normL_known]
  refine .go (y := 0) (r := [1, 2]) (s1 := [2, 3, 1, 0]) (o1 := [2, 1, 3]) (by decide) (by decide) rfl ?_ .nil
  refine .go (y := 1) (r := [3]) (s1 := [3, 1, 0]) (o1 := [3]) (by decide) (by decide) rfl ?_ ?_
  · refine .go (y := 3) (r := [1]) (s1 := [3, 1, 0]) (o1 := []) (by decide) (by decide) rfl ?_ .nil
    exact .skip (by decide) .nil
  · refine .go (y := 2) (r := [3]) (s1 := [2, 3, 1, 0]) (o1 := [1, 3]) (by decide) (by decide) rfl ?_ .nil
    exact .skip (by decide) .nil
theorem known_back : backL knownL = [[], [0, 3], [0], [1, 2]] := by decide
theorem known_far : ¬ leadsP knownL 3 0 := by
  rintro ⟨-, -, h⟩
  have key : ∀ a b, Way knownL a b → (a = 1 ∨ a = 3) → (b = 1 ∨ b = 3) := by
    intro a b h
    induction h with
    | refl _ => exact id
    | step _ e ih =>
      intro ha
      obtain ⟨-, r, hr, hm⟩ := e
      rcases ih ha with rfl | rfl
      · simp [knownL] at hr; subst hr; simp at hm; omega
      · simp [knownL] at hr; subst hr; simp at hm; omega
  have := key _ _ h (.inr rfl)
  simp at this
theorem known_near : leadsP knownL 2 2 := ⟨by decide, by decide, .refl (by decide)⟩

set_option maxRecDepth 20000 in
set_option maxHeartbeats 4000000 in
theorem wakes_g {w : World} : Calls Try.prog 10 #[] w fun e w' => e = .returned (.bool true) ∧ Below w.heap.size w w' := by
  go_enter Try.func10, Try.ntmps10
  go_wp2_with fail
  refine known_g.mono ?_
  rintro e w1 ⟨v1, rfl, h1, hold⟩
  go_wp2_with fail
  refine (post_any h1 (by decide) (by decide)).mono ?_
  rintro e w2 ⟨lv, o, rfl, hown, hpo, hb2⟩
  obtain rfl := post_det known_post hpo
  have hr2 : RdI w2 lv [0, 2, 1, 3] := strip_rd (base := w1.heap.size) (n := 4) (xs := [0, 2, 1, 3]) hown
  replace hold := hold.trans (hb2.mono hold.size)
  clear hown hpo hb2 h1
  go_wp2_with fail
  have hb3 : Below w2.heap.size w2 (w2.alloc (.cells #[.int .i64 0, .int .i64 2, .int .i64 1, .int .i64 3] 3)) := (Below.refl _ _).alloc (Nat.le_refl _) _
  refine (same_any (xs := [0, 2, 1, 3]) (ys := [0, 2, 1, 3]) (hr2.below hb3) (rdi_of (t := 3) rfl (heap_alloc_at rfl)) (by decide)).mono ?_
  rintro e w3 ⟨rfl, n3, e3⟩
  replace hold := below_drawn (hold.trans (hb3.mono hold.size)) n3
  rw [← e3] at hold
  clear e3 hb3 hr2
  go_wp2_with fail
  refine known_g.mono ?_
  rintro e w4 ⟨v4, rfl, h4, hb4⟩
  replace hold := hold.trans (hb4.mono hold.size)
  clear hb4
  go_wp2_with fail
  refine (back_any h4 (by decide) (by decide)).mono ?_
  rintro e w5 ⟨G, vs, rfl, M5, hb5⟩
  have hB := M5.rd (n := 4) (cap := 4) (by rw [backL_len]; rfl)
  rw [known_back] at hB
  replace hold := hold.trans (hb5.mono hold.size)
  clear M5 hb5 h4
  go_wp2_with fail
  have hb6 : Below w5.heap.size w5 ((((w5.alloc (.cells #[.int .i64 0, .int .i64 3] 3)).alloc (.cells #[.int .i64 0] 3)).alloc (.cells #[.int .i64 1, .int .i64 2] 3)).alloc (.cells #[.slice none 0 0, .slice (some ⟨w5.heap.size, 0, none⟩) 2 2, .slice (some ⟨w5.heap.size + 1, 0, none⟩) 1 1, .slice (some ⟨w5.heap.size + 1 + 1, 0, none⟩) 2 2] 28)) := ((((Below.refl _ _).alloc (Nat.le_refl _) _).alloc (by simp) _).alloc (by simp; omega) _).alloc (by simp; omega) _
  have hC : RdG ((((w5.alloc (.cells #[.int .i64 0, .int .i64 3] 3)).alloc (.cells #[.int .i64 0] 3)).alloc (.cells #[.int .i64 1, .int .i64 2] 3)).alloc (.cells #[.slice none 0 0, .slice (some ⟨w5.heap.size, 0, none⟩) 2 2, .slice (some ⟨w5.heap.size + 1, 0, none⟩) 1 1, .slice (some ⟨w5.heap.size + 1 + 1, 0, none⟩) 2 2] 28)) (.slice (some ⟨w5.heap.size + 1 + 1 + 1, 0, none⟩) 4 4) [[], [0, 3], [0], [1, 2]] := by
    refine rdg_of (t := 28) (vs := [.slice none 0 0, .slice (some ⟨w5.heap.size, 0, none⟩) 2 2, .slice (some ⟨w5.heap.size + 1, 0, none⟩) 1 1, .slice (some ⟨w5.heap.size + 1 + 1, 0, none⟩) 2 2]) rfl (heap_alloc_at (by simp)) rfl ?_
    intro i u l hu hl
    match i, hu, hl with
    | 0, hu, hl =>
      simp at hu hl
      subst hu hl
      exact rd_none _
    | 1, hu, hl =>
      simp at hu hl
      subst hu hl
      exact rdi_of (t := 3) rfl (heap_alloc_in (heap_alloc_in (heap_alloc_in (heap_alloc_at rfl))))
    | 2, hu, hl =>
      simp at hu hl
      subst hu hl
      exact rdi_of (t := 3) rfl (heap_alloc_in (heap_alloc_in (heap_alloc_at (by simp))))
    | 3, hu, hl =>
      simp at hu hl
      subst hu hl
      exact rdi_of (t := 3) rfl (heap_alloc_in (heap_alloc_at (by simp)))
    | (k + 4), hu, hl => simp at hu
  refine (rsameg_yes (hB.below hb6) hC (by decide) (by decide)).mono ?_
  rintro e w7 ⟨rfl, n7, e7⟩
  replace hold := below_drawn (hold.trans (hb6.mono hold.size)) n7
  rw [← e7] at hold
  clear e7 hb6 hC hB
  go_wp2_with fail
  refine known_g.mono ?_
  rintro e w8 ⟨v8, rfl, h8, hb8⟩
  replace hold := hold.trans (hb8.mono hold.size)
  clear hb8
  go_wp2_with fail
  refine (leads_any (q := true) h8 (by decide) (by decide) ⟨fun _ => known_near, fun _ => rfl⟩).mono ?_
  rintro e w9 ⟨rfl, hb9⟩
  replace hold := hold.trans (hb9.mono hold.size)
  clear hb9 h8
  go_wp2_with fail
  refine known_g.mono ?_
  rintro e w10 ⟨v10, rfl, h10, hb10⟩
  replace hold := hold.trans (hb10.mono hold.size)
  clear hb10
  go_wp2_with fail
  refine (leads_any (q := false) h10 (by decide) (by decide) ⟨fun h => (by cases h), fun h => absurd h known_far⟩).mono ?_
  rintro e w11 ⟨rfl, hb11⟩
  replace hold := hold.trans (hb11.mono hold.size)
  clear hb11 h10
  go_wp2_with fail
  go_ret
  exact ⟨rfl, hold⟩
end Go.Proofs.Ytfhckabhaidhmaa
