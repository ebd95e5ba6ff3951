/- wakes: stores and calls that are known. -/
import Derived.Test.YtdpmpppafkefoaaDoorUpdN
namespace Go.Proofs.YtdpmpppafkefoaaDoor
open Go.RowKit Go.Maps

set_option maxRecDepth 20000 in
set_option maxHeartbeats 2000000 in
theorem uwakes_any (w : World) : Calls Tryd.prog 5 #[] w fun e w' => e = .returned (.bool true) ∧ Below w.heap.size w w' := by
  have hold := Below.refl w.heap.size w
  go_enter Tryd.func5, Tryd.ntmps5
  go_wp2_with fail
  refine (of_lit w (x := 1) (by decide)).mono ?_
  rintro e w1 ⟨s_a, rfl, N_a⟩
  change New _ _ _ [1] at N_a
  have hb := N_a.below
  replace hold := hold.trans (hb.mono hold.size)
  clear hb
  have a := N_a.aset
  clear N_a
  go_wp2_with fail
  refine (of_lit w1 (x := 2) (by decide)).mono ?_
  rintro e w2 ⟨s_b, rfl, N_b⟩
  change New _ _ _ [2] at N_b
  have hb := N_b.below
  replace a := a.below hb
  replace hold := hold.trans (hb.mono hold.size)
  clear hb
  have b := N_b.aset
  clear N_b
  go_wp2_with fail
  refine (news (store_new a b (T := []) (vt := .pointer none) (Or.inl ⟨rfl, rfl⟩) (o := 5) (single := true) (by decide) (by decide) (by decide) (by decide))).mono ?_
  rintro e w3 ⟨s_d, rfl, N_d⟩
  have hb := N_d.below
  replace a := a.below hb
  replace b := b.below hb
  replace hold := hold.trans (hb.mono hold.size)
  clear hb
  have d := N_d.aset
  clear N_d
  go_wp2_with fail
  refine (len_a d).mono ?_
  rintro e w' ⟨rfl, hw⟩
  obtain rfl := hw.symm
  rw [show (storeL [1] [2] [] 5 true).length = 0 from by decide]
  clear d
  go_wp2_with fail
  refine (of_lit w3 (x := 6) (by decide)).mono ?_
  rintro e w4 ⟨s_c, rfl, N_c⟩
  change New _ _ _ [6] at N_c
  have hb := N_c.below
  replace a := a.below hb
  replace b := b.below hb
  replace hold := hold.trans (hb.mono hold.size)
  clear hb
  have c := N_c.aset
  clear N_c
  go_wp2_with fail
  refine (news (store_new a b c (o := 5) (single := true) (by decide) (by decide) (by decide) (by decide))).mono ?_
  rintro e w5 ⟨s_d, rfl, N_d⟩
  have hb := N_d.below
  replace a := a.below hb
  replace b := b.below hb
  replace c := c.below hb
  replace hold := hold.trans (hb.mono hold.size)
  clear hb
  have d := N_d.aset
  clear N_d
  go_wp2_with fail
  refine (same_a d a).mono ?_
  rintro e w6 ⟨rfl, hb⟩
  replace a := a.below hb
  replace b := b.below hb
  replace c := c.below hb
  replace d := d.below hb
  replace hold := hold.trans (hb.mono hold.size)
  clear hb
  rw [show alike (storeL [1] [2] [6] 5 true) [1] = true from by decide]
  clear c
  clear d
  go_wp2_with fail
  refine (of_lit w6 (x := 5) (by decide)).mono ?_
  rintro e w7 ⟨s_c, rfl, N_c⟩
  change New _ _ _ [5] at N_c
  have hb := N_c.below
  replace a := a.below hb
  replace b := b.below hb
  replace hold := hold.trans (hb.mono hold.size)
  clear hb
  have c := N_c.aset
  clear N_c
  go_wp2_with fail
  refine (news (store_new a b c (o := 5) (single := true) (by decide) (by decide) (by decide) (by decide))).mono ?_
  rintro e w8 ⟨s_d, rfl, N_d⟩
  have hb := N_d.below
  replace a := a.below hb
  replace b := b.below hb
  replace c := c.below hb
  replace hold := hold.trans (hb.mono hold.size)
  clear hb
  have d := N_d.aset
  clear N_d
  go_wp2_with fail
  refine (same_a d b).mono ?_
  rintro e w9 ⟨rfl, hb⟩
  replace a := a.below hb
  replace b := b.below hb
  replace c := c.below hb
  replace d := d.below hb
  replace hold := hold.trans (hb.mono hold.size)
  clear hb
  rw [show alike (storeL [1] [2] [5] 5 true) [2] = true from by decide]
  clear c
  clear d
  go_wp2_with fail
  refine (of_lit w9 (x := 5) (by decide)).mono ?_
  rintro e w10 ⟨s_c, rfl, N_c⟩
  change New _ _ _ [5] at N_c
  have hb := N_c.below
  replace a := a.below hb
  replace b := b.below hb
  replace hold := hold.trans (hb.mono hold.size)
  clear hb
  have c := N_c.aset
  clear N_c
  go_wp2_with fail
  refine (news (store_new a b c (o := 5) (single := false) (by decide) (by decide) (by decide) (by decide))).mono ?_
  rintro e w11 ⟨s_d, rfl, N_d⟩
  have hb := N_d.below
  replace a := a.below hb
  replace b := b.below hb
  replace c := c.below hb
  replace hold := hold.trans (hb.mono hold.size)
  clear hb
  have d := N_d.aset
  clear N_d
  go_wp2_with fail
  refine (len_a d).mono ?_
  rintro e w' ⟨rfl, hw⟩
  obtain rfl := hw.symm
  rw [show (storeL [1] [2] [5] 5 false).length = 2 from by decide]
  clear c
  clear d
  go_wp2_with fail
  refine (news (call_new a (v := .slice none 0 0) (xs := []) (Or.inl ⟨rfl, Or.inl rfl⟩) (fun _ _ _ h => by cases h) (by decide) (by simp) (by decide))).mono ?_
  rintro e w12 ⟨s_d, rfl, N_d⟩
  have hb := N_d.below
  replace a := a.below hb
  replace b := b.below hb
  replace hold := hold.trans (hb.mono hold.size)
  clear hb
  have d := N_d.aset
  clear N_d
  go_wp2_with fail
  refine (len_a d).mono ?_
  rintro e w' ⟨rfl, hw⟩
  obtain rfl := hw.symm
  rw [show (callL [1] []).length = 0 from by decide]
  clear d
  go_wp2_with fail
  have hba : Below w12.heap.size w12 (w12.alloc (.cells #[.bool true, ptr s_b] 44)) := (Below.refl _ _).alloc (Nat.le_refl _) _
  go_wp2_with fail
  refine (news (call_new (a.below hba) (xs := [(true, some ⟨s_b, 0, none⟩, [2])]) (rowX_block w12 true (some ⟨s_b, 0, none⟩) [2]) (fun m p l h _ => by simp at h; obtain ⟨rfl, rfl, rfl⟩ := h; exact b.below hba) (by decide) (by simp) (by simp))).mono ?_
  rintro e w13 ⟨s_d, rfl, N_d⟩
  replace N_d := N_d.down hba
  change New _ _ _ (callL [1] [(true, some ⟨s_b, 0, none⟩, [2])]) at N_d
  have hb := N_d.below
  replace a := a.below hb
  replace b := b.below hb
  replace hold := hold.trans (hb.mono hold.size)
  clear hb
  have d := N_d.aset
  clear N_d
  go_wp2_with fail
  refine (same_a d b).mono ?_
  rintro e w14 ⟨rfl, hb⟩
  replace a := a.below hb
  replace b := b.below hb
  replace d := d.below hb
  replace hold := hold.trans (hb.mono hold.size)
  clear hb
  rw [show alike (callL [1] [(true, some ⟨s_b, 0, none⟩, [2])]) [2] = true from by simp [callL, oneL, alike, uni]]
  go_wp2_with fail
  go_ret
  exact ⟨rfl, hold⟩
end Go.Proofs.YtdpmpppafkefoaaDoor
