/- GraphWays: the walk. -/
import Derived.Test.YtfhckabhaidhmaaGLawK
namespace Go.Proofs.Ytfhckabhaidhmaa
open Go.RowKit Go.Maps Go.Shelf Go.WideShapes Go.ChangeShapes Go.ChangeAt Go.Deep

theorem leads_bool (L : List (List Int)) (a b : Int) : ∃ q : Bool, (q = true ↔ leadsP L a b) := ⟨@decide (leadsP L a b) (Classical.propDecidable _), by simp⟩
set_option maxRecDepth 20000 in
set_option maxHeartbeats 4000000 in
theorem ways_any {w : World} {v fv : Value} {L : List (List Int)} {fl : List Int} {a b : Int} (h : RdG w v L) (hf : RdI w fv fl) : Calls Try.prog 4 #[v, fv, .int .i64 a, .int .i64 b] w fun e w' => e = .returned (.bool true) ∧ Below w.heap.size w w' := by
  obtain ⟨av, cap, rfl⟩ := h.form
  obtain ⟨af, cf, rfl⟩ := hf.shape
  go_enter Try.func4, Try.ntmps4
  go_wp2_with fail
  refine (great_any h).mono ?_
  rintro e w' ⟨q, rfl, rfl, hq⟩
  by_cases hfl : 200 < fl.length
  · have d1 : decide ((fl.length : Int) > 200) = true := by simp; omega
    clear hq
    cases q
    all_goals
      go_wp2_with fail
      refine wakes_g.mono ?_
      rintro e w1 ⟨rfl, hb⟩
      go_wp2_with fail
      go_ret
      exact ⟨rfl, hb⟩
  have d1 : decide ((fl.length : Int) > 200) = false := by simp; omega
  cases q with
  | true =>
    go_wp2_with fail
    refine wakes_g.mono ?_
    rintro e w1 ⟨rfl, hb⟩
    go_wp2_with fail
    go_ret
    exact ⟨rfl, hb⟩
  | false =>
    obtain ⟨hL, hr⟩ := hq rfl
    clear hq
    have hr1 : Hid (∀ r ∈ L, r.length ≤ 100000) := Lib.hid (fun r hr' => by have := hr r hr'; omega)
    clear hr
    go_wp2_with fail
    refine (reach_any h (by omega) hr1.out hf (by omega)).mono ?_
    rintro e w1 ⟨S, s, rfl, hs, hsm, -, hb1⟩
    have h1 := h.below hb1
    have hf1 := Rd.below hf hb1
    have hsl := (Array.getElem?_eq_some_iff.1 hs).1
    replace hs := Lib.hid hs
    replace hsm := Lib.hid hsm
    go_wp2_with fail
    refine (rreach_any h1 (by omega) hr1.out hf1 (by omega)).mono ?_
    rintro e w2 ⟨S2, s2, rfl, hs2, hsm2, -, hb2⟩
    have hs1 := (hb2.block S hsl).trans hs.out
    rw [seenA_ext (s := s2) (t := s) (fun x => (hsm2 x).trans (hsm.out x).symm)] at hs2
    have hold := hb1.trans (hb2.mono hb1.size)
    clear hsm hsm2 hb1 hb2 hf1 h1 hs
    replace hs1 := Lib.hid hs1
    replace hs2 := Lib.hid hs2
    go_wp2_with fail
    refine (rbools_yes hs1.out hs2.out (by omega)).mono ?_
    rintro e w3 ⟨rfl, n3, e3⟩
    replace hold := below_drawn hold n3
    rw [← e3] at hold
    clear hs1 hs2 e3
    obtain ⟨q, hq⟩ := leads_bool L a b
    replace hq := Lib.hid hq
    have h3 := h.below hold
    go_wp2_with fail
    refine (leads_any h3 (by omega) hr1.out hq.out).mono ?_
    rintro e w4 ⟨rfl, hb4⟩
    have h4 := h3.below hb4
    replace hold := hold.trans (hb4.mono hold.size)
    clear hb4 h3
    go_wp2_with fail
    refine (rleads_any h4 (by omega) hr1.out hq.out).mono ?_
    rintro e w5 ⟨rfl, hb5⟩
    have h5 := h4.below hb5
    replace hold := hold.trans (hb5.mono hold.size)
    clear hb5 h4
    go_wp2_with fail
    refine (post_any h5 (by omega) hr1.out).mono ?_
    rintro e w6 ⟨lv, o, rfl, hown, hpo, hb6⟩
    have h6 := h5.below hb6
    have hlv : RdI w6 lv (o.map fun x : Nat => (x : Int)) := strip_rd (base := w5.heap.size) (n := o.length) (by rw [List.map_map]; exact hown)
    replace hold := hold.trans (hb6.mono hold.size)
    clear hb6 h5 hown
    replace hpo := Lib.hid hpo
    go_wp2_with fail
    refine (rpost_any h6 (by omega) hr1.out).mono ?_
    rintro e w7 ⟨lv2, o2, rfl, hlv2, hpo2, hb7⟩
    have ho : o2.length ≤ 1000000 ∧ o2 = o := by
      have e1 := post_det hpo.out hpo2
      refine ⟨?_, e1⟩
      obtain ⟨s', hk⟩ := hpo2
      have := hk.few
      have := unseen_all (normL L).length []
      rw [normL_len] at *
      simp at *
      omega
    obtain ⟨ho1, rfl⟩ := ho
    replace hlv := Rd.below hlv hb7
    replace hold := hold.trans (hb7.mono hold.size)
    clear hb7 h6 hpo hpo2
    go_wp2_with fail
    refine (same_any hlv hlv2 (by simpa using ho1)).mono ?_
    rintro e w8 ⟨rfl, n8, e8⟩
    replace hold := below_drawn hold n8
    rw [← e8] at hold
    clear e8 hlv hlv2
    go_wp2_with fail
    refine wakes_g.mono ?_
    rintro e w9 ⟨rfl, hb⟩
    replace hold := hold.trans (hb.mono hold.size)
    go_wp2_with fail
    go_ret
    exact ⟨rfl, hold⟩
end Go.Proofs.Ytfhckabhaidhmaa
