/- NamesOrder: what stands behind plays no part. -/
import Derived.Test.YtjblhiekccjdcaaRNOrdM
namespace Go.Proofs.YtjblhiekccjdcaaR
open Go.RowKit Go.Maps Go.Shelf

theorem RdE.to {α : Type} {c : Nat} {R R' : World → List Value → α → Prop} {w w' : World} {v : Value} {L : List α} (h : RdE c R w v L) (hb : Below w.heap.size w w') (hR : ∀ cs d, R w cs d → R' w' cs d) : RdE c R' w' v L := by
  refine or_map h id ?_
  rintro ⟨b, off, cap, e, hlt, hc⟩
  refine ⟨b, off, cap, e, Nat.lt_of_lt_of_le hlt hb.size, fun i d hi => ?_⟩
  obtain ⟨cs, h1, h2, h3⟩ := hc i d hi
  exact ⟨cs, hR cs d h1, h2, fun j u hj => (hb.cell (p := ⟨b, off + i * c + j, none⟩) hlt).trans (h3 j u hj)⟩
/-- A function's cells, read in a world that is kept. -/
def RdFunAt (w : World) (_ : World) (cs : List Value) (d : Fun) : Prop := RdFun w cs d
/-- What First tells, where the answer is known. -/
theorem first_none {P : List Fun} (hP : POkA P) {r : Nat} (hr : r < 256) (hn : ruleAt P r = none) {w : World} {v : Value} (h : RdE 3 RdFun w v P) : Calls Try.prog 12 #[.agg #[v], .int .u8 r] w fun e w' => e = .returned (.tuple #[.agg #[.int .i64 0, .int .i64 0, .int .i64 0], .bool false]) ∧ Below w.heap.size w w' := by
  have := first_any hP h hr
  rw [hn] at this
  exact this
theorem first_some {P : List Fun} (hP : POkA P) {r : Nat} (hr : r < 256) {q1 q2 q3 : Nat} (hn : ruleAt P r = some (q1, q2, q3)) {w : World} {v : Value} (h : RdE 3 RdFun w v P) : Calls Try.prog 12 #[.agg #[v], .int .u8 r] w fun e w' => e = .returned (.tuple #[.agg #[.int .i64 q1, .int .i64 q2, .int .i64 q3], .bool true]) ∧ Below w.heap.size w w' := by
  have := first_any hP h hr
  rw [hn] at this
  exact this
theorem POkA.app {P M : List Fun} (h1 : POkA P) (h2 : POkA M) (hl : (P ++ M).length ≤ 1000000) : POkA (P ++ M) :=
  ⟨⟨fun d hd => (List.mem_append.1 hd).elim (h1.fits d) (h2.fits d), hl, fun d hd => (List.mem_append.1 hd).elim (h1.l2 d) (h2.l2 d), fun d hd => (List.mem_append.1 hd).elim (h1.l3 d) (h2.l3 d), fun d hd => (List.mem_append.1 hd).elim (h1.l4 d) (h2.l4 d)⟩, fun d hd => (List.mem_append.1 hd).elim (h1.l5 d) (h2.l5 d)⟩
set_option maxRecDepth 20000 in
set_option maxHeartbeats 8000000 in
theorem namesOrder_any {w : World} {v1 v2 : Value} {P M : List Fun} (h1 : RdE 3 RdFun w v1 P) (hf1 : ∀ d ∈ P, d.Fits) (hl1 : P.length ≤ maxLen) (h2 : RdE 3 RdFun w v2 M) (hf2 : ∀ d ∈ M, d.Fits) (hl2 : M.length ≤ maxLen) {r : Nat} (hr : r < 256) :
    Calls Try.prog 5 #[.agg #[v1], .agg #[v2], .int .u8 r] w fun e w' => e = .returned (.bool true) ∧ Below w.heap.size w w' := by
  obtain ⟨a1, c1, rfl⟩ := h1.form
  obtain ⟨a2, c2, rfl⟩ := h2.form
  obtain ⟨p, hp⟩ : ∃ p, p = P.length := ⟨_, rfl⟩
  obtain ⟨m, hm⟩ : ∃ m, m = M.length := ⟨_, rfl⟩
  rw [← hp] at h1
  rw [← hm] at h2
  obtain ⟨W2, hW2⟩ : ∃ W2, ((w.alloc (.cells #[.slice a1 p c1] 26)).alloc (.cells #[.slice a2 m c2] 26)) = W2 := ⟨_, rfl⟩
  have hb0 : Below w.heap.size w W2 := by rw [← hW2]; exact ((Below.refl _ _).alloc (Nat.le_refl _) _).alloc (by simp) _
  have b1 : W2.cell? ⟨w.heap.size, 0, none⟩ = some (.slice a1 p c1) := by rw [blk_cell (show W2.heap[w.heap.size]? = _ from by rw [← hW2]; exact at_oldN (at_newN rfl))]; rfl
  have b2 : W2.cell? ⟨w.heap.size + 1, 0, none⟩ = some (.slice a2 m c2) := by rw [blk_cell (show W2.heap[w.heap.size + 1]? = _ from by rw [← hW2]; exact at_newN (by simp))]; rfl
  have hbx := Lib.hid (fun (w' : World) (hb : Below W2.heap.size W2 w') => (⟨keepC hb b1, keepC hb b2⟩ : w'.cell? ⟨w.heap.size, 0, none⟩ = some (.slice a1 p c1) ∧ w'.cell? ⟨w.heap.size + 1, 0, none⟩ = some (.slice a2 m c2)))
  have r1 := Lib.hid (fun (w' : World) (hb : Below w.heap.size w w') => RdE.below (fun _ _ h => h.below hb) h1 hb)
  have r2 := Lib.hid (fun (w' : World) (hb : Below w.heap.size w w') => RdE.below (fun _ _ h => h.below hb) h2 hb)
  replace hp := Lib.hid hp
  replace hm := Lib.hid hm
  replace hb0 := Lib.hid hb0
  replace hf1 := Lib.hid hf1
  replace hf2 := Lib.hid hf2
  replace h1 := Lib.hid h1
  replace h2 := Lib.hid h2
  rw [← hp.out, ← hm.out]
  go_enter Try.func5, Try.ntmps5
  go_upto_region 1 with fail
  clear hW2
  go_wp2_with fail
  refine (heavy_any (r1.out _ hb0.out) hf1.out hl1).mono ?_
  rintro e w3 ⟨q, rfl, hb3, hL1⟩
  have hB3 := Lib.hid (hb0.out.trans (hb3.mono hb0.out.size))
  have hC3 := Lib.hid hb3
  clear b1 b2 hb3
  cases q with
  | true =>
    go_wp2_with fail
    go_ret
    exact ⟨rfl, hB3.out⟩
  | false =>
  replace hL1 := Lib.hid (hL1 rfl)
  obtain ⟨b1, b2⟩ := hbx.out w3 hC3.out
  go_wp2_with fail
  refine (heavy_any (r2.out _ hB3.out) hf2.out hl2).mono ?_
  rintro e w4 ⟨q, rfl, hb4, hL2⟩
  have hB4 := Lib.hid (hB3.out.trans (hb4.mono hB3.out.size))
  have hC4 := Lib.hid (hC3.out.trans (hb4.mono hC3.out.size))
  clear b1 b2 hb4 hB3 hC3
  cases q with
  | true =>
    go_wp2_with fail
    go_ret
    exact ⟨rfl, hB4.out⟩
  | false =>
  replace hL2 := Lib.hid (hL2 rfl)
  obtain ⟨b1, b2⟩ := hbx.out w4 hC4.out
  have hp70 : p ≤ 70 := by rw [hp.out]; exact hL1.out.1
  have hm70 : m ≤ 70 := by rw [hm.out]; exact hL2.out.1
  by_cases h64 : p + m > 64
  · have d1 : decide ((p : Int) + (m : Int) > 64) = true := by simp; omega
    have d1n : decide (64 < (p : Int) + (m : Int)) = true := by simp; omega
    go_wp2_with fail
    go_ret
    exact ⟨rfl, hB4.out⟩
  have d1 : decide ((p : Int) + (m : Int) > 64) = false := by simp; omega
  have d1n : decide (64 < (p : Int) + (m : Int)) = false := by simp; omega
  by_cases hsp : r = 1 ∨ r = 4 ∨ r = 13 ∨ r = 14
  · rcases hsp with rfl | rfl | rfl | rfl <;> (
      go_wp2_with (go_at_call 9; refine (checks_any _).mono ?_; rintro e w' ⟨rfl, hb⟩)
      go_ret
      exact ⟨rfl, hB4.out.trans (hb.mono hB4.out.size)⟩)
  have k1 : ((r : Int) == 1) = false := by rw [beq_eq_false_iff_ne]; omega
  have k2 : ((r : Int) == 4) = false := by rw [beq_eq_false_iff_ne]; omega
  have k3 : ((r : Int) == 13) = false := by rw [beq_eq_false_iff_ne]; omega
  have k4 : ((r : Int) == 14) = false := by rw [beq_eq_false_iff_ne]; omega
  obtain ⟨i0, hi0, hz0, hz1, hz2⟩ := info_parts infoFun
  have hn0 : OwnE 3 (RdFunAt w) w4 w4.heap.size 39 (.slice none 0 0) [] := OwnE.nil _ _ _
  have hq1 : RdE 3 (RdFunAt w) w4 (.slice a1 p c1) P := h1.out.to hB4.out (fun _ _ h => h)
  replace hn0 := Lib.hid hn0
  replace hq1 := Lib.hid hq1
  go_upto_region 12 with (at_builtin; refine wpList_append_rde _ rfl _ _ 24 rfl w4.heap.size 39 i0 _ 64 Try.underlying24 hi0 hz0 hz1 hz2 rfl (by decide) (.slice none 0 0) [] rfl hn0.out _ P rfl hq1.out (fun cs d h => rdfun_plain cs d h) (by simp [← hp.out, maxLen]; omega) (by simp [← hp.out]; omega) (Nat.le_refl _) (fun _ _ _ _ h => h) ?_; intro v5 w5 hn5 hT5 hat5; rw [List.nil_append] at hn5)
  have hB45 : Below w4.heap.size w4 w5 := hT5.below (Nat.le_refl _) (fun k hk h => by simp [Value.ownBlock] at h)
  have hB5 := Lib.hid (hB4.out.trans (hB45.mono hB4.out.size))
  have hC5 := Lib.hid (hC4.out.trans (hB45.mono hC4.out.size))
  have hs45 := hB45.size
  obtain ⟨a5, c5, e5⟩ := hn5.form
  rw [← hp.out] at e5
  subst e5
  replace hn5 := Lib.hid hn5
  replace hB45 := Lib.hid hB45
  clear b1 b2 hn0 hq1 hT5 hat5 d1 d1n k1 k2 k3 k4
  obtain ⟨b1, b2⟩ := hbx.out w5 hC5.out
  have hq2 : RdE 3 (RdFunAt w) w5 (.slice a2 m c2) M := h2.out.to hB5.out (fun _ _ h => h)
  replace hq2 := Lib.hid hq2
  go_upto_region 13 with (at_builtin; refine wpList_append_rde _ rfl _ _ 24 rfl w4.heap.size 39 i0 _ 64 Try.underlying24 hi0 hz0 hz1 hz2 rfl (by decide) (.slice a5 p c5) P rfl hn5.out _ M rfl hq2.out (fun cs d h => rdfun_plain cs d h) (by simp [← hp.out, ← hm.out, maxLen]; omega) (by simp [← hp.out, ← hm.out]; omega) hs45 (fun _ _ _ _ h => h) ?_; intro v6 w6 hn6 hT6 hat6)
  have hB6 : Below w4.heap.size w4 w6 := hB45.out.trans (hT6.below hs45 (fun k hk h => by have := (hn5.out.lt k h).1; omega))
  have hB7 := Lib.hid (hB4.out.trans (hB6.mono hB4.out.size))
  have hC7 := Lib.hid (hC4.out.trans (hB6.mono hC4.out.size))
  have hR6 : RdE 3 RdFun w6 v6 (P ++ M) := hn6.rd.to (Below.refl _ _) (fun _ _ h => RdFun.below h hB7.out)
  obtain ⟨a6, c6, rfl⟩ := hR6.form
  obtain ⟨n6, hn6l⟩ : ∃ n, n = (P ++ M).length := ⟨_, rfl⟩
  rw [← hn6l] at hR6 ⊢
  have hR7 := Lib.hid hR6
  replace hn6l := Lib.hid hn6l
  clear b1 b2 hq2 hn5 hn6 hT6 hat6 hB6 hR6 hB5 hC5 hB45
  obtain ⟨b1, b2⟩ := hbx.out w6 hC7.out
  have hok1 := Lib.hid (hL1.out.ok hf1.out)
  have hok2 : Hid (POkA (P ++ M)) := Lib.hid (by
    have o1 := hL1.out.ok hf1.out
    have o2 := hL2.out.ok hf2.out
    have e1 := hp.out
    have e2 := hm.out
    exact POkA.app o1 o2 (by rw [List.length_append]; omega))
  have hg := Lib.hid (rule_goes P M r ⟨fun e => hsp (.inl e), fun e => hsp (.inr (.inl e)), fun e => hsp (.inr (.inr (.inl e))), fun e => hsp (.inr (.inr (.inr e)))⟩)
  have hRP := Lib.hid (r1.out w6 hB7.out)
  have hrq : ∃ ra, ruleAt P r = ra := ⟨_, rfl⟩
  have hrb : ∃ rb, ruleAt (P ++ M) r = rb := ⟨_, rfl⟩
  obtain ⟨ra, hra⟩ := hrq
  obtain ⟨rb, hrb⟩ := hrb
  rw [hra, hrb] at hg
  have hbx2 := Lib.hid (fun (w' : World) (hb : Below w6.heap.size w6 w') => hbx.out w' (hC7.out.trans (hb.mono hC7.out.size)))
  clear hsp hbx r1 r2 hL1 hL2
  cases ra with
  | some q =>
    obtain ⟨q1, q2, q3⟩ := q
    have e2 := hg.out.1 _ rfl
    subst e2
    have kA := Lib.hid (first_some hok1.out hr hra hRP.out)
    have kB := Lib.hid (fun w' (hb : Below w6.heap.size w6 w') => first_some hok2.out hr hrb (RdE.below (fun _ _ h => h.below hb) hR7.out hb))
    clear hg hra hrb hok1 hok2
    go_upto_region 14 with (go_at_call 12; refine Calls.mono kA.out ?_; rintro e w7 ⟨rfl, hb7⟩)
    have hb8 : Below w6.heap.size w6 (w7.alloc (.cells #[.int .i64 q1, .int .i64 q2, .int .i64 q3] 30)) := hb7.alloc hb7.size _
    have hP8 : (w7.alloc (.cells #[.int .i64 q1, .int .i64 q2, .int .i64 q3] 30)).heap[w7.heap.size]? = some (.cells #[.int .i64 q1, .int .i64 q2, .int .i64 q3] 30 (0, 0)) := at_newN rfl
    replace hb8 := Lib.hid hb8
    generalize (w7.alloc (.cells #[.int .i64 q1, .int .i64 q2, .int .i64 q3] 30)) = w8 at hb8 hP8 ⊢
    have hlt8 := (Array.getElem?_eq_some_iff.1 hP8).1
    generalize w7.heap.size = t9 at hP8 hlt8 ⊢
    replace hP8 := Lib.hid hP8
    clear hb7 b1 b2 kA
    go_wp2_with (first
      | (go_at_call 12; refine Calls.mono (kB.out _ hb8.out) ?_; rintro e w9 ⟨rfl, hb9⟩; have hbA := hb9.alloc hb9.size (.cells #[.int .i64 q1, .int .i64 q2, .int .i64 q3] 30); have hP9 : (w9.alloc (.cells #[.int .i64 q1, .int .i64 q2, .int .i64 q3] 30)).heap[t9]? = some (.cells #[.int .i64 q1, .int .i64 q2, .int .i64 q3] 30 (0, 0)) := ((hbA.block t9 hlt8).trans hP8.out); have hB10 := Lib.hid (hB7.out.trans ((hb8.out.trans (hbA.mono hb8.out.size)).mono hB7.out.size)); obtain ⟨b1, b2⟩ := hbx2.out _ (hb8.out.trans (hbA.mono hb8.out.size)); have z0 : (w9.alloc (.cells #[.int .i64 q1, .int .i64 q2, .int .i64 q3] 30)).cell? ⟨t9, 0, none⟩ = some (.int .i64 q1) := (by rw [blk_cell hP9]; rfl); have z1 : (w9.alloc (.cells #[.int .i64 q1, .int .i64 q2, .int .i64 q3] 30)).cell? ⟨t9, 1, none⟩ = some (.int .i64 q2) := (by rw [blk_cell hP9]; rfl); have z2 : (w9.alloc (.cells #[.int .i64 q1, .int .i64 q2, .int .i64 q3] 30)).cell? ⟨t9, 2, none⟩ = some (.int .i64 q3) := (by rw [blk_cell hP9]; rfl); have hPx : (w9.alloc (.cells #[.int .i64 q1, .int .i64 q2, .int .i64 q3] 30)).heap[w9.heap.size]? = some (.cells #[.int .i64 q1, .int .i64 q2, .int .i64 q3] 30 (0, 0)) := at_newN rfl; have x0 : (w9.alloc (.cells #[.int .i64 q1, .int .i64 q2, .int .i64 q3] 30)).cell? ⟨w9.heap.size, 0, none⟩ = some (.int .i64 q1) := (by rw [blk_cell hPx]; rfl); have x1 : (w9.alloc (.cells #[.int .i64 q1, .int .i64 q2, .int .i64 q3] 30)).cell? ⟨w9.heap.size, 1, none⟩ = some (.int .i64 q2) := (by rw [blk_cell hPx]; rfl); have x2 : (w9.alloc (.cells #[.int .i64 q1, .int .i64 q2, .int .i64 q3] 30)).cell? ⟨w9.heap.size, 2, none⟩ = some (.int .i64 q3) := (by rw [blk_cell hPx]; rfl); clear hP9 hPx hbA hb9)
      | (go_at_call 9; refine (checks_any _).mono ?_; rintro e w' ⟨rfl, hb⟩))
    go_ret
    exact ⟨rfl, hB10.out.trans (hb.mono hB10.out.size)⟩
  | none =>
    have kA := Lib.hid (first_none hok1.out hr hra hRP.out)
    have hnn := hg.out.2 rfl
    cases rb with
    | none =>
      have kB := Lib.hid (fun w' (hb : Below w6.heap.size w6 w') => first_none hok2.out hr hrb (RdE.below (fun _ _ h => h.below hb) hR7.out hb))
      clear hg hra hrb hok1 hok2 hnn
      go_upto_region 14 with (go_at_call 12; refine Calls.mono kA.out ?_; rintro e w7 ⟨rfl, hb7⟩)
      have hb8 : Below w6.heap.size w6 (w7.alloc (.cells #[.int .i64 0, .int .i64 0, .int .i64 0] 30)) := hb7.alloc hb7.size _
      have hP8 : (w7.alloc (.cells #[.int .i64 0, .int .i64 0, .int .i64 0] 30)).heap[w7.heap.size]? = some (.cells #[.int .i64 0, .int .i64 0, .int .i64 0] 30 (0, 0)) := at_newN rfl
      replace hb8 := Lib.hid hb8
      generalize (w7.alloc (.cells #[.int .i64 0, .int .i64 0, .int .i64 0] 30)) = w8 at hb8 hP8 ⊢
      have hlt8 := (Array.getElem?_eq_some_iff.1 hP8).1
      generalize w7.heap.size = t9 at hP8 hlt8 ⊢
      replace hP8 := Lib.hid hP8
      clear hb7 b1 b2 kA
      go_wp2_with (first
        | (go_at_call 12; refine Calls.mono (kB.out _ hb8.out) ?_; rintro e w9 ⟨rfl, hb9⟩; have hbA := hb9.alloc hb9.size (.cells #[.int .i64 0, .int .i64 0, .int .i64 0] 30); have hP9 : (w9.alloc (.cells #[.int .i64 0, .int .i64 0, .int .i64 0] 30)).heap[t9]? = some (.cells #[.int .i64 0, .int .i64 0, .int .i64 0] 30 (0, 0)) := ((hbA.block t9 hlt8).trans hP8.out); have hB10 := Lib.hid (hB7.out.trans ((hb8.out.trans (hbA.mono hb8.out.size)).mono hB7.out.size)); obtain ⟨b1, b2⟩ := hbx2.out _ (hb8.out.trans (hbA.mono hb8.out.size)); have z0 : (w9.alloc (.cells #[.int .i64 0, .int .i64 0, .int .i64 0] 30)).cell? ⟨t9, 0, none⟩ = some (.int .i64 0) := (by rw [blk_cell hP9]; rfl); have z1 : (w9.alloc (.cells #[.int .i64 0, .int .i64 0, .int .i64 0] 30)).cell? ⟨t9, 1, none⟩ = some (.int .i64 0) := (by rw [blk_cell hP9]; rfl); have z2 : (w9.alloc (.cells #[.int .i64 0, .int .i64 0, .int .i64 0] 30)).cell? ⟨t9, 2, none⟩ = some (.int .i64 0) := (by rw [blk_cell hP9]; rfl); have hPx : (w9.alloc (.cells #[.int .i64 0, .int .i64 0, .int .i64 0] 30)).heap[w9.heap.size]? = some (.cells #[.int .i64 0, .int .i64 0, .int .i64 0] 30 (0, 0)) := at_newN rfl; have x0 : (w9.alloc (.cells #[.int .i64 0, .int .i64 0, .int .i64 0] 30)).cell? ⟨w9.heap.size, 0, none⟩ = some (.int .i64 0) := (by rw [blk_cell hPx]; rfl); have x1 : (w9.alloc (.cells #[.int .i64 0, .int .i64 0, .int .i64 0] 30)).cell? ⟨w9.heap.size, 1, none⟩ = some (.int .i64 0) := (by rw [blk_cell hPx]; rfl); have x2 : (w9.alloc (.cells #[.int .i64 0, .int .i64 0, .int .i64 0] 30)).cell? ⟨w9.heap.size, 2, none⟩ = some (.int .i64 0) := (by rw [blk_cell hPx]; rfl); clear hP9 hPx hbA hb9)
        | (go_at_call 9; refine (checks_any _).mono ?_; rintro e w' ⟨rfl, hb⟩))
      go_ret
      exact ⟨rfl, hB10.out.trans (hb.mono hB10.out.size)⟩
    | some q =>
      obtain ⟨q1, q2, q3⟩ := q
      have hq1 : p ≤ q1 := by rw [hp.out]; exact hnn _ rfl
      have d5 : decide ((q1 : Int) ≥ (p : Int)) = true := by simp; omega
      have d5n : decide ((p : Int) ≤ (q1 : Int)) = true := by simp; omega
      have kB := Lib.hid (fun w' (hb : Below w6.heap.size w6 w') => first_some hok2.out hr hrb (RdE.below (fun _ _ h => h.below hb) hR7.out hb))
      clear hg hra hrb hok1 hok2 hnn
      go_upto_region 14 with (go_at_call 12; refine Calls.mono kA.out ?_; rintro e w7 ⟨rfl, hb7⟩)
      have hb8 : Below w6.heap.size w6 (w7.alloc (.cells #[.int .i64 0, .int .i64 0, .int .i64 0] 30)) := hb7.alloc hb7.size _
      have hP8 : (w7.alloc (.cells #[.int .i64 0, .int .i64 0, .int .i64 0] 30)).heap[w7.heap.size]? = some (.cells #[.int .i64 0, .int .i64 0, .int .i64 0] 30 (0, 0)) := at_newN rfl
      replace hb8 := Lib.hid hb8
      generalize (w7.alloc (.cells #[.int .i64 0, .int .i64 0, .int .i64 0] 30)) = w8 at hb8 hP8 ⊢
      have hlt8 := (Array.getElem?_eq_some_iff.1 hP8).1
      generalize w7.heap.size = t9 at hP8 hlt8 ⊢
      replace hP8 := Lib.hid hP8
      clear hb7 b1 b2 kA
      go_wp2_with (first
        | (go_at_call 12; refine Calls.mono (kB.out _ hb8.out) ?_; rintro e w9 ⟨rfl, hb9⟩; have hbA := hb9.alloc hb9.size (.cells #[.int .i64 q1, .int .i64 q2, .int .i64 q3] 30); have hP9 : (w9.alloc (.cells #[.int .i64 q1, .int .i64 q2, .int .i64 q3] 30)).heap[t9]? = some (.cells #[.int .i64 0, .int .i64 0, .int .i64 0] 30 (0, 0)) := ((hbA.block t9 hlt8).trans hP8.out); have hB10 := Lib.hid (hB7.out.trans ((hb8.out.trans (hbA.mono hb8.out.size)).mono hB7.out.size)); obtain ⟨b1, b2⟩ := hbx2.out _ (hb8.out.trans (hbA.mono hb8.out.size)); have z0 : (w9.alloc (.cells #[.int .i64 q1, .int .i64 q2, .int .i64 q3] 30)).cell? ⟨t9, 0, none⟩ = some (.int .i64 0) := (by rw [blk_cell hP9]; rfl); have z1 : (w9.alloc (.cells #[.int .i64 q1, .int .i64 q2, .int .i64 q3] 30)).cell? ⟨t9, 1, none⟩ = some (.int .i64 0) := (by rw [blk_cell hP9]; rfl); have z2 : (w9.alloc (.cells #[.int .i64 q1, .int .i64 q2, .int .i64 q3] 30)).cell? ⟨t9, 2, none⟩ = some (.int .i64 0) := (by rw [blk_cell hP9]; rfl); have hPx : (w9.alloc (.cells #[.int .i64 q1, .int .i64 q2, .int .i64 q3] 30)).heap[w9.heap.size]? = some (.cells #[.int .i64 q1, .int .i64 q2, .int .i64 q3] 30 (0, 0)) := at_newN rfl; have x0 : (w9.alloc (.cells #[.int .i64 q1, .int .i64 q2, .int .i64 q3] 30)).cell? ⟨w9.heap.size, 0, none⟩ = some (.int .i64 q1) := (by rw [blk_cell hPx]; rfl); have x1 : (w9.alloc (.cells #[.int .i64 q1, .int .i64 q2, .int .i64 q3] 30)).cell? ⟨w9.heap.size, 1, none⟩ = some (.int .i64 q2) := (by rw [blk_cell hPx]; rfl); have x2 : (w9.alloc (.cells #[.int .i64 q1, .int .i64 q2, .int .i64 q3] 30)).cell? ⟨w9.heap.size, 2, none⟩ = some (.int .i64 q3) := (by rw [blk_cell hPx]; rfl); clear hP9 hPx hbA hb9)
        | (go_at_call 9; refine (checks_any _).mono ?_; rintro e w' ⟨rfl, hb⟩))
      go_ret
      exact ⟨rfl, hB10.out.trans (hb.mono hB10.out.size)⟩
end Go.Proofs.YtjblhiekccjdcaaR
