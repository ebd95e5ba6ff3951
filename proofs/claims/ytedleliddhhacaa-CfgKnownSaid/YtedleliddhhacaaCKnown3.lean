/- CfgKnown: a region that draws, one operation after the other. -/
import Derived.Test.YtedleliddhhacaaCKnown
namespace Go.Proofs.Ytedleliddhhacaa
open Go.RowKit Go.Maps

section
variable {a0 : Act} {w0 : World} {listed : Array Bool} {a : Act} {w : World} {Q : Exit → Act → World → Prop}
set_option maxHeartbeats 2000000 in
theorem step3_0 {o : Oper} (h2 : a0.tmps[2]? = some cloK) (ho : ops3[0]? = some o) (H : Grown ops3 V3 a0 w0 listed a w) (hdep : ∀ e ∈ o.after, Region.binds .any e = true → listed[e.on]? = some true) :
    o.wp Try.prog a w (fun a' w' => ∃ v, a' = a.put o.dst v ∧ Below w.heap.size w w' ∧ V3 0 w' v) Q := by
  have g := getD_of (H.old 2 (by kernel_rfl) h2)
  unfold cloK at g
  have e : (ops3[0]?).get (by kernel_rfl) = o := by simp [ho]
  conv at e => lhs; whnf
  subst e
  unfold Oper.wp
  go_simp
  exact ⟨_, rfl, Below.refl _ _, rfl⟩

set_option maxHeartbeats 2000000 in
theorem step3_1 {o : Oper} (ho : ops3[1]? = some o) (H : Grown ops3 V3 a0 w0 listed a w) (hdep : ∀ e ∈ o.after, Region.binds .any e = true → listed[e.on]? = some true) :
    o.wp Try.prog a w (fun a' w' => ∃ v, a' = a.put o.dst v ∧ Below w.heap.size w w' ∧ V3 1 w' v) Q := by
  have e : (ops3[1]?).get (by kernel_rfl) = o := by simp [ho]
  conv at e => lhs; whnf
  subst e
  unfold Oper.wp
  go_simp
  exact ⟨_, rfl, (Below.refl _ _).alloc (Nat.le_refl _) _, rd_ofC (f := Value.string) (l := [bZ]) (t := 9) rfl (at_newC rfl)⟩

set_option maxHeartbeats 2000000 in
theorem step3_2 {o : Oper} (ho : ops3[2]? = some o) (H : Grown ops3 V3 a0 w0 listed a w) (hdep : ∀ e ∈ o.after, Region.binds .any e = true → listed[e.on]? = some true) :
    o.wp Try.prog a w (fun a' w' => ∃ v, a' = a.put o.dst v ∧ Below w.heap.size w w' ∧ V3 2 w' v) Q := by
  obtain ⟨v1, e1, h1⟩ := H.val 1 15 (by kernel_rfl) (dep_of ho hdep (by kernel_rfl))
  replace h1 : RdS w v1 [bZ] := h1
  obtain ⟨a1, c1, rfl⟩ := h1.form
  have g1 := getD_of e1
  have e : (ops3[2]?).get (by kernel_rfl) = o := by simp [ho]
  conv at e => lhs; whnf
  subst e
  unfold Oper.wp
  go_simp
  exact ⟨_, rfl, Below.refl _ _, [.int .u8 13, .string ⟨#[]⟩, .string ⟨#[]⟩, .string ⟨#[]⟩, .int .i64 0, .string ⟨#[]⟩, .slice none 0 0, .slice a1 1 c1], rfl, _, _, rfl, rd_none _, h1⟩

set_option maxHeartbeats 2000000 in
theorem step3_3 {o : Oper} (ho : ops3[3]? = some o) (H : Grown ops3 V3 a0 w0 listed a w) (hdep : ∀ e ∈ o.after, Region.binds .any e = true → listed[e.on]? = some true) :
    o.wp Try.prog a w (fun a' w' => ∃ v, a' = a.put o.dst v ∧ Below w.heap.size w w' ∧ V3 3 w' v) Q := by
  obtain ⟨_, e2, _, rfl, va2, vl2, rfl, ha2, hl2⟩ := H.val 2 16 (by kernel_rfl) (dep_of ho hdep (by kernel_rfl))
  obtain ⟨a2, c2, rfl⟩ := ha2.form
  obtain ⟨b2, d2, rfl⟩ := hl2.form
  have g2 := getD_of e2
  simp only [insV] at e2 g2
  have e : (ops3[3]?).get (by kernel_rfl) = o := by simp [ho]
  conv at e => lhs; whnf
  subst e
  unfold Oper.wp
  go_simp
  exact ⟨_, rfl, (Below.refl _ _).alloc (Nat.le_refl _) _, rde_oneC (t := 25) (at_newC rfl) ⟨_, _, rfl, Rd.below ha2 ((Below.refl _ _).alloc (Nat.le_refl _) _), Rd.below hl2 ((Below.refl _ _).alloc (Nat.le_refl _) _)⟩ rfl⟩

set_option maxHeartbeats 2000000 in
theorem step3_4 {o : Oper} (ho : ops3[4]? = some o) (H : Grown ops3 V3 a0 w0 listed a w) (hdep : ∀ e ∈ o.after, Region.binds .any e = true → listed[e.on]? = some true) :
    o.wp Try.prog a w (fun a' w' => ∃ v, a' = a.put o.dst v ∧ Below w.heap.size w w' ∧ V3 4 w' v) Q := by
  obtain ⟨v0, e0, h0⟩ := H.val 0 14 (by kernel_rfl) (dep_of ho hdep (by kernel_rfl))
  obtain rfl : v0 = cloK := h0
  have g0 := getD_of e0
  unfold cloK at g0
  obtain ⟨v3, e3, h3⟩ := H.val 3 17 (by kernel_rfl) (dep_of ho hdep (by kernel_rfl))
  have g3 := getD_of e3
  have e : (ops3[4]?).get (by kernel_rfl) = o := by simp [ho]
  conv at e => lhs; whnf
  subst e
  unfold Oper.wp
  go_simp
  refine (blockK_any (h3)).mono ?_
  rintro e w' ⟨u, rfl, hk, hb⟩
  exact ⟨u, rfl, hb, hk⟩

set_option maxHeartbeats 2000000 in
theorem step3_5 {o : Oper} (ho : ops3[5]? = some o) (H : Grown ops3 V3 a0 w0 listed a w) (hdep : ∀ e ∈ o.after, Region.binds .any e = true → listed[e.on]? = some true) :
    o.wp Try.prog a w (fun a' w' => ∃ v, a' = a.put o.dst v ∧ Below w.heap.size w w' ∧ V3 5 w' v) Q := by
  obtain ⟨_, e4, _, rfl, vc4, rfl, h4⟩ := H.val 4 18 (by kernel_rfl) (dep_of ho hdep (by kernel_rfl))
  obtain ⟨a4, c4, rfl⟩ := h4.form
  have g4 := getD_of e4
  have e : (ops3[5]?).get (by kernel_rfl) = o := by simp [ho]
  conv at e => lhs; whnf
  subst e
  unfold Oper.wp
  go_simp
  exact ⟨_, rfl, (Below.refl _ _).alloc (Nat.le_refl _) _, rde_oneC (t := 44) (at_newC rfl) ⟨_, rfl, RdE.below (fun _ _ x => RdIns.below x ((Below.refl _ _).alloc (Nat.le_refl _) _)) h4 ((Below.refl _ _).alloc (Nat.le_refl _) _)⟩ rfl⟩

set_option maxHeartbeats 2000000 in
theorem step3_6 {o : Oper} (ho : ops3[6]? = some o) (H : Grown ops3 V3 a0 w0 listed a w) (hdep : ∀ e ∈ o.after, Region.binds .any e = true → listed[e.on]? = some true) :
    o.wp Try.prog a w (fun a' w' => ∃ v, a' = a.put o.dst v ∧ Below w.heap.size w w' ∧ V3 6 w' v) Q := by
  obtain ⟨v5, e5, h5⟩ := H.val 5 19 (by kernel_rfl) (dep_of ho hdep (by kernel_rfl))
  replace h5 : RdE 2 RdBlk w v5 _ := h5
  obtain ⟨a5, c5, rfl⟩ := h5.form
  have g5 := getD_of e5
  have e : (ops3[6]?).get (by kernel_rfl) = o := by simp [ho]
  conv at e => lhs; whnf
  subst e
  unfold Oper.wp
  go_simp
  exact ⟨_, rfl, Below.refl _ _, [.string ⟨#[]⟩, .slice none 0 0, .slice a5 _ c5], rfl, _, _, rfl, rd_none _, h5⟩

set_option maxHeartbeats 2000000 in
theorem step3_7 {o : Oper} (h2 : a0.tmps[2]? = some cloK) (ho : ops3[7]? = some o) (H : Grown ops3 V3 a0 w0 listed a w) (hdep : ∀ e ∈ o.after, Region.binds .any e = true → listed[e.on]? = some true) :
    o.wp Try.prog a w (fun a' w' => ∃ v, a' = a.put o.dst v ∧ Below w.heap.size w w' ∧ V3 7 w' v) Q := by
  have g := getD_of (H.old 2 (by kernel_rfl) h2)
  unfold cloK at g
  have e : (ops3[7]?).get (by kernel_rfl) = o := by simp [ho]
  conv at e => lhs; whnf
  subst e
  unfold Oper.wp
  go_simp
  exact ⟨_, rfl, Below.refl _ _, rfl⟩

set_option maxHeartbeats 2000000 in
theorem step3_8 {o : Oper} (ho : ops3[8]? = some o) (H : Grown ops3 V3 a0 w0 listed a w) (hdep : ∀ e ∈ o.after, Region.binds .any e = true → listed[e.on]? = some true) :
    o.wp Try.prog a w (fun a' w' => ∃ v, a' = a.put o.dst v ∧ Below w.heap.size w w' ∧ V3 8 w' v) Q := by
  obtain ⟨v7, e7, h7⟩ := H.val 7 21 (by kernel_rfl) (dep_of ho hdep (by kernel_rfl))
  obtain rfl : v7 = cloK := h7
  have g7 := getD_of e7
  unfold cloK at g7
  have e : (ops3[8]?).get (by kernel_rfl) = o := by simp [ho]
  conv at e => lhs; whnf
  subst e
  unfold Oper.wp
  go_simp
  refine (blockK_any (RdE.nil _)).mono ?_
  rintro e w' ⟨u, rfl, hk, hb⟩
  exact ⟨u, rfl, hb, hk⟩

set_option maxHeartbeats 2000000 in
theorem step3_9 {o : Oper} (ho : ops3[9]? = some o) (H : Grown ops3 V3 a0 w0 listed a w) (hdep : ∀ e ∈ o.after, Region.binds .any e = true → listed[e.on]? = some true) :
    o.wp Try.prog a w (fun a' w' => ∃ v, a' = a.put o.dst v ∧ Below w.heap.size w w' ∧ V3 9 w' v) Q := by
  obtain ⟨_, e8, _, rfl, vc8, rfl, h8⟩ := H.val 8 22 (by kernel_rfl) (dep_of ho hdep (by kernel_rfl))
  obtain ⟨a8, c8, rfl⟩ := h8.form
  have g8 := getD_of e8
  have e : (ops3[9]?).get (by kernel_rfl) = o := by simp [ho]
  conv at e => lhs; whnf
  subst e
  unfold Oper.wp
  go_simp
  exact ⟨_, rfl, (Below.refl _ _).alloc (Nat.le_refl _) _, rde_oneC (t := 44) (at_newC rfl) ⟨_, rfl, RdE.below (fun _ _ x => RdIns.below x ((Below.refl _ _).alloc (Nat.le_refl _) _)) h8 ((Below.refl _ _).alloc (Nat.le_refl _) _)⟩ rfl⟩

set_option maxHeartbeats 2000000 in
theorem step3_10 {o : Oper} (ho : ops3[10]? = some o) (H : Grown ops3 V3 a0 w0 listed a w) (hdep : ∀ e ∈ o.after, Region.binds .any e = true → listed[e.on]? = some true) :
    o.wp Try.prog a w (fun a' w' => ∃ v, a' = a.put o.dst v ∧ Below w.heap.size w w' ∧ V3 10 w' v) Q := by
  obtain ⟨v9, e9, h9⟩ := H.val 9 23 (by kernel_rfl) (dep_of ho hdep (by kernel_rfl))
  replace h9 : RdE 2 RdBlk w v9 _ := h9
  obtain ⟨a9, c9, rfl⟩ := h9.form
  have g9 := getD_of e9
  have e : (ops3[10]?).get (by kernel_rfl) = o := by simp [ho]
  conv at e => lhs; whnf
  subst e
  unfold Oper.wp
  go_simp
  exact ⟨_, rfl, Below.refl _ _, [.string ⟨#[]⟩, .slice none 0 0, .slice a9 _ c9], rfl, _, _, rfl, rd_none _, h9⟩

set_option maxHeartbeats 2000000 in
theorem step3_11 {o : Oper} (h2 : a0.tmps[2]? = some cloK) (ho : ops3[11]? = some o) (H : Grown ops3 V3 a0 w0 listed a w) (hdep : ∀ e ∈ o.after, Region.binds .any e = true → listed[e.on]? = some true) :
    o.wp Try.prog a w (fun a' w' => ∃ v, a' = a.put o.dst v ∧ Below w.heap.size w w' ∧ V3 11 w' v) Q := by
  have g := getD_of (H.old 2 (by kernel_rfl) h2)
  unfold cloK at g
  have e : (ops3[11]?).get (by kernel_rfl) = o := by simp [ho]
  conv at e => lhs; whnf
  subst e
  unfold Oper.wp
  go_simp
  exact ⟨_, rfl, Below.refl _ _, rfl⟩

set_option maxHeartbeats 2000000 in
theorem step3_12 {o : Oper} {R : Nat} (h1 : a0.tmps[1]? = some (.pointer (some ⟨R, 0, none⟩))) (hR : R < w0.heap.size) (hRb : w0.heap[R]? = some (.cells #[.int .u8 14, .string ⟨#[]⟩, .string ⟨#[]⟩, .string ⟨#[]⟩, .int .i64 0, .string ⟨#[]⟩, .slice none 0 0, .slice none 0 0] 25 (0, 0))) (ho : ops3[12]? = some o) (H : Grown ops3 V3 a0 w0 listed a w) (hdep : ∀ e ∈ o.after, Region.binds .any e = true → listed[e.on]? = some true) :
    o.wp Try.prog a w (fun a' w' => ∃ v, a' = a.put o.dst v ∧ Below w.heap.size w w' ∧ V3 12 w' v) Q := by
  have g := getD_of (H.old 1 (by kernel_rfl) h1)
  have e : (ops3[12]?).get (by kernel_rfl) = o := by simp [ho]
  conv at e => lhs; whnf
  subst e
  unfold Oper.wp
  obtain ⟨y0, y1, y2, y3, y4, y5, y6, y7⟩ := cells8 ((H.low.block R hR).trans hRb)
  go_simp
  exact ⟨_, rfl, Below.refl _ _, [.int .u8 14, .string ⟨#[]⟩, .string ⟨#[]⟩, .string ⟨#[]⟩, .int .i64 0, .string ⟨#[]⟩, .slice none 0 0, .slice none 0 0], rfl, _, _, rfl, rd_none _, rd_none _⟩

set_option maxHeartbeats 2000000 in
theorem step3_13 {o : Oper} (ho : ops3[13]? = some o) (H : Grown ops3 V3 a0 w0 listed a w) (hdep : ∀ e ∈ o.after, Region.binds .any e = true → listed[e.on]? = some true) :
    o.wp Try.prog a w (fun a' w' => ∃ v, a' = a.put o.dst v ∧ Below w.heap.size w w' ∧ V3 13 w' v) Q := by
  obtain ⟨_, e12, _, rfl, va12, vl12, rfl, ha12, hl12⟩ := H.val 12 26 (by kernel_rfl) (dep_of ho hdep (by kernel_rfl))
  obtain ⟨a12, c12, rfl⟩ := ha12.form
  obtain ⟨b12, d12, rfl⟩ := hl12.form
  have g12 := getD_of e12
  simp only [insV] at e12 g12
  have e : (ops3[13]?).get (by kernel_rfl) = o := by simp [ho]
  conv at e => lhs; whnf
  subst e
  unfold Oper.wp
  go_simp
  exact ⟨_, rfl, (Below.refl _ _).alloc (Nat.le_refl _) _, rde_oneC (t := 25) (at_newC rfl) ⟨_, _, rfl, Rd.below ha12 ((Below.refl _ _).alloc (Nat.le_refl _) _), Rd.below hl12 ((Below.refl _ _).alloc (Nat.le_refl _) _)⟩ rfl⟩

set_option maxHeartbeats 2000000 in
theorem step3_14 {o : Oper} (ho : ops3[14]? = some o) (H : Grown ops3 V3 a0 w0 listed a w) (hdep : ∀ e ∈ o.after, Region.binds .any e = true → listed[e.on]? = some true) :
    o.wp Try.prog a w (fun a' w' => ∃ v, a' = a.put o.dst v ∧ Below w.heap.size w w' ∧ V3 14 w' v) Q := by
  obtain ⟨v11, e11, h11⟩ := H.val 11 25 (by kernel_rfl) (dep_of ho hdep (by kernel_rfl))
  obtain rfl : v11 = cloK := h11
  have g11 := getD_of e11
  unfold cloK at g11
  obtain ⟨v13, e13, h13⟩ := H.val 13 27 (by kernel_rfl) (dep_of ho hdep (by kernel_rfl))
  have g13 := getD_of e13
  have e : (ops3[14]?).get (by kernel_rfl) = o := by simp [ho]
  conv at e => lhs; whnf
  subst e
  unfold Oper.wp
  go_simp
  refine (blockK_any (h13)).mono ?_
  rintro e w' ⟨u, rfl, hk, hb⟩
  exact ⟨u, rfl, hb, hk⟩

set_option maxHeartbeats 2000000 in
theorem step3_15 {o : Oper} (h2 : a0.tmps[2]? = some cloK) (ho : ops3[15]? = some o) (H : Grown ops3 V3 a0 w0 listed a w) (hdep : ∀ e ∈ o.after, Region.binds .any e = true → listed[e.on]? = some true) :
    o.wp Try.prog a w (fun a' w' => ∃ v, a' = a.put o.dst v ∧ Below w.heap.size w w' ∧ V3 15 w' v) Q := by
  have g := getD_of (H.old 2 (by kernel_rfl) h2)
  unfold cloK at g
  have e : (ops3[15]?).get (by kernel_rfl) = o := by simp [ho]
  conv at e => lhs; whnf
  subst e
  unfold Oper.wp
  go_simp
  exact ⟨_, rfl, Below.refl _ _, rfl⟩

set_option maxHeartbeats 2000000 in
theorem step3_16 {o : Oper} (ho : ops3[16]? = some o) (H : Grown ops3 V3 a0 w0 listed a w) (hdep : ∀ e ∈ o.after, Region.binds .any e = true → listed[e.on]? = some true) :
    o.wp Try.prog a w (fun a' w' => ∃ v, a' = a.put o.dst v ∧ Below w.heap.size w w' ∧ V3 16 w' v) Q := by
  have e : (ops3[16]?).get (by kernel_rfl) = o := by simp [ho]
  conv at e => lhs; whnf
  subst e
  unfold Oper.wp
  go_simp
  exact ⟨_, rfl, Below.refl _ _, [.int .u8 3, .string ⟨#[]⟩, .string ⟨#[]⟩, .string ⟨#[]⟩, .int .i64 0, .string ⟨#[]⟩, .slice none 0 0, .slice none 0 0], rfl, _, _, rfl, rd_none _, rd_none _⟩

set_option maxHeartbeats 2000000 in
theorem step3_17 {o : Oper} (ho : ops3[17]? = some o) (H : Grown ops3 V3 a0 w0 listed a w) (hdep : ∀ e ∈ o.after, Region.binds .any e = true → listed[e.on]? = some true) :
    o.wp Try.prog a w (fun a' w' => ∃ v, a' = a.put o.dst v ∧ Below w.heap.size w w' ∧ V3 17 w' v) Q := by
  obtain ⟨_, e16, _, rfl, va16, vl16, rfl, ha16, hl16⟩ := H.val 16 30 (by kernel_rfl) (dep_of ho hdep (by kernel_rfl))
  obtain ⟨a16, c16, rfl⟩ := ha16.form
  obtain ⟨b16, d16, rfl⟩ := hl16.form
  have g16 := getD_of e16
  simp only [insV] at e16 g16
  have e : (ops3[17]?).get (by kernel_rfl) = o := by simp [ho]
  conv at e => lhs; whnf
  subst e
  unfold Oper.wp
  go_simp
  exact ⟨_, rfl, (Below.refl _ _).alloc (Nat.le_refl _) _, rde_oneC (t := 25) (at_newC rfl) ⟨_, _, rfl, Rd.below ha16 ((Below.refl _ _).alloc (Nat.le_refl _) _), Rd.below hl16 ((Below.refl _ _).alloc (Nat.le_refl _) _)⟩ rfl⟩

set_option maxHeartbeats 2000000 in
theorem step3_18 {o : Oper} (ho : ops3[18]? = some o) (H : Grown ops3 V3 a0 w0 listed a w) (hdep : ∀ e ∈ o.after, Region.binds .any e = true → listed[e.on]? = some true) :
    o.wp Try.prog a w (fun a' w' => ∃ v, a' = a.put o.dst v ∧ Below w.heap.size w w' ∧ V3 18 w' v) Q := by
  obtain ⟨v15, e15, h15⟩ := H.val 15 29 (by kernel_rfl) (dep_of ho hdep (by kernel_rfl))
  obtain rfl : v15 = cloK := h15
  have g15 := getD_of e15
  unfold cloK at g15
  obtain ⟨v17, e17, h17⟩ := H.val 17 31 (by kernel_rfl) (dep_of ho hdep (by kernel_rfl))
  have g17 := getD_of e17
  have e : (ops3[18]?).get (by kernel_rfl) = o := by simp [ho]
  conv at e => lhs; whnf
  subst e
  unfold Oper.wp
  go_simp
  refine (blockK_any (h17)).mono ?_
  rintro e w' ⟨u, rfl, hk, hb⟩
  exact ⟨u, rfl, hb, hk⟩

set_option maxHeartbeats 2000000 in
theorem step3_19 {o : Oper} (ho : ops3[19]? = some o) (H : Grown ops3 V3 a0 w0 listed a w) (hdep : ∀ e ∈ o.after, Region.binds .any e = true → listed[e.on]? = some true) :
    o.wp Try.prog a w (fun a' w' => ∃ v, a' = a.put o.dst v ∧ Below w.heap.size w w' ∧ V3 19 w' v) Q := by
  obtain ⟨_, e14, _, rfl, vc14, rfl, h14⟩ := H.val 14 28 (by kernel_rfl) (dep_of ho hdep (by kernel_rfl))
  obtain ⟨a14, c14, rfl⟩ := h14.form
  have g14 := getD_of e14
  obtain ⟨_, e18, _, rfl, vc18, rfl, h18⟩ := H.val 18 32 (by kernel_rfl) (dep_of ho hdep (by kernel_rfl))
  obtain ⟨a18, c18, rfl⟩ := h18.form
  have g18 := getD_of e18
  have e : (ops3[19]?).get (by kernel_rfl) = o := by simp [ho]
  conv at e => lhs; whnf
  subst e
  unfold Oper.wp
  go_simp
  exact ⟨_, rfl, (Below.refl _ _).alloc (Nat.le_refl _) _, rde_twoC (t := 44) (cs := [.string bA, .slice a14 _ c14]) (ct := [.string bB, .slice a18 _ c18]) (at_newC rfl) ⟨_, rfl, RdE.below (fun _ _ x => RdIns.below x ((Below.refl _ _).alloc (Nat.le_refl _) _)) h14 ((Below.refl _ _).alloc (Nat.le_refl _) _)⟩ ⟨_, rfl, RdE.below (fun _ _ x => RdIns.below x ((Below.refl _ _).alloc (Nat.le_refl _) _)) h18 ((Below.refl _ _).alloc (Nat.le_refl _) _)⟩ rfl rfl⟩

set_option maxHeartbeats 2000000 in
theorem step3_20 {o : Oper} (ho : ops3[20]? = some o) (H : Grown ops3 V3 a0 w0 listed a w) (hdep : ∀ e ∈ o.after, Region.binds .any e = true → listed[e.on]? = some true) :
    o.wp Try.prog a w (fun a' w' => ∃ v, a' = a.put o.dst v ∧ Below w.heap.size w w' ∧ V3 20 w' v) Q := by
  obtain ⟨v19, e19, h19⟩ := H.val 19 33 (by kernel_rfl) (dep_of ho hdep (by kernel_rfl))
  replace h19 : RdE 2 RdBlk w v19 _ := h19
  obtain ⟨a19, c19, rfl⟩ := h19.form
  have g19 := getD_of e19
  have e : (ops3[20]?).get (by kernel_rfl) = o := by simp [ho]
  conv at e => lhs; whnf
  subst e
  unfold Oper.wp
  go_simp
  exact ⟨_, rfl, Below.refl _ _, [.string ⟨#[]⟩, .slice none 0 0, .slice a19 _ c19], rfl, _, _, rfl, rd_none _, h19⟩

set_option maxHeartbeats 2000000 in
theorem step3_21 {o : Oper} (h2 : a0.tmps[2]? = some cloK) (ho : ops3[21]? = some o) (H : Grown ops3 V3 a0 w0 listed a w) (hdep : ∀ e ∈ o.after, Region.binds .any e = true → listed[e.on]? = some true) :
    o.wp Try.prog a w (fun a' w' => ∃ v, a' = a.put o.dst v ∧ Below w.heap.size w w' ∧ V3 21 w' v) Q := by
  have g := getD_of (H.old 2 (by kernel_rfl) h2)
  unfold cloK at g
  have e : (ops3[21]?).get (by kernel_rfl) = o := by simp [ho]
  conv at e => lhs; whnf
  subst e
  unfold Oper.wp
  go_simp
  exact ⟨_, rfl, Below.refl _ _, rfl⟩

set_option maxHeartbeats 2000000 in
theorem step3_22 {o : Oper} {R : Nat} (h1 : a0.tmps[1]? = some (.pointer (some ⟨R, 0, none⟩))) (hR : R < w0.heap.size) (hRb : w0.heap[R]? = some (.cells #[.int .u8 14, .string ⟨#[]⟩, .string ⟨#[]⟩, .string ⟨#[]⟩, .int .i64 0, .string ⟨#[]⟩, .slice none 0 0, .slice none 0 0] 25 (0, 0))) (ho : ops3[22]? = some o) (H : Grown ops3 V3 a0 w0 listed a w) (hdep : ∀ e ∈ o.after, Region.binds .any e = true → listed[e.on]? = some true) :
    o.wp Try.prog a w (fun a' w' => ∃ v, a' = a.put o.dst v ∧ Below w.heap.size w w' ∧ V3 22 w' v) Q := by
  have g := getD_of (H.old 1 (by kernel_rfl) h1)
  have e : (ops3[22]?).get (by kernel_rfl) = o := by simp [ho]
  conv at e => lhs; whnf
  subst e
  unfold Oper.wp
  obtain ⟨y0, y1, y2, y3, y4, y5, y6, y7⟩ := cells8 ((H.low.block R hR).trans hRb)
  go_simp
  exact ⟨_, rfl, Below.refl _ _, [.int .u8 14, .string ⟨#[]⟩, .string ⟨#[]⟩, .string ⟨#[]⟩, .int .i64 0, .string ⟨#[]⟩, .slice none 0 0, .slice none 0 0], rfl, _, _, rfl, rd_none _, rd_none _⟩

set_option maxHeartbeats 2000000 in
theorem step3_23 {o : Oper} (ho : ops3[23]? = some o) (H : Grown ops3 V3 a0 w0 listed a w) (hdep : ∀ e ∈ o.after, Region.binds .any e = true → listed[e.on]? = some true) :
    o.wp Try.prog a w (fun a' w' => ∃ v, a' = a.put o.dst v ∧ Below w.heap.size w w' ∧ V3 23 w' v) Q := by
  have e : (ops3[23]?).get (by kernel_rfl) = o := by simp [ho]
  conv at e => lhs; whnf
  subst e
  unfold Oper.wp
  go_simp
  exact ⟨_, rfl, Below.refl _ _, [.int .u8 0, .string ⟨#[]⟩, .string ⟨#[]⟩, .string ⟨#[]⟩, .int .i64 0, .string ⟨#[]⟩, .slice none 0 0, .slice none 0 0], rfl, _, _, rfl, rd_none _, rd_none _⟩

set_option maxHeartbeats 2000000 in
theorem step3_24 {o : Oper} (ho : ops3[24]? = some o) (H : Grown ops3 V3 a0 w0 listed a w) (hdep : ∀ e ∈ o.after, Region.binds .any e = true → listed[e.on]? = some true) :
    o.wp Try.prog a w (fun a' w' => ∃ v, a' = a.put o.dst v ∧ Below w.heap.size w w' ∧ V3 24 w' v) Q := by
  obtain ⟨_, e22, _, rfl, va22, vl22, rfl, ha22, hl22⟩ := H.val 22 36 (by kernel_rfl) (dep_of ho hdep (by kernel_rfl))
  obtain ⟨a22, c22, rfl⟩ := ha22.form
  obtain ⟨b22, d22, rfl⟩ := hl22.form
  have g22 := getD_of e22
  simp only [insV] at e22 g22
  obtain ⟨_, e23, _, rfl, va23, vl23, rfl, ha23, hl23⟩ := H.val 23 37 (by kernel_rfl) (dep_of ho hdep (by kernel_rfl))
  obtain ⟨a23, c23, rfl⟩ := ha23.form
  obtain ⟨b23, d23, rfl⟩ := hl23.form
  have g23 := getD_of e23
  simp only [insV] at e23 g23
  have e : (ops3[24]?).get (by kernel_rfl) = o := by simp [ho]
  conv at e => lhs; whnf
  subst e
  unfold Oper.wp
  go_simp
  exact ⟨_, rfl, (Below.refl _ _).alloc (Nat.le_refl _) _, rde_twoC (t := 25) (cs := [_, _, _, _, _, _, _, _]) (ct := [_, _, _, _, _, _, _, _]) (at_newC rfl) ⟨_, _, rfl, Rd.below ha22 ((Below.refl _ _).alloc (Nat.le_refl _) _), Rd.below hl22 ((Below.refl _ _).alloc (Nat.le_refl _) _)⟩ ⟨_, _, rfl, Rd.below ha23 ((Below.refl _ _).alloc (Nat.le_refl _) _), Rd.below hl23 ((Below.refl _ _).alloc (Nat.le_refl _) _)⟩ rfl rfl⟩

set_option maxHeartbeats 2000000 in
theorem step3_25 {o : Oper} (ho : ops3[25]? = some o) (H : Grown ops3 V3 a0 w0 listed a w) (hdep : ∀ e ∈ o.after, Region.binds .any e = true → listed[e.on]? = some true) :
    o.wp Try.prog a w (fun a' w' => ∃ v, a' = a.put o.dst v ∧ Below w.heap.size w w' ∧ V3 25 w' v) Q := by
  obtain ⟨v21, e21, h21⟩ := H.val 21 35 (by kernel_rfl) (dep_of ho hdep (by kernel_rfl))
  obtain rfl : v21 = cloK := h21
  have g21 := getD_of e21
  unfold cloK at g21
  obtain ⟨v24, e24, h24⟩ := H.val 24 38 (by kernel_rfl) (dep_of ho hdep (by kernel_rfl))
  have g24 := getD_of e24
  have e : (ops3[25]?).get (by kernel_rfl) = o := by simp [ho]
  conv at e => lhs; whnf
  subst e
  unfold Oper.wp
  go_simp
  refine (blockK_any (h24)).mono ?_
  rintro e w' ⟨u, rfl, hk, hb⟩
  exact ⟨u, rfl, hb, hk⟩

set_option maxHeartbeats 2000000 in
theorem step3_26 {o : Oper} (ho : ops3[26]? = some o) (H : Grown ops3 V3 a0 w0 listed a w) (hdep : ∀ e ∈ o.after, Region.binds .any e = true → listed[e.on]? = some true) :
    o.wp Try.prog a w (fun a' w' => ∃ v, a' = a.put o.dst v ∧ Below w.heap.size w w' ∧ V3 26 w' v) Q := by
  obtain ⟨_, e25, _, rfl, vc25, rfl, h25⟩ := H.val 25 39 (by kernel_rfl) (dep_of ho hdep (by kernel_rfl))
  obtain ⟨a25, c25, rfl⟩ := h25.form
  have g25 := getD_of e25
  have e : (ops3[26]?).get (by kernel_rfl) = o := by simp [ho]
  conv at e => lhs; whnf
  subst e
  unfold Oper.wp
  go_simp
  exact ⟨_, rfl, (Below.refl _ _).alloc (Nat.le_refl _) _, rde_oneC (t := 44) (at_newC rfl) ⟨_, rfl, RdE.below (fun _ _ x => RdIns.below x ((Below.refl _ _).alloc (Nat.le_refl _) _)) h25 ((Below.refl _ _).alloc (Nat.le_refl _) _)⟩ rfl⟩

set_option maxHeartbeats 2000000 in
theorem step3_27 {o : Oper} (ho : ops3[27]? = some o) (H : Grown ops3 V3 a0 w0 listed a w) (hdep : ∀ e ∈ o.after, Region.binds .any e = true → listed[e.on]? = some true) :
    o.wp Try.prog a w (fun a' w' => ∃ v, a' = a.put o.dst v ∧ Below w.heap.size w w' ∧ V3 27 w' v) Q := by
  obtain ⟨v26, e26, h26⟩ := H.val 26 40 (by kernel_rfl) (dep_of ho hdep (by kernel_rfl))
  replace h26 : RdE 2 RdBlk w v26 _ := h26
  obtain ⟨a26, c26, rfl⟩ := h26.form
  have g26 := getD_of e26
  have e : (ops3[27]?).get (by kernel_rfl) = o := by simp [ho]
  conv at e => lhs; whnf
  subst e
  unfold Oper.wp
  go_simp
  exact ⟨_, rfl, Below.refl _ _, [.string ⟨#[]⟩, .slice none 0 0, .slice a26 _ c26], rfl, _, _, rfl, rd_none _, h26⟩

set_option maxHeartbeats 2000000 in
theorem step3_28 {o : Oper} (ho : ops3[28]? = some o) (H : Grown ops3 V3 a0 w0 listed a w) (hdep : ∀ e ∈ o.after, Region.binds .any e = true → listed[e.on]? = some true) :
    o.wp Try.prog a w (fun a' w' => ∃ v, a' = a.put o.dst v ∧ Below w.heap.size w w' ∧ V3 28 w' v) Q := by
  obtain ⟨_, e6, cs6, rfl, h6⟩ := H.val 6 20 (by kernel_rfl) (dep_of ho hdep (by kernel_rfl))
  have g6 := getD_of e6
  obtain ⟨vp6, vb6, rfl, hp6, hb6⟩ := h6
  obtain ⟨a6, c6, rfl⟩ := hp6.form
  obtain ⟨b6, d6, rfl⟩ := hb6.form
  obtain ⟨_, e10, cs10, rfl, h10⟩ := H.val 10 24 (by kernel_rfl) (dep_of ho hdep (by kernel_rfl))
  have g10 := getD_of e10
  obtain ⟨vp10, vb10, rfl, hp10, hb10⟩ := h10
  obtain ⟨a10, c10, rfl⟩ := hp10.form
  obtain ⟨b10, d10, rfl⟩ := hb10.form
  obtain ⟨_, e20, cs20, rfl, h20⟩ := H.val 20 34 (by kernel_rfl) (dep_of ho hdep (by kernel_rfl))
  have g20 := getD_of e20
  obtain ⟨vp20, vb20, rfl, hp20, hb20⟩ := h20
  obtain ⟨a20, c20, rfl⟩ := hp20.form
  obtain ⟨b20, d20, rfl⟩ := hb20.form
  obtain ⟨_, e27, cs27, rfl, h27⟩ := H.val 27 41 (by kernel_rfl) (dep_of ho hdep (by kernel_rfl))
  have g27 := getD_of e27
  obtain ⟨vp27, vb27, rfl, hp27, hb27⟩ := h27
  obtain ⟨a27, c27, rfl⟩ := hp27.form
  obtain ⟨b27, d27, rfl⟩ := hb27.form
  have e : (ops3[28]?).get (by kernel_rfl) = o := by simp [ho]
  conv at e => lhs; whnf
  subst e
  unfold Oper.wp
  go_simp
  exact ⟨_, rfl, (Below.refl _ _).alloc (Nat.le_refl _) _, rde_fourC (t := 32) (at_newC rfl) ⟨_, _, rfl, Rd.below hp6 ((Below.refl _ _).alloc (Nat.le_refl _) _), RdE.below (fun _ _ x => RdBlk.below x ((Below.refl _ _).alloc (Nat.le_refl _) _)) hb6 ((Below.refl _ _).alloc (Nat.le_refl _) _)⟩ ⟨_, _, rfl, Rd.below hp10 ((Below.refl _ _).alloc (Nat.le_refl _) _), RdE.below (fun _ _ x => RdBlk.below x ((Below.refl _ _).alloc (Nat.le_refl _) _)) hb10 ((Below.refl _ _).alloc (Nat.le_refl _) _)⟩ ⟨_, _, rfl, Rd.below hp20 ((Below.refl _ _).alloc (Nat.le_refl _) _), RdE.below (fun _ _ x => RdBlk.below x ((Below.refl _ _).alloc (Nat.le_refl _) _)) hb20 ((Below.refl _ _).alloc (Nat.le_refl _) _)⟩ ⟨_, _, rfl, Rd.below hp27 ((Below.refl _ _).alloc (Nat.le_refl _) _), RdE.below (fun _ _ x => RdBlk.below x ((Below.refl _ _).alloc (Nat.le_refl _) _)) hb27 ((Below.refl _ _).alloc (Nat.le_refl _) _)⟩ rfl rfl rfl rfl⟩

set_option maxHeartbeats 2000000 in
theorem step3_29 {o : Oper} (ho : ops3[29]? = some o) (H : Grown ops3 V3 a0 w0 listed a w) (hdep : ∀ e ∈ o.after, Region.binds .any e = true → listed[e.on]? = some true) :
    o.wp Try.prog a w (fun a' w' => ∃ v, a' = a.put o.dst v ∧ Below w.heap.size w w' ∧ V3 29 w' v) Q := by
  obtain ⟨v28, e28, h28⟩ := H.val 28 42 (by kernel_rfl) (dep_of ho hdep (by kernel_rfl))
  have g28 := getD_of e28
  have e : (ops3[29]?).get (by kernel_rfl) = o := by simp [ho]
  conv at e => lhs; whnf
  subst e
  unfold Oper.wp
  go_simp
  exact ⟨_, rfl, Below.refl _ _, h28⟩
end
end Go.Proofs.Ytedleliddhhacaa
