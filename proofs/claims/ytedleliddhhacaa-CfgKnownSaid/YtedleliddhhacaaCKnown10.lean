/- CfgKnown: a region that draws, one operation after the other. -/
import Derived.Test.YtedleliddhhacaaCKnown
namespace Go.Proofs.Ytedleliddhhacaa
open Go.RowKit Go.Maps

section
variable {a0 : Act} {w0 : World} {listed : Array Bool} {a : Act} {w : World} {Q : Exit → Act → World → Prop}
set_option maxHeartbeats 2000000 in
theorem step10_0 {o : Oper} (h2 : a0.tmps[2]? = some cloK) (ho : ops10[0]? = some o) (H : Grown ops10 (V10 w0.heap.size) a0 w0 listed a w) (hdep : ∀ e ∈ o.after, Region.binds .any e = true → listed[e.on]? = some true) :
    o.wp Try.prog a w (fun a' w' => ∃ v, a' = a.put o.dst v ∧ Below w.heap.size w w' ∧ (V10 w0.heap.size) 0 w' v) Q := by
  have g := getD_of (H.old 2 (by kernel_rfl) h2)
  unfold cloK at g
  have e : (ops10[0]?).get (by kernel_rfl) = o := by simp [ho]
  conv at e => lhs; whnf
  subst e
  unfold Oper.wp
  go_simp
  exact ⟨_, rfl, Below.refl _ _, rfl⟩

set_option maxHeartbeats 2000000 in
theorem step10_1 {o : Oper} (ho : ops10[1]? = some o) (H : Grown ops10 (V10 w0.heap.size) a0 w0 listed a w) (hdep : ∀ e ∈ o.after, Region.binds .any e = true → listed[e.on]? = some true) :
    o.wp Try.prog a w (fun a' w' => ∃ v, a' = a.put o.dst v ∧ Below w.heap.size w w' ∧ (V10 w0.heap.size) 1 w' v) Q := by
  have e : (ops10[1]?).get (by kernel_rfl) = o := by simp [ho]
  conv at e => lhs; whnf
  subst e
  unfold Oper.wp
  go_simp
  exact ⟨_, rfl, (Below.refl _ _).alloc (Nat.le_refl _) _, rd_ofC (f := Value.string) (l := [bC, bB]) (t := 9) rfl (at_newC rfl)⟩

set_option maxHeartbeats 2000000 in
theorem step10_2 {o : Oper} (ho : ops10[2]? = some o) (H : Grown ops10 (V10 w0.heap.size) a0 w0 listed a w) (hdep : ∀ e ∈ o.after, Region.binds .any e = true → listed[e.on]? = some true) :
    o.wp Try.prog a w (fun a' w' => ∃ v, a' = a.put o.dst v ∧ Below w.heap.size w w' ∧ (V10 w0.heap.size) 2 w' v) Q := by
  obtain ⟨v1, e1, h1⟩ := H.val 1 80 (by kernel_rfl) (dep_of ho hdep (by kernel_rfl))
  replace h1 : RdS w v1 [bC, bB] := h1
  obtain ⟨a1, c1, rfl⟩ := h1.form
  have g1 := getD_of e1
  have e : (ops10[2]?).get (by kernel_rfl) = o := by simp [ho]
  conv at e => lhs; whnf
  subst e
  unfold Oper.wp
  go_simp
  exact ⟨_, rfl, Below.refl _ _, [.int .u8 12, .string ⟨#[]⟩, .string ⟨#[]⟩, .string ⟨#[]⟩, .int .i64 0, .string ⟨#[]⟩, .slice none 0 0, .slice a1 2 c1], rfl, _, _, rfl, rd_none _, h1⟩

set_option maxHeartbeats 2000000 in
theorem step10_3 {o : Oper} (ho : ops10[3]? = some o) (H : Grown ops10 (V10 w0.heap.size) a0 w0 listed a w) (hdep : ∀ e ∈ o.after, Region.binds .any e = true → listed[e.on]? = some true) :
    o.wp Try.prog a w (fun a' w' => ∃ v, a' = a.put o.dst v ∧ Below w.heap.size w w' ∧ (V10 w0.heap.size) 3 w' v) Q := by
  obtain ⟨_, e2, _, rfl, va2, vl2, rfl, ha2, hl2⟩ := H.val 2 81 (by kernel_rfl) (dep_of ho hdep (by kernel_rfl))
  obtain ⟨a2, c2, rfl⟩ := ha2.form
  obtain ⟨b2, d2, rfl⟩ := hl2.form
  have g2 := getD_of e2
  simp only [insV] at e2 g2
  have e : (ops10[3]?).get (by kernel_rfl) = o := by simp [ho]
  conv at e => lhs; whnf
  subst e
  unfold Oper.wp
  go_simp
  exact ⟨_, rfl, (Below.refl _ _).alloc (Nat.le_refl _) _, rde_oneC (t := 25) (at_newC rfl) ⟨_, _, rfl, Rd.below ha2 ((Below.refl _ _).alloc (Nat.le_refl _) _), Rd.below hl2 ((Below.refl _ _).alloc (Nat.le_refl _) _)⟩ rfl⟩

set_option maxHeartbeats 2000000 in
theorem step10_4 {o : Oper} (ho : ops10[4]? = some o) (H : Grown ops10 (V10 w0.heap.size) a0 w0 listed a w) (hdep : ∀ e ∈ o.after, Region.binds .any e = true → listed[e.on]? = some true) :
    o.wp Try.prog a w (fun a' w' => ∃ v, a' = a.put o.dst v ∧ Below w.heap.size w w' ∧ (V10 w0.heap.size) 4 w' v) Q := by
  obtain ⟨v0, e0, h0⟩ := H.val 0 79 (by kernel_rfl) (dep_of ho hdep (by kernel_rfl))
  obtain rfl : v0 = cloK := h0
  have g0 := getD_of e0
  unfold cloK at g0
  obtain ⟨v3, e3, h3⟩ := H.val 3 82 (by kernel_rfl) (dep_of ho hdep (by kernel_rfl))
  have g3 := getD_of e3
  have e : (ops10[4]?).get (by kernel_rfl) = o := by simp [ho]
  conv at e => lhs; whnf
  subst e
  unfold Oper.wp
  go_simp
  refine (blockK_any (h3)).mono ?_
  rintro e w' ⟨u, rfl, hk, hb⟩
  exact ⟨u, rfl, hb, hk⟩

set_option maxHeartbeats 2000000 in
theorem step10_5 {o : Oper} (h2 : a0.tmps[2]? = some cloK) (ho : ops10[5]? = some o) (H : Grown ops10 (V10 w0.heap.size) a0 w0 listed a w) (hdep : ∀ e ∈ o.after, Region.binds .any e = true → listed[e.on]? = some true) :
    o.wp Try.prog a w (fun a' w' => ∃ v, a' = a.put o.dst v ∧ Below w.heap.size w w' ∧ (V10 w0.heap.size) 5 w' v) Q := by
  have g := getD_of (H.old 2 (by kernel_rfl) h2)
  unfold cloK at g
  have e : (ops10[5]?).get (by kernel_rfl) = o := by simp [ho]
  conv at e => lhs; whnf
  subst e
  unfold Oper.wp
  go_simp
  exact ⟨_, rfl, Below.refl _ _, rfl⟩

set_option maxHeartbeats 2000000 in
theorem step10_6 {o : Oper} (ho : ops10[6]? = some o) (H : Grown ops10 (V10 w0.heap.size) a0 w0 listed a w) (hdep : ∀ e ∈ o.after, Region.binds .any e = true → listed[e.on]? = some true) :
    o.wp Try.prog a w (fun a' w' => ∃ v, a' = a.put o.dst v ∧ Below w.heap.size w w' ∧ (V10 w0.heap.size) 6 w' v) Q := by
  have e : (ops10[6]?).get (by kernel_rfl) = o := by simp [ho]
  conv at e => lhs; whnf
  subst e
  unfold Oper.wp
  go_simp
  exact ⟨_, rfl, (Below.refl _ _).alloc (Nat.le_refl _) _, rd_ofC (f := Value.string) (l := [bC]) (t := 9) rfl (at_newC rfl)⟩

set_option maxHeartbeats 2000000 in
theorem step10_7 {o : Oper} (ho : ops10[7]? = some o) (H : Grown ops10 (V10 w0.heap.size) a0 w0 listed a w) (hdep : ∀ e ∈ o.after, Region.binds .any e = true → listed[e.on]? = some true) :
    o.wp Try.prog a w (fun a' w' => ∃ v, a' = a.put o.dst v ∧ Below w.heap.size w w' ∧ (V10 w0.heap.size) 7 w' v) Q := by
  obtain ⟨v6, e6, h6⟩ := H.val 6 85 (by kernel_rfl) (dep_of ho hdep (by kernel_rfl))
  replace h6 : RdS w v6 [bC] := h6
  obtain ⟨a6, c6, rfl⟩ := h6.form
  have g6 := getD_of e6
  have e : (ops10[7]?).get (by kernel_rfl) = o := by simp [ho]
  conv at e => lhs; whnf
  subst e
  unfold Oper.wp
  go_simp
  exact ⟨_, rfl, Below.refl _ _, [.int .u8 13, .string ⟨#[]⟩, .string ⟨#[]⟩, .string ⟨#[]⟩, .int .i64 0, .string ⟨#[]⟩, .slice none 0 0, .slice a6 1 c6], rfl, _, _, rfl, rd_none _, h6⟩

set_option maxHeartbeats 2000000 in
theorem step10_8 {o : Oper} (ho : ops10[8]? = some o) (H : Grown ops10 (V10 w0.heap.size) a0 w0 listed a w) (hdep : ∀ e ∈ o.after, Region.binds .any e = true → listed[e.on]? = some true) :
    o.wp Try.prog a w (fun a' w' => ∃ v, a' = a.put o.dst v ∧ Below w.heap.size w w' ∧ (V10 w0.heap.size) 8 w' v) Q := by
  obtain ⟨_, e7, _, rfl, va7, vl7, rfl, ha7, hl7⟩ := H.val 7 86 (by kernel_rfl) (dep_of ho hdep (by kernel_rfl))
  obtain ⟨a7, c7, rfl⟩ := ha7.form
  obtain ⟨b7, d7, rfl⟩ := hl7.form
  have g7 := getD_of e7
  simp only [insV] at e7 g7
  have e : (ops10[8]?).get (by kernel_rfl) = o := by simp [ho]
  conv at e => lhs; whnf
  subst e
  unfold Oper.wp
  go_simp
  exact ⟨_, rfl, (Below.refl _ _).alloc (Nat.le_refl _) _, rde_oneC (t := 25) (at_newC rfl) ⟨_, _, rfl, Rd.below ha7 ((Below.refl _ _).alloc (Nat.le_refl _) _), Rd.below hl7 ((Below.refl _ _).alloc (Nat.le_refl _) _)⟩ rfl⟩

set_option maxHeartbeats 2000000 in
theorem step10_9 {o : Oper} (ho : ops10[9]? = some o) (H : Grown ops10 (V10 w0.heap.size) a0 w0 listed a w) (hdep : ∀ e ∈ o.after, Region.binds .any e = true → listed[e.on]? = some true) :
    o.wp Try.prog a w (fun a' w' => ∃ v, a' = a.put o.dst v ∧ Below w.heap.size w w' ∧ (V10 w0.heap.size) 9 w' v) Q := by
  obtain ⟨v5, e5, h5⟩ := H.val 5 84 (by kernel_rfl) (dep_of ho hdep (by kernel_rfl))
  obtain rfl : v5 = cloK := h5
  have g5 := getD_of e5
  unfold cloK at g5
  obtain ⟨v8, e8, h8⟩ := H.val 8 87 (by kernel_rfl) (dep_of ho hdep (by kernel_rfl))
  have g8 := getD_of e8
  have e : (ops10[9]?).get (by kernel_rfl) = o := by simp [ho]
  conv at e => lhs; whnf
  subst e
  unfold Oper.wp
  go_simp
  refine (blockK_any (h8)).mono ?_
  rintro e w' ⟨u, rfl, hk, hb⟩
  exact ⟨u, rfl, hb, hk⟩

set_option maxHeartbeats 2000000 in
theorem step10_10 {o : Oper} (h2 : a0.tmps[2]? = some cloK) (ho : ops10[10]? = some o) (H : Grown ops10 (V10 w0.heap.size) a0 w0 listed a w) (hdep : ∀ e ∈ o.after, Region.binds .any e = true → listed[e.on]? = some true) :
    o.wp Try.prog a w (fun a' w' => ∃ v, a' = a.put o.dst v ∧ Below w.heap.size w w' ∧ (V10 w0.heap.size) 10 w' v) Q := by
  have g := getD_of (H.old 2 (by kernel_rfl) h2)
  unfold cloK at g
  have e : (ops10[10]?).get (by kernel_rfl) = o := by simp [ho]
  conv at e => lhs; whnf
  subst e
  unfold Oper.wp
  go_simp
  exact ⟨_, rfl, Below.refl _ _, rfl⟩

set_option maxHeartbeats 2000000 in
theorem step10_11 {o : Oper} (ho : ops10[11]? = some o) (H : Grown ops10 (V10 w0.heap.size) a0 w0 listed a w) (hdep : ∀ e ∈ o.after, Region.binds .any e = true → listed[e.on]? = some true) :
    o.wp Try.prog a w (fun a' w' => ∃ v, a' = a.put o.dst v ∧ Below w.heap.size w w' ∧ (V10 w0.heap.size) 11 w' v) Q := by
  have e : (ops10[11]?).get (by kernel_rfl) = o := by simp [ho]
  conv at e => lhs; whnf
  subst e
  unfold Oper.wp
  go_simp
  exact ⟨_, rfl, Below.refl _ _, [.int .u8 13, .string ⟨#[]⟩, .string ⟨#[]⟩, .string ⟨#[]⟩, .int .i64 0, .string ⟨#[]⟩, .slice none 0 0, .slice none 0 0], rfl, _, _, rfl, rd_none _, rd_none _⟩

set_option maxHeartbeats 2000000 in
theorem step10_12 {o : Oper} (ho : ops10[12]? = some o) (H : Grown ops10 (V10 w0.heap.size) a0 w0 listed a w) (hdep : ∀ e ∈ o.after, Region.binds .any e = true → listed[e.on]? = some true) :
    o.wp Try.prog a w (fun a' w' => ∃ v, a' = a.put o.dst v ∧ Below w.heap.size w w' ∧ (V10 w0.heap.size) 12 w' v) Q := by
  have e : (ops10[12]?).get (by kernel_rfl) = o := by simp [ho]
  conv at e => lhs; whnf
  subst e
  unfold Oper.wp
  go_simp
  exact ⟨_, rfl, (Below.refl _ _).alloc (Nat.le_refl _) _, rd_ofC (f := Value.string) (l := [bA]) (t := 9) rfl (at_newC rfl)⟩

set_option maxHeartbeats 2000000 in
theorem step10_13 {o : Oper} (ho : ops10[13]? = some o) (H : Grown ops10 (V10 w0.heap.size) a0 w0 listed a w) (hdep : ∀ e ∈ o.after, Region.binds .any e = true → listed[e.on]? = some true) :
    o.wp Try.prog a w (fun a' w' => ∃ v, a' = a.put o.dst v ∧ Below w.heap.size w w' ∧ (V10 w0.heap.size) 13 w' v) Q := by
  obtain ⟨v12, e12, h12⟩ := H.val 12 91 (by kernel_rfl) (dep_of ho hdep (by kernel_rfl))
  replace h12 : RdS w v12 [bA] := h12
  obtain ⟨a12, c12, rfl⟩ := h12.form
  have g12 := getD_of e12
  have e : (ops10[13]?).get (by kernel_rfl) = o := by simp [ho]
  conv at e => lhs; whnf
  subst e
  unfold Oper.wp
  go_simp
  exact ⟨_, rfl, Below.refl _ _, [.int .u8 14, .string ⟨#[]⟩, .string ⟨#[]⟩, .string ⟨#[]⟩, .int .i64 0, .string ⟨#[]⟩, .slice none 0 0, .slice a12 1 c12], rfl, _, _, rfl, rd_none _, h12⟩

set_option maxHeartbeats 2000000 in
theorem step10_14 {o : Oper} (ho : ops10[14]? = some o) (H : Grown ops10 (V10 w0.heap.size) a0 w0 listed a w) (hdep : ∀ e ∈ o.after, Region.binds .any e = true → listed[e.on]? = some true) :
    o.wp Try.prog a w (fun a' w' => ∃ v, a' = a.put o.dst v ∧ Below w.heap.size w w' ∧ (V10 w0.heap.size) 14 w' v) Q := by
  obtain ⟨_, e11, _, rfl, va11, vl11, rfl, ha11, hl11⟩ := H.val 11 90 (by kernel_rfl) (dep_of ho hdep (by kernel_rfl))
  obtain ⟨a11, c11, rfl⟩ := ha11.form
  obtain ⟨b11, d11, rfl⟩ := hl11.form
  have g11 := getD_of e11
  simp only [insV] at e11 g11
  obtain ⟨_, e13, _, rfl, va13, vl13, rfl, ha13, hl13⟩ := H.val 13 92 (by kernel_rfl) (dep_of ho hdep (by kernel_rfl))
  obtain ⟨a13, c13, rfl⟩ := ha13.form
  obtain ⟨b13, d13, rfl⟩ := hl13.form
  have g13 := getD_of e13
  simp only [insV] at e13 g13
  have e : (ops10[14]?).get (by kernel_rfl) = o := by simp [ho]
  conv at e => lhs; whnf
  subst e
  unfold Oper.wp
  go_simp
  exact ⟨_, rfl, (Below.refl _ _).alloc (Nat.le_refl _) _, rde_twoC (t := 25) (cs := [_, _, _, _, _, _, _, _]) (ct := [_, _, _, _, _, _, _, _]) (at_newC rfl) ⟨_, _, rfl, Rd.below ha11 ((Below.refl _ _).alloc (Nat.le_refl _) _), Rd.below hl11 ((Below.refl _ _).alloc (Nat.le_refl _) _)⟩ ⟨_, _, rfl, Rd.below ha13 ((Below.refl _ _).alloc (Nat.le_refl _) _), Rd.below hl13 ((Below.refl _ _).alloc (Nat.le_refl _) _)⟩ rfl rfl⟩

set_option maxHeartbeats 2000000 in
theorem step10_15 {o : Oper} (ho : ops10[15]? = some o) (H : Grown ops10 (V10 w0.heap.size) a0 w0 listed a w) (hdep : ∀ e ∈ o.after, Region.binds .any e = true → listed[e.on]? = some true) :
    o.wp Try.prog a w (fun a' w' => ∃ v, a' = a.put o.dst v ∧ Below w.heap.size w w' ∧ (V10 w0.heap.size) 15 w' v) Q := by
  obtain ⟨v10, e10, h10⟩ := H.val 10 89 (by kernel_rfl) (dep_of ho hdep (by kernel_rfl))
  obtain rfl : v10 = cloK := h10
  have g10 := getD_of e10
  unfold cloK at g10
  obtain ⟨v14, e14, h14⟩ := H.val 14 93 (by kernel_rfl) (dep_of ho hdep (by kernel_rfl))
  have g14 := getD_of e14
  have e : (ops10[15]?).get (by kernel_rfl) = o := by simp [ho]
  conv at e => lhs; whnf
  subst e
  unfold Oper.wp
  go_simp
  refine (blockK_any (h14)).mono ?_
  rintro e w' ⟨u, rfl, hk, hb⟩
  exact ⟨u, rfl, hb, hk⟩

set_option maxHeartbeats 2000000 in
theorem step10_16 {o : Oper} (h2 : a0.tmps[2]? = some cloK) (ho : ops10[16]? = some o) (H : Grown ops10 (V10 w0.heap.size) a0 w0 listed a w) (hdep : ∀ e ∈ o.after, Region.binds .any e = true → listed[e.on]? = some true) :
    o.wp Try.prog a w (fun a' w' => ∃ v, a' = a.put o.dst v ∧ Below w.heap.size w w' ∧ (V10 w0.heap.size) 16 w' v) Q := by
  have g := getD_of (H.old 2 (by kernel_rfl) h2)
  unfold cloK at g
  have e : (ops10[16]?).get (by kernel_rfl) = o := by simp [ho]
  conv at e => lhs; whnf
  subst e
  unfold Oper.wp
  go_simp
  exact ⟨_, rfl, Below.refl _ _, rfl⟩

set_option maxHeartbeats 2000000 in
theorem step10_17 {o : Oper} {R : Nat} (h1 : a0.tmps[1]? = some (.pointer (some ⟨R, 0, none⟩))) (hR : R < w0.heap.size) (hRb : w0.heap[R]? = some (.cells #[.int .u8 14, .string ⟨#[]⟩, .string ⟨#[]⟩, .string ⟨#[]⟩, .int .i64 0, .string ⟨#[]⟩, .slice none 0 0, .slice none 0 0] 25 (0, 0))) (ho : ops10[17]? = some o) (H : Grown ops10 (V10 w0.heap.size) a0 w0 listed a w) (hdep : ∀ e ∈ o.after, Region.binds .any e = true → listed[e.on]? = some true) :
    o.wp Try.prog a w (fun a' w' => ∃ v, a' = a.put o.dst v ∧ Below w.heap.size w w' ∧ (V10 w0.heap.size) 17 w' v) Q := by
  have g := getD_of (H.old 1 (by kernel_rfl) h1)
  have e : (ops10[17]?).get (by kernel_rfl) = o := by simp [ho]
  conv at e => lhs; whnf
  subst e
  unfold Oper.wp
  obtain ⟨y0, y1, y2, y3, y4, y5, y6, y7⟩ := cells8 ((H.low.block R hR).trans hRb)
  go_simp
  exact ⟨_, rfl, Below.refl _ _, [.int .u8 14, .string ⟨#[]⟩, .string ⟨#[]⟩, .string ⟨#[]⟩, .int .i64 0, .string ⟨#[]⟩, .slice none 0 0, .slice none 0 0], rfl, _, _, rfl, rd_none _, rd_none _⟩

set_option maxHeartbeats 2000000 in
theorem step10_18 {o : Oper} (ho : ops10[18]? = some o) (H : Grown ops10 (V10 w0.heap.size) a0 w0 listed a w) (hdep : ∀ e ∈ o.after, Region.binds .any e = true → listed[e.on]? = some true) :
    o.wp Try.prog a w (fun a' w' => ∃ v, a' = a.put o.dst v ∧ Below w.heap.size w w' ∧ (V10 w0.heap.size) 18 w' v) Q := by
  obtain ⟨_, e17, _, rfl, va17, vl17, rfl, ha17, hl17⟩ := H.val 17 96 (by kernel_rfl) (dep_of ho hdep (by kernel_rfl))
  obtain ⟨a17, c17, rfl⟩ := ha17.form
  obtain ⟨b17, d17, rfl⟩ := hl17.form
  have g17 := getD_of e17
  simp only [insV] at e17 g17
  have e : (ops10[18]?).get (by kernel_rfl) = o := by simp [ho]
  conv at e => lhs; whnf
  subst e
  unfold Oper.wp
  go_simp
  exact ⟨_, rfl, (Below.refl _ _).alloc (Nat.le_refl _) _, rde_oneC (t := 25) (at_newC rfl) ⟨_, _, rfl, Rd.below ha17 ((Below.refl _ _).alloc (Nat.le_refl _) _), Rd.below hl17 ((Below.refl _ _).alloc (Nat.le_refl _) _)⟩ rfl⟩

set_option maxHeartbeats 2000000 in
theorem step10_19 {o : Oper} (ho : ops10[19]? = some o) (H : Grown ops10 (V10 w0.heap.size) a0 w0 listed a w) (hdep : ∀ e ∈ o.after, Region.binds .any e = true → listed[e.on]? = some true) :
    o.wp Try.prog a w (fun a' w' => ∃ v, a' = a.put o.dst v ∧ Below w.heap.size w w' ∧ (V10 w0.heap.size) 19 w' v) Q := by
  obtain ⟨v16, e16, h16⟩ := H.val 16 95 (by kernel_rfl) (dep_of ho hdep (by kernel_rfl))
  obtain rfl : v16 = cloK := h16
  have g16 := getD_of e16
  unfold cloK at g16
  obtain ⟨v18, e18, h18⟩ := H.val 18 97 (by kernel_rfl) (dep_of ho hdep (by kernel_rfl))
  have g18 := getD_of e18
  have e : (ops10[19]?).get (by kernel_rfl) = o := by simp [ho]
  conv at e => lhs; whnf
  subst e
  unfold Oper.wp
  go_simp
  refine (blockK_any (h18)).mono ?_
  rintro e w' ⟨u, rfl, hk, hb⟩
  exact ⟨u, rfl, hb, hk⟩

set_option maxHeartbeats 2000000 in
theorem step10_20 {o : Oper} (ho : ops10[20]? = some o) (H : Grown ops10 (V10 w0.heap.size) a0 w0 listed a w) (hdep : ∀ e ∈ o.after, Region.binds .any e = true → listed[e.on]? = some true) :
    o.wp Try.prog a w (fun a' w' => ∃ v, a' = a.put o.dst v ∧ Below w.heap.size w w' ∧ (V10 w0.heap.size) 20 w' v) Q := by
  obtain ⟨_, e4, _, rfl, vc4, rfl, h4⟩ := H.val 4 83 (by kernel_rfl) (dep_of ho hdep (by kernel_rfl))
  obtain ⟨a4, c4, rfl⟩ := h4.form
  have g4 := getD_of e4
  obtain ⟨_, e9, _, rfl, vc9, rfl, h9⟩ := H.val 9 88 (by kernel_rfl) (dep_of ho hdep (by kernel_rfl))
  obtain ⟨a9, c9, rfl⟩ := h9.form
  have g9 := getD_of e9
  obtain ⟨_, e15, _, rfl, vc15, rfl, h15⟩ := H.val 15 94 (by kernel_rfl) (dep_of ho hdep (by kernel_rfl))
  obtain ⟨a15, c15, rfl⟩ := h15.form
  have g15 := getD_of e15
  obtain ⟨_, e19, _, rfl, vc19, rfl, h19⟩ := H.val 19 98 (by kernel_rfl) (dep_of ho hdep (by kernel_rfl))
  obtain ⟨a19, c19, rfl⟩ := h19.form
  have g19 := getD_of e19
  have e : (ops10[20]?).get (by kernel_rfl) = o := by simp [ho]
  conv at e => lhs; whnf
  subst e
  unfold Oper.wp
  go_simp
  exact ⟨_, rfl, (Below.refl _ _).alloc (Nat.le_refl _) _, rde_fourC (t := 44) (c1 := [_, _]) (c2 := [_, _]) (c3 := [_, _]) (c4 := [_, _]) (at_newC rfl) ⟨_, rfl, RdE.below (fun _ _ x => RdIns.below x ((Below.refl _ _).alloc (Nat.le_refl _) _)) h4 ((Below.refl _ _).alloc (Nat.le_refl _) _)⟩ ⟨_, rfl, RdE.below (fun _ _ x => RdIns.below x ((Below.refl _ _).alloc (Nat.le_refl _) _)) h9 ((Below.refl _ _).alloc (Nat.le_refl _) _)⟩ ⟨_, rfl, RdE.below (fun _ _ x => RdIns.below x ((Below.refl _ _).alloc (Nat.le_refl _) _)) h15 ((Below.refl _ _).alloc (Nat.le_refl _) _)⟩ ⟨_, rfl, RdE.below (fun _ _ x => RdIns.below x ((Below.refl _ _).alloc (Nat.le_refl _) _)) h19 ((Below.refl _ _).alloc (Nat.le_refl _) _)⟩ rfl rfl rfl rfl⟩

set_option maxHeartbeats 2000000 in
theorem step10_21 {o : Oper} (ho : ops10[21]? = some o) (H : Grown ops10 (V10 w0.heap.size) a0 w0 listed a w) (hdep : ∀ e ∈ o.after, Region.binds .any e = true → listed[e.on]? = some true) :
    o.wp Try.prog a w (fun a' w' => ∃ v, a' = a.put o.dst v ∧ Below w.heap.size w w' ∧ (V10 w0.heap.size) 21 w' v) Q := by
  obtain ⟨v20, e20, h20⟩ := H.val 20 99 (by kernel_rfl) (dep_of ho hdep (by kernel_rfl))
  replace h20 : RdE 2 RdBlk w v20 _ := h20
  obtain ⟨a20, c20, rfl⟩ := h20.form
  have g20 := getD_of e20
  have e : (ops10[21]?).get (by kernel_rfl) = o := by simp [ho]
  conv at e => lhs; whnf
  subst e
  unfold Oper.wp
  go_simp
  exact ⟨_, rfl, Below.refl _ _, [.string ⟨#[]⟩, .slice none 0 0, .slice a20 _ c20], rfl, _, _, rfl, rd_none _, h20⟩

set_option maxHeartbeats 2000000 in
theorem step10_22 {o : Oper} (ho : ops10[22]? = some o) (H : Grown ops10 (V10 w0.heap.size) a0 w0 listed a w) (hdep : ∀ e ∈ o.after, Region.binds .any e = true → listed[e.on]? = some true) :
    o.wp Try.prog a w (fun a' w' => ∃ v, a' = a.put o.dst v ∧ Below w.heap.size w w' ∧ (V10 w0.heap.size) 22 w' v) Q := by
  obtain ⟨_, e21, cs21, rfl, h21⟩ := H.val 21 100 (by kernel_rfl) (dep_of ho hdep (by kernel_rfl))
  have g21 := getD_of e21
  have e : (ops10[22]?).get (by kernel_rfl) = o := by simp [ho]
  conv at e => lhs; whnf
  subst e
  unfold Oper.wp
  go_simp
  refine (ofK_any h21).mono ?_
  rintro e w' ⟨u, rfl, hk, hb⟩
  exact ⟨u, rfl, hb, hk⟩

set_option maxHeartbeats 2000000 in
theorem step10_23 {o : Oper} (ho : ops10[23]? = some o) (H : Grown ops10 (V10 w0.heap.size) a0 w0 listed a w) (hdep : ∀ e ∈ o.after, Region.binds .any e = true → listed[e.on]? = some true) :
    o.wp Try.prog a w (fun a' w' => ∃ v, a' = a.put o.dst v ∧ Below w.heap.size w w' ∧ (V10 w0.heap.size) 23 w' v) Q := by
  obtain ⟨v22, e22, h22⟩ := H.val 22 101 (by kernel_rfl) (dep_of ho hdep (by kernel_rfl))
  have g22 := getD_of e22
  have e : (ops10[23]?).get (by kernel_rfl) = o := by simp [ho]
  conv at e => lhs; whnf
  subst e
  unfold Oper.wp
  go_simp
  exact ⟨_, rfl, Below.refl _ _, h22⟩

set_option maxHeartbeats 2000000 in
theorem step10_24 {o : Oper} (ho : ops10[24]? = some o) (H : Grown ops10 (V10 w0.heap.size) a0 w0 listed a w) (hdep : ∀ e ∈ o.after, Region.binds .any e = true → listed[e.on]? = some true) :
    o.wp Try.prog a w (fun a' w' => ∃ v, a' = a.put o.dst v ∧ Below w.heap.size w w' ∧ (V10 w0.heap.size) 24 w' v) Q := by
  obtain ⟨_, e23, s1, s2, rfl, hs⟩ := H.val 23 78 (by kernel_rfl) (dep_of ho hdep (by kernel_rfl))
  have g23 := getD_of e23
  have e : (ops10[24]?).get (by kernel_rfl) = o := by simp [ho]
  conv at e => lhs; whnf
  subst e
  unfold Oper.wp
  go_simp
  exact ⟨_, rfl, Below.refl _ _, s1, s2, rfl, hs⟩

set_option maxHeartbeats 2000000 in
theorem step10_25 {o : Oper} (ho : ops10[25]? = some o) (H : Grown ops10 (V10 w0.heap.size) a0 w0 listed a w) (hdep : ∀ e ∈ o.after, Region.binds .any e = true → listed[e.on]? = some true) :
    o.wp Try.prog a w (fun a' w' => ∃ v, a' = a.put o.dst v ∧ Below w.heap.size w w' ∧ (V10 w0.heap.size) 25 w' v) Q := by
  obtain ⟨_, e23, s1, s2, rfl, hs⟩ := H.val 23 78 (by kernel_rfl) (dep_of ho hdep (by kernel_rfl))
  have g23 := getD_of e23
  have e : (ops10[25]?).get (by kernel_rfl) = o := by simp [ho]
  conv at e => lhs; whnf
  subst e
  unfold Oper.wp
  go_simp
  exact ⟨_, rfl, Below.refl _ _, rfl⟩

set_option maxHeartbeats 2000000 in
theorem step10_26 {o : Oper} (ho : ops10[26]? = some o) (H : Grown ops10 (V10 w0.heap.size) a0 w0 listed a w) (hdep : ∀ e ∈ o.after, Region.binds .any e = true → listed[e.on]? = some true) :
    o.wp Try.prog a w (fun a' w' => ∃ v, a' = a.put o.dst v ∧ Below w.heap.size w w' ∧ (V10 w0.heap.size) 26 w' v) Q := by
  have e : (ops10[26]?).get (by kernel_rfl) = o := by simp [ho]
  conv at e => lhs; whnf
  subst e
  unfold Oper.wp
  go_simp
  exact ⟨_, rfl, (Below.refl _ _).alloc (Nat.le_refl _) _, _, rfl, H.low.size, at_newC rfl⟩
end
end Go.Proofs.Ytedleliddhhacaa
