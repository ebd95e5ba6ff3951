/- names: Check. -/
import Derived.Test.YtjblhiekccjdcaaRNFirst
namespace Go.Proofs.YtjblhiekccjdcaaR
open Go.RowKit Go.Maps Go.Shelf Go.WideMaps

/-- The first rule that is broken, from a rule on, and where. -/
def checkF (P : List Fun) : Nat → Nat → Nat × (Nat × Nat × Nat)
  | 0, _ => (0, (0, 0, 0))
  | n + 1, k => if (ruleAt P k).isSome = true then (k, (ruleAt P k).getD (0, 0, 0)) else checkF P n (k + 1)
/-- What Check tells. -/
def wrongOf (P : List Fun) : Nat × (Nat × Nat × Nat) := checkF P 16 1
def wrongA (x : Nat × (Nat × Nat × Nat)) : Value := .agg #[.int .u8 x.1, .int .i64 x.2.1, .int .i64 x.2.2.1, .int .i64 x.2.2.2]
theorem set_fourN {W : World} {b : Nat} {u0 u1 u2 u3 v0 v1 v2 v3 : Value} {t : TypeId} (h : W.heap[b]? = some (.cells #[u0, u1, u2, u3] t (0, 0))) : ((((W.setCell ⟨b, 0, none⟩ v0).setCell ⟨b, 1, none⟩ v1).setCell ⟨b, 2, none⟩ v2).setCell ⟨b, 3, none⟩ v3).heap[b]? = some (.cells #[v0, v1, v2, v3] t (0, 0)) := by
  rw [blk_set _ (blk_set _ (blk_set _ (blk_set _ h)))]
  rfl
set_option maxRecDepth 20000 in
set_option maxHeartbeats 4000000 in
theorem check_any {P : List Fun} (hP : POkA P) {w : World} {v : Value} (h : RdE 3 RdFun w v P) : Calls Try.prog 11 #[.agg #[v]] w fun e w' => e = .returned (wrongA (wrongOf P)) ∧ Below w.heap.size w w' := by
  obtain ⟨a, c, rfl⟩ := h.form
  obtain ⟨n, hn⟩ : ∃ n, n = P.length := ⟨_, rfl⟩
  rw [← hn] at h ⊢
  obtain ⟨W2, hW2⟩ : ∃ W2, ((w.alloc (.cells #[.slice a n c] 26)).alloc (.cells #[.int .u8 0, .int .i64 0, .int .i64 0, .int .i64 0] 32)) = W2 := ⟨_, rfl⟩
  have hb0 : Below w.heap.size w W2 := by rw [← hW2]; exact ((Below.refl _ _).alloc (Nat.le_refl _) _).alloc (by simp) _
  have hN : W2.heap[w.heap.size + 1]? = some (.cells #[.int .u8 0, .int .i64 0, .int .i64 0, .int .i64 0] 32 (0, 0)) := by rw [← hW2]; exact at_newN (by simp)
  have hl : W2.cell? ⟨w.heap.size, 0, none⟩ = some (.slice a n c) := by rw [blk_cell (show W2.heap[w.heap.size]? = _ from by rw [← hW2]; exact at_oldN (at_newN rfl))]; rfl
  have hsz : W2.heap.size = w.heap.size + 2 := by rw [← hW2]; simp
  have hask : ∀ k, 1 ≤ k → k ≤ 16 → ∀ w' : World, Below w.heap.size w w' → Calls Try.prog (qF k) #[.agg #[.slice a n c]] w' fun e w'' => e = .returned (ansP (ruleAt P k)) ∧ Below w'.heap.size w' w'' := fun k h1 h2 w' hb => ask_any hP h1 h2 (RdE.below (fun _ _ h => h.below hb) h hb)
  replace hask := Lib.hid hask
  have hqs := Lib.hid (fun W => (questions_any (w := W) (a := a) (n := n) (c := c)))
  have hb0' := Lib.hid hb0
  replace hN := Lib.hid hN
  replace hn := Lib.hid hn
  have hA0 : Hid (checkF P (17 - 1) 1 = wrongOf P) := Lib.hid rfl
  generalize wrongOf P = A at hA0 ⊢
  obtain ⟨r0, q1, q2, q3⟩ := A
  show Calls _ _ _ _ (fun e w' => e = .returned (.agg #[.int .u8 r0, .int .i64 q1, .int .i64 q2, .int .i64 q3]) ∧ Below w.heap.size w w')
  clear h hb0
  go_enter Try.func11, Try.ntmps11
  go_upto_region 1 with fail
  clear hW2
  go_upto_region 2 with (go_at_call 22; refine Calls.mono (hqs.out _) ?_; rintro e w3 ⟨b, rfl, hge, ⟨f, hM, hf1, hf2⟩, hb3⟩)
  replace hf1 := Lib.hid hf1
  replace hM := Lib.hid hM
  have hb4 := Lib.hid (hb0'.out.trans (hb3.mono (by omega)))
  have hN4 := Lib.hid ((hb3.block _ (by omega)).trans hN.out)
  clear hl hN hf2 hb3
  go_wp2_with fail
  go_loopw [4, 5, 6] (fun i _ _ wr => ∃ k : Nat, 1 ≤ k ∧ k ≤ 17 ∧ i = .int .u8 k ∧ Hid (checkF P (17 - k) k = (r0, q1, q2, q3)) ∧ Hid (VMap wr 28 b 16 f) ∧ Hid (Below w.heap.size w wr) ∧ Hid (wr.heap[w.heap.size + 1]? = some (.cells #[.int .u8 0, .int .i64 0, .int .i64 0, .int .i64 0] 32 (0, 0)))) (fun i _ _ _ => 17 - (intOf i).toNat)
  case atStart => exact ⟨1, Nat.le_refl _, by omega, rfl, hA0, hM, hb4, hN4⟩
  case round =>
    clear hA0 hM hb4 hN4
    obtain ⟨k, hk1, hk2, rfl, hA, hM, hB, hN⟩ := hrel
    by_cases hlt : k ≤ 16
    · have j1 : decide ((k : Int) ≤ 16) = true := by simp; omega
      have j2 : (k : Int) ≤ 16 := by omega
      have hkey : keyOf Try.prog 28 (.int .u8 k) = some (.int .u8 k) := keyR (WalkArith.wf_u8 (by omega))
      obtain ⟨K, hK⟩ : ∃ K, qF k = K := ⟨_, rfl⟩
      have eg := qF_enters hk1 hlt
      have hak := Lib.hid (hask.out k hk1 hlt wr hB.out)
      have hfv := Lib.hid (by have h1 := hf1.out k hk1 hlt; unfold qV at h1; rw [hK] at h1; exact h1 : f (.int .u8 k) = some (.func (.func K) #[.agg #[.slice a n c]] #[]))
      rw [hK] at eg hak
      rw [ansP_w] at hak
      unfold ansW at hak
      have hA1 := hA.out
      rw [show 17 - k = (16 - k) + 1 by omega] at hA1
      unfold checkF at hA1
      rw [show 16 - k = 17 - (k + 1) by omega] at hA1
      generalize (ruleAt P k).getD (0, 0, 0) = q at hak hA1
      obtain ⟨p1, p2, p3⟩ := q
      simp only at hak
      generalize (ruleAt P k).isSome = bs at hak hA1
      have hAt := Lib.hid hA1
      replace hK := Lib.hid hK
      clear hA1 hA
      go_upto_region 6 with (first
        | (at_lookup; refine wpList_vmap_at rfl _ _ _ rfl 28 57 lawR Try.underlying53 (zeroQ _) b 16 f hM.out rfl _ _ rfl hkey ?_; rw [hfv.out]; simp only [Option.getD_some])
        | (refine Calls.mono hak.out ?_; rintro e w5 ⟨rfl, hb⟩))
      have hb6 := hb.alloc hb.size (.cells #[.int .i64 p1, .int .i64 p2, .int .i64 p3] 30)
      have hN6 := Lib.hid ((hb6.block _ (Array.getElem?_eq_some_iff.1 hN.out).1).trans hN.out)
      have hM6 := Lib.hid (hM.out.block (hb6.block _ hM.out.lt))
      have hB6 := Lib.hid (hB.out.trans (hb6.mono hB.out.size))
      have hP6 : (w5.alloc (.cells #[.int .i64 p1, .int .i64 p2, .int .i64 p3] 30)).heap[w5.heap.size]? = some (.cells #[.int .i64 p1, .int .i64 p2, .int .i64 p3] 30 (0, 0)) := at_newN rfl
      clear hN hM hB hb6 hb hfv hak eg hkey
      generalize (w5.alloc (.cells #[.int .i64 p1, .int .i64 p2, .int .i64 p3] 30)) = w6 at hN6 hM6 hB6 hP6 ⊢
      have d0 : w6.cell? ⟨w5.heap.size, 0, none⟩ = some (.int .i64 p1) := by rw [blk_cell hP6]; rfl
      have d1 : w6.cell? ⟨w5.heap.size, 1, none⟩ = some (.int .i64 p2) := by rw [blk_cell hP6]; rfl
      have d2 : w6.cell? ⟨w5.heap.size, 2, none⟩ = some (.int .i64 p3) := by rw [blk_cell hP6]; rfl
      clear hP6
      cases bs with
      | false =>
        have hA2 : Hid (checkF P (17 - (k + 1)) (k + 1) = (r0, q1, q2, q3)) := Lib.hid (by have := hAt.out; simpa using this)
        clear hAt
        go_wp2_with fail
        exact ⟨⟨k + 1, by omega, by omega, by go_num, hA2, hM6, hB6, hN6⟩, by simp [intOf]; omega⟩
      | true =>
        have hA2 : (k, (p1, p2, p3)) = (r0, q1, q2, q3) := by have := hAt.out; simpa using this
        simp only [Prod.mk.injEq] at hA2
        obtain ⟨rfl, rfl, rfl, rfl⟩ := hA2
        have hN7 := hN6.out
        have z0 : w6.cell? ⟨w.heap.size + 1, 0, none⟩ = some (.int .u8 0) := by rw [blk_cell hN7]; rfl
        have z1 : w6.cell? ⟨w.heap.size + 1, 1, none⟩ = some (.int .i64 0) := by rw [blk_cell hN7]; rfl
        have z2 : w6.cell? ⟨w.heap.size + 1, 2, none⟩ = some (.int .i64 0) := by rw [blk_cell hN7]; rfl
        have z3 : w6.cell? ⟨w.heap.size + 1, 3, none⟩ = some (.int .i64 0) := by rw [blk_cell hN7]; rfl
        have y0 : w6.frozen? ⟨w.heap.size + 1, 0, none⟩ = false := by simp [World.frozen?, hN7]
        have y1 : w6.frozen? ⟨w.heap.size + 1, 1, none⟩ = false := by simp [World.frozen?, hN7]
        have y2 : w6.frozen? ⟨w.heap.size + 1, 2, none⟩ = false := by simp [World.frozen?, hN7]
        have y3 : w6.frozen? ⟨w.heap.size + 1, 3, none⟩ = false := by simp [World.frozen?, hN7]
        clear hN7 hAt hM6
        go_wp2_with fail
        have hf := Lib.hid (show Below w.heap.size w ((((w6.setCell ⟨w.heap.size + 1, 0, none⟩ (.int .u8 k)).setCell ⟨w.heap.size + 1, 1, none⟩ (.int .i64 p1)).setCell ⟨w.heap.size + 1, 2, none⟩ (.int .i64 p2)).setCell ⟨w.heap.size + 1, 3, none⟩ (.int .i64 p3)) from (((hB6.out.setCell (p := ⟨w.heap.size + 1, 0, none⟩) (Nat.le_succ _) _).setCell (p := ⟨w.heap.size + 1, 1, none⟩) (Nat.le_succ _) _).setCell (p := ⟨w.heap.size + 1, 2, none⟩) (Nat.le_succ _) _).setCell (p := ⟨w.heap.size + 1, 3, none⟩) (Nat.le_succ _) _)
        have hN3 := Lib.hid (set_fourN (v0 := .int .u8 k) (v1 := .int .i64 p1) (v2 := .int .i64 p2) (v3 := .int .i64 p3) hN6.out)
        generalize ((((w6.setCell ⟨w.heap.size + 1, 0, none⟩ (.int .u8 k)).setCell ⟨w.heap.size + 1, 1, none⟩ (.int .i64 p1)).setCell ⟨w.heap.size + 1, 2, none⟩ (.int .i64 p2)).setCell ⟨w.heap.size + 1, 3, none⟩ (.int .i64 p3)) = w9 at hf hN3 ⊢
        have c0 : w9.cell? ⟨w.heap.size + 1, 0, none⟩ = some (.int .u8 k) := by rw [blk_cell hN3.out]; rfl
        have c1 : w9.cell? ⟨w.heap.size + 1, 1, none⟩ = some (.int .i64 p1) := by rw [blk_cell hN3.out]; rfl
        have c2 : w9.cell? ⟨w.heap.size + 1, 2, none⟩ = some (.int .i64 p2) := by rw [blk_cell hN3.out]; rfl
        have c3 : w9.cell? ⟨w.heap.size + 1, 3, none⟩ = some (.int .i64 p3) := by rw [blk_cell hN3.out]; rfl
        exact bodyPost_ret (v := .agg #[.int .u8 k, .int .i64 p1, .int .i64 p2, .int .i64 p3]) (by simp [results, Try.results11, go_sem, c0, c1, c2, c3]) rfl ⟨rfl, hf.out⟩
    · obtain rfl : k = 17 := by omega
      have hA2 : (0, (0, 0, 0)) = (r0, q1, q2, q3) := hA.out
      simp only [Prod.mk.injEq] at hA2
      obtain ⟨rfl, rfl, rfl, rfl⟩ := hA2
      have hN7 := hN.out
      have hB6 := hB
      have hN6 := hN
      have z0 : wr.cell? ⟨w.heap.size + 1, 0, none⟩ = some (.int .u8 0) := by rw [blk_cell hN7]; rfl
      have z1 : wr.cell? ⟨w.heap.size + 1, 1, none⟩ = some (.int .i64 0) := by rw [blk_cell hN7]; rfl
      have z2 : wr.cell? ⟨w.heap.size + 1, 2, none⟩ = some (.int .i64 0) := by rw [blk_cell hN7]; rfl
      have z3 : wr.cell? ⟨w.heap.size + 1, 3, none⟩ = some (.int .i64 0) := by rw [blk_cell hN7]; rfl
      have y0 : wr.frozen? ⟨w.heap.size + 1, 0, none⟩ = false := by simp [World.frozen?, hN7]
      have y1 : wr.frozen? ⟨w.heap.size + 1, 1, none⟩ = false := by simp [World.frozen?, hN7]
      have y2 : wr.frozen? ⟨w.heap.size + 1, 2, none⟩ = false := by simp [World.frozen?, hN7]
      have y3 : wr.frozen? ⟨w.heap.size + 1, 3, none⟩ = false := by simp [World.frozen?, hN7]
      clear hN7 hM hN hB
      go_wp2_with fail
      have hf := Lib.hid (show Below w.heap.size w ((((wr.setCell ⟨w.heap.size + 1, 0, none⟩ (.int .u8 0)).setCell ⟨w.heap.size + 1, 1, none⟩ (.int .i64 0)).setCell ⟨w.heap.size + 1, 2, none⟩ (.int .i64 0)).setCell ⟨w.heap.size + 1, 3, none⟩ (.int .i64 0)) from (((hB6.out.setCell (p := ⟨w.heap.size + 1, 0, none⟩) (Nat.le_succ _) _).setCell (p := ⟨w.heap.size + 1, 1, none⟩) (Nat.le_succ _) _).setCell (p := ⟨w.heap.size + 1, 2, none⟩) (Nat.le_succ _) _).setCell (p := ⟨w.heap.size + 1, 3, none⟩) (Nat.le_succ _) _)
      have hN3 := Lib.hid (set_fourN (v0 := .int .u8 0) (v1 := .int .i64 0) (v2 := .int .i64 0) (v3 := .int .i64 0) hN6.out)
      generalize ((((wr.setCell ⟨w.heap.size + 1, 0, none⟩ (.int .u8 0)).setCell ⟨w.heap.size + 1, 1, none⟩ (.int .i64 0)).setCell ⟨w.heap.size + 1, 2, none⟩ (.int .i64 0)).setCell ⟨w.heap.size + 1, 3, none⟩ (.int .i64 0)) = w9 at hf hN3 ⊢
      have c0 : w9.cell? ⟨w.heap.size + 1, 0, none⟩ = some (.int .u8 0) := by rw [blk_cell hN3.out]; rfl
      have c1 : w9.cell? ⟨w.heap.size + 1, 1, none⟩ = some (.int .i64 0) := by rw [blk_cell hN3.out]; rfl
      have c2 : w9.cell? ⟨w.heap.size + 1, 2, none⟩ = some (.int .i64 0) := by rw [blk_cell hN3.out]; rfl
      have c3 : w9.cell? ⟨w.heap.size + 1, 3, none⟩ = some (.int .i64 0) := by rw [blk_cell hN3.out]; rfl
      exact bodyPost_ret (v := .agg #[.int .u8 0, .int .i64 0, .int .i64 0, .int .i64 0]) (by simp [results, Try.results11, go_sem, c0, c1, c2, c3]) rfl ⟨rfl, hf.out⟩
end Go.Proofs.YtjblhiekccjdcaaR
