/- names: First and Check. -/
import Derived.Test.YtjblhiekccjdcaaRNAsk
namespace Go.Proofs.YtjblhiekccjdcaaR
open Go.RowKit Go.Maps Go.Shelf Go.WideMaps

theorem zeroQ (w : World) : (zeroValue 57).run Try.prog w = .ok .nilFunc w := by kernel_rfl
/-- An answer written out. -/
def ansW (q : Nat × Nat × Nat) (b : Bool) : Value := .tuple #[.agg #[.int .i64 q.1, .int .i64 q.2.1, .int .i64 q.2.2], .bool b]
theorem ansP_w (x : Option (Nat × Nat × Nat)) : ansP x = ansW (x.getD (0, 0, 0)) x.isSome := rfl
theorem ruleAt_out {P : List Fun} {k : Nat} (h : k < 1 ∨ 16 < k) : ruleAt P k = none := by
  unfold ruleAt
  split <;> first | omega | rfl
set_option maxRecDepth 20000 in
set_option maxHeartbeats 4000000 in
theorem first_any {P : List Fun} (hP : POkA P) {w : World} {v : Value} (h : RdE 3 RdFun w v P) {r : Nat} (hr : r < 256) : Calls Try.prog 12 #[.agg #[v], .int .u8 r] w fun e w' => e = .returned (ansP (ruleAt P r)) ∧ Below w.heap.size w w' := by
  obtain ⟨a, c, rfl⟩ := h.form
  obtain ⟨n, hn⟩ : ∃ n, n = P.length := ⟨_, rfl⟩
  rw [← hn] at h ⊢
  obtain ⟨W2, hW2⟩ : ∃ W2, ((w.alloc (.cells #[.slice a n c] 26)).alloc (.cells #[.int .i64 0, .int .i64 0, .int .i64 0] 30)) = W2 := ⟨_, rfl⟩
  have hb0 : Below w.heap.size w W2 := by rw [← hW2]; exact ((Below.refl _ _).alloc (Nat.le_refl _) _).alloc (by simp) _
  have hN : W2.heap[w.heap.size + 1]? = some (.cells #[.int .i64 0, .int .i64 0, .int .i64 0] 30 (0, 0)) := by rw [← hW2]; exact at_newN (by simp)
  have hl : W2.cell? ⟨w.heap.size, 0, none⟩ = some (.slice a n c) := by rw [blk_cell (show W2.heap[w.heap.size]? = _ from by rw [← hW2]; exact at_oldN (at_newN rfl))]; rfl
  have hsz : W2.heap.size = w.heap.size + 2 := by rw [← hW2]; simp
  have hkey : keyOf Try.prog 28 (.int .u8 r) = some (.int .u8 r) := keyR (WalkArith.wf_u8 (by omega))
  have hask : ∀ k, 1 ≤ k → k ≤ 16 → ∀ w' : World, Below w.heap.size w w' → Calls Try.prog (qF k) #[.agg #[.slice a n c]] w' fun e w'' => e = .returned (ansP (ruleAt P k)) ∧ Below w'.heap.size w' w'' := fun k h1 h2 w' hb => ask_any hP h1 h2 (RdE.below (fun _ _ h => h.below hb) h hb)
  replace hask := Lib.hid hask
  have hqs := Lib.hid (fun W => (questions_any (w := W) (a := a) (n := n) (c := c)))
  have hb0' := Lib.hid hb0
  replace hN := Lib.hid hN
  replace hn := Lib.hid hn
  have hout := Lib.hid (fun h => (ruleAt_out h : ruleAt P r = none))
  clear h hb0
  have hkey2 := Lib.hid hkey
  by_cases hrg : 1 ≤ r ∧ r ≤ 16
  · obtain ⟨K, hK⟩ : ∃ K, qF r = K := ⟨_, rfl⟩
    have eg := qF_enters hrg.1 hrg.2
    have hak := Lib.hid (hask.out r hrg.1 hrg.2)
    have hfv := Lib.hid (fun (f : Lit → Option Value) (hf : ∀ k : Nat, 1 ≤ k → k ≤ 16 → f (.int .u8 k) = some (qV (.slice a n c) k)) => (by have h1 := hf r hrg.1 hrg.2; unfold qV at h1; rw [hK] at h1; exact h1 : f (.int .u8 r) = some (.func (.func K) #[.agg #[.slice a n c]] #[])))
    rw [hK] at eg hak
    rw [ansP_w] at hak ⊢
    unfold ansW at hak ⊢
    obtain ⟨q, hq⟩ : ∃ q, (ruleAt P r).getD (0, 0, 0) = q := ⟨_, rfl⟩
    rw [hq] at hak ⊢
    obtain ⟨q1, q2, q3⟩ := q
    simp only at hak ⊢
    generalize (ruleAt P r).isSome = bs at hak ⊢
    replace hK := Lib.hid hK
    replace hq := Lib.hid hq
    go_enter Try.func12, Try.ntmps12
    go_upto_region 1 with fail
    clear hW2
    go_upto_region 2 with (first
      | (go_at_call 22; refine Calls.mono (hqs.out _) ?_; rintro e w3 ⟨b, rfl, hge, ⟨f, hM, hf1, hf2⟩, hb3⟩; have hf := Lib.hid (hfv.out f hf1); replace hM := Lib.hid hM; clear hf1 hf2)
      | (at_lookup; refine wpList_vmap_ok rfl _ _ _ rfl 28 57 lawR Try.underlying53 (zeroQ _) b 16 f hM.out rfl _ _ rfl hkey ?_; rw [hf.out]; simp only [Option.getD_some, Option.isSome_some]))
    have hb4 := Lib.hid (hb0'.out.trans (hb3.mono (by omega)))
    have hN4 := Lib.hid ((hb3.block _ (Array.getElem?_eq_some_iff.1 hN.out).1).trans hN.out)
    have hcal := Lib.hid (hak.out w3 hb4.out)
    clear hl hM hf hb3 hN hkey
    go_wp2_with (refine Calls.mono hcal.out ?_; rintro e w5 ⟨rfl, hb⟩; have hN5 := (hb.block _ (Array.getElem?_eq_some_iff.1 hN4.out).1).trans hN4.out; have hB5 := Lib.hid (hb4.out.trans (hb.mono hb4.out.size)); have z0 : w5.cell? ⟨w.heap.size + 1, 0, none⟩ = some (.int .i64 0) := (by rw [blk_cell hN5]; rfl); have z1 : w5.cell? ⟨w.heap.size + 1, 1, none⟩ = some (.int .i64 0) := (by rw [blk_cell hN5]; rfl); have z2 : w5.cell? ⟨w.heap.size + 1, 2, none⟩ = some (.int .i64 0) := (by rw [blk_cell hN5]; rfl); have y0 : w5.frozen? ⟨w.heap.size + 1, 0, none⟩ = false := (by simp [World.frozen?, hN5]); have y1 : w5.frozen? ⟨w.heap.size + 1, 1, none⟩ = false := (by simp [World.frozen?, hN5]); have y2 : w5.frozen? ⟨w.heap.size + 1, 2, none⟩ = false := (by simp [World.frozen?, hN5]); replace hN5 := Lib.hid hN5)
    have hf := Lib.hid (show Below w.heap.size w (((w5.setCell ⟨w.heap.size + 1, 0, none⟩ (.int .i64 q1)).setCell ⟨w.heap.size + 1, 1, none⟩ (.int .i64 q2)).setCell ⟨w.heap.size + 1, 2, none⟩ (.int .i64 q3)) from ((hB5.out.setCell (p := ⟨w.heap.size + 1, 0, none⟩) (Nat.le_succ _) _).setCell (p := ⟨w.heap.size + 1, 1, none⟩) (Nat.le_succ _) _).setCell (p := ⟨w.heap.size + 1, 2, none⟩) (Nat.le_succ _) _)
    have hN3 := Lib.hid (set_three (v0 := .int .i64 q1) (v1 := .int .i64 q2) (v2 := .int .i64 q3) hN5.out)
    generalize (((w5.setCell ⟨w.heap.size + 1, 0, none⟩ (.int .i64 q1)).setCell ⟨w.heap.size + 1, 1, none⟩ (.int .i64 q2)).setCell ⟨w.heap.size + 1, 2, none⟩ (.int .i64 q3)) = w9 at hf hN3 ⊢
    have c0 : w9.cell? ⟨w.heap.size + 1, 0, none⟩ = some (.int .i64 q1) := by rw [blk_cell hN3.out]; rfl
    have c1 : w9.cell? ⟨w.heap.size + 1, 1, none⟩ = some (.int .i64 q2) := by rw [blk_cell hN3.out]; rfl
    have c2 : w9.cell? ⟨w.heap.size + 1, 2, none⟩ = some (.int .i64 q3) := by rw [blk_cell hN3.out]; rfl
    exact bodyPost_ret (v := .tuple #[.agg #[.int .i64 q1, .int .i64 q2, .int .i64 q3], .bool bs]) (by simp [results, Try.results12, go_sem, c0, c1, c2]) rfl ⟨rfl, hf.out⟩
  · have hno := hout.out (by omega)
    rw [hno]
    show Calls _ _ _ _ (fun e w' => e = .returned (.tuple #[.agg #[.int .i64 0, .int .i64 0, .int .i64 0], .bool false]) ∧ Below w.heap.size w w')
    clear hno hout hask
    go_enter Try.func12, Try.ntmps12
    go_upto_region 1 with fail
    clear hW2
    go_wp2_with (first
      | (go_at_call 22; refine Calls.mono (hqs.out _) ?_; rintro e w3 ⟨b, rfl, hge, ⟨f, hM, hf1, hf2⟩, hb3⟩; have hf := Lib.hid (hf2 r (by omega)); replace hM := Lib.hid hM; have hN5 := (hb3.block _ (by omega)).trans hN.out; have hB5 := Lib.hid (hb0'.out.trans (hb3.mono (by omega))); have z0 : w3.cell? ⟨w.heap.size + 1, 0, none⟩ = some (.int .i64 0) := (by rw [blk_cell hN5]; rfl); have z1 : w3.cell? ⟨w.heap.size + 1, 1, none⟩ = some (.int .i64 0) := (by rw [blk_cell hN5]; rfl); have z2 : w3.cell? ⟨w.heap.size + 1, 2, none⟩ = some (.int .i64 0) := (by rw [blk_cell hN5]; rfl); have y0 : w3.frozen? ⟨w.heap.size + 1, 0, none⟩ = false := (by simp [World.frozen?, hN5]); have y1 : w3.frozen? ⟨w.heap.size + 1, 1, none⟩ = false := (by simp [World.frozen?, hN5]); have y2 : w3.frozen? ⟨w.heap.size + 1, 2, none⟩ = false := (by simp [World.frozen?, hN5]); replace hN5 := Lib.hid hN5; clear hf1 hf2 hb3)
      | (at_lookup; refine wpList_vmap_ok rfl _ _ _ rfl 28 57 lawR Try.underlying53 (zeroQ _) b 16 f hM.out rfl _ _ rfl hkey2.out ?_; rw [hf.out]; simp only [Option.getD_none, Option.isSome_none]))
    have hf := Lib.hid (show Below w.heap.size w (((w3.setCell ⟨w.heap.size + 1, 0, none⟩ (.int .i64 0)).setCell ⟨w.heap.size + 1, 1, none⟩ (.int .i64 0)).setCell ⟨w.heap.size + 1, 2, none⟩ (.int .i64 0)) from ((hB5.out.setCell (p := ⟨w.heap.size + 1, 0, none⟩) (Nat.le_succ _) _).setCell (p := ⟨w.heap.size + 1, 1, none⟩) (Nat.le_succ _) _).setCell (p := ⟨w.heap.size + 1, 2, none⟩) (Nat.le_succ _) _)
    have hN3 := Lib.hid (set_three (v0 := .int .i64 0) (v1 := .int .i64 0) (v2 := .int .i64 0) hN5.out)
    generalize (((w3.setCell ⟨w.heap.size + 1, 0, none⟩ (.int .i64 0)).setCell ⟨w.heap.size + 1, 1, none⟩ (.int .i64 0)).setCell ⟨w.heap.size + 1, 2, none⟩ (.int .i64 0)) = w9 at hf hN3 ⊢
    have c0 : w9.cell? ⟨w.heap.size + 1, 0, none⟩ = some (.int .i64 0) := by rw [blk_cell hN3.out]; rfl
    have c1 : w9.cell? ⟨w.heap.size + 1, 1, none⟩ = some (.int .i64 0) := by rw [blk_cell hN3.out]; rfl
    have c2 : w9.cell? ⟨w.heap.size + 1, 2, none⟩ = some (.int .i64 0) := by rw [blk_cell hN3.out]; rfl
    exact bodyPost_ret (v := .tuple #[.agg #[.int .i64 0, .int .i64 0, .int .i64 0], .bool false]) (by simp [results, Try.results12, go_sem, c0, c1, c2]) rfl ⟨rfl, hf.out⟩
end Go.Proofs.YtjblhiekccjdcaaR
