/- names: the question of main. -/
import Derived.Test.YtjblhiekccjdcaaRNMain
namespace Go.Proofs.YtjblhiekccjdcaaR
open Go.RowKit Go.Maps Go.Shelf

def mainS : ByteArray := ⟨#[109, 97, 105, 110]⟩
/-- The first main: a point if it has parameters; without one, the program's. -/
def mainAt (k : Nat) : List Fun → Option (Nat × Nat × Nat)
  | [] => some (0, 0, 0)
  | d :: r => if (d.name.toList == [109, 97, 105, 110]) = true then (if d.params.length > 0 then some (k, 0, 0) else none) else mainAt (k + 1) r
set_option maxHeartbeats 400000 in
theorem q4_any {P : List Fun} (hl1 : P.length ≤ 1000000) {w : World} {v : Value} (h : RdE 3 RdFun w v P) : Calls Try.prog 27 #[.agg #[v]] w fun e w' => e = .returned (ansP (mainAt 0 P)) ∧ Below w.heap.size w w' := by
  obtain ⟨a0, c0, rfl⟩ := h.form
  generalize hA : mainAt 0 P = A
  generalize hn : P.length = n at h hl1 ⊢
  have hb0 : Below w.heap.size w ((w.alloc (.cells #[.slice a0 n c0] 56)).alloc (.cells #[.int .i64 0, .int .i64 0, .int .i64 0] 30)) := ((Below.refl _ _).alloc (Nat.le_refl _) _).alloc (by simp) _
  have hN : ((w.alloc (.cells #[.slice a0 n c0] 56)).alloc (.cells #[.int .i64 0, .int .i64 0, .int .i64 0] 30)).heap[w.heap.size + 1]? = some (.cells #[.int .i64 0, .int .i64 0, .int .i64 0] 30 (0, 0)) := at_newN (by simp)
  have hl : ((w.alloc (.cells #[.slice a0 n c0] 56)).alloc (.cells #[.int .i64 0, .int .i64 0, .int .i64 0] 30)).cell? ⟨w.heap.size, 0, none⟩ = some (.slice a0 n c0) := by rw [blk_cell (at_oldN (at_newN rfl))]; rfl
  replace hA := Lib.hid hA
  replace hn := Lib.hid hn
  replace hb0 := Lib.hid hb0
  replace hN := Lib.hid hN
  replace h := Lib.hid h
  go_enter Try.func27, Try.ntmps27
  go_upto_region 1 with fail
  generalize ((w.alloc (.cells #[.slice a0 n c0] 56)).alloc (.cells #[.int .i64 0, .int .i64 0, .int .i64 0] 30)) = wb at hb0 hN hl ⊢
  go_wp2_with fail
  go_loopw [4, 5, 10] (fun _ _ i wr => ∃ k : Nat, k ≤ n ∧ i = .int .i64 k ∧ Hid (mainAt k (P.drop k) = A) ∧ Hid (wr.heap[w.heap.size + 1]? = some (.cells #[.int .i64 0, .int .i64 0, .int .i64 0] 30 (0, 0))) ∧ Hid (Below w.heap.size w wr)) (fun _ _ i _ => n - (intOf i).toNat)
  case atStart => exact ⟨0, Nat.zero_le _, rfl, hA, hN, hb0⟩
  case round =>
    clear hN hb0 hA hl
    obtain ⟨k, hk, rfl, hA, hN, hB⟩ := hrel
    by_cases hlt : k < n
    · have j1 : decide ((k : Int) < (n : Int)) = true := by simpa using hlt
      have j2 : (k : Int) < (n : Int) := by omega
      obtain ⟨x, hx⟩ : ∃ x, P[k]? = some x := ⟨_, List.getElem?_eq_getElem (by rw [hn.out]; exact hlt)⟩
      obtain ⟨g, off, cap, cs, e, hgl, ⟨vp, vb, rfl, hp, hb⟩, -, hcell⟩ := (RdE.below (fun _ _ h => h.below hB.out) h.out hB.out).at hx
      simp only [Value.slice.injEq] at e
      obtain ⟨rfl, -, rfl⟩ := e
      obtain ⟨ap, cp, rfl⟩ := hp.shape
      obtain ⟨ab, cb, rfl⟩ := hb.form
      have c0 : wr.cell? ⟨g, off + k * 3, none⟩ = some (.string x.name) := hcell 0 _ rfl
      have c1 := hcell 1 _ rfl
      have c2 := hcell 2 _ rfl
      have hA1 := hA.out
      rw [drop_at hx] at hA1
      unfold mainAt at hA1
      clear hcell hp hb hx hA
      generalize x.params.length = pl at hA1 c1
      generalize x.blocks.length = bl at c2
      have hB2 := Lib.hid (hB.out.alloc hB.out.size (.cells #[.string x.name, .slice ap pl cp, .slice ab bl cb] 39))
      have hN2 := Lib.hid ((Below.heap_alloc _ (.cells #[.string x.name, .slice ap pl cp, .slice ab bl cb] 39) _ (Array.getElem?_eq_some_iff.1 hN.out).1).trans hN.out)
      clear hB hN
      by_cases em : (x.name.toList == [109, 97, 105, 110]) = true
      · rw [if_pos em] at hA1
        have e1 : (x.name.toList == [109, 97, 105, 110]) = true := em
        clear em
        by_cases ep : pl > 0
        · rw [if_pos ep] at hA1
          replace hA2 := Lib.hid hA1
          have e3 : decide ((pl : Int) > 0) = true := decide_eq_true (by omega)
          have e4 : decide (0 < pl) = true := decide_eq_true (by omega)
          clear hA1 ep
          have hy := Lib.hid (fun W => (pointIf_yes (w := W) (p0 := k) (p1 := 0) (p2 := 0) : Calls Try.prog 48 #[.agg #[.int .i64 k, .int .i64 0, .int .i64 0], .bool true] W fun e w' => e = .returned (.tuple #[.agg #[.int .i64 k, .int .i64 0, .int .i64 0], .bool true]) ∧ Below W.heap.size W w'))
          go_wp2_with (go_at_call 48; (with_reducible refine Calls.mono (hy.out _) ?_); rintro e w5 ⟨rfl, hb⟩; have hN5 := (hb.block _ (Array.getElem?_eq_some_iff.1 hN2.out).1).trans hN2.out; have hB5 := Lib.hid (hB2.out.trans (hb.mono hB2.out.size)); clear hb hN2 hB2; have z0 : w5.cell? ⟨w.heap.size + 1, 0, none⟩ = some (.int .i64 0) := (by rw [blk_cell hN5]; rfl); have z1 : w5.cell? ⟨w.heap.size + 1, 1, none⟩ = some (.int .i64 0) := (by rw [blk_cell hN5]; rfl); have z2 : w5.cell? ⟨w.heap.size + 1, 2, none⟩ = some (.int .i64 0) := (by rw [blk_cell hN5]; rfl); have y0 : w5.frozen? ⟨w.heap.size + 1, 0, none⟩ = false := (by simp [World.frozen?, hN5]); have y1 : w5.frozen? ⟨w.heap.size + 1, 1, none⟩ = false := (by simp [World.frozen?, hN5]); have y2 : w5.frozen? ⟨w.heap.size + 1, 2, none⟩ = false := (by simp [World.frozen?, hN5]); replace hN5 := Lib.hid hN5)
          have hf := Lib.hid (show Below w.heap.size w (((w5.setCell ⟨w.heap.size + 1, 0, none⟩ (.int .i64 k)).setCell ⟨w.heap.size + 1, 1, none⟩ (.int .i64 0)).setCell ⟨w.heap.size + 1, 2, none⟩ (.int .i64 0)) from ((hB5.out.setCell (p := ⟨w.heap.size + 1, 0, none⟩) (Nat.le_succ _) _).setCell (p := ⟨w.heap.size + 1, 1, none⟩) (Nat.le_succ _) _).setCell (p := ⟨w.heap.size + 1, 2, none⟩) (Nat.le_succ _) _)
          have hN3 := Lib.hid (set_three (v0 := .int .i64 k) (v1 := .int .i64 0) (v2 := .int .i64 0) hN5.out)
          try clear z0 z1 z2 y0 y1 y2
          generalize (((w5.setCell ⟨w.heap.size + 1, 0, none⟩ (.int .i64 k)).setCell ⟨w.heap.size + 1, 1, none⟩ (.int .i64 0)).setCell ⟨w.heap.size + 1, 2, none⟩ (.int .i64 0)) = w3 at hf hN3 ⊢
          have c0 : w3.cell? ⟨w.heap.size + 1, 0, none⟩ = some (.int .i64 k) := by rw [blk_cell hN3.out]; rfl
          have c1 : w3.cell? ⟨w.heap.size + 1, 1, none⟩ = some (.int .i64 0) := by rw [blk_cell hN3.out]; rfl
          have c2 : w3.cell? ⟨w.heap.size + 1, 2, none⟩ = some (.int .i64 0) := by rw [blk_cell hN3.out]; rfl
          exact bodyPost_ret (v := .tuple #[.agg #[.int .i64 k, .int .i64 0, .int .i64 0], .bool true]) (by simp [results, Try.results27, go_sem, c0, c1, c2]) rfl ⟨by rw [← hA2.out]; rfl, hf.out⟩
        · rw [if_neg ep] at hA1
          replace hA2 := Lib.hid hA1
          have e3 : decide ((pl : Int) > 0) = false := decide_eq_false (by omega)
          have e4 : decide (0 < pl) = false := decide_eq_false (by omega)
          clear hA1 ep
          have hy := Lib.hid (fun W => (pointIf_no (w := W) (p0 := k) (p1 := 0) (p2 := 0) : Calls Try.prog 48 #[.agg #[.int .i64 k, .int .i64 0, .int .i64 0], .bool false] W fun e w' => e = .returned (.tuple #[.agg #[.int .i64 0, .int .i64 0, .int .i64 0], .bool false]) ∧ Below W.heap.size W w'))
          go_wp2_with (go_at_call 48; (with_reducible refine Calls.mono (hy.out _) ?_); rintro e w5 ⟨rfl, hb⟩; have hN5 := (hb.block _ (Array.getElem?_eq_some_iff.1 hN2.out).1).trans hN2.out; have hB5 := Lib.hid (hB2.out.trans (hb.mono hB2.out.size)); clear hb hN2 hB2; have z0 : w5.cell? ⟨w.heap.size + 1, 0, none⟩ = some (.int .i64 0) := (by rw [blk_cell hN5]; rfl); have z1 : w5.cell? ⟨w.heap.size + 1, 1, none⟩ = some (.int .i64 0) := (by rw [blk_cell hN5]; rfl); have z2 : w5.cell? ⟨w.heap.size + 1, 2, none⟩ = some (.int .i64 0) := (by rw [blk_cell hN5]; rfl); have y0 : w5.frozen? ⟨w.heap.size + 1, 0, none⟩ = false := (by simp [World.frozen?, hN5]); have y1 : w5.frozen? ⟨w.heap.size + 1, 1, none⟩ = false := (by simp [World.frozen?, hN5]); have y2 : w5.frozen? ⟨w.heap.size + 1, 2, none⟩ = false := (by simp [World.frozen?, hN5]); replace hN5 := Lib.hid hN5)
          have hf := Lib.hid (show Below w.heap.size w (((w5.setCell ⟨w.heap.size + 1, 0, none⟩ (.int .i64 0)).setCell ⟨w.heap.size + 1, 1, none⟩ (.int .i64 0)).setCell ⟨w.heap.size + 1, 2, none⟩ (.int .i64 0)) from ((hB5.out.setCell (p := ⟨w.heap.size + 1, 0, none⟩) (Nat.le_succ _) _).setCell (p := ⟨w.heap.size + 1, 1, none⟩) (Nat.le_succ _) _).setCell (p := ⟨w.heap.size + 1, 2, none⟩) (Nat.le_succ _) _)
          have hN3 := Lib.hid (set_three (v0 := .int .i64 0) (v1 := .int .i64 0) (v2 := .int .i64 0) hN5.out)
          try clear z0 z1 z2 y0 y1 y2
          generalize (((w5.setCell ⟨w.heap.size + 1, 0, none⟩ (.int .i64 0)).setCell ⟨w.heap.size + 1, 1, none⟩ (.int .i64 0)).setCell ⟨w.heap.size + 1, 2, none⟩ (.int .i64 0)) = w3 at hf hN3 ⊢
          have c0 : w3.cell? ⟨w.heap.size + 1, 0, none⟩ = some (.int .i64 0) := by rw [blk_cell hN3.out]; rfl
          have c1 : w3.cell? ⟨w.heap.size + 1, 1, none⟩ = some (.int .i64 0) := by rw [blk_cell hN3.out]; rfl
          have c2 : w3.cell? ⟨w.heap.size + 1, 2, none⟩ = some (.int .i64 0) := by rw [blk_cell hN3.out]; rfl
          exact bodyPost_ret (v := .tuple #[.agg #[.int .i64 0, .int .i64 0, .int .i64 0], .bool false]) (by simp [results, Try.results27, go_sem, c0, c1, c2]) rfl ⟨by rw [← hA2.out]; rfl, hf.out⟩
      · rw [if_neg em] at hA1
        have e1 : (x.name.toList == [109, 97, 105, 110]) = false := by simpa using em
        replace hA2 := Lib.hid hA1
        clear hA1 em
        go_wp2_with fail
        exact ⟨⟨k + 1, by omega, by go_num, hA2, hN2, hB2⟩, by simp [intOf]; omega⟩
    · obtain rfl : k = n := by omega
      have j1 : decide ((k : Int) < (k : Int)) = false := by simp
      have hA2 := hA.out
      rw [List.drop_of_length_le (by rw [hn.out]; exact Nat.le_refl _)] at hA2
      replace hA2 := Lib.hid hA2
      have hN1 := hN.out
      have hf := Lib.hid (show Below w.heap.size w (((wr.setCell ⟨w.heap.size + 1, 0, none⟩ (.int .i64 0)).setCell ⟨w.heap.size + 1, 1, none⟩ (.int .i64 0)).setCell ⟨w.heap.size + 1, 2, none⟩ (.int .i64 0)) from ((hB.out.setCell (p := ⟨w.heap.size + 1, 0, none⟩) (Nat.le_succ _) _).setCell (p := ⟨w.heap.size + 1, 1, none⟩) (Nat.le_succ _) _).setCell (p := ⟨w.heap.size + 1, 2, none⟩) (Nat.le_succ _) _)
      have hN3 := Lib.hid (set_three (v0 := .int .i64 0) (v1 := .int .i64 0) (v2 := .int .i64 0) hN1)
      have z0 : wr.cell? ⟨w.heap.size + 1, 0, none⟩ = some (.int .i64 0) := by rw [blk_cell hN1]; rfl
      have z1 : wr.cell? ⟨w.heap.size + 1, 1, none⟩ = some (.int .i64 0) := by rw [blk_cell hN1]; rfl
      have z2 : wr.cell? ⟨w.heap.size + 1, 2, none⟩ = some (.int .i64 0) := by rw [blk_cell hN1]; rfl
      have y0 : wr.frozen? ⟨w.heap.size + 1, 0, none⟩ = false := by simp [World.frozen?, hN1]
      have y1 : wr.frozen? ⟨w.heap.size + 1, 1, none⟩ = false := by simp [World.frozen?, hN1]
      have y2 : wr.frozen? ⟨w.heap.size + 1, 2, none⟩ = false := by simp [World.frozen?, hN1]
      clear hN1 hN hB hA
      go_wp2_with fail
      generalize (((wr.setCell ⟨w.heap.size + 1, 0, none⟩ (.int .i64 0)).setCell ⟨w.heap.size + 1, 1, none⟩ (.int .i64 0)).setCell ⟨w.heap.size + 1, 2, none⟩ (.int .i64 0)) = w3 at hf hN3 ⊢
      have c0 : w3.cell? ⟨w.heap.size + 1, 0, none⟩ = some (.int .i64 0) := by rw [blk_cell hN3.out]; rfl
      have c1 : w3.cell? ⟨w.heap.size + 1, 1, none⟩ = some (.int .i64 0) := by rw [blk_cell hN3.out]; rfl
      have c2 : w3.cell? ⟨w.heap.size + 1, 2, none⟩ = some (.int .i64 0) := by rw [blk_cell hN3.out]; rfl
      exact bodyPost_ret (v := .tuple #[.agg #[.int .i64 0, .int .i64 0, .int .i64 0], .bool true]) (by simp [results, Try.results27, go_sem, c0, c1, c2]) rfl ⟨by rw [← hA2.out]; rfl, hf.out⟩
end Go.Proofs.YtjblhiekccjdcaaR
