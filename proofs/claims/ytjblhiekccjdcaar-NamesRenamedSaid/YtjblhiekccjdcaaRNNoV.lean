/- names: the function of the rule of what is no variable. -/
import Derived.Test.YtjblhiekccjdcaaRNVars
namespace Go.Proofs.YtjblhiekccjdcaaR
open Go.RowKit Go.Maps Go.Shelf
attribute [local go_sem] Oper.semAt_some

set_option maxRecDepth 20000 in
set_option maxHeartbeats 4000000 in
theorem c16_fn {W : World} {f : Nat} {d : Fun} {vs : Array Value} {Bx : Nat} {ob : Option Nat} (hf : (Prt.fn f d).Fits) (hpl : d.params.length ≤ 1000000) (hbl : d.blocks.length ≤ 1000000) (hcl : ∀ x ∈ d.blocks, x.code.length ≤ 1000000) (h : PrtV W (Prt.fn f d) vs) (hX : W.heap[Bx]? = some (.cells #[.map ob] 69 (0, 0))) :
    Calls Try.prog 67 #[.agg vs, .pointer (some ⟨Bx, 0, none⟩)] W fun e W' => e = .returned (.bool false) ∧ ∃ bm, W.heap.size ≤ bm ∧ SetBx Bx (varsL d) (fun k => k = Bx ∨ k = bm) bm W' ∧ Touch W W' (fun k => k = Bx) := by
  obtain ⟨b, o, rfl, hF⟩ := h
  obtain ⟨W2, hW2⟩ : ∃ W2, W2 = ((W.alloc (.cells #[.int .i64 f, .int .i64 0, .int .i64 0, .pointer (some ⟨b, o, none⟩), .pointer none, .pointer none] 65)).alloc (.cells #[.bool false] 4)) := ⟨_, rfl⟩
  have hb0 : Below W.heap.size W W2 := by rw [hW2]; exact ((Below.refl _ _).alloc (Nat.le_refl _) _).alloc (by simp) _
  have hN : W2.heap[W.heap.size]? = some (.cells #[.int .i64 f, .int .i64 0, .int .i64 0, .pointer (some ⟨b, o, none⟩), .pointer none, .pointer none] 65 (0, 0)) := by rw [hW2]; exact at_oldN (at_newN rfl)
  have hR : W2.heap[W.heap.size + 1]? = some (.cells #[.bool false] 4 (0, 0)) := by rw [hW2]; exact at_newN (by simp)
  have hBx : Bx < W.heap.size := (Array.getElem?_eq_some_iff.1 hX).1
  have hX2 := (hb0.block Bx hBx).trans hX
  have hF2 := hF.below hb0
  have hT2 := Lib.hid (Touch.of_below hb0 (fun k => k = Bx))
  have hsz2 : W2.heap.size = W.heap.size + 2 := by rw [hW2]; simp
  have hfd : d.Fits := hf
  clear hX hF hf
  go_enter Try.func67, Try.ntmps67
  go_upto_region 1 with fail
  rw [← hW2]
  clear hW2 hb0
  have s0 : W2.cell? ⟨W.heap.size, 0, none⟩ = some (.int .i64 f) := by rw [blk_cell hN]; rfl
  have s1 : W2.cell? ⟨W.heap.size, 1, none⟩ = some (.int .i64 0) := by rw [blk_cell hN]; rfl
  have s2 : W2.cell? ⟨W.heap.size, 2, none⟩ = some (.int .i64 0) := by rw [blk_cell hN]; rfl
  have s3 : W2.cell? ⟨W.heap.size, 3, none⟩ = some (.pointer (some ⟨b, o, none⟩)) := by rw [blk_cell hN]; rfl
  have s4 : W2.cell? ⟨W.heap.size, 4, none⟩ = some (.pointer none) := by rw [blk_cell hN]; rfl
  have s5 : W2.cell? ⟨W.heap.size, 5, none⟩ = some (.pointer none) := by rw [blk_cell hN]; rfl
  replace hX2 := Lib.hid hX2
  replace hN := Lib.hid hN
  replace hR := Lib.hid hR
  replace hF2 := Lib.hid hF2
  replace hfd := Lib.hid hfd
  replace hcl := Lib.hid hcl
  go_upto_region 2 with (go_at_call 42; refine Calls.mono isFunc_v ?_; rintro e w2 ⟨rfl, hb⟩)
  have hX3 := Lib.hid ((hb.block Bx (by omega)).trans hX2.out)
  have hN3 := Lib.hid ((hb.block _ (by omega)).trans hN.out)
  have hR3 := Lib.hid ((hb.block _ (by omega)).trans hR.out)
  have hT3 := Lib.hid (hT2.out.trans (Touch.of_below hb _))
  have hF3 := Lib.hid (hF2.out.below hb)
  have hsz3 : W.heap.size + 2 ≤ w2.heap.size := by have := hb.size; omega
  clear s0 s1 s2 s3 s4 s5 hX2 hN hR hT2 hb hF2 hsz2
  have s3 : w2.cell? ⟨W.heap.size, 3, none⟩ = some (.pointer (some ⟨b, o, none⟩)) := by rw [blk_cell hN3.out]; rfl
  go_upto_region 3 with (go_at_call 68; refine Calls.mono (variables_any hF3.out hfd.out hpl hbl hcl.out) ?_; rintro e w3 ⟨bm, rfl, hge, hset, hb3⟩; have e0 : w3.cell? ⟨Bx, 0, none⟩ = some (.map ob) := (by rw [blk_cell ((hb3.block Bx (by omega)).trans hX3.out)]; rfl); have y0 : w3.frozen? ⟨Bx, 0, none⟩ = false := (by simp [World.frozen?, ((hb3.block Bx (by omega)).trans hX3.out)]))
  have hX4 : (w3.setCell ⟨Bx, 0, none⟩ (.map (some bm))).heap[Bx]? = some (.cells #[.map (some bm)] 69 (0, 0)) := set_one ((hb3.block Bx (by omega)).trans hX3.out)
  have hN4 : (w3.setCell ⟨Bx, 0, none⟩ (.map (some bm))).heap[W.heap.size]? = _ := (Below.heap_setCell _ _ _ _ (show W.heap.size ≠ Bx by omega)).trans ((hb3.block _ (by omega)).trans hN3.out)
  have hR4 : (w3.setCell ⟨Bx, 0, none⟩ (.map (some bm))).heap[W.heap.size + 1]? = _ := (Below.heap_setCell _ _ _ _ (show W.heap.size + 1 ≠ Bx by omega)).trans ((hb3.block _ (by omega)).trans hR3.out)
  have hS4 := hset.block (Below.heap_setCell w3 ⟨Bx, 0, none⟩ (.map (some bm)) bm (show bm ≠ Bx by omega))
  have hT4 : Touch W (w3.setCell ⟨Bx, 0, none⟩ (.map (some bm))) (fun k => k = Bx) := (hT3.out.trans (Touch.of_below hb3 _)).setCell (a := ⟨Bx, 0, none⟩) (fun _ => rfl) _
  clear e0 y0 s3 hX3 hN3 hR3 hT3 hF3 hb3 hset
  generalize (w3.setCell ⟨Bx, 0, none⟩ (.map (some bm))) = w4 at hX4 hN4 hR4 hS4 hT4 ⊢
  have s5 : w4.cell? ⟨W.heap.size, 5, none⟩ = some (.pointer none) := by rw [blk_cell hN4]; rfl
  have r0 : w4.cell? ⟨W.heap.size + 1, 0, none⟩ = some (.bool false) := by rw [blk_cell hR4]; rfl
  have y0 : w4.frozen? ⟨W.heap.size + 1, 0, none⟩ = false := by simp [World.frozen?, hR4]
  have hR5 := Lib.hid (set_one (v0 := .bool false) hR4)
  have hfin : Hid (SetBx Bx (varsL d) (fun k => k = Bx ∨ k = bm) bm (w4.setCell ⟨W.heap.size + 1, 0, none⟩ (.bool false))) := Lib.hid ⟨(Below.heap_setCell _ _ _ _ (show Bx ≠ W.heap.size + 1 by omega)).trans hX4, hS4.block (Below.heap_setCell _ _ _ _ (show bm ≠ W.heap.size + 1 by omega)), by omega, fun k => Iff.rfl⟩
  have hT5 := Lib.hid (hT4.setCell (a := ⟨W.heap.size + 1, 0, none⟩) (fun h => absurd h (by simp)) (.bool false))
  have hgeW : W.heap.size ≤ bm := by omega
  clear hX4 hN4 hR4 hS4 hT4
  go_wp2_with fail
  have c5 : (w4.setCell ⟨W.heap.size + 1, 0, none⟩ (.bool false)).cell? ⟨W.heap.size + 1, 0, none⟩ = some (.bool false) := by rw [blk_cell hR5.out]; rfl
  exact bodyPost_ret (by simp [results, Try.results67, go_sem, c5]) rfl ⟨rfl, bm, hgeW, hfin.out, hT5.out⟩
set_option maxRecDepth 20000 in
set_option maxHeartbeats 4000000 in
theorem c16_blk {W : World} {f k : Nat} {d : Fun} {x : Blk} {vs : Array Value} {Bx bm : Nat} {l : List ByteArray} {U : Nat → Prop} (h : PrtV W (Prt.blk f k d x) vs) (hX : SetBx Bx l U bm W) :
    Calls Try.prog 67 #[.agg vs, .pointer (some ⟨Bx, 0, none⟩)] W fun e W' => e = .returned (.bool false) ∧ SetBx Bx l U bm W' ∧ Touch W W' (fun k => k = bm) := by
  obtain ⟨b, o, b2, o2, rfl, -⟩ := h
  obtain ⟨W2, hW2⟩ : ∃ W2, W2 = ((W.alloc (.cells #[.int .i64 f, .int .i64 k, .int .i64 0, .pointer (some ⟨b, o, none⟩), .pointer (some ⟨b2, o2, none⟩), .pointer none] 65)).alloc (.cells #[.bool false] 4)) := ⟨_, rfl⟩
  have hb0 : Below W.heap.size W W2 := by rw [hW2]; exact ((Below.refl _ _).alloc (Nat.le_refl _) _).alloc (by simp) _
  have hN : W2.heap[W.heap.size]? = some (.cells #[.int .i64 f, .int .i64 k, .int .i64 0, .pointer (some ⟨b, o, none⟩), .pointer (some ⟨b2, o2, none⟩), .pointer none] 65 (0, 0)) := by rw [hW2]; exact at_oldN (at_newN rfl)
  have hR : W2.heap[W.heap.size + 1]? = some (.cells #[.bool false] 4 (0, 0)) := by rw [hW2]; exact at_newN (by simp)
  have hblt : bm < W.heap.size ∧ Bx < W.heap.size := ⟨hX.set.lt, (Array.getElem?_eq_some_iff.1 hX.box).1⟩
  have hM := hX.below hb0
  have hsz2 : W2.heap.size = W.heap.size + 2 := by rw [hW2]; simp
  clear hX
  go_enter Try.func67, Try.ntmps67
  go_upto_region 1 with fail
  rw [← hW2]
  clear hW2
  have s0 : W2.cell? ⟨W.heap.size, 0, none⟩ = some (.int .i64 f) := by rw [blk_cell hN]; rfl
  have s1 : W2.cell? ⟨W.heap.size, 1, none⟩ = some (.int .i64 k) := by rw [blk_cell hN]; rfl
  have s2 : W2.cell? ⟨W.heap.size, 2, none⟩ = some (.int .i64 0) := by rw [blk_cell hN]; rfl
  have s3 : W2.cell? ⟨W.heap.size, 3, none⟩ = some (.pointer (some ⟨b, o, none⟩)) := by rw [blk_cell hN]; rfl
  have s4 : W2.cell? ⟨W.heap.size, 4, none⟩ = some (.pointer (some ⟨b2, o2, none⟩)) := by rw [blk_cell hN]; rfl
  have s5 : W2.cell? ⟨W.heap.size, 5, none⟩ = some (.pointer none) := by rw [blk_cell hN]; rfl
  replace hN := Lib.hid hN
  replace hR := Lib.hid hR
  replace hM := Lib.hid hM
  replace hb0 := Lib.hid hb0
  go_upto_region 3 with (go_at_call 42; refine Calls.mono isFunc_v ?_; rintro e w2 ⟨rfl, hb⟩)
  have hN3 := (hb.block _ (by omega)).trans hN.out
  have hR3 := (hb.block _ (by omega)).trans hR.out
  have s5' : w2.cell? ⟨W.heap.size, 5, none⟩ = some (.pointer none) := by rw [blk_cell hN3]; rfl
  have r0 : w2.cell? ⟨W.heap.size + 1, 0, none⟩ = some (.bool false) := by rw [blk_cell hR3]; rfl
  have y0 : w2.frozen? ⟨W.heap.size + 1, 0, none⟩ = false := by simp [World.frozen?, hR3]
  have hR5 := Lib.hid (set_one (v0 := .bool false) hR3)
  have hb5 : Below W.heap.size W (w2.setCell ⟨W.heap.size + 1, 0, none⟩ (.bool false)) := ((hb0.out.trans (hb.mono (by omega))).setCell (p := ⟨W.heap.size + 1, 0, none⟩) (Nat.le_succ _) _)
  have hM2 := hM.out.below hb
  have hfin := Lib.hid (hM2.calm (W' := w2.setCell ⟨W.heap.size + 1, 0, none⟩ (.bool false)) ((Touch.refl w2 _).setCell (a := ⟨W.heap.size + 1, 0, none⟩) (fun _ hu => by have h1 := (hM2.own _).1 hu; simp at h1; omega) _))
  have hT5 := Lib.hid (Touch.of_below hb5 (fun k => k = bm))
  clear s0 s1 s2 s3 s4 s5 hN hR hM hb hN3 hR3 hb5 hM2 hb0
  go_wp2_with fail
  have c5 : (w2.setCell ⟨W.heap.size + 1, 0, none⟩ (.bool false)).cell? ⟨W.heap.size + 1, 0, none⟩ = some (.bool false) := by rw [blk_cell hR5.out]; rfl
  exact bodyPost_ret (by simp [results, Try.results67, go_sem, c5]) rfl ⟨rfl, hfin.out, hT5.out⟩
/-- The result, out of its cell, behind a range over a function. -/
theorem c16_left {W : World} {D A : Nat} {b : Bool} {x0 x1 x2 x4 x5 x6 x7 x8 x9 x10 x11 x12 x13 x14 x15 x16 x17 x18 x19 x20 x21 : Value} {R : Ending → World → Prop} (hD : W.heap[D]? = some (.deferred (some []))) (h3 : W.heap[A]? = some (.cells #[.bool b] 4 (0, 0))) (hA : A ≠ D)
    (hR : R (.returned (.bool b)) (W.putObj D (.deferred none))) :
    bodyPostM Fence.wide 6 Try.prog Try.f67 R .ret { tmps := #[x0, x1, x2, .pointer (some ⟨A, 0, none⟩), x4, x5, x6, x7, x8, x9, x10, x11, x12, x13, x14, x15, x16, x17, x18, x19, x20, x21], defers := [{ target := .collected D, args := #[] }] } W := by
  refine ⟨by simp, .inl ⟨_, _, rfl, run_takeDeferred hD, ?_⟩⟩
  have g3 : (W.putObj D (.deferred none)).heap[A]? = some (.cells #[.bool b] 4 (0, 0)) := (World.putObj_heap_other hA).trans h3
  generalize W.putObj D (.deferred none) = W2 at g3 hR ⊢
  have c3 : W2.cell? ⟨A, 0, none⟩ = some (.bool b) := by rw [blk_cell g3]; rfl
  exact ⟨.bool b, by simp [results, Try.results67, go_sem, c3], hR⟩
/-- Between two rounds. -/
structure UsSt (A Bx bm : Nat) (l : List ByteArray) (U : Nat → Prop) (W0 : World) (b : Bool) (W : World) : Prop where
  set : SetBx Bx l U bm W
  res : W.heap[A + 1]? = some (.cells #[.bool b] 4 (0, 0))
  bel : Below A W0 W
theorem UsSt.off {A Bx bm : Nat} {l : List ByteArray} {U : Nat → Prop} {W0 W W' : World} {b : Bool} {S : Nat → Prop} (h : UsSt A Bx bm l U W0 b W) (hA : A ≤ W0.heap.size) (hbx : bm < A ∧ Bx < A) (hT : Touch W W' S) (hS : ∀ k, S k → A + 1 < k) : UsSt A Bx bm l U W0 b W' := by
  refine ⟨h.set.calm (hT.mono (fun k _ hs hu => ?_)), (hT.block _ (Array.getElem?_eq_some_iff.1 h.res).1 (fun hs => by have := hS _ hs; omega)).trans h.res, h.bel.trans (hT.below (by have := h.bel.size; omega) (fun k hk hs => by have := hS _ hs; omega))⟩
  have h1 := hS k hs
  rcases (h.set.own k).1 hu with e | e <;> omega
theorem UsSt.turn {A Bx bm : Nat} {l : List ByteArray} {U : Nat → Prop} {W0 W : World} {b b' : Bool} (h : UsSt A Bx bm l U W0 b W) (hA : A ≤ W0.heap.size) (hbx : bm < A ∧ Bx < A) : UsSt A Bx bm l U W0 b' (W.setCell ⟨A + 1, 0, none⟩ (.bool b')) := by
  have hT : Touch W (W.setCell ⟨A + 1, 0, none⟩ (.bool b')) (fun k => k = A + 1) := (Touch.refl W (fun k => k = A + 1)).setCell (a := ⟨A + 1, 0, none⟩) (fun _ => rfl) _
  refine ⟨h.set.calm (hT.mono (fun k _ hs hu => ?_)), set_one h.res, h.bel.trans (hT.below (by have := h.bel.size; omega) (fun k hk hs => by omega))⟩
  rcases (h.set.own k).1 hu with e | e <;> omega
set_option maxRecDepth 100000 in
set_option maxHeartbeats 8000000 in
theorem c16_ins {W : World} {f k i : Nat} {d : Fun} {x : Blk} {c : Ins} {vs : Array Value} {Bx bm : Nat} {l : List ByteArray} {U : Nat → Prop} (hf : (Prt.ins f k i d x c).Fits) (hal : c.args.length ≤ 4000000000000) (h : PrtV W (Prt.ins f k i d x c) vs) (hX : SetBx Bx l U bm W) :
    Calls Try.prog 67 #[.agg vs, .pointer (some ⟨Bx, 0, none⟩)] W fun e W' => e = .returned (.bool (!(usesL c).all fun s => decide (s ∈ l))) ∧ SetBx Bx l U bm W' ∧ Touch W W' (fun k => k = bm) := by
  obtain ⟨b, o, b2, o2, b3, o3, rfl, -, -, hI⟩ := h
  obtain ⟨W2, hW2⟩ : ∃ W2, W2 = ((W.alloc (.cells #[.int .i64 f, .int .i64 k, .int .i64 i, .pointer (some ⟨b, o, none⟩), .pointer (some ⟨b2, o2, none⟩), .pointer (some ⟨b3, o3, none⟩)] 65)).alloc (.cells #[.bool false] 4)) := ⟨_, rfl⟩
  have hb0 : Below W.heap.size W W2 := by rw [hW2]; exact ((Below.refl _ _).alloc (Nat.le_refl _) _).alloc (by simp) _
  have hN : W2.heap[W.heap.size]? = some (.cells #[.int .i64 f, .int .i64 k, .int .i64 i, .pointer (some ⟨b, o, none⟩), .pointer (some ⟨b2, o2, none⟩), .pointer (some ⟨b3, o3, none⟩)] 65 (0, 0)) := by rw [hW2]; exact at_oldN (at_newN rfl)
  have hR : W2.heap[W.heap.size + 1]? = some (.cells #[.bool false] 4 (0, 0)) := by rw [hW2]; exact at_newN (by simp)
  have hblt : bm < W.heap.size ∧ Bx < W.heap.size := ⟨hX.set.lt, (Array.getElem?_eq_some_iff.1 hX.box).1⟩
  have hS2 : UsSt W.heap.size Bx bm l U W false W2 := ⟨hX.below hb0, hR, hb0⟩
  have hI2 := hI.below hb0
  have hsz2 : W2.heap.size = W.heap.size + 2 := by rw [hW2]; simp
  have hfit : ∀ s ∈ usesL c, s.size ≤ maxLen := by
    intro s hs
    have hc := hf.2.2.1
    have h1 := (List.mem_filter.1 hs).1
    rcases List.mem_cons.1 h1 with rfl | h1
    · exact hc.2.2.2.1
    rcases List.mem_cons.1 h1 with rfl | h1
    · exact hc.2.2.2.2.1
    · exact hc.2.2.2.2.2.2.2.1 s h1
  refine (callsIn_wide (n := 6)).1 ?_
  have hfq : Fence.wide.fn 76 := trivial
  have hfF : Fence.wide.fn 42 := trivial
  have hfU : Fence.wide.fn 69 := trivial
  have hfH : Fence.wide.fn 61 := trivial
  have s0 : W2.cell? ⟨W.heap.size, 0, none⟩ = some (.int .i64 f) := by rw [blk_cell hN]; rfl
  have s1 : W2.cell? ⟨W.heap.size, 1, none⟩ = some (.int .i64 k) := by rw [blk_cell hN]; rfl
  have s2 : W2.cell? ⟨W.heap.size, 2, none⟩ = some (.int .i64 i) := by rw [blk_cell hN]; rfl
  have s3 : W2.cell? ⟨W.heap.size, 3, none⟩ = some (.pointer (some ⟨b, o, none⟩)) := by rw [blk_cell hN]; rfl
  have s4 : W2.cell? ⟨W.heap.size, 4, none⟩ = some (.pointer (some ⟨b2, o2, none⟩)) := by rw [blk_cell hN]; rfl
  have s5 : W2.cell? ⟨W.heap.size, 5, none⟩ = some (.pointer (some ⟨b3, o3, none⟩)) := by rw [blk_cell hN]; rfl
  obtain ⟨A, hA⟩ : ∃ A, A = W.heap.size := ⟨_, rfl⟩
  have hbl2 := hb0.size
  refine callsIn_of_wp_marks Try.func67 rfl trivial ?_ rfl
  simp only [Try.ntmps67, List.size_toArray, List.length_cons, List.length_nil, Nat.reduceAdd, Nat.reduceSub, Array.replicate_succ, Array.replicate_zero, List.push_toArray, List.append_toArray, List.nil_append, List.cons_append]
  replace hW2 := hW2.symm
  replace hN := Lib.hid hN
  replace hR := Lib.hid hR
  replace hS2 := Lib.hid hS2
  replace hI2 := Lib.hid hI2
  replace hfit := Lib.hid hfit
  clear hX hI hf hb0
  gi_wp2_with (first
    | (gi_at_call 42; refine (callsIn_wide.2 isFunc_v).mono ?_; rintro e w2 ⟨rfl, hb⟩; have s5' : w2.cell? ⟨W.heap.size, 5, none⟩ = some (.pointer (some ⟨b3, o3, none⟩)) := keepC hb s5)
    | (gi_at_call 69; refine (callsIn_wide.2 (used_call _ _)).mono ?_; rintro e w' ⟨rfl, rfl⟩))
  rw [← hA] at hN hR hblt hS2 hsz2 ⊢
  obtain ⟨B, hB⟩ : ∃ B, B = w2.heap.size := ⟨_, rfl⟩
  have hbs := hb.size
  have hAB : A + 2 ≤ B := by omega
  have hS3 : Hid (UsSt A Bx bm l U W false w2) := Lib.hid (hS2.out.off (by omega) hblt (Touch.of_below hb (fun _ => False)) (fun _ h => h.elim))
  have hI3 := Lib.hid (hI2.out.below hb)
  clear s0 s1 s2 s3 s4 s5 s5' hN hR hS2 hI2 hb hW2 hsz2
  rw [← hB]
  obtain ⟨W3, hW3⟩ : ∃ W3, W3 = w2.alloc (.cells #[.pointer (some ⟨b3, o3, none⟩)] 63) := ⟨_, rfl⟩
  rw [← hW3]
  have hsz3 : W3.heap.size = B + 1 := by rw [hW3, hB]; simp
  have hB3 : W3.heap[B]? = some (.cells #[.pointer (some ⟨b3, o3, none⟩)] 63 (0, 0)) := by rw [hW3]; exact at_newN hB
  have hAW : A ≤ W.heap.size := by omega
  have hAW2 : W.heap.size ≤ A := by omega
  have hS4 : UsSt A Bx bm l U W false W3 := hS3.out.off hAW hblt (by rw [hW3]; exact (Touch.refl w2 (fun _ => False)).alloc _) (fun _ (h : False) => h.elim)
  have hI4 : InsAt W3 b3 o3 c := hI3.out.below (by rw [hW3]; exact box_below _ _)
  clear hW3 hS3 hI3 hB hbs hbl2
  replace hA := Lib.hid hA
  generalize Value.agg #[.int .i64 f, .int .i64 k, .int .i64 i, .pointer (some ⟨b, o, none⟩), .pointer (some ⟨b2, o2, none⟩), .pointer (some ⟨b3, o3, none⟩)] = V
  refine rangeFunc_calm (α := ByteArray) rfl (by omega) (gf := 76) (lb := #[.pointer (some ⟨B, 0, none⟩)]) rfl trivial (enters_of Try.func76 (by kernel_rfl) rfl)
    (fun pre x vs _ => vs = #[.string x] ∧ ∃ rest, usesL c = pre ++ x :: rest)
    (fun Wa Wb => Touch Wa Wb (fun k => k = B + 2))
    (fun pre Wa => pre.all (fun s => decide (s ∈ l)) = true ∧ UsSt A Bx bm l U W false Wa)
    (fun Wa => (usesL c).all (fun s => decide (s ∈ l)) = false ∧ UsSt A Bx bm l U W true Wa)
    (fun pre x a' Wa => ∃ rest, a' = { tmps := #[V, .pointer (some ⟨Bx, 0, none⟩), .pointer (some ⟨A, 0, none⟩), .pointer (some ⟨A + 1, 0, none⟩), .string x, V, .bool false, undef, undef, undef, .pointer (some ⟨A, 5, none⟩), .pointer (some ⟨b3, o3, none⟩), .bool false, .pointer (some ⟨A, 5, none⟩), .pointer (some ⟨b3, o3, none⟩), .func (.func 76) #[] #[.pointer (some ⟨B, 0, none⟩)], .string x, undef, undef, undef, undef, undef], defers := [] } ∧ usesL c = pre ++ x :: rest ∧ pre.all (fun s => decide (s ∈ l)) = true ∧ UsSt A Bx bm l U W false Wa)
    (usesL c) ?hsz ?hcalm ?hI ?hIx ?hAx (fun h k => h.trans k) ?hKp ?h0 ?hseq ?hassign ?hbody ?hdone ?hstop
  case hsz => rintro pre x vs Wa ⟨rfl, -⟩; rfl
  case hcalm => rintro pre Wa Wb ⟨h1, h2⟩ hT; exact ⟨h1, h2.off hAW hblt hT (fun _ h => h.elim)⟩
  case hI => rintro pre Wa r ⟨h1, h2⟩ hl r'; exact ⟨h1, h2.off hAW hblt (touch_putObj _ _ _) (fun k hk => by omega)⟩
  case hIx => rintro Wa r ⟨h1, h2⟩ hl r'; exact ⟨h1, h2.off hAW hblt (touch_putObj _ _ _) (fun k hk => by omega)⟩
  case hAx => rintro pre x a' Wa r ⟨rest, rfl, e1, h1, h2⟩ hl r'; exact ⟨rest, rfl, e1, h1, h2.off hAW hblt (touch_putObj _ _ _) (fun k hk => by omega)⟩
  case hKp => intro Wa r r' hl; exact (touch_putObj Wa _ _).mono (fun k _ hk => by omega)
  case h0 => intro r; exact ⟨by simp, hS4.off hAW hblt (((Touch.refl _ (fun _ => False)).alloc _).alloc _) (fun _ h => h.elim)⟩
  case hseq =>
    intro J Jx r hc hyv hJ0
    refine used_in 5 (by omega) _ J Jx (Bu := B) (Lb := B + 2) (at_oldN (at_oldN hB3)) (hI4.below (((Below.refl _ _).alloc (Nat.le_refl _) _).alloc (by simp) _)) hal (by simp; omega) hc ?_ hJ0
    intro pre x rest W1 e1 e2
    exact hyv pre x _ W1 ⟨rfl, rest, e1⟩ e2
  case hassign =>
    rintro pre x vs Wa Kq ⟨rfl, rest, e1⟩ ⟨h1, h2⟩ hszW hKq
    have hfin := Lib.hid (hKq { tmps := #[V, .pointer (some ⟨Bx, 0, none⟩), .pointer (some ⟨A, 0, none⟩), .pointer (some ⟨A + 1, 0, none⟩), .string x, V, .bool false, undef, undef, undef, .pointer (some ⟨A, 5, none⟩), .pointer (some ⟨b3, o3, none⟩), .bool false, .pointer (some ⟨A, 5, none⟩), .pointer (some ⟨b3, o3, none⟩), .func (.func 76) #[] #[.pointer (some ⟨B, 0, none⟩)], .string x, undef, undef, undef, undef, undef], defers := [] } _ ⟨rest, rfl, e1, h1, h2⟩ rfl rfl (Touch.refl _ _))
    clear hKq e1 h1 h2 hI4 hS4 hB3
    gi_wp2
    exact hfin.out
  case hbody =>
    rintro pre x a' Wa ⟨rest, rfl, e1, h1, h2⟩ hszW
    have k1 : Wa.cell? ⟨Bx, 0, none⟩ = some (.map (some bm)) := by rw [blk_cell h2.set.box]; rfl
    have hb1 := box_below Wa (.cells #[.string x] 9)
    have hx : x ∈ usesL c := by rw [e1]; simp
    have hR : RdS (Wa.alloc (.cells #[.string x] 9)) (.slice (some ⟨Wa.heap.size, 0, none⟩) 1 1) [x] := rds_one (at_newN rfl)
    have hca := Lib.hid ((callsIn_wide (n := 3)).2 (hasAll_any (h2.set.below hb1).set hR (fun s hs => by rw [List.mem_singleton.1 hs]; exact hfit.out x hx) (by simp [maxLen])))
    have e2 : ([x].all fun s => decide (s ∈ l)) = decide (x ∈ l) := by simp
    rw [e2] at hca
    have hq : Hid (∀ q, decide (x ∈ l) = q → ((pre ++ [x]).all (fun s => decide (s ∈ l)) = q)) := Lib.hid (fun q hq => by rw [List.all_append, h1, e2, hq]; rfl)
    have hst := Lib.hid h2
    have hsp := Lib.hid e1
    clear e1 h1 h2 hR hx e2 hI4 hS4 hB3
    generalize hqq : decide (x ∈ l) = q at hca
    replace hq := Lib.hid (hq.out q hqq)
    clear hqq
    cases q with
    | true =>
      gi_wp2
      refine hca.out.mono ?_
      rintro e W5 ⟨rfl, hb5⟩
      have hb6 := hb1.trans (hb5.mono hb1.size)
      have hfin : leftP W3.heap.size (W3.heap.size + 1) (fun Wa => (pre ++ [x]).all (fun s => decide (s ∈ l)) = true ∧ UsSt A Bx bm l U W false Wa) (fun Wa => (usesL c).all (fun s => decide (s ∈ l)) = false ∧ UsSt A Bx bm l U W true Wa) (fun Wa Wb => Touch Wa Wb (fun k => k = B + 2)) Wa .normal { tmps := #[], defers := [] } W5 :=
        ⟨hb6.block _ (by omega), hb6.block _ (by omega), ⟨hq.out, hst.out.off hAW hblt (Touch.of_below hb6 (fun _ => False)) (fun _ h => h.elim)⟩, Touch.of_below hb6 _⟩
      replace hfin := Lib.hid hfin
      clear hb5 hb6 hb1 k1
      gi_wp2
      exact hfin.out
    | false =>
      gi_wp2
      refine hca.out.mono ?_
      rintro e W5 ⟨rfl, hb5⟩
      have hb6 := hb1.trans (hb5.mono hb1.size)
      have hs5 : UsSt A Bx bm l U W false W5 := hst.out.off hAW hblt (Touch.of_below hb6 (fun _ => False)) (fun _ h => h.elim)
      have z3 : W5.cell? ⟨A + 1, 0, none⟩ = some (.bool false) := by rw [blk_cell hs5.res]; rfl
      have y3 : W5.frozen? ⟨A + 1, 0, none⟩ = false := by simp [World.frozen?, hs5.res]
      have hall : (usesL c).all (fun s => decide (s ∈ l)) = false := by
        rw [hsp.out, show pre ++ x :: rest = (pre ++ [x]) ++ rest from by simp, List.all_append, hq.out]
        rfl
      have hfin : leftP W3.heap.size (W3.heap.size + 1) (fun Wa => (pre ++ [x]).all (fun s => decide (s ∈ l)) = true ∧ UsSt A Bx bm l U W false Wa) (fun Wa => (usesL c).all (fun s => decide (s ∈ l)) = false ∧ UsSt A Bx bm l U W true Wa) (fun Wa Wb => Touch Wa Wb (fun k => k = B + 2)) Wa .ret { tmps := #[], defers := [] } (W5.setCell ⟨A + 1, 0, none⟩ (.bool true)) :=
        ⟨(Below.heap_setCell _ _ _ _ (show W3.heap.size ≠ A + 1 by omega)).trans (hb6.block _ (by omega)), (Below.heap_setCell _ _ _ _ (show W3.heap.size + 1 ≠ A + 1 by omega)).trans (hb6.block _ (by omega)), hall, hs5.turn hAW hblt⟩
      replace hfin := Lib.hid hfin
      clear hb5 hb6 hb1 k1 hs5 hall
      gi_wp2
      exact hfin.out
  case hdone =>
    rintro Wa ⟨h1, h2⟩ hD
    have z3 : Wa.cell? ⟨A + 1, 0, none⟩ = some (.bool false) := by rw [blk_cell h2.res]; rfl
    have y3 : Wa.frozen? ⟨A + 1, 0, none⟩ = false := by simp [World.frozen?, h2.res]
    replace h2 := Lib.hid (h2.turn (b' := false) hAW hblt)
    have hD2 := Lib.hid ((Below.heap_setCell Wa ⟨A + 1, 0, none⟩ (.bool false) _ (show W3.heap.size ≠ A + 1 by omega)).trans hD)
    replace h1 := Lib.hid h1
    clear hD
    gi_wp2
    rw [h1.out]
    have hfin := h2.out.off hAW hblt (touch_putObj _ W3.heap.size (.deferred none)) (fun k hk => by omega)
    exact c16_left (D := W3.heap.size) (A := A + 1) (b := false) hD2.out h2.out.res (by omega) ⟨rfl, hfin.set, Touch.of_below (hA.out ▸ hfin.bel) _⟩
  case hstop =>
    rintro Wa ⟨h1, h2⟩ hD
    replace h1 := Lib.hid h1
    replace h2 := Lib.hid h2
    replace hD := Lib.hid hD
    gi_wp2
    rw [h1.out]
    have hfin := h2.out.off hAW hblt (touch_putObj _ W3.heap.size (.deferred none)) (fun k hk => by omega)
    exact c16_left (D := W3.heap.size) (A := A + 1) (b := true) hD.out h2.out.res (by omega) ⟨rfl, hfin.set, Touch.of_below (hA.out ▸ hfin.bel) _⟩
end Go.Proofs.YtjblhiekccjdcaaR
