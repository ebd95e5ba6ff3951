/- names: the function of the rule of variables that are defined twice. -/
import Derived.Test.YtjblhiekccjdcaaRNQuestB
namespace Go.Proofs.YtjblhiekccjdcaaR
open Go.RowKit Go.Maps Go.Shelf

theorem Touch.newer {W w w' : World} {S : Nat → Prop} {bm : Nat} (h : Touch W w S) (hT : Touch w w' (fun k => k = bm)) (hb : W.heap.size ≤ bm) : Touch W w' S :=
  ⟨hT.os.trans h.os, hT.tape.trans h.tape, hT.output.trans h.output, Nat.le_trans h.size hT.size, fun k hk hn => (hT.block k (Nat.lt_of_lt_of_le hk h.size) (fun e => by omega)).trans (h.block k hk hn)⟩
/-- What is no map lies not in the box. -/
theorem cell_off {W W' : World} {Bx : Nat} {ob : Option Nat} (hX : W.heap[Bx]? = some (.cells #[.map ob] 69 (0, 0))) (hT : Touch W W' (fun k => k = Bx)) {p : Addr} {v : Value} (h : W.cell? p = some v) (hv : v ≠ .map ob) : W'.cell? p = some v := by
  have hg : p.block ≠ Bx := by
    intro e
    unfold World.cell? at h
    rw [e, hX] at h
    cases hs : p.spot with
    | none =>
      rw [hs] at h
      simp only at h
      rcases Nat.eq_zero_or_pos p.off with e0 | e0
      · rw [e0] at h
        exact hv (Option.some.inj h).symm
      · rw [Array.getElem?_eq_none (by simp; omega)] at h
        cases h
    | some s =>
      rw [hs] at h
      simp at h
  rw [← h]
  unfold World.cell?
  rw [hT.block p.block (cell_size h) hg]
theorem rds_off {W W' : World} {Bx : Nat} {ob : Option Nat} (hX : W.heap[Bx]? = some (.cells #[.map ob] 69 (0, 0))) (hT : Touch W W' (fun k => k = Bx)) {v : Value} {ss : List ByteArray} (h : RdS W v ss) : RdS W' v ss := by
  rcases h with h | ⟨g, off, cap, e, hlt, hc⟩
  · exact .inl h
  · refine .inr ⟨g, off, cap, e, Nat.lt_of_lt_of_le hlt hT.size, fun i u hu => cell_off hX hT (hc i u hu) ?_⟩
    rintro rfl
    obtain ⟨s, -, e⟩ := List.mem_map.1 (List.mem_of_getElem? hu)
    cases e
theorem given_len (s : ByteArray) : (givenL s).length ≤ 1 := by
  unfold givenL
  split <;> simp
theorem given_fit {s : ByteArray} (h : s.size ≤ maxLen) : ∀ x ∈ givenL s, x.size ≤ maxLen := by
  unfold givenL
  intro x hx
  split at hx
  · cases hx
  · rw [List.mem_singleton.1 hx]; exact h
set_option maxRecDepth 20000 in
set_option maxHeartbeats 4000000 in
theorem c15_fn {W : World} {f : Nat} {d : Fun} {vs : Array Value} {Bx : Nat} {ob : Option Nat} (hf : (Prt.fn f d).Fits) (hp4 : d.params.length ≤ 1000000) (h : PrtV W (Prt.fn f d) vs) (hX : W.heap[Bx]? = some (.cells #[.map ob] 69 (0, 0))) :
    Calls Try.prog 65 #[.agg vs, .pointer (some ⟨Bx, 0, none⟩)] W fun e W' => e = .returned (.bool (twiceL [] d.params).1) ∧ ∃ bm, W.heap.size ≤ bm ∧ SetBx Bx (twiceL [] d.params).2 (fun k => k = Bx ∨ k = bm) bm W' ∧ Touch W W' (fun k => k = Bx) := by
  obtain ⟨b, o, rfl, hF⟩ := h
  obtain ⟨pa, pc, hp, rp⟩ := hF.params
  have hfit : ∀ s ∈ d.params, s.size ≤ maxLen := hf.2.1
  have hD := Lib.hid (fun (W' : World) (hT : Touch W W' (fun k => k = Bx)) => (⟨cell_off hX hT hp (by simp), rds_off hX hT rp⟩ : W'.cell? ⟨b, o + 1, none⟩ = some (.slice pa d.params.length pc) ∧ RdS W' (.slice pa d.params.length pc) d.params))
  clear hF hp rp hf
  generalize hn : d.params.length = n at hD hp4
  replace hn := Lib.hid hn
  have hX1 := (box_below W (.cells #[.int .i64 f, .int .i64 0, .int .i64 0, .pointer (some ⟨b, o, none⟩), .pointer none, .pointer none] 65)).block Bx (Array.getElem?_eq_some_iff.1 hX).1
  rw [hX] at hX1
  have hN : (W.alloc (.cells #[.int .i64 f, .int .i64 0, .int .i64 0, .pointer (some ⟨b, o, none⟩), .pointer none, .pointer none] 65)).heap[W.heap.size]? = some (.cells #[.int .i64 f, .int .i64 0, .int .i64 0, .pointer (some ⟨b, o, none⟩), .pointer none, .pointer none] 65 (0, 0)) := at_newN rfl
  have hT : Touch W (W.alloc (.cells #[.int .i64 f, .int .i64 0, .int .i64 0, .pointer (some ⟨b, o, none⟩), .pointer none, .pointer none] 65)) (fun k => k = Bx) := Touch.of_below (box_below W _) _
  have hBx : Bx < W.heap.size := (Array.getElem?_eq_some_iff.1 hX).1
  clear hX
  have hmm := @run_makeMap Try.prog
  go_enter Try.func65, Try.ntmps65
  go_upto_region 1 with fail
  generalize (W.alloc (.cells #[.int .i64 f, .int .i64 0, .int .i64 0, .pointer (some ⟨b, o, none⟩), .pointer none, .pointer none] 65)) = wb at hX1 hN hT ⊢
  have hlt := (Array.getElem?_eq_some_iff.1 hN).1
  have s0 : wb.cell? ⟨W.heap.size, 0, none⟩ = some (.int .i64 f) := by rw [blk_cell hN]; rfl
  have s1 : wb.cell? ⟨W.heap.size, 1, none⟩ = some (.int .i64 0) := by rw [blk_cell hN]; rfl
  have s2 : wb.cell? ⟨W.heap.size, 2, none⟩ = some (.int .i64 0) := by rw [blk_cell hN]; rfl
  have s3 : wb.cell? ⟨W.heap.size, 3, none⟩ = some (.pointer (some ⟨b, o, none⟩)) := by rw [blk_cell hN]; rfl
  have s4 : wb.cell? ⟨W.heap.size, 4, none⟩ = some (.pointer none) := by rw [blk_cell hN]; rfl
  have s5 : wb.cell? ⟨W.heap.size, 5, none⟩ = some (.pointer none) := by rw [blk_cell hN]; rfl
  replace hX1 := Lib.hid hX1
  replace hN := Lib.hid hN
  replace hT := Lib.hid hT
  go_upto_region 2 with (go_at_call 42; refine Calls.mono isFunc_v ?_; rintro e w2 ⟨rfl, hb⟩)
  have hX2 := Lib.hid ((hb.block Bx (by omega)).trans hX1.out)
  have hN2 := Lib.hid ((hb.block _ hlt).trans hN.out)
  have hT2 := Lib.hid (hT.out.trans (Touch.of_below hb _))
  have hlt2 := Nat.lt_of_lt_of_le hlt hb.size
  have e0 : w2.cell? ⟨Bx, 0, none⟩ = some (.map ob) := by rw [blk_cell hX2.out]; rfl
  have y0 : w2.frozen? ⟨Bx, 0, none⟩ = false := by simp [World.frozen?, hX2.out]
  have e1 : (w2.alloc (.map #[] 0)).cell? ⟨Bx, 0, none⟩ = some (.map ob) := by rw [blk_cell (at_oldN hX2.out)]; rfl
  have y1 : (w2.alloc (.map #[] 0)).frozen? ⟨Bx, 0, none⟩ = false := by simp [World.frozen?, at_oldN hX2.out]
  clear s0 s1 s2 s3 s4 s5 hX1 hN hT hb hlt
  go_upto_region 3 with fail
  have hN4 : ((w2.alloc (.map #[] 0)).setCell ⟨Bx, 0, none⟩ (.map (some w2.heap.size))).heap[W.heap.size]? = some (.cells #[.int .i64 f, .int .i64 0, .int .i64 0, .pointer (some ⟨b, o, none⟩), .pointer none, .pointer none] 65 (0, 0)) := (Below.heap_setCell _ _ _ _ (show W.heap.size ≠ Bx by omega)).trans (at_oldN hN2.out)
  have hM4 : SetBx Bx [] (fun k => k = Bx ∨ k = w2.heap.size) w2.heap.size ((w2.alloc (.map #[] 0)).setCell ⟨Bx, 0, none⟩ (.map (some w2.heap.size))) :=
    ⟨set_one (at_oldN hX2.out), (SetS.new w2).block (Below.heap_setCell _ _ _ _ (show w2.heap.size ≠ Bx by omega)), by omega, fun k => Iff.rfl⟩
  have hT4 : Touch W ((w2.alloc (.map #[] 0)).setCell ⟨Bx, 0, none⟩ (.map (some w2.heap.size))) (fun k => k = Bx) := (hT2.out.alloc _).setCell (a := ⟨Bx, 0, none⟩) (fun _ => rfl) _
  have hge : W.heap.size ≤ w2.heap.size := by omega
  clear hX2 hN2 hT2 e0 y0 e1 y1 hlt2 hmm
  generalize ((w2.alloc (.map #[] 0)).setCell ⟨Bx, 0, none⟩ (.map (some w2.heap.size))) = w4 at hN4 hM4 hT4 ⊢
  generalize w2.heap.size = bm at hM4 hge ⊢
  obtain ⟨q1, hR⟩ := hD.out w4 hT4
  have hC : w4.drew.cell? ⟨W.heap.size, 3, none⟩ = some (.pointer (some ⟨b, o, none⟩)) ∧ w4.drew.cell? ⟨W.heap.size, 3, none⟩ = some (.pointer (some ⟨b, o, none⟩)) ∧ w4.drew.cell? ⟨W.heap.size, 3, none⟩ = some (.pointer (some ⟨b, o, none⟩)) ∧ w4.drew.cell? ⟨W.heap.size, 3, none⟩ = some (.pointer (some ⟨b, o, none⟩)) ∧ w4.drew.cell? ⟨W.heap.size, 3, none⟩ = some (.pointer (some ⟨b, o, none⟩)) ∧ w4.drew.cell? ⟨W.heap.size, 3, none⟩ = some (.pointer (some ⟨b, o, none⟩)) ∧ w4.drew.cell? ⟨b, o + 1, none⟩ = some (.slice pa n pc) ∧ w4.drew.cell? ⟨Bx, 0, none⟩ = some (.map (some bm)) := ⟨by rw [show w4.drew.cell? ⟨W.heap.size, 3, none⟩ = w4.cell? ⟨W.heap.size, 3, none⟩ from rfl, blk_cell hN4]; rfl, by rw [show w4.drew.cell? ⟨W.heap.size, 3, none⟩ = w4.cell? ⟨W.heap.size, 3, none⟩ from rfl, blk_cell hN4]; rfl, by rw [show w4.drew.cell? ⟨W.heap.size, 3, none⟩ = w4.cell? ⟨W.heap.size, 3, none⟩ from rfl, blk_cell hN4]; rfl, by rw [show w4.drew.cell? ⟨W.heap.size, 3, none⟩ = w4.cell? ⟨W.heap.size, 3, none⟩ from rfl, blk_cell hN4]; rfl, by rw [show w4.drew.cell? ⟨W.heap.size, 3, none⟩ = w4.cell? ⟨W.heap.size, 3, none⟩ from rfl, blk_cell hN4]; rfl, by rw [show w4.drew.cell? ⟨W.heap.size, 3, none⟩ = w4.cell? ⟨W.heap.size, 3, none⟩ from rfl, blk_cell hN4]; rfl, q1, (show w4.cell? ⟨Bx, 0, none⟩ = some (.map (some bm)) from by rw [blk_cell hM4.box]; rfl)⟩
  have hM : Hid (SetBx Bx [] (fun k => k = Bx ∨ k = bm) bm w4.drew) := Lib.hid (hM4.below (Below.refl _ _).drew)
  have hT : Hid (Touch W w4.drew (fun k => k = Bx)) := Lib.hid hT4.drew
  replace hR : RdS w4.drew _ _ := Rd.below hR (Below.refl _ _).drew
  clear hN4 hM4 hT4 hD q1
  refine wp_region_held_drew (S := (fun w' => w'.cell? ⟨W.heap.size, 3, none⟩ = some (.pointer (some ⟨b, o, none⟩)) ∧ w'.cell? ⟨W.heap.size, 3, none⟩ = some (.pointer (some ⟨b, o, none⟩)) ∧ w'.cell? ⟨W.heap.size, 3, none⟩ = some (.pointer (some ⟨b, o, none⟩)) ∧ w'.cell? ⟨W.heap.size, 3, none⟩ = some (.pointer (some ⟨b, o, none⟩)) ∧ w'.cell? ⟨W.heap.size, 3, none⟩ = some (.pointer (some ⟨b, o, none⟩)) ∧ w'.cell? ⟨W.heap.size, 3, none⟩ = some (.pointer (some ⟨b, o, none⟩)) ∧ w'.cell? ⟨b, o + 1, none⟩ = some (.slice pa n pc) ∧ w'.cell? ⟨Bx, 0, none⟩ = some (.map (some bm)))) (by kernel_rfl) hC (fun hHeld => ?_)
  clear hHeld
  refine wpAnyH_take (i := 0) (oi := (Oper.mk (some 7) (Op.load 69 (Operand.tmp 1)) 69 "rules.go:198" #[] none)) (v := ?_) rfl (by kernel_rfl) (by kernel_rfl) (by kernel_rfl) (fun _ _ _ h => h) (Or.inl ⟨by rfl, ?_⟩) hC ?_
  rotate_left
  · (intro w hSw; (try dsimp only at hSw); go_simp; try with_reducible rfl)
  try simp only [Act.put, List.setIfInBounds_toArray, List.set_cons_zero, List.set_cons_succ]
  refine wpAnyH_take (i := 1) (oi := (Oper.mk (some 8) (Op.fieldAddr 65 (Operand.tmp 2) 1) 0 "rules.go:198" #[] none)) (v := ?_) rfl (by kernel_rfl) (by kernel_rfl) (by kernel_rfl) (fun _ _ _ h => h) (Or.inl ⟨by rfl, ?_⟩) hC ?_
  rotate_left
  · (intro w hSw; (try dsimp only at hSw); go_simp; try with_reducible rfl)
  try simp only [Act.put, List.setIfInBounds_toArray, List.set_cons_zero, List.set_cons_succ]
  refine wpAnyH_take (i := 2) (oi := (Oper.mk (some 9) (Op.load 61 (Operand.tmp 8)) 61 "rules.go:198" #[(Edge.mk 1 Ground.data)] none)) (v := ?_) rfl (by kernel_rfl) (by kernel_rfl) (by kernel_rfl) (fun _ _ _ h => h) (Or.inl ⟨by rfl, ?_⟩) hC ?_
  rotate_left
  · (intro w hSw; (try dsimp only at hSw); go_simp; try with_reducible rfl)
  try simp only [Act.put, List.setIfInBounds_toArray, List.set_cons_zero, List.set_cons_succ]
  refine wpAnyH_take (i := 3) (oi := (Oper.mk (some 10) (Op.nilCheck (Operand.tmp 9)) 0 "rules.go:198" #[(Edge.mk 2 Ground.data)] none)) (v := ?_) rfl (by kernel_rfl) (by kernel_rfl) (by kernel_rfl) (fun _ _ _ h => h) (Or.inl ⟨by rfl, ?_⟩) hC ?_
  rotate_left
  · (intro w hSw; (try dsimp only at hSw); go_simp; try with_reducible rfl)
  try simp only [Act.put, List.setIfInBounds_toArray, List.set_cons_zero, List.set_cons_succ]
  refine wpAnyH_take (i := 4) (oi := (Oper.mk (some 11) (Op.fieldAddr 39 (Operand.tmp 10) 1) 0 "rules.go:198" #[(Edge.mk 3 Ground.data)] none)) (v := ?_) rfl (by kernel_rfl) (by kernel_rfl) (by kernel_rfl) (fun _ _ _ h => h) (Or.inl ⟨by rfl, ?_⟩) hC ?_
  rotate_left
  · (intro w hSw; (try dsimp only at hSw); go_simp; try with_reducible rfl)
  try simp only [Act.put, List.setIfInBounds_toArray, List.set_cons_zero, List.set_cons_succ]
  refine wpAnyH_take (i := 5) (oi := (Oper.mk (some 12) (Op.load 36 (Operand.tmp 11)) 36 "rules.go:198" #[(Edge.mk 4 Ground.data)] none)) (v := ?_) rfl (by kernel_rfl) (by kernel_rfl) (by kernel_rfl) (fun _ _ _ h => h) (Or.inl ⟨by rfl, ?_⟩) hC ?_
  rotate_left
  · (intro w hSw; (try dsimp only at hSw); go_simp; try with_reducible rfl)
  try simp only [Act.put, List.setIfInBounds_toArray, List.set_cons_zero, List.set_cons_succ]
  refine wpAnyH_ready (rs := [6]) (by kernel_rfl) (by simp) (AllReadyH.cons (o := (Oper.mk (some 13) (Op.call (Call.mk (Callee.value (Operand.func 47)) #[(Operand.tmp 7), (Operand.tmp 12)] #[69, 36])) 4 "rules.go:198" #[(Edge.mk 0 Ground.data), (Edge.mk 5 Ground.data)] none)) rfl (fun K hK => ?_) AllReadyH.nil)
  go_simp
  (go_at_call 47; refine Calls.mono (twice_any hM.out.set hR hfit (by rw [hn.out]; simp; omega)) ?_; rintro e w3 ⟨rfl, hs3, hT3⟩; replace hC := conj8 (fun h => cell_apart hM.out.set hT3 h) hC; replace hT := Lib.hid (hT.out.newer hT3 hge); replace hM := Lib.hid (hM.out.turned hs3 hT3))
  refine hK.out _ _ hC (fun hHeld => ?_)
  clear hK K hHeld
  try simp only [Act.put, List.setIfInBounds_toArray, List.set_cons_zero, List.set_cons_succ]
  refine wpAnyH_take (i := 7) (oi := (Oper.mk (some 3) (Op.assign (Operand.tmp 13)) 4 "rules.go:198" #[(Edge.mk 6 Ground.data), (Edge.mk 6 Ground.chain), (Edge.mk 0 Ground.phase), (Edge.mk 1 Ground.phase), (Edge.mk 2 Ground.phase), (Edge.mk 3 Ground.phase), (Edge.mk 4 Ground.phase), (Edge.mk 5 Ground.phase), (Edge.mk 6 Ground.phase)] none)) (v := ?_) rfl (by kernel_rfl) (by kernel_rfl) (by kernel_rfl) (fun _ _ _ h => h) (Or.inl ⟨by rfl, ?_⟩) hC ?_
  rotate_left
  · (intro w hSw; (try dsimp only at hSw); go_simp; try with_reducible rfl)
  try simp only [Act.put, List.setIfInBounds_toArray, List.set_cons_zero, List.set_cons_succ]
  refine wpAnyH_done (by kernel_rfl) ?_ _
  go_wp2_with fail
  go_ret
  exact ⟨rfl, bm, hge, hM.out, hT.out⟩
set_option maxRecDepth 20000 in
set_option maxHeartbeats 4000000 in
theorem c15_blk {W : World} {f k : Nat} {d : Fun} {x : Blk} {vs : Array Value} {Bx bm : Nat} {l : List ByteArray} {U : Nat → Prop} (hf : (Prt.blk f k d x).Fits) (h : PrtV W (Prt.blk f k d x) vs) (hX : SetBx Bx l U bm W) (hll : l.length ≤ 2000000000000000000) :
    Calls Try.prog 65 #[.agg vs, .pointer (some ⟨Bx, 0, none⟩)] W fun e W' => e = .returned (.bool false) ∧ SetBx Bx l U bm W' ∧ Touch W W' (fun k => k = bm) := by
  obtain ⟨b, o, b2, o2, ca, cc, rfl, hF⟩ := BlkBox.mk' h
  have hB0 := box_below W (.cells #[.int .i64 f, .int .i64 k, .int .i64 0, .pointer (some ⟨b, o, none⟩), .pointer (some ⟨b2, o2, none⟩), .pointer none] 65)
  have hM := hX.below hB0
  have hT := Touch.of_below hB0 (fun k => k = bm)
  clear h hX hB0
  go_enter Try.func65, Try.ntmps65
  go_upto_region 1 with fail
  generalize (W.alloc (.cells #[.int .i64 f, .int .i64 k, .int .i64 0, .pointer (some ⟨b, o, none⟩), .pointer (some ⟨b2, o2, none⟩), .pointer none] 65)) = wb at hF hM hT ⊢
  replace hF := Lib.hid hF
  replace hM := Lib.hid hM
  replace hT := Lib.hid hT
  obtain ⟨s0, s1, s2, s3, s4, s5, f0, f1⟩ := hF.out
  go_wp2_with ((go_at_call 42; refine Calls.mono (isFunc_v) ?_; rintro e w2 ⟨rfl, hb⟩; replace hF := Lib.hid (hF.out.keep hb); replace hM := Lib.hid (hM.out.below hb); replace hT := Lib.hid (hT.out.trans (Touch.of_below hb _))))
  clear s0 s1 s2 s3 s4 s5 f0 f1
  obtain ⟨s0, s1, s2, s3, s4, s5, f0, f1⟩ := hF.out
  go_quiet (fail)
  replace hM := Lib.hid (hM.out.below (below_drawn (Below.refl _ _) nq))
  replace hT := Lib.hid (hT.out.trans (Touch.of_below (below_drawn (Below.refl _ _) nq) _))
  go_wp2_with fail
  go_ret
  exact ⟨rfl, hM.out, hT.out⟩
set_option maxRecDepth 20000 in
set_option maxHeartbeats 4000000 in
theorem c15_ins {W : World} {f k i : Nat} {d : Fun} {x : Blk} {c : Ins} {vs : Array Value} {Bx bm : Nat} {l : List ByteArray} {U : Nat → Prop} (hf : (Prt.ins f k i d x c).Fits) (h : PrtV W (Prt.ins f k i d x c) vs) (hX : SetBx Bx l U bm W) (hll : l.length ≤ 2000000000000000000) :
    Calls Try.prog 65 #[.agg vs, .pointer (some ⟨Bx, 0, none⟩)] W fun e W' => e = .returned (.bool (twiceL l (givenL c.dst)).1) ∧ SetBx Bx (twiceL l (givenL c.dst)).2 U bm W' ∧ Touch W W' (fun k => k = bm) := by
  obtain ⟨b, o, b2, o2, b3, o3, ca, aa, la, cc, ac, lc, rfl, hF⟩ := InsBox.mk' h
  have hB0 := box_below W (.cells #[.int .i64 f, .int .i64 k, .int .i64 i, .pointer (some ⟨b, o, none⟩), .pointer (some ⟨b2, o2, none⟩), .pointer (some ⟨b3, o3, none⟩)] 65)
  have hM := hX.below hB0
  have hT := Touch.of_below hB0 (fun k => k = bm)
  have hfit : c.dst.size ≤ maxLen := hf.2.2.1.2.2.1
  clear h hX hB0
  go_enter Try.func65, Try.ntmps65
  go_upto_region 1 with fail
  generalize (W.alloc (.cells #[.int .i64 f, .int .i64 k, .int .i64 i, .pointer (some ⟨b, o, none⟩), .pointer (some ⟨b2, o2, none⟩), .pointer (some ⟨b3, o3, none⟩)] 65)) = wb at hF hM hT ⊢
  replace hF := Lib.hid hF
  replace hM := Lib.hid hM
  replace hT := Lib.hid hT
  obtain ⟨s0, s1, s2, s3, s4, s5, f1, c0, c1, c5, c6, c7, hat, ra, rl, rc⟩ := hF.out
  go_wp2_with ((go_at_call 42; refine Calls.mono (isFunc_v) ?_; rintro e w2 ⟨rfl, hb⟩; replace hF := Lib.hid (hF.out.keep hb); replace hM := Lib.hid (hM.out.below hb); replace hT := Lib.hid (hT.out.trans (Touch.of_below hb _))))
  have hC : w2.drew.cell? ⟨W.heap.size, 0, none⟩ = some (.int .i64 f) ∧ w2.drew.cell? ⟨W.heap.size, 1, none⟩ = some (.int .i64 k) ∧ w2.drew.cell? ⟨W.heap.size, 2, none⟩ = some (.int .i64 i) ∧ w2.drew.cell? ⟨W.heap.size, 3, none⟩ = some (.pointer (some ⟨b, o, none⟩)) ∧ w2.drew.cell? ⟨W.heap.size, 4, none⟩ = some (.pointer (some ⟨b2, o2, none⟩)) ∧ w2.drew.cell? ⟨W.heap.size, 5, none⟩ = some (.pointer (some ⟨b3, o3, none⟩)) ∧ w2.drew.cell? ⟨b3, o3 + 1, none⟩ = some (.string c.dst) ∧ w2.drew.cell? ⟨Bx, 0, none⟩ = some (.map (some bm)) := ⟨hF.out.s0, hF.out.s1, hF.out.s2, hF.out.s3, hF.out.s4, hF.out.s5, hF.out.c1, (show w2.cell? ⟨Bx, 0, none⟩ = some (.map (some bm)) from by rw [blk_cell hM.out.box]; rfl)⟩
  replace hM := Lib.hid (hM.out.below (Below.refl _ _).drew)
  replace hT := Lib.hid hT.out.drew
  clear s0 s1 s2 s3 s4 s5 f1 c0 c1 c5 c6 c7 hat ra rl rc hF
  refine wp_region_held_drew (S := (fun w' => w'.cell? ⟨W.heap.size, 0, none⟩ = some (.int .i64 f) ∧ w'.cell? ⟨W.heap.size, 1, none⟩ = some (.int .i64 k) ∧ w'.cell? ⟨W.heap.size, 2, none⟩ = some (.int .i64 i) ∧ w'.cell? ⟨W.heap.size, 3, none⟩ = some (.pointer (some ⟨b, o, none⟩)) ∧ w'.cell? ⟨W.heap.size, 4, none⟩ = some (.pointer (some ⟨b2, o2, none⟩)) ∧ w'.cell? ⟨W.heap.size, 5, none⟩ = some (.pointer (some ⟨b3, o3, none⟩)) ∧ w'.cell? ⟨b3, o3 + 1, none⟩ = some (.string c.dst) ∧ w'.cell? ⟨Bx, 0, none⟩ = some (.map (some bm)))) (by kernel_rfl) hC (fun hHeld => ?_)
  clear hHeld
  refine wpAnyH_take (i := 0) (oi := (Oper.mk (some 14) (Op.fieldAddr 65 (Operand.tmp 2) 3) 0 "rules.go:200" #[] none)) (v := ?_) rfl (by kernel_rfl) (by kernel_rfl) (by kernel_rfl) (fun _ _ _ h => h) (Or.inl ⟨by rfl, ?_⟩) hC ?_
  rotate_left
  · (intro w hSw; (try dsimp only at hSw); go_simp; try with_reducible rfl)
  try simp only [Act.put, List.setIfInBounds_toArray, List.set_cons_zero, List.set_cons_succ]
  refine wpAnyH_take (i := 1) (oi := (Oper.mk (some 15) (Op.load 63 (Operand.tmp 14)) 63 "rules.go:200" #[(Edge.mk 0 Ground.data)] none)) (v := ?_) rfl (by kernel_rfl) (by kernel_rfl) (by kernel_rfl) (fun _ _ _ h => h) (Or.inl ⟨by rfl, ?_⟩) hC ?_
  rotate_left
  · (intro w hSw; (try dsimp only at hSw); go_simp; try with_reducible rfl)
  try simp only [Act.put, List.setIfInBounds_toArray, List.set_cons_zero, List.set_cons_succ]
  refine wpAnyH_take (i := 2) (oi := (Oper.mk (some 16) (Op.binOp BinOp.neq 63 (Operand.tmp 15) (Operand.const (Value.pointer none)) 63) 4 "rules.go:200" #[(Edge.mk 1 Ground.data)] none)) (v := ?_) rfl (by kernel_rfl) (by kernel_rfl) (by kernel_rfl) (fun _ _ _ h => h) (Or.inl ⟨by rfl, ?_⟩) hC ?_
  rotate_left
  · (intro w hSw; (try dsimp only at hSw); go_simp; try with_reducible rfl)
  try simp only [Act.put, List.setIfInBounds_toArray, List.set_cons_zero, List.set_cons_succ]
  refine wpAnyH_take (i := 3) (oi := (Oper.mk (some 17) (Op.move (Operand.tmp 16)) 4 "rules.go:200" #[(Edge.mk 2 Ground.data)] none)) (v := ?_) rfl (by kernel_rfl) (by kernel_rfl) (by kernel_rfl) (fun _ _ _ h => h) (Or.inl ⟨by rfl, ?_⟩) hC ?_
  rotate_left
  · (intro w hSw; (try dsimp only at hSw); go_simp; try with_reducible rfl)
  try simp only [Act.put, List.setIfInBounds_toArray, List.set_cons_zero, List.set_cons_succ]
  refine wpAnyH_take (i := 4) (oi := (Oper.mk (some 18) (Op.load 69 (Operand.tmp 1)) 69 "rules.go:200" #[(Edge.mk 3 Ground.guard)] (some (3, true)))) (v := ?_) rfl (by kernel_rfl) (by kernel_rfl) (by kernel_rfl) (fun _ _ _ h => h) (Or.inl ⟨by rfl, ?_⟩) hC ?_
  rotate_left
  · (intro w hSw; (try dsimp only at hSw); go_simp; try with_reducible rfl)
  try simp only [Act.put, List.setIfInBounds_toArray, List.set_cons_zero, List.set_cons_succ]
  refine wpAnyH_take (i := 5) (oi := (Oper.mk (some 19) (Op.fieldAddr 65 (Operand.tmp 2) 3) 0 "rules.go:200" #[(Edge.mk 3 Ground.guard)] (some (3, true)))) (v := ?_) rfl (by kernel_rfl) (by kernel_rfl) (by kernel_rfl) (fun _ _ _ h => h) (Or.inl ⟨by rfl, ?_⟩) hC ?_
  rotate_left
  · (intro w hSw; (try dsimp only at hSw); go_simp; try with_reducible rfl)
  try simp only [Act.put, List.setIfInBounds_toArray, List.set_cons_zero, List.set_cons_succ]
  refine wpAnyH_take (i := 6) (oi := (Oper.mk (some 20) (Op.load 63 (Operand.tmp 19)) 63 "rules.go:200" #[(Edge.mk 5 Ground.data), (Edge.mk 3 Ground.guard)] (some (3, true)))) (v := ?_) rfl (by kernel_rfl) (by kernel_rfl) (by kernel_rfl) (fun _ _ _ h => h) (Or.inl ⟨by rfl, ?_⟩) hC ?_
  rotate_left
  · (intro w hSw; (try dsimp only at hSw); go_simp; try with_reducible rfl)
  try simp only [Act.put, List.setIfInBounds_toArray, List.set_cons_zero, List.set_cons_succ]
  refine wpAnyH_take (i := 7) (oi := (Oper.mk (some 21) (Op.nilCheck (Operand.tmp 20)) 0 "rules.go:200" #[(Edge.mk 6 Ground.data), (Edge.mk 3 Ground.guard)] (some (3, true)))) (v := ?_) rfl (by kernel_rfl) (by kernel_rfl) (by kernel_rfl) (fun _ _ _ h => h) (Or.inl ⟨by rfl, ?_⟩) hC ?_
  rotate_left
  · (intro w hSw; (try dsimp only at hSw); go_simp; try with_reducible rfl)
  try simp only [Act.put, List.setIfInBounds_toArray, List.set_cons_zero, List.set_cons_succ]
  refine wpAnyH_take (i := 8) (oi := (Oper.mk (some 22) (Op.fieldAddr 47 (Operand.tmp 21) 1) 0 "rules.go:200" #[(Edge.mk 7 Ground.data), (Edge.mk 3 Ground.guard)] (some (3, true)))) (v := ?_) rfl (by kernel_rfl) (by kernel_rfl) (by kernel_rfl) (fun _ _ _ h => h) (Or.inl ⟨by rfl, ?_⟩) hC ?_
  rotate_left
  · (intro w hSw; (try dsimp only at hSw); go_simp; try with_reducible rfl)
  try simp only [Act.put, List.setIfInBounds_toArray, List.set_cons_zero, List.set_cons_succ]
  refine wpAnyH_take (i := 9) (oi := (Oper.mk (some 23) (Op.load 9 (Operand.tmp 22)) 9 "rules.go:200" #[(Edge.mk 8 Ground.data), (Edge.mk 3 Ground.guard)] (some (3, true)))) (v := ?_) rfl (by kernel_rfl) (by kernel_rfl) (by kernel_rfl) (fun _ _ _ h => h) (Or.inl ⟨by rfl, ?_⟩) hC ?_
  rotate_left
  · (intro w hSw; (try dsimp only at hSw); go_simp; try with_reducible rfl)
  try simp only [Act.put, List.setIfInBounds_toArray, List.set_cons_zero, List.set_cons_succ]
  refine wpAnyH_ready (rs := [10]) (by kernel_rfl) (by simp) (AllReadyH.cons (o := (Oper.mk (some 24) (Op.buildSlice 36 1 #[(0, (Operand.tmp 23))]) 36 "rules.go:200" #[(Edge.mk 9 Ground.data), (Edge.mk 3 Ground.guard)] (some (3, true)))) rfl (fun K hK => ?_) AllReadyH.nil)
  go_simp
  have hb9 := box_below w2.drew (.cells #[.string c.dst] 9); have hR : RdS (w2.drew.alloc (.cells #[.string c.dst] 9)) (.slice (some ⟨w2.drew.heap.size, 0, none⟩) 1 1) [c.dst] := rds_one (at_newN rfl); replace hC := conj8 (fun h => keepC hb9 h) hC; replace hM := Lib.hid (hM.out.below hb9); replace hT := Lib.hid (hT.out.trans (Touch.of_below hb9 _))
  refine hK.out _ _ hC (fun hHeld => ?_)
  clear hK K hHeld
  try simp only [Act.put, List.setIfInBounds_toArray, List.set_cons_zero, List.set_cons_succ]
  refine wpAnyH_ready (rs := [11]) (by kernel_rfl) (by simp) (AllReadyH.cons (o := (Oper.mk (some 25) (Op.call (Call.mk (Callee.value (Operand.func 66)) #[(Operand.tmp 24)] #[36])) 36 "rules.go:200" #[(Edge.mk 10 Ground.data), (Edge.mk 3 Ground.chain), (Edge.mk 3 Ground.guard)] (some (3, true)))) rfl (fun K hK => ?_) AllReadyH.nil)
  go_simp
  (go_at_call 66; refine Calls.mono (given_one hR hfit) ?_; rintro e w5 ⟨v5, rfl, hR5, hb5⟩; obtain ⟨a5, c5, rfl⟩ := hR5.shape; replace hC := conj8 (fun h => keepC hb5 h) hC; replace hM := Lib.hid (hM.out.below hb5); replace hT := Lib.hid (hT.out.trans (Touch.of_below hb5 _)))
  refine hK.out _ _ hC (fun hHeld => ?_)
  clear hK K hHeld
  try simp only [Act.put, List.setIfInBounds_toArray, List.set_cons_zero, List.set_cons_succ]
  refine wpAnyH_ready (rs := [12]) (by kernel_rfl) (by simp) (AllReadyH.cons (o := (Oper.mk (some 26) (Op.call (Call.mk (Callee.value (Operand.func 47)) #[(Operand.tmp 18), (Operand.tmp 25)] #[69, 36])) 4 "rules.go:200" #[(Edge.mk 4 Ground.data), (Edge.mk 11 Ground.data), (Edge.mk 11 Ground.chain), (Edge.mk 3 Ground.guard)] (some (3, true)))) rfl (fun K hK => ?_) AllReadyH.nil)
  go_simp
  (go_at_call 47; refine Calls.mono (twice_any hM.out.set hR5 (given_fit hfit) (by have := given_len c.dst; omega)) ?_; rintro e w3 ⟨rfl, hs3, hT3⟩; replace hC := conj8 (fun h => cell_apart hM.out.set hT3 h) hC; replace hT := Lib.hid (hT.out.trans hT3); replace hM := Lib.hid (hM.out.turned hs3 hT3))
  refine hK.out _ _ hC (fun hHeld => ?_)
  clear hK K hHeld
  try simp only [Act.put, List.setIfInBounds_toArray, List.set_cons_zero, List.set_cons_succ]
  refine wpAnyH_take (i := 13) (oi := (Oper.mk (some 27) (Op.pick (Operand.tmp 17) (Operand.tmp 26) (Operand.const (Value.bool false))) 4 "rules.go:200" #[(Edge.mk 3 Ground.data), (Edge.mk 12 Ground.data)] none)) (v := ?_) rfl (by kernel_rfl) (by kernel_rfl) (by kernel_rfl) (fun _ _ _ h => h) (Or.inl ⟨by rfl, ?_⟩) hC ?_
  rotate_left
  · (intro w hSw; (try dsimp only at hSw); go_simp; try with_reducible rfl)
  try simp only [Act.put, List.setIfInBounds_toArray, List.set_cons_zero, List.set_cons_succ]
  refine wpAnyH_take (i := 14) (oi := (Oper.mk (some 3) (Op.assign (Operand.tmp 27)) 4 "rules.go:200" #[(Edge.mk 13 Ground.data), (Edge.mk 12 Ground.chain), (Edge.mk 0 Ground.phase), (Edge.mk 1 Ground.phase), (Edge.mk 2 Ground.phase), (Edge.mk 3 Ground.phase), (Edge.mk 4 Ground.phase), (Edge.mk 5 Ground.phase), (Edge.mk 6 Ground.phase), (Edge.mk 7 Ground.phase), (Edge.mk 8 Ground.phase), (Edge.mk 9 Ground.phase), (Edge.mk 10 Ground.phase), (Edge.mk 11 Ground.phase), (Edge.mk 12 Ground.phase), (Edge.mk 13 Ground.phase)] none)) (v := ?_) rfl (by kernel_rfl) (by kernel_rfl) (by kernel_rfl) (fun _ _ _ h => h) (Or.inl ⟨by rfl, ?_⟩) hC ?_
  rotate_left
  · (intro w hSw; (try dsimp only at hSw); go_simp; try with_reducible rfl)
  try simp only [Act.put, List.setIfInBounds_toArray, List.set_cons_zero, List.set_cons_succ]
  refine wpAnyH_done (by kernel_rfl) ?_ _
  go_wp2_with fail
  go_ret
  exact ⟨rfl, hM.out, hT.out⟩
end Go.Proofs.YtjblhiekccjdcaaR
