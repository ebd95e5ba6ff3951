/- names: the function of the rule of labels that no block has. -/
import Derived.Test.YtjblhiekccjdcaaRNQuestC
namespace Go.Proofs.YtjblhiekccjdcaaR
open Go.RowKit Go.Maps Go.Shelf

/-- The labels of blocks, as a set. -/
def labelsL (l : List Blk) : List ByteArray := l.foldl (fun s x => plusS s x.label) []
theorem labels_succ {l : List Blk} {k : Nat} {x : Blk} (h : l[k]? = some x) : labelsL (l.take (k + 1)) = plusS (labelsL (l.take k)) x.label := by
  unfold labelsL
  rw [take_snocS h, List.foldl_append]
  rfl
theorem blk_off {W W' : World} {Bx : Nat} {ob : Option Nat} (hX : W.heap[Bx]? = some (.cells #[.map ob] 69 (0, 0))) (hT : Touch W W' (fun k => k = Bx)) {pa : Option Addr} {n pc : Nat} {L : List Blk} (h : RdE 2 RdBlk W (.slice pa n pc) L) {k : Nat} {x : Blk} (hx : L[k]? = some x) :
    ∃ g off ca cl cc, pa = some ⟨g, off, none⟩ ∧ W'.cell? ⟨g, off + k * 2, none⟩ = some (.string x.label) ∧ W'.cell? ⟨g, off + k * 2 + 1, none⟩ = some (.slice ca cl cc) := by
  obtain ⟨g, off, cap, cs, e, hlt, ⟨vc, rfl, rc⟩, -, hc⟩ := RdE.at h hx
  obtain ⟨a, c, rfl⟩ := rc.form
  cases e
  exact ⟨g, off, a, _, c, rfl, cell_off hX hT (hc 0 _ rfl) (by simp), cell_off hX hT (hc 1 _ rfl) (by simp)⟩
theorem labels_len (l : List Blk) : (labelsL l).length ≤ l.length := by
  have : ∀ (l : List Blk) (s : List ByteArray), (l.foldl (fun s x => plusS s x.label) s).length ≤ s.length + l.length := by
    intro l
    induction l with
    | nil => intro s; simp
    | cons x l ih => intro s; have h1 := ih (plusS s x.label); have h2 := plusS_len s x.label; simp at h1 ⊢; omega
  have := this l []
  simpa [labelsL] using this
set_option maxRecDepth 20000 in
set_option maxHeartbeats 4000000 in
theorem c12_blk {W : World} {f k : Nat} {d : Fun} {x : Blk} {vs : Array Value} {Bx bm : Nat} {l : List ByteArray} {U : Nat → Prop} (hf : (Prt.blk f k d x).Fits) (h : PrtV W (Prt.blk f k d x) vs) (hX : SetBx Bx l U bm W) (hll : l.length ≤ 2000000000000000000) :
    Calls Try.prog 60 #[.agg vs, .pointer (some ⟨Bx, 0, none⟩)] W fun e W' => e = .returned (.bool false) ∧ SetBx Bx l U bm W' ∧ Touch W W' (fun k => k = bm) := by
  obtain ⟨b, o, b2, o2, ca, cc, rfl, hF⟩ := BlkBox.mk' h
  have hB0 := box_below W (.cells #[.int .i64 f, .int .i64 k, .int .i64 0, .pointer (some ⟨b, o, none⟩), .pointer (some ⟨b2, o2, none⟩), .pointer none] 65)
  have hM := hX.below hB0
  have hT := Touch.of_below hB0 (fun k => k = bm)
  clear h hX hB0
  go_enter Try.func60, Try.ntmps60
  go_upto_region 1 with fail
  generalize (W.alloc (.cells #[.int .i64 f, .int .i64 k, .int .i64 0, .pointer (some ⟨b, o, none⟩), .pointer (some ⟨b2, o2, none⟩), .pointer none] 65)) = wb at hF hM hT ⊢
  replace hF := Lib.hid hF
  replace hM := Lib.hid hM
  replace hT := Lib.hid hT
  obtain ⟨s0, s1, s2, s3, s4, s5, f0, f1⟩ := hF.out
  go_wp2_with ((go_at_call 42; refine Calls.mono (isFunc_v) ?_; rintro e w2 ⟨rfl, hb⟩; replace hF := Lib.hid (hF.out.keep hb); replace hM := Lib.hid (hM.out.below hb); replace hT := Lib.hid (hT.out.trans (Touch.of_below hb _))))
  clear s0 s1 s2 s3 s4 s5 f0 f1
  obtain ⟨s0, s1, s2, s3, s4, s5, f0, f1⟩ := hF.out
  go_quiet (fail)
  replace hM := Lib.hid (hM.out.below (below_drawn (Below.refl _ _) nq))
  replace hT := Lib.hid (hT.out.trans (Touch.of_below (below_drawn (Below.refl _ _) nq) _))
  go_wp2_with fail
  go_ret
  exact ⟨rfl, hM.out, hT.out⟩
set_option maxRecDepth 20000 in
set_option maxHeartbeats 4000000 in
theorem c12_ins {W : World} {f k i : Nat} {d : Fun} {x : Blk} {c : Ins} {vs : Array Value} {Bx bm : Nat} {l : List ByteArray} {U : Nat → Prop} (hf : (Prt.ins f k i d x c).Fits) (h : PrtV W (Prt.ins f k i d x c) vs) (hX : SetBx Bx l U bm W) (hll : l.length ≤ 2000000000000000000) :
    Calls Try.prog 60 #[.agg vs, .pointer (some ⟨Bx, 0, none⟩)] W fun e W' => e = .returned (.bool (!c.labels.all fun s => decide (s ∈ l))) ∧ SetBx Bx l U bm W' ∧ Touch W W' (fun k => k = bm) := by
  obtain ⟨b, o, b2, o2, b3, o3, ca, aa, la, cc, ac, lc, rfl, hF⟩ := InsBox.mk' h
  have hB0 := box_below W (.cells #[.int .i64 f, .int .i64 k, .int .i64 i, .pointer (some ⟨b, o, none⟩), .pointer (some ⟨b2, o2, none⟩), .pointer (some ⟨b3, o3, none⟩)] 65)
  have hM := hX.below hB0
  have hT := Touch.of_below hB0 (fun k => k = bm)
  have hfit : ∀ s ∈ c.labels, s.size ≤ maxLen := hf.2.2.1.2.2.2.2.2.2.2.2.1
  have hlen : c.labels.length ≤ maxLen := hf.2.2.1.2.2.2.2.2.2.2.2.2.2
  clear h hX hB0
  go_enter Try.func60, Try.ntmps60
  go_upto_region 1 with fail
  generalize (W.alloc (.cells #[.int .i64 f, .int .i64 k, .int .i64 i, .pointer (some ⟨b, o, none⟩), .pointer (some ⟨b2, o2, none⟩), .pointer (some ⟨b3, o3, none⟩)] 65)) = wb at hF hM hT ⊢
  replace hF := Lib.hid hF
  replace hM := Lib.hid hM
  replace hT := Lib.hid hT
  obtain ⟨s0, s1, s2, s3, s4, s5, f1, c0, c1, c5, c6, c7, hat, ra, rl, rc⟩ := hF.out
  go_wp2_with ((go_at_call 42; refine Calls.mono (isFunc_v) ?_; rintro e w2 ⟨rfl, hb⟩; replace hF := Lib.hid (hF.out.keep hb); replace hM := Lib.hid (hM.out.below hb); replace hT := Lib.hid (hT.out.trans (Touch.of_below hb _))))
  have hC : w2.drew.cell? ⟨W.heap.size, 0, none⟩ = some (.int .i64 f) ∧ w2.drew.cell? ⟨W.heap.size, 1, none⟩ = some (.int .i64 k) ∧ w2.drew.cell? ⟨W.heap.size, 2, none⟩ = some (.int .i64 i) ∧ w2.drew.cell? ⟨W.heap.size, 3, none⟩ = some (.pointer (some ⟨b, o, none⟩)) ∧ w2.drew.cell? ⟨W.heap.size, 4, none⟩ = some (.pointer (some ⟨b2, o2, none⟩)) ∧ w2.drew.cell? ⟨W.heap.size, 5, none⟩ = some (.pointer (some ⟨b3, o3, none⟩)) ∧ w2.drew.cell? ⟨b3, o3 + 7, none⟩ = some (.slice la c.labels.length lc) ∧ w2.drew.cell? ⟨Bx, 0, none⟩ = some (.map (some bm)) := ⟨hF.out.s0, hF.out.s1, hF.out.s2, hF.out.s3, hF.out.s4, hF.out.s5, hF.out.c7, (show w2.cell? ⟨Bx, 0, none⟩ = some (.map (some bm)) from by rw [blk_cell hM.out.box]; rfl)⟩
  have hR : RdS w2.drew (.slice la c.labels.length lc) c.labels := Rd.below hF.out.rl (Below.refl _ _).drew
  replace hM := Lib.hid (hM.out.below (Below.refl _ _).drew)
  replace hT := Lib.hid hT.out.drew
  clear s0 s1 s2 s3 s4 s5 f1 c0 c1 c5 c6 c7 hat ra rl rc hF
  refine wp_region_held_drew (S := (fun w' => w'.cell? ⟨W.heap.size, 0, none⟩ = some (.int .i64 f) ∧ w'.cell? ⟨W.heap.size, 1, none⟩ = some (.int .i64 k) ∧ w'.cell? ⟨W.heap.size, 2, none⟩ = some (.int .i64 i) ∧ w'.cell? ⟨W.heap.size, 3, none⟩ = some (.pointer (some ⟨b, o, none⟩)) ∧ w'.cell? ⟨W.heap.size, 4, none⟩ = some (.pointer (some ⟨b2, o2, none⟩)) ∧ w'.cell? ⟨W.heap.size, 5, none⟩ = some (.pointer (some ⟨b3, o3, none⟩)) ∧ w'.cell? ⟨b3, o3 + 7, none⟩ = some (.slice la c.labels.length lc) ∧ w'.cell? ⟨Bx, 0, none⟩ = some (.map (some bm)))) (by kernel_rfl) hC (fun hHeld => ?_)
  clear hHeld
  refine wpAnyH_take (i := 0) (oi := (Oper.mk (some 24) (Op.fieldAddr 65 (Operand.tmp 2) 3) 0 "rules.go:147" #[] none)) (v := ?_) rfl (by kernel_rfl) (by kernel_rfl) (by kernel_rfl) (fun _ _ _ h => h) (Or.inl ⟨by rfl, ?_⟩) hC ?_
  rotate_left
  · (intro w hSw; (try dsimp only at hSw); go_simp; try with_reducible rfl)
  try simp only [Act.put, List.setIfInBounds_toArray, List.set_cons_zero, List.set_cons_succ]
  refine wpAnyH_take (i := 1) (oi := (Oper.mk (some 25) (Op.load 63 (Operand.tmp 24)) 63 "rules.go:147" #[(Edge.mk 0 Ground.data)] none)) (v := ?_) rfl (by kernel_rfl) (by kernel_rfl) (by kernel_rfl) (fun _ _ _ h => h) (Or.inl ⟨by rfl, ?_⟩) hC ?_
  rotate_left
  · (intro w hSw; (try dsimp only at hSw); go_simp; try with_reducible rfl)
  try simp only [Act.put, List.setIfInBounds_toArray, List.set_cons_zero, List.set_cons_succ]
  refine wpAnyH_take (i := 2) (oi := (Oper.mk (some 26) (Op.binOp BinOp.neq 63 (Operand.tmp 25) (Operand.const (Value.pointer none)) 63) 4 "rules.go:147" #[(Edge.mk 1 Ground.data)] none)) (v := ?_) rfl (by kernel_rfl) (by kernel_rfl) (by kernel_rfl) (fun _ _ _ h => h) (Or.inl ⟨by rfl, ?_⟩) hC ?_
  rotate_left
  · (intro w hSw; (try dsimp only at hSw); go_simp; try with_reducible rfl)
  try simp only [Act.put, List.setIfInBounds_toArray, List.set_cons_zero, List.set_cons_succ]
  refine wpAnyH_take (i := 3) (oi := (Oper.mk (some 27) (Op.move (Operand.tmp 26)) 4 "rules.go:147" #[(Edge.mk 2 Ground.data)] none)) (v := ?_) rfl (by kernel_rfl) (by kernel_rfl) (by kernel_rfl) (fun _ _ _ h => h) (Or.inl ⟨by rfl, ?_⟩) hC ?_
  rotate_left
  · (intro w hSw; (try dsimp only at hSw); go_simp; try with_reducible rfl)
  try simp only [Act.put, List.setIfInBounds_toArray, List.set_cons_zero, List.set_cons_succ]
  refine wpAnyH_take (i := 4) (oi := (Oper.mk (some 28) (Op.load 69 (Operand.tmp 1)) 69 "rules.go:147" #[(Edge.mk 3 Ground.guard)] (some (3, true)))) (v := ?_) rfl (by kernel_rfl) (by kernel_rfl) (by kernel_rfl) (fun _ _ _ h => h) (Or.inl ⟨by rfl, ?_⟩) hC ?_
  rotate_left
  · (intro w hSw; (try dsimp only at hSw); go_simp; try with_reducible rfl)
  try simp only [Act.put, List.setIfInBounds_toArray, List.set_cons_zero, List.set_cons_succ]
  refine wpAnyH_take (i := 5) (oi := (Oper.mk (some 29) (Op.fieldAddr 65 (Operand.tmp 2) 3) 0 "rules.go:147" #[(Edge.mk 3 Ground.guard)] (some (3, true)))) (v := ?_) rfl (by kernel_rfl) (by kernel_rfl) (by kernel_rfl) (fun _ _ _ h => h) (Or.inl ⟨by rfl, ?_⟩) hC ?_
  rotate_left
  · (intro w hSw; (try dsimp only at hSw); go_simp; try with_reducible rfl)
  try simp only [Act.put, List.setIfInBounds_toArray, List.set_cons_zero, List.set_cons_succ]
  refine wpAnyH_take (i := 6) (oi := (Oper.mk (some 30) (Op.load 63 (Operand.tmp 29)) 63 "rules.go:147" #[(Edge.mk 5 Ground.data), (Edge.mk 3 Ground.guard)] (some (3, true)))) (v := ?_) rfl (by kernel_rfl) (by kernel_rfl) (by kernel_rfl) (fun _ _ _ h => h) (Or.inl ⟨by rfl, ?_⟩) hC ?_
  rotate_left
  · (intro w hSw; (try dsimp only at hSw); go_simp; try with_reducible rfl)
  try simp only [Act.put, List.setIfInBounds_toArray, List.set_cons_zero, List.set_cons_succ]
  refine wpAnyH_take (i := 7) (oi := (Oper.mk (some 31) (Op.nilCheck (Operand.tmp 30)) 0 "rules.go:147" #[(Edge.mk 6 Ground.data), (Edge.mk 3 Ground.guard)] (some (3, true)))) (v := ?_) rfl (by kernel_rfl) (by kernel_rfl) (by kernel_rfl) (fun _ _ _ h => h) (Or.inl ⟨by rfl, ?_⟩) hC ?_
  rotate_left
  · (intro w hSw; (try dsimp only at hSw); go_simp; try with_reducible rfl)
  try simp only [Act.put, List.setIfInBounds_toArray, List.set_cons_zero, List.set_cons_succ]
  refine wpAnyH_take (i := 8) (oi := (Oper.mk (some 32) (Op.fieldAddr 47 (Operand.tmp 31) 7) 0 "rules.go:147" #[(Edge.mk 7 Ground.data), (Edge.mk 3 Ground.guard)] (some (3, true)))) (v := ?_) rfl (by kernel_rfl) (by kernel_rfl) (by kernel_rfl) (fun _ _ _ h => h) (Or.inl ⟨by rfl, ?_⟩) hC ?_
  rotate_left
  · (intro w hSw; (try dsimp only at hSw); go_simp; try with_reducible rfl)
  try simp only [Act.put, List.setIfInBounds_toArray, List.set_cons_zero, List.set_cons_succ]
  refine wpAnyH_take (i := 9) (oi := (Oper.mk (some 33) (Op.load 36 (Operand.tmp 32)) 36 "rules.go:147" #[(Edge.mk 8 Ground.data), (Edge.mk 3 Ground.guard)] (some (3, true)))) (v := ?_) rfl (by kernel_rfl) (by kernel_rfl) (by kernel_rfl) (fun _ _ _ h => h) (Or.inl ⟨by rfl, ?_⟩) hC ?_
  rotate_left
  · (intro w hSw; (try dsimp only at hSw); go_simp; try with_reducible rfl)
  try simp only [Act.put, List.setIfInBounds_toArray, List.set_cons_zero, List.set_cons_succ]
  refine wpAnyH_ready (rs := [10]) (by kernel_rfl) (by simp) (AllReadyH.cons (o := (Oper.mk (some 34) (Op.call (Call.mk (Callee.value (Operand.func 61)) #[(Operand.tmp 28), (Operand.tmp 33)] #[69, 36])) 4 "rules.go:147" #[(Edge.mk 4 Ground.data), (Edge.mk 9 Ground.data), (Edge.mk 3 Ground.chain), (Edge.mk 3 Ground.guard)] (some (3, true)))) rfl (fun K hK => ?_) AllReadyH.nil)
  go_simp
  (go_at_call 61; refine Calls.mono (hasAll_any hM.out.set hR hfit hlen) ?_; rintro e w5 ⟨rfl, hb5⟩; replace hC := conj8 (fun h => keepC hb5 h) hC; replace hM := Lib.hid (hM.out.below hb5); replace hT := Lib.hid (hT.out.trans (Touch.of_below hb5 _)))
  refine hK.out _ _ hC (fun hHeld => ?_)
  clear hK K hHeld
  try simp only [Act.put, List.setIfInBounds_toArray, List.set_cons_zero, List.set_cons_succ]
  refine wpAnyH_take (i := 11) (oi := (Oper.mk (some 35) (Op.unOp UnOp.not 4 (Operand.tmp 34)) 4 "rules.go:147" #[(Edge.mk 10 Ground.data), (Edge.mk 3 Ground.guard)] (some (3, true)))) (v := ?_) rfl (by kernel_rfl) (by kernel_rfl) (by kernel_rfl) (fun _ _ _ h => h) (Or.inl ⟨by rfl, ?_⟩) hC ?_
  rotate_left
  · (intro w hSw; (try dsimp only at hSw); go_simp; try with_reducible rfl)
  try simp only [Act.put, List.setIfInBounds_toArray, List.set_cons_zero, List.set_cons_succ]
  refine wpAnyH_take (i := 12) (oi := (Oper.mk (some 36) (Op.pick (Operand.tmp 27) (Operand.tmp 35) (Operand.const (Value.bool false))) 4 "rules.go:147" #[(Edge.mk 3 Ground.data), (Edge.mk 11 Ground.data)] none)) (v := ?_) rfl (by kernel_rfl) (by kernel_rfl) (by kernel_rfl) (fun _ _ _ h => h) (Or.inl ⟨by rfl, ?_⟩) hC ?_
  rotate_left
  · (intro w hSw; (try dsimp only at hSw); go_simp; try with_reducible rfl)
  try simp only [Act.put, List.setIfInBounds_toArray, List.set_cons_zero, List.set_cons_succ]
  refine wpAnyH_take (i := 13) (oi := (Oper.mk (some 3) (Op.assign (Operand.tmp 36)) 4 "rules.go:147" #[(Edge.mk 12 Ground.data), (Edge.mk 10 Ground.chain), (Edge.mk 0 Ground.phase), (Edge.mk 1 Ground.phase), (Edge.mk 2 Ground.phase), (Edge.mk 3 Ground.phase), (Edge.mk 4 Ground.phase), (Edge.mk 5 Ground.phase), (Edge.mk 6 Ground.phase), (Edge.mk 7 Ground.phase), (Edge.mk 8 Ground.phase), (Edge.mk 9 Ground.phase), (Edge.mk 10 Ground.phase), (Edge.mk 11 Ground.phase), (Edge.mk 12 Ground.phase)] none)) (v := ?_) rfl (by kernel_rfl) (by kernel_rfl) (by kernel_rfl) (fun _ _ _ h => h) (Or.inl ⟨by rfl, ?_⟩) hC ?_
  rotate_left
  · (intro w hSw; (try dsimp only at hSw); go_simp; try with_reducible rfl)
  try simp only [Act.put, List.setIfInBounds_toArray, List.set_cons_zero, List.set_cons_succ]
  refine wpAnyH_done (by kernel_rfl) ?_ _
  go_wp2_with fail
  go_ret
  exact ⟨rfl, hM.out, hT.out⟩
set_option maxRecDepth 20000 in
set_option maxHeartbeats 4000000 in
theorem c12_fn {W : World} {f : Nat} {d : Fun} {vs : Array Value} {Bx : Nat} {ob : Option Nat} (hf : (Prt.fn f d).Fits) (hp4 : d.blocks.length ≤ 1000000) (h : PrtV W (Prt.fn f d) vs) (hX : W.heap[Bx]? = some (.cells #[.map ob] 69 (0, 0))) :
    Calls Try.prog 60 #[.agg vs, .pointer (some ⟨Bx, 0, none⟩)] W fun e W' => e = .returned (.bool false) ∧ ∃ bm, W.heap.size ≤ bm ∧ SetBx Bx (labelsL d.blocks) (fun k => k = Bx ∨ k = bm) bm W' ∧ Touch W W' (fun k => k = Bx) := by
  obtain ⟨b, o, rfl, hF⟩ := h
  obtain ⟨pa, pc, hp, rp⟩ := hF.blocks
  have hfit := Lib.hid (fun x (hx : x ∈ d.blocks) => (hf.2.2.1 x hx).1)
  have hD := Lib.hid (fun (W' : World) (hT : Touch W W' (fun k => k = Bx)) => (⟨cell_off hX hT hp (by simp), fun k x hx => blk_off hX hT rp hx⟩ : W'.cell? ⟨b, o + 2, none⟩ = some (.slice pa d.blocks.length pc) ∧ ∀ k x, d.blocks[k]? = some x → ∃ g off ca cl cc, pa = some ⟨g, off, none⟩ ∧ W'.cell? ⟨g, off + k * 2, none⟩ = some (.string x.label) ∧ W'.cell? ⟨g, off + k * 2 + 1, none⟩ = some (.slice ca cl cc)))
  clear hF hp rp hf
  generalize hn : d.blocks.length = n at hD hp4
  replace hn := Lib.hid hn
  have hX1 := (box_below W (.cells #[.int .i64 f, .int .i64 0, .int .i64 0, .pointer (some ⟨b, o, none⟩), .pointer none, .pointer none] 65)).block Bx (Array.getElem?_eq_some_iff.1 hX).1
  rw [hX] at hX1
  have hN : (W.alloc (.cells #[.int .i64 f, .int .i64 0, .int .i64 0, .pointer (some ⟨b, o, none⟩), .pointer none, .pointer none] 65)).heap[W.heap.size]? = some (.cells #[.int .i64 f, .int .i64 0, .int .i64 0, .pointer (some ⟨b, o, none⟩), .pointer none, .pointer none] 65 (0, 0)) := at_newN rfl
  have hT : Touch W (W.alloc (.cells #[.int .i64 f, .int .i64 0, .int .i64 0, .pointer (some ⟨b, o, none⟩), .pointer none, .pointer none] 65)) (fun k => k = Bx) := Touch.of_below (box_below W _) _
  have hBx : Bx < W.heap.size := (Array.getElem?_eq_some_iff.1 hX).1
  clear hX
  have hmm := @run_makeMap Try.prog
  go_enter Try.func60, Try.ntmps60
  go_upto_region 1 with fail
  generalize (W.alloc (.cells #[.int .i64 f, .int .i64 0, .int .i64 0, .pointer (some ⟨b, o, none⟩), .pointer none, .pointer none] 65)) = wb at hX1 hN hT ⊢
  have hlt := (Array.getElem?_eq_some_iff.1 hN).1
  have s0 : wb.cell? ⟨W.heap.size, 0, none⟩ = some (.int .i64 f) := by rw [blk_cell hN]; rfl
  have s1 : wb.cell? ⟨W.heap.size, 1, none⟩ = some (.int .i64 0) := by rw [blk_cell hN]; rfl
  have s2 : wb.cell? ⟨W.heap.size, 2, none⟩ = some (.int .i64 0) := by rw [blk_cell hN]; rfl
  have s3 : wb.cell? ⟨W.heap.size, 3, none⟩ = some (.pointer (some ⟨b, o, none⟩)) := by rw [blk_cell hN]; rfl
  have s4 : wb.cell? ⟨W.heap.size, 4, none⟩ = some (.pointer none) := by rw [blk_cell hN]; rfl
  have s5 : wb.cell? ⟨W.heap.size, 5, none⟩ = some (.pointer none) := by rw [blk_cell hN]; rfl
  replace hX1 := Lib.hid hX1
  replace hN := Lib.hid hN
  replace hT := Lib.hid hT
  go_upto_region 2 with (go_at_call 42; refine Calls.mono isFunc_v ?_; rintro e w2 ⟨rfl, hb⟩)
  have hX2 := Lib.hid ((hb.block Bx (by omega)).trans hX1.out)
  have hN2 := Lib.hid ((hb.block _ hlt).trans hN.out)
  have hT2 := Lib.hid (hT.out.trans (Touch.of_below hb _))
  have hlt2 := Nat.lt_of_lt_of_le hlt hb.size
  have e0 : w2.cell? ⟨Bx, 0, none⟩ = some (.map ob) := by rw [blk_cell hX2.out]; rfl
  have y0 : w2.frozen? ⟨Bx, 0, none⟩ = false := by simp [World.frozen?, hX2.out]
  have e1 : (w2.alloc (.map #[] 0)).cell? ⟨Bx, 0, none⟩ = some (.map ob) := by rw [blk_cell (at_oldN hX2.out)]; rfl
  have y1 : (w2.alloc (.map #[] 0)).frozen? ⟨Bx, 0, none⟩ = false := by simp [World.frozen?, at_oldN hX2.out]
  clear s0 s1 s2 s3 s4 s5 hX1 hN hT hb hlt
  go_upto_region 3 with fail
  have hN4 : ((w2.alloc (.map #[] 0)).setCell ⟨Bx, 0, none⟩ (.map (some w2.heap.size))).heap[W.heap.size]? = some (.cells #[.int .i64 f, .int .i64 0, .int .i64 0, .pointer (some ⟨b, o, none⟩), .pointer none, .pointer none] 65 (0, 0)) := (Below.heap_setCell _ _ _ _ (show W.heap.size ≠ Bx by omega)).trans (at_oldN hN2.out)
  have hM4 : SetBx Bx [] (fun k => k = Bx ∨ k = w2.heap.size) w2.heap.size ((w2.alloc (.map #[] 0)).setCell ⟨Bx, 0, none⟩ (.map (some w2.heap.size))) :=
    ⟨set_one (at_oldN hX2.out), (SetS.new w2).block (Below.heap_setCell _ _ _ _ (show w2.heap.size ≠ Bx by omega)), by omega, fun k => Iff.rfl⟩
  have hT4 : Touch W ((w2.alloc (.map #[] 0)).setCell ⟨Bx, 0, none⟩ (.map (some w2.heap.size))) (fun k => k = Bx) := (hT2.out.alloc _).setCell (a := ⟨Bx, 0, none⟩) (fun _ => rfl) _
  have hge : W.heap.size ≤ w2.heap.size := by omega
  clear hX2 hN2 hT2 e0 y0 e1 y1 hlt2 hmm
  generalize ((w2.alloc (.map #[] 0)).setCell ⟨Bx, 0, none⟩ (.map (some w2.heap.size))) = w4 at hN4 hM4 hT4 ⊢
  generalize w2.heap.size = bm at hM4 hge ⊢
  obtain ⟨q1, -⟩ := hD.out w4 hT4
  have s3 : w4.cell? ⟨W.heap.size, 3, none⟩ = some (.pointer (some ⟨b, o, none⟩)) := by rw [blk_cell hN4]; rfl
  replace hN4 := Lib.hid hN4
  replace hM4 := Lib.hid hM4
  replace hT4 := Lib.hid hT4
  go_wp2_with fail
  clear q1 s3
  go_loopw [5, 15] (fun _ i wr => ∃ k : Nat, k ≤ n ∧ i = .int .i64 k ∧ Hid (wr.heap[W.heap.size]? = some (.cells #[.int .i64 f, .int .i64 0, .int .i64 0, .pointer (some ⟨b, o, none⟩), .pointer none, .pointer none] 65 (0, 0))) ∧ Hid (SetBx Bx (labelsL (d.blocks.take k)) (fun k => k = Bx ∨ k = bm) bm wr) ∧ Hid (Touch W wr (fun k => k = Bx))) (fun _ i _ => n - (intOf i).toNat)
  case atStart => exact ⟨0, Nat.zero_le _, rfl, hN4, hM4, hT4⟩
  case round =>
    clear hN4 hM4 hT4
    obtain ⟨k, hk, rfl, hN, hM, hT⟩ := hrel
    by_cases hlt : k < n
    · have j1 : decide ((k : Int) < (n : Int)) = true := by simpa using hlt
      have j2 : (k : Int) < (n : Int) := by omega
      obtain ⟨x, hx⟩ : ∃ x, d.blocks[k]? = some x := ⟨_, List.getElem?_eq_getElem (by rw [hn.out]; exact hlt)⟩
      obtain ⟨g, off, ca, cl, cc, e, c0, c1⟩ := (hD.out wr hT.out).2 k x hx
      cases e
      have hsz := hfit.out x (List.mem_of_getElem? hx)
      have hat := Lib.hid (labels_succ hx)
      have hll : (labelsL (d.blocks.take k)).length ≤ n := by have := labels_len (d.blocks.take k); rw [List.length_take] at this; omega
      have hB0 := box_below wr (.cells #[.string x.label, .slice ca cl cc] 43)
      have hM2 := Lib.hid (hM.out.below hB0)
      have hT2 := Lib.hid (hT.out.trans (Touch.of_below hB0 (fun k => k = Bx)))
      have hN2 := Lib.hid ((hB0.block _ (Array.getElem?_eq_some_iff.1 hN.out).1).trans hN.out)
      have hX0 : (wr.alloc (.cells #[.string x.label, .slice ca cl cc] 43)).cell? ⟨Bx, 0, none⟩ = some (.map (some bm)) := by rw [blk_cell hM2.out.box]; rfl
      clear hx hN hM hT hB0
      go_wp2_with (at_mapUpdate; refine wpList_setS_put rfl _ _ _ rfl bm _ hM2.out.set rfl x.label rfl rfl hsz (by omega) ?_; intro w3 hM3 hT3; go_frame)
      have hM4 := Lib.hid (hM2.out.turned hM3 hT3)
      have hN4 := Lib.hid ((hT3.block _ (Array.getElem?_eq_some_iff.1 hN2.out).1 (fun e => by obtain ⟨D, ⟨es, clock, hb, -⟩, -⟩ := hM2.out.set; have h := hN2.out; rw [e, hb] at h; cases h)).trans hN2.out)
      have hT4 := Lib.hid (hT2.out.newer hT3 hge)
      rw [← hat.out] at hM4
      clear hM3 hT3 hM2 hT2 hN2
      go_wp2_with fail
      exact ⟨⟨k + 1, by omega, by go_num, hN4, hM4, hT4⟩, by simp [intOf]; omega⟩
    · obtain rfl : k = n := by omega
      have j1 : decide ((k : Int) < (k : Int)) = false := by simp
      have hE : d.blocks.take k = d.blocks := List.take_of_length_le (by rw [hn.out]; exact Nat.le_refl _)
      rw [hE] at hM
      have s5 : wr.cell? ⟨W.heap.size, 5, none⟩ = some (.pointer none) := by rw [blk_cell hN.out]; rfl
      go_upto_region 8 with fail
      go_quiet (fail)
      replace hM := Lib.hid (hM.out.below (below_drawn (Below.refl _ _) nq))
      replace hT := Lib.hid (hT.out.trans (Touch.of_below (below_drawn (Below.refl _ _) nq) _))
      go_wp2_with fail
      go_ret
      exact ⟨rfl, bm, hge, hM.out, hT.out⟩
end Go.Proofs.YtjblhiekccjdcaaR
