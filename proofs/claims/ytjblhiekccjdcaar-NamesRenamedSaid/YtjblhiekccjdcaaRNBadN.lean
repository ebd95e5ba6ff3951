/- names.badNames. -/
import Derived.Test.YtjblhiekccjdcaaRNBadF
namespace Go.Proofs.YtjblhiekccjdcaaR
open Go.RowKit Go.Maps

def hasL (k : Int) (s : ByteArray) : List ByteArray := if k = 0 then [] else givenL s
theorem has_any {w : World} (k : Int) (s : ByteArray) (hs : s.size ≤ maxLen) : Calls Try.prog 72 #[.int .u8 k, .string s] w fun e w' => ∃ v', e = .returned v' ∧ RdS w' v' (hasL k s) ∧ Below w.heap.size w w' := by
  unfold hasL
  by_cases h : k = 0
  · subst h
    go_enter Try.func72, Try.ntmps72
    go_wp2_with fail
    go_ret
    exact ⟨_, rfl, rds_none _, Below.refl _ _⟩
  · rw [if_neg h]
    have j1 : (k == 0) = false := by simpa using h
    have hR : RdS (w.alloc (.cells #[.string s] 9)) (.slice (some ⟨w.heap.size, 0, none⟩) 1 1) [s] := rds_one (at_newN rfl)
    have hg := Lib.hid (given_one hR hs)
    clear hR h
    go_enter Try.func72, Try.ntmps72
    go_wp2_with fail
    refine hg.out.mono ?_
    rintro e w2 ⟨v', rfl, hR2, hb⟩
    have hB := ((Below.refl w.heap.size w).alloc (Nat.le_refl _) (.cells #[.string s] 9)).trans (hb.mono (by simp))
    obtain ⟨a, c, rfl⟩ := hR2.shape
    clear hb
    replace hR2 := Lib.hid hR2
    go_wp2_with fail
    go_ret
    exact ⟨_, rfl, hR2.out, hB⟩
theorem hasL_len (k : Int) (s : ByteArray) : (hasL k s).length ≤ maxLen := by
  unfold hasL givenL maxLen
  split
  · simp
  · split <;> simp
theorem hasL_fit {k : Int} {s : ByteArray} (h : s.size ≤ maxLen) : ∀ x ∈ hasL k s, x.size ≤ maxLen := by
  unfold hasL givenL
  intro x hx
  split at hx
  · cases hx
  · split at hx
    · cases hx
    · rw [List.mem_singleton.1 hx]; exact h
def badNamesS (d : Ins) (s : Shp) : Bool := (!(hasL s.dst d.dst).all isName || !(hasL s.fn d.fn).all isName) || ((!(hasL s.a d.a).all isOperand || !(hasL s.b d.b).all isOperand) || ((s.labels != 0 && !d.labels.all isName) || (s.args != 0 && !d.args.all isOperand)))
def badNamesB (d : Ins) : Bool := match shapeN d.op with
  | none => false
  | some s => badNamesS d s
theorem badNamesB_some {d : Ins} {s : Shp} (h : shapeN d.op = some s) : badNamesB d = badNamesS d s := by unfold badNamesB; rw [h]
theorem badNamesB_none {d : Ins} (h : shapeN d.op = none) : badNamesB d = false := by unfold badNamesB; rw [h]
theorem allN_eq {u : Bool} {w : World} {v : Value} {ss : List ByteArray} (h : RdS w v ss) (hl : ss.length ≤ maxLen) (hf : ∀ s ∈ ss, s.size ≤ maxLen) (hu : ss.all isName = u) : Calls Try.prog 43 #[v] w fun e w' => e = .returned (.bool u) ∧ w = w' := by
  have := allNames_any h hl hf
  rwa [hu] at this
theorem allO_eq {u : Bool} {w : World} {v : Value} {ss : List ByteArray} (h : RdS w v ss) (hl : ss.length ≤ maxLen) (hf : ∀ s ∈ ss, s.size ≤ maxLen) (hu : ss.all isOperand = u) : Calls Try.prog 73 #[v] w fun e w' => e = .returned (.bool u) ∧ w = w' := by
  have := allOperands_any h hl hf
  rwa [hu] at this
theorem kept4 {w w' : World} {p1 p2 p3 p4 : Addr} {v1 v2 v3 v4 : Value} (hb : Below w.heap.size w w') (h : w.cell? p1 = some v1 ∧ w.cell? p2 = some v2 ∧ w.cell? p3 = some v3 ∧ w.cell? p4 = some v4) : w'.cell? p1 = some v1 ∧ w'.cell? p2 = some v2 ∧ w'.cell? p3 = some v3 ∧ w'.cell? p4 = some v4 := by
  have k : ∀ {p : Addr} {v : Value}, w.cell? p = some v → w'.cell? p = some v := fun {p} {v} hc => (hb.cell (p := p) (cell_size hc)).trans hc
  exact ⟨k h.1, k h.2.1, k h.2.2.1, k h.2.2.2⟩
set_option maxRecDepth 20000 in
set_option maxHeartbeats 8000000 in
theorem badNames_any {w : World} {b o : Nat} {d : Ins} (h : InsAt w b o d) (hf : d.Fits) : Calls Try.prog 45 #[.pointer (some ⟨b, o, none⟩)] w fun e w' => e = .returned (.bool (badNamesB d)) ∧ Below w.heap.size w w' := by
  obtain ⟨hbl, va, vl, r1, r2, hcs⟩ := h
  obtain ⟨aa, ca, rfl⟩ := r1.shape
  obtain ⟨al, cl, rfl⟩ := r2.shape
  obtain ⟨h0, -, f1, f2, f3, -, f5, f6, f7, f8, f9⟩ := hf
  have c0 : w.cell? ⟨b, o, none⟩ = some (.int .u8 d.op) := hcs 0 _ rfl
  cases hs : shapeN d.op with
  | none =>
    rw [badNamesB_none hs]
    have k1 := Lib.hid (fun w => shapeOf_none d.op h0 hs w)
    clear hs r1 r2 hcs f1 f2 f3 f5 f6 f7 f8 f9 h0
    go_enter Try.func45, Try.ntmps45
    go_wp2_with fail
    refine (k1.out _).mono ?_
    rintro e w2 ⟨rfl, hb⟩
    go_wp2_with fail
    go_ret
    exact ⟨rfl, hb.alloc hb.size _⟩
  | some s =>
    rw [badNamesB_some hs]
    unfold badNamesS
    have k1 := Lib.hid (fun w => shapeOf_some d.op s hs w)
    have hF := Lib.hid (fun (w2 : World) (hb : Below w.heap.size w w2) => insShp (s := s) hb hbl hcs)
    have kd := Lib.hid (fun w => has_any (w := w) s.dst d.dst f1)
    have kf := Lib.hid (fun w => has_any (w := w) s.fn d.fn f5)
    have ka := Lib.hid (fun w => has_any (w := w) s.a d.a f2)
    have kb := Lib.hid (fun w => has_any (w := w) s.b d.b f3)
    obtain ⟨u1, hu1⟩ : ∃ u, (hasL s.dst d.dst).all isName = u := ⟨_, rfl⟩
    obtain ⟨u2, hu2⟩ : ∃ u, (hasL s.fn d.fn).all isName = u := ⟨_, rfl⟩
    obtain ⟨u3, hu3⟩ : ∃ u, (hasL s.a d.a).all isOperand = u := ⟨_, rfl⟩
    obtain ⟨u4, hu4⟩ : ∃ u, (hasL s.b d.b).all isOperand = u := ⟨_, rfl⟩
    obtain ⟨u5, hu5⟩ : ∃ u, d.labels.all isName = u := ⟨_, rfl⟩
    obtain ⟨u6, hu6⟩ : ∃ u, d.args.all isOperand = u := ⟨_, rfl⟩
    have g1 := Lib.hid (fun (w : World) (v : Value) (h : RdS w v (hasL s.dst d.dst)) => allN_eq h (hasL_len _ _) (hasL_fit f1) hu1)
    have g2 := Lib.hid (fun (w : World) (v : Value) (h : RdS w v (hasL s.fn d.fn)) => allN_eq h (hasL_len _ _) (hasL_fit f5) hu2)
    have g3 := Lib.hid (fun (w : World) (v : Value) (h : RdS w v (hasL s.a d.a)) => allO_eq h (hasL_len _ _) (hasL_fit f2) hu3)
    have g4 := Lib.hid (fun (w : World) (v : Value) (h : RdS w v (hasL s.b d.b)) => allO_eq h (hasL_len _ _) (hasL_fit f3) hu4)
    have g5 := Lib.hid (fun (w' : World) (hb : Below w.heap.size w w') => allN_eq (Rd.below r2 hb) f9 f7 hu5)
    have g6 := Lib.hid (fun (w' : World) (hb : Below w.heap.size w w') => allO_eq (Rd.below r1 hb) f8 f6 hu6)
    obtain ⟨q5, hq5⟩ : ∃ q, (s.labels != 0) = q := ⟨_, rfl⟩
    obtain ⟨q6, hq6⟩ : ∃ q, (s.args != 0) = q := ⟨_, rfl⟩
    rw [hu1, hu2, hu3, hu4, hu5, hu6, hq5, hq6]
    have e5 := Lib.hid (fun _ : Unit => hq5)
    have e6 := Lib.hid (fun _ : Unit => hq6)
    clear hs h0 hcs hu1 hu2 hu3 hu4 hu5 hu6 hq5 hq6 r1 r2 f1 f2 f3 f5 f6 f7 f8 f9
    unfold shpA at k1 hF
    go_enter Try.func45, Try.ntmps45
    go_wp2_with fail
    refine (k1.out _).mono ?_
    rintro e w2 ⟨rfl, hb⟩
    have hF2 := Lib.hid (hF.out _ hb)
    have hB2 := Lib.hid (hb.alloc hb.size (.cells #[.int .u8 s.dst, .int .u8 s.a, .int .u8 s.b, .int .u8 s.fn, .int .i64 s.low, .int .i64 s.high, .int .i64 s.args, .int .i64 s.labels] 88))
    clear hF hb k1 c0
    go_upto_region 5 with fail
    generalize hS : w2.heap.size = S at hF2 ⊢
    generalize (w2.alloc (.cells #[.int .u8 s.dst, .int .u8 s.a, .int .u8 s.b, .int .u8 s.fn, .int .i64 s.low, .int .i64 s.high, .int .i64 s.args, .int .i64 s.labels] 88)) = W at hF2 hB2 ⊢
    clear hS
    go_cut [37] from 16 to 37 (fun x wx => x = .bool (!u1 || !u2) ∧ Hid (Below W.heap.size W wx))
    case first =>
      have hC : W.drew.cell? ⟨S, 0, none⟩ = some (.int .u8 s.dst) ∧ W.drew.cell? ⟨S, 3, none⟩ = some (.int .u8 s.fn) ∧ W.drew.cell? ⟨b, o + 1, none⟩ = some (.string d.dst) ∧ W.drew.cell? ⟨b, o + 5, none⟩ = some (.string d.fn) := ⟨hF2.out.s0, hF2.out.s3, hF2.out.c1, hF2.out.c5⟩
      have hB := Lib.hid (Below.refl W.heap.size W).drew
      clear hF2 hB2 ka kb g3 g4 g5 g6 e5 e6
      cases u1 with
      | false =>
        refine wp_region_held_drew (S := (fun w' => w'.cell? ⟨S, 0, none⟩ = some (.int .u8 s.dst) ∧ w'.cell? ⟨S, 3, none⟩ = some (.int .u8 s.fn) ∧ w'.cell? ⟨b, o + 1, none⟩ = some (.string d.dst) ∧ w'.cell? ⟨b, o + 5, none⟩ = some (.string d.fn))) (by kernel_rfl) hC (fun hHeld => ?_)
        clear hHeld
        refine wpAnyH_take (i := 0) (oi := (Oper.mk (some 16) (Op.move (Operand.tmp 5)) 91 "fields.go:86" #[] none)) (v := ?_) rfl (by kernel_rfl) (by kernel_rfl) (by kernel_rfl) (fun _ _ _ h => h) (Or.inl ⟨by rfl, ?_⟩) hC ?_
        rotate_left
        · (intro w hSw; (try dsimp only at hSw); go_simp; try with_reducible rfl)
        try simp only [Act.put, List.setIfInBounds_toArray, List.set_cons_zero, List.set_cons_succ]
        refine wpAnyH_take (i := 1) (oi := (Oper.mk (some 17) (Op.fieldAddr 88 (Operand.tmp 3) 0) 0 "fields.go:86" #[] none)) (v := ?_) rfl (by kernel_rfl) (by kernel_rfl) (by kernel_rfl) (fun _ _ _ h => h) (Or.inl ⟨by rfl, ?_⟩) hC ?_
        rotate_left
        · (intro w hSw; (try dsimp only at hSw); go_simp; try with_reducible rfl)
        try simp only [Act.put, List.setIfInBounds_toArray, List.set_cons_zero, List.set_cons_succ]
        refine wpAnyH_take (i := 2) (oi := (Oper.mk (some 18) (Op.load 86 (Operand.tmp 17)) 86 "fields.go:86" #[(Edge.mk 1 Ground.data)] none)) (v := ?_) rfl (by kernel_rfl) (by kernel_rfl) (by kernel_rfl) (fun _ _ _ h => h) (Or.inl ⟨by rfl, ?_⟩) hC ?_
        rotate_left
        · (intro w hSw; (try dsimp only at hSw); go_simp; try with_reducible rfl)
        try simp only [Act.put, List.setIfInBounds_toArray, List.set_cons_zero, List.set_cons_succ]
        refine wpAnyH_take (i := 3) (oi := (Oper.mk (some 19) (Op.move (Operand.tmp 0)) 63 "fields.go:86" #[] none)) (v := ?_) rfl (by kernel_rfl) (by kernel_rfl) (by kernel_rfl) (fun _ _ _ h => h) (Or.inl ⟨by rfl, ?_⟩) hC ?_
        rotate_left
        · (intro w hSw; (try dsimp only at hSw); go_simp; try with_reducible rfl)
        try simp only [Act.put, List.setIfInBounds_toArray, List.set_cons_zero, List.set_cons_succ]
        refine wpAnyH_take (i := 4) (oi := (Oper.mk (some 20) (Op.nilCheck (Operand.tmp 19)) 0 "fields.go:86" #[(Edge.mk 3 Ground.data)] none)) (v := ?_) rfl (by kernel_rfl) (by kernel_rfl) (by kernel_rfl) (fun _ _ _ h => h) (Or.inl ⟨by rfl, ?_⟩) hC ?_
        rotate_left
        · (intro w hSw; (try dsimp only at hSw); go_simp; try with_reducible rfl)
        try simp only [Act.put, List.setIfInBounds_toArray, List.set_cons_zero, List.set_cons_succ]
        refine wpAnyH_take (i := 5) (oi := (Oper.mk (some 21) (Op.fieldAddr 47 (Operand.tmp 20) 1) 0 "fields.go:86" #[(Edge.mk 4 Ground.data)] none)) (v := ?_) rfl (by kernel_rfl) (by kernel_rfl) (by kernel_rfl) (fun _ _ _ h => h) (Or.inl ⟨by rfl, ?_⟩) hC ?_
        rotate_left
        · (intro w hSw; (try dsimp only at hSw); go_simp; try with_reducible rfl)
        try simp only [Act.put, List.setIfInBounds_toArray, List.set_cons_zero, List.set_cons_succ]
        refine wpAnyH_take (i := 6) (oi := (Oper.mk (some 22) (Op.load 9 (Operand.tmp 21)) 9 "fields.go:86" #[(Edge.mk 5 Ground.data)] none)) (v := ?_) rfl (by kernel_rfl) (by kernel_rfl) (by kernel_rfl) (fun _ _ _ h => h) (Or.inl ⟨by rfl, ?_⟩) hC ?_
        rotate_left
        · (intro w hSw; (try dsimp only at hSw); go_simp; try with_reducible rfl)
        try simp only [Act.put, List.setIfInBounds_toArray, List.set_cons_zero, List.set_cons_succ]
        refine wpAnyH_ready (rs := [7]) (by kernel_rfl) (by simp) (AllReadyH.cons (o := (Oper.mk (some 23) (Op.call (Call.mk (Callee.value (Operand.tmp 16)) #[(Operand.tmp 18), (Operand.tmp 22)] #[86, 9])) 36 "fields.go:86" #[(Edge.mk 0 Ground.data), (Edge.mk 2 Ground.data), (Edge.mk 6 Ground.data)] none)) rfl (fun K hK => ?_) AllReadyH.nil)
        go_simp
        (go_at_call 72; refine Calls.mono (kd.out _) ?_; rintro e w4 ⟨v4, rfl, hR4, hb4⟩; replace hC := kept4 hb4 hC; replace hB := Lib.hid (hB.out.trans (hb4.mono hB.out.size)))
        refine hK.out _ _ hC (fun hHeld => ?_)
        clear hK K hHeld
        try simp only [Act.put, List.setIfInBounds_toArray, List.set_cons_zero, List.set_cons_succ]
        refine wpAnyH_ready (rs := [8]) (by kernel_rfl) (by simp) (AllReadyH.cons (o := (Oper.mk (some 24) (Op.call (Call.mk (Callee.value (Operand.func 43)) #[(Operand.tmp 23)] #[36])) 4 "fields.go:86" #[(Edge.mk 7 Ground.data), (Edge.mk 7 Ground.chain)] none)) rfl (fun K hK => ?_) AllReadyH.nil)
        go_simp
        (go_at_call 43; refine Calls.mono (g1.out _ _ hR4) ?_; rintro e w5 ⟨rfl, rfl⟩)
        refine hK.out _ _ hC (fun hHeld => ?_)
        clear hK K hHeld
        try simp only [Act.put, List.setIfInBounds_toArray, List.set_cons_zero, List.set_cons_succ]
        refine wpAnyH_take (i := 9) (oi := (Oper.mk (some 25) (Op.unOp UnOp.not 4 (Operand.tmp 24)) 4 "fields.go:86" #[(Edge.mk 8 Ground.data)] none)) (v := ?_) rfl (by kernel_rfl) (by kernel_rfl) (by kernel_rfl) (fun _ _ _ h => h) (Or.inl ⟨by rfl, ?_⟩) hC ?_
        rotate_left
        · (intro w hSw; (try dsimp only at hSw); go_simp; try with_reducible rfl)
        try simp only [Act.put, List.setIfInBounds_toArray, List.set_cons_zero, List.set_cons_succ]
        refine wpAnyH_take (i := 10) (oi := (Oper.mk (some 26) (Op.move (Operand.tmp 25)) 4 "fields.go:86" #[(Edge.mk 9 Ground.data), (Edge.mk 8 Ground.chain)] none)) (v := ?_) rfl (by kernel_rfl) (by kernel_rfl) (by kernel_rfl) (fun _ _ _ h => h) (Or.inl ⟨by rfl, ?_⟩) hC ?_
        rotate_left
        · (intro w hSw; (try dsimp only at hSw); go_simp; try with_reducible rfl)
        try simp only [Act.put, List.setIfInBounds_toArray, List.set_cons_zero, List.set_cons_succ]
        refine wpAnyH_take (i := 11) (oi := (Oper.mk (some 27) (Op.move (Operand.tmp 5)) 91 "fields.go:86" #[(Edge.mk 10 Ground.guard)] (some (10, false)))) (v := undef) rfl (by kernel_rfl) (by kernel_rfl) (by kernel_rfl) (fun _ _ _ h => h) (Or.inr ⟨by rfl, rfl⟩) hC ?_
        try simp only [Act.put, List.setIfInBounds_toArray, List.set_cons_zero, List.set_cons_succ]
        refine wpAnyH_take (i := 12) (oi := (Oper.mk (some 28) (Op.fieldAddr 88 (Operand.tmp 3) 3) 0 "fields.go:86" #[(Edge.mk 10 Ground.guard)] (some (10, false)))) (v := undef) rfl (by kernel_rfl) (by kernel_rfl) (by kernel_rfl) (fun _ _ _ h => h) (Or.inr ⟨by rfl, rfl⟩) hC ?_
        try simp only [Act.put, List.setIfInBounds_toArray, List.set_cons_zero, List.set_cons_succ]
        refine wpAnyH_take (i := 13) (oi := (Oper.mk (some 29) (Op.load 86 (Operand.tmp 28)) 86 "fields.go:86" #[(Edge.mk 12 Ground.data), (Edge.mk 10 Ground.guard)] (some (10, false)))) (v := undef) rfl (by kernel_rfl) (by kernel_rfl) (by kernel_rfl) (fun _ _ _ h => h) (Or.inr ⟨by rfl, rfl⟩) hC ?_
        try simp only [Act.put, List.setIfInBounds_toArray, List.set_cons_zero, List.set_cons_succ]
        refine wpAnyH_take (i := 14) (oi := (Oper.mk (some 30) (Op.move (Operand.tmp 0)) 63 "fields.go:86" #[(Edge.mk 10 Ground.guard)] (some (10, false)))) (v := undef) rfl (by kernel_rfl) (by kernel_rfl) (by kernel_rfl) (fun _ _ _ h => h) (Or.inr ⟨by rfl, rfl⟩) hC ?_
        try simp only [Act.put, List.setIfInBounds_toArray, List.set_cons_zero, List.set_cons_succ]
        refine wpAnyH_take (i := 15) (oi := (Oper.mk (some 31) (Op.nilCheck (Operand.tmp 30)) 0 "fields.go:86" #[(Edge.mk 14 Ground.data), (Edge.mk 10 Ground.guard)] (some (10, false)))) (v := undef) rfl (by kernel_rfl) (by kernel_rfl) (by kernel_rfl) (fun _ _ _ h => h) (Or.inr ⟨by rfl, rfl⟩) hC ?_
        try simp only [Act.put, List.setIfInBounds_toArray, List.set_cons_zero, List.set_cons_succ]
        refine wpAnyH_take (i := 16) (oi := (Oper.mk (some 32) (Op.fieldAddr 47 (Operand.tmp 31) 5) 0 "fields.go:86" #[(Edge.mk 15 Ground.data), (Edge.mk 10 Ground.guard)] (some (10, false)))) (v := undef) rfl (by kernel_rfl) (by kernel_rfl) (by kernel_rfl) (fun _ _ _ h => h) (Or.inr ⟨by rfl, rfl⟩) hC ?_
        try simp only [Act.put, List.setIfInBounds_toArray, List.set_cons_zero, List.set_cons_succ]
        refine wpAnyH_take (i := 17) (oi := (Oper.mk (some 33) (Op.load 9 (Operand.tmp 32)) 9 "fields.go:86" #[(Edge.mk 16 Ground.data), (Edge.mk 10 Ground.guard)] (some (10, false)))) (v := undef) rfl (by kernel_rfl) (by kernel_rfl) (by kernel_rfl) (fun _ _ _ h => h) (Or.inr ⟨by rfl, rfl⟩) hC ?_
        try simp only [Act.put, List.setIfInBounds_toArray, List.set_cons_zero, List.set_cons_succ]
        refine wpAnyH_take (i := 18) (oi := (Oper.mk (some 34) (Op.call (Call.mk (Callee.value (Operand.tmp 27)) #[(Operand.tmp 29), (Operand.tmp 33)] #[86, 9])) 36 "fields.go:86" #[(Edge.mk 11 Ground.data), (Edge.mk 13 Ground.data), (Edge.mk 17 Ground.data), (Edge.mk 10 Ground.chain), (Edge.mk 10 Ground.guard)] (some (10, false)))) (v := undef) rfl (by kernel_rfl) (by kernel_rfl) (by kernel_rfl) (fun _ _ _ h => h) (Or.inr ⟨by rfl, rfl⟩) hC ?_
        try simp only [Act.put, List.setIfInBounds_toArray, List.set_cons_zero, List.set_cons_succ]
        refine wpAnyH_take (i := 19) (oi := (Oper.mk (some 35) (Op.call (Call.mk (Callee.value (Operand.func 43)) #[(Operand.tmp 34)] #[36])) 4 "fields.go:86" #[(Edge.mk 18 Ground.data), (Edge.mk 18 Ground.chain), (Edge.mk 10 Ground.guard)] (some (10, false)))) (v := undef) rfl (by kernel_rfl) (by kernel_rfl) (by kernel_rfl) (fun _ _ _ h => h) (Or.inr ⟨by rfl, rfl⟩) hC ?_
        try simp only [Act.put, List.setIfInBounds_toArray, List.set_cons_zero, List.set_cons_succ]
        refine wpAnyH_take (i := 20) (oi := (Oper.mk (some 36) (Op.unOp UnOp.not 4 (Operand.tmp 35)) 4 "fields.go:86" #[(Edge.mk 19 Ground.data), (Edge.mk 10 Ground.guard)] (some (10, false)))) (v := undef) rfl (by kernel_rfl) (by kernel_rfl) (by kernel_rfl) (fun _ _ _ h => h) (Or.inr ⟨by rfl, rfl⟩) hC ?_
        try simp only [Act.put, List.setIfInBounds_toArray, List.set_cons_zero, List.set_cons_succ]
        refine wpAnyH_take (i := 21) (oi := (Oper.mk (some 37) (Op.pick (Operand.tmp 26) (Operand.const (Value.bool true)) (Operand.tmp 36)) 4 "fields.go:86" #[(Edge.mk 10 Ground.data), (Edge.mk 20 Ground.data)] none)) (v := ?_) rfl (by kernel_rfl) (by kernel_rfl) (by kernel_rfl) (fun _ _ _ h => h) (Or.inl ⟨by rfl, ?_⟩) hC ?_
        rotate_left
        · (intro w hSw; (try dsimp only at hSw); go_simp; try with_reducible rfl)
        try simp only [Act.put, List.setIfInBounds_toArray, List.set_cons_zero, List.set_cons_succ]
        refine wpAnyH_done (by kernel_rfl) ?_ _
        go_wp2_with fail
        go_meet
        exact ⟨rfl, hB⟩
      | true =>
        cases u2 <;> (
          refine wp_region_held_drew (S := (fun w' => w'.cell? ⟨S, 0, none⟩ = some (.int .u8 s.dst) ∧ w'.cell? ⟨S, 3, none⟩ = some (.int .u8 s.fn) ∧ w'.cell? ⟨b, o + 1, none⟩ = some (.string d.dst) ∧ w'.cell? ⟨b, o + 5, none⟩ = some (.string d.fn))) (by kernel_rfl) hC (fun hHeld => ?_)
          clear hHeld
          refine wpAnyH_take (i := 0) (oi := (Oper.mk (some 16) (Op.move (Operand.tmp 5)) 91 "fields.go:86" #[] none)) (v := ?_) rfl (by kernel_rfl) (by kernel_rfl) (by kernel_rfl) (fun _ _ _ h => h) (Or.inl ⟨by rfl, ?_⟩) hC ?_
          rotate_left
          · (intro w hSw; (try dsimp only at hSw); go_simp; try with_reducible rfl)
          try simp only [Act.put, List.setIfInBounds_toArray, List.set_cons_zero, List.set_cons_succ]
          refine wpAnyH_take (i := 1) (oi := (Oper.mk (some 17) (Op.fieldAddr 88 (Operand.tmp 3) 0) 0 "fields.go:86" #[] none)) (v := ?_) rfl (by kernel_rfl) (by kernel_rfl) (by kernel_rfl) (fun _ _ _ h => h) (Or.inl ⟨by rfl, ?_⟩) hC ?_
          rotate_left
          · (intro w hSw; (try dsimp only at hSw); go_simp; try with_reducible rfl)
          try simp only [Act.put, List.setIfInBounds_toArray, List.set_cons_zero, List.set_cons_succ]
          refine wpAnyH_take (i := 2) (oi := (Oper.mk (some 18) (Op.load 86 (Operand.tmp 17)) 86 "fields.go:86" #[(Edge.mk 1 Ground.data)] none)) (v := ?_) rfl (by kernel_rfl) (by kernel_rfl) (by kernel_rfl) (fun _ _ _ h => h) (Or.inl ⟨by rfl, ?_⟩) hC ?_
          rotate_left
          · (intro w hSw; (try dsimp only at hSw); go_simp; try with_reducible rfl)
          try simp only [Act.put, List.setIfInBounds_toArray, List.set_cons_zero, List.set_cons_succ]
          refine wpAnyH_take (i := 3) (oi := (Oper.mk (some 19) (Op.move (Operand.tmp 0)) 63 "fields.go:86" #[] none)) (v := ?_) rfl (by kernel_rfl) (by kernel_rfl) (by kernel_rfl) (fun _ _ _ h => h) (Or.inl ⟨by rfl, ?_⟩) hC ?_
          rotate_left
          · (intro w hSw; (try dsimp only at hSw); go_simp; try with_reducible rfl)
          try simp only [Act.put, List.setIfInBounds_toArray, List.set_cons_zero, List.set_cons_succ]
          refine wpAnyH_take (i := 4) (oi := (Oper.mk (some 20) (Op.nilCheck (Operand.tmp 19)) 0 "fields.go:86" #[(Edge.mk 3 Ground.data)] none)) (v := ?_) rfl (by kernel_rfl) (by kernel_rfl) (by kernel_rfl) (fun _ _ _ h => h) (Or.inl ⟨by rfl, ?_⟩) hC ?_
          rotate_left
          · (intro w hSw; (try dsimp only at hSw); go_simp; try with_reducible rfl)
          try simp only [Act.put, List.setIfInBounds_toArray, List.set_cons_zero, List.set_cons_succ]
          refine wpAnyH_take (i := 5) (oi := (Oper.mk (some 21) (Op.fieldAddr 47 (Operand.tmp 20) 1) 0 "fields.go:86" #[(Edge.mk 4 Ground.data)] none)) (v := ?_) rfl (by kernel_rfl) (by kernel_rfl) (by kernel_rfl) (fun _ _ _ h => h) (Or.inl ⟨by rfl, ?_⟩) hC ?_
          rotate_left
          · (intro w hSw; (try dsimp only at hSw); go_simp; try with_reducible rfl)
          try simp only [Act.put, List.setIfInBounds_toArray, List.set_cons_zero, List.set_cons_succ]
          refine wpAnyH_take (i := 6) (oi := (Oper.mk (some 22) (Op.load 9 (Operand.tmp 21)) 9 "fields.go:86" #[(Edge.mk 5 Ground.data)] none)) (v := ?_) rfl (by kernel_rfl) (by kernel_rfl) (by kernel_rfl) (fun _ _ _ h => h) (Or.inl ⟨by rfl, ?_⟩) hC ?_
          rotate_left
          · (intro w hSw; (try dsimp only at hSw); go_simp; try with_reducible rfl)
          try simp only [Act.put, List.setIfInBounds_toArray, List.set_cons_zero, List.set_cons_succ]
          refine wpAnyH_ready (rs := [7]) (by kernel_rfl) (by simp) (AllReadyH.cons (o := (Oper.mk (some 23) (Op.call (Call.mk (Callee.value (Operand.tmp 16)) #[(Operand.tmp 18), (Operand.tmp 22)] #[86, 9])) 36 "fields.go:86" #[(Edge.mk 0 Ground.data), (Edge.mk 2 Ground.data), (Edge.mk 6 Ground.data)] none)) rfl (fun K hK => ?_) AllReadyH.nil)
          go_simp
          (go_at_call 72; refine Calls.mono (kd.out _) ?_; rintro e w4 ⟨v4, rfl, hR4, hb4⟩; replace hC := kept4 hb4 hC; replace hB := Lib.hid (hB.out.trans (hb4.mono hB.out.size)))
          refine hK.out _ _ hC (fun hHeld => ?_)
          clear hK K hHeld
          try simp only [Act.put, List.setIfInBounds_toArray, List.set_cons_zero, List.set_cons_succ]
          refine wpAnyH_ready (rs := [8]) (by kernel_rfl) (by simp) (AllReadyH.cons (o := (Oper.mk (some 24) (Op.call (Call.mk (Callee.value (Operand.func 43)) #[(Operand.tmp 23)] #[36])) 4 "fields.go:86" #[(Edge.mk 7 Ground.data), (Edge.mk 7 Ground.chain)] none)) rfl (fun K hK => ?_) AllReadyH.nil)
          go_simp
          (go_at_call 43; refine Calls.mono (g1.out _ _ hR4) ?_; rintro e w5 ⟨rfl, rfl⟩)
          refine hK.out _ _ hC (fun hHeld => ?_)
          clear hK K hHeld
          try simp only [Act.put, List.setIfInBounds_toArray, List.set_cons_zero, List.set_cons_succ]
          refine wpAnyH_take (i := 9) (oi := (Oper.mk (some 25) (Op.unOp UnOp.not 4 (Operand.tmp 24)) 4 "fields.go:86" #[(Edge.mk 8 Ground.data)] none)) (v := ?_) rfl (by kernel_rfl) (by kernel_rfl) (by kernel_rfl) (fun _ _ _ h => h) (Or.inl ⟨by rfl, ?_⟩) hC ?_
          rotate_left
          · (intro w hSw; (try dsimp only at hSw); go_simp; try with_reducible rfl)
          try simp only [Act.put, List.setIfInBounds_toArray, List.set_cons_zero, List.set_cons_succ]
          refine wpAnyH_take (i := 10) (oi := (Oper.mk (some 26) (Op.move (Operand.tmp 25)) 4 "fields.go:86" #[(Edge.mk 9 Ground.data), (Edge.mk 8 Ground.chain)] none)) (v := ?_) rfl (by kernel_rfl) (by kernel_rfl) (by kernel_rfl) (fun _ _ _ h => h) (Or.inl ⟨by rfl, ?_⟩) hC ?_
          rotate_left
          · (intro w hSw; (try dsimp only at hSw); go_simp; try with_reducible rfl)
          try simp only [Act.put, List.setIfInBounds_toArray, List.set_cons_zero, List.set_cons_succ]
          refine wpAnyH_take (i := 11) (oi := (Oper.mk (some 27) (Op.move (Operand.tmp 5)) 91 "fields.go:86" #[(Edge.mk 10 Ground.guard)] (some (10, false)))) (v := ?_) rfl (by kernel_rfl) (by kernel_rfl) (by kernel_rfl) (fun _ _ _ h => h) (Or.inl ⟨by rfl, ?_⟩) hC ?_
          rotate_left
          · (intro w hSw; (try dsimp only at hSw); go_simp; try with_reducible rfl)
          try simp only [Act.put, List.setIfInBounds_toArray, List.set_cons_zero, List.set_cons_succ]
          refine wpAnyH_take (i := 12) (oi := (Oper.mk (some 28) (Op.fieldAddr 88 (Operand.tmp 3) 3) 0 "fields.go:86" #[(Edge.mk 10 Ground.guard)] (some (10, false)))) (v := ?_) rfl (by kernel_rfl) (by kernel_rfl) (by kernel_rfl) (fun _ _ _ h => h) (Or.inl ⟨by rfl, ?_⟩) hC ?_
          rotate_left
          · (intro w hSw; (try dsimp only at hSw); go_simp; try with_reducible rfl)
          try simp only [Act.put, List.setIfInBounds_toArray, List.set_cons_zero, List.set_cons_succ]
          refine wpAnyH_take (i := 13) (oi := (Oper.mk (some 29) (Op.load 86 (Operand.tmp 28)) 86 "fields.go:86" #[(Edge.mk 12 Ground.data), (Edge.mk 10 Ground.guard)] (some (10, false)))) (v := ?_) rfl (by kernel_rfl) (by kernel_rfl) (by kernel_rfl) (fun _ _ _ h => h) (Or.inl ⟨by rfl, ?_⟩) hC ?_
          rotate_left
          · (intro w hSw; (try dsimp only at hSw); go_simp; try with_reducible rfl)
          try simp only [Act.put, List.setIfInBounds_toArray, List.set_cons_zero, List.set_cons_succ]
          refine wpAnyH_take (i := 14) (oi := (Oper.mk (some 30) (Op.move (Operand.tmp 0)) 63 "fields.go:86" #[(Edge.mk 10 Ground.guard)] (some (10, false)))) (v := ?_) rfl (by kernel_rfl) (by kernel_rfl) (by kernel_rfl) (fun _ _ _ h => h) (Or.inl ⟨by rfl, ?_⟩) hC ?_
          rotate_left
          · (intro w hSw; (try dsimp only at hSw); go_simp; try with_reducible rfl)
          try simp only [Act.put, List.setIfInBounds_toArray, List.set_cons_zero, List.set_cons_succ]
          refine wpAnyH_take (i := 15) (oi := (Oper.mk (some 31) (Op.nilCheck (Operand.tmp 30)) 0 "fields.go:86" #[(Edge.mk 14 Ground.data), (Edge.mk 10 Ground.guard)] (some (10, false)))) (v := ?_) rfl (by kernel_rfl) (by kernel_rfl) (by kernel_rfl) (fun _ _ _ h => h) (Or.inl ⟨by rfl, ?_⟩) hC ?_
          rotate_left
          · (intro w hSw; (try dsimp only at hSw); go_simp; try with_reducible rfl)
          try simp only [Act.put, List.setIfInBounds_toArray, List.set_cons_zero, List.set_cons_succ]
          refine wpAnyH_take (i := 16) (oi := (Oper.mk (some 32) (Op.fieldAddr 47 (Operand.tmp 31) 5) 0 "fields.go:86" #[(Edge.mk 15 Ground.data), (Edge.mk 10 Ground.guard)] (some (10, false)))) (v := ?_) rfl (by kernel_rfl) (by kernel_rfl) (by kernel_rfl) (fun _ _ _ h => h) (Or.inl ⟨by rfl, ?_⟩) hC ?_
          rotate_left
          · (intro w hSw; (try dsimp only at hSw); go_simp; try with_reducible rfl)
          try simp only [Act.put, List.setIfInBounds_toArray, List.set_cons_zero, List.set_cons_succ]
          refine wpAnyH_take (i := 17) (oi := (Oper.mk (some 33) (Op.load 9 (Operand.tmp 32)) 9 "fields.go:86" #[(Edge.mk 16 Ground.data), (Edge.mk 10 Ground.guard)] (some (10, false)))) (v := ?_) rfl (by kernel_rfl) (by kernel_rfl) (by kernel_rfl) (fun _ _ _ h => h) (Or.inl ⟨by rfl, ?_⟩) hC ?_
          rotate_left
          · (intro w hSw; (try dsimp only at hSw); go_simp; try with_reducible rfl)
          try simp only [Act.put, List.setIfInBounds_toArray, List.set_cons_zero, List.set_cons_succ]
          refine wpAnyH_ready (rs := [18]) (by kernel_rfl) (by simp) (AllReadyH.cons (o := (Oper.mk (some 34) (Op.call (Call.mk (Callee.value (Operand.tmp 27)) #[(Operand.tmp 29), (Operand.tmp 33)] #[86, 9])) 36 "fields.go:86" #[(Edge.mk 11 Ground.data), (Edge.mk 13 Ground.data), (Edge.mk 17 Ground.data), (Edge.mk 10 Ground.chain), (Edge.mk 10 Ground.guard)] (some (10, false)))) rfl (fun K hK => ?_) AllReadyH.nil)
          go_simp
          (go_at_call 72; refine Calls.mono (kf.out _) ?_; rintro e w4 ⟨v4, rfl, hR4, hb4⟩; replace hC := kept4 hb4 hC; replace hB := Lib.hid (hB.out.trans (hb4.mono hB.out.size)))
          refine hK.out _ _ hC (fun hHeld => ?_)
          clear hK K hHeld
          try simp only [Act.put, List.setIfInBounds_toArray, List.set_cons_zero, List.set_cons_succ]
          refine wpAnyH_ready (rs := [19]) (by kernel_rfl) (by simp) (AllReadyH.cons (o := (Oper.mk (some 35) (Op.call (Call.mk (Callee.value (Operand.func 43)) #[(Operand.tmp 34)] #[36])) 4 "fields.go:86" #[(Edge.mk 18 Ground.data), (Edge.mk 18 Ground.chain), (Edge.mk 10 Ground.guard)] (some (10, false)))) rfl (fun K hK => ?_) AllReadyH.nil)
          go_simp
          (go_at_call 43; refine Calls.mono (g2.out _ _ hR4) ?_; rintro e w5 ⟨rfl, rfl⟩)
          refine hK.out _ _ hC (fun hHeld => ?_)
          clear hK K hHeld
          try simp only [Act.put, List.setIfInBounds_toArray, List.set_cons_zero, List.set_cons_succ]
          refine wpAnyH_take (i := 20) (oi := (Oper.mk (some 36) (Op.unOp UnOp.not 4 (Operand.tmp 35)) 4 "fields.go:86" #[(Edge.mk 19 Ground.data), (Edge.mk 10 Ground.guard)] (some (10, false)))) (v := ?_) rfl (by kernel_rfl) (by kernel_rfl) (by kernel_rfl) (fun _ _ _ h => h) (Or.inl ⟨by rfl, ?_⟩) hC ?_
          rotate_left
          · (intro w hSw; (try dsimp only at hSw); go_simp; try with_reducible rfl)
          try simp only [Act.put, List.setIfInBounds_toArray, List.set_cons_zero, List.set_cons_succ]
          refine wpAnyH_take (i := 21) (oi := (Oper.mk (some 37) (Op.pick (Operand.tmp 26) (Operand.const (Value.bool true)) (Operand.tmp 36)) 4 "fields.go:86" #[(Edge.mk 10 Ground.data), (Edge.mk 20 Ground.data)] none)) (v := ?_) rfl (by kernel_rfl) (by kernel_rfl) (by kernel_rfl) (fun _ _ _ h => h) (Or.inl ⟨by rfl, ?_⟩) hC ?_
          rotate_left
          · (intro w hSw; (try dsimp only at hSw); go_simp; try with_reducible rfl)
          try simp only [Act.put, List.setIfInBounds_toArray, List.set_cons_zero, List.set_cons_succ]
          refine wpAnyH_done (by kernel_rfl) ?_ _
          go_wp2_with fail
          go_meet
          exact ⟨rfl, hB⟩)
    case rest =>
      obtain ⟨rfl, hBc⟩ := hcut
      have hF3 := Lib.hid (hF2.out.below hBc.out)
      have hB3 := Lib.hid (hB2.out.trans (hBc.out.mono hB2.out.size))
      obtain ⟨p, hp⟩ : ∃ p, p = (!u1 || !u2) := ⟨_, rfl⟩
      rw [← hp]
      replace hp := Lib.hid hp
      clear hF2 hB2 hBc kd kf g1 g2
      rename World => W3
      cases p with
      | true =>
        clear hF3
        go_wp2_with fail
        go_ret
        exact ⟨by rw [← hp.out]; rfl, hB3.out⟩
      | false =>
        go_upto_region 7 with fail
        go_cut [59] from 38 to 59 (fun x wx => x = .bool (!u3 || !u4) ∧ Hid (Below W3.heap.size W3 wx))
        case first =>
          have hC : W3.drew.cell? ⟨S, 1, none⟩ = some (.int .u8 s.a) ∧ W3.drew.cell? ⟨S, 2, none⟩ = some (.int .u8 s.b) ∧ W3.drew.cell? ⟨b, o + 2, none⟩ = some (.string d.a) ∧ W3.drew.cell? ⟨b, o + 3, none⟩ = some (.string d.b) := ⟨hF3.out.s1, hF3.out.s2, hF3.out.c2, hF3.out.c3⟩
          have hB := Lib.hid (Below.refl W3.heap.size W3).drew
          clear hF3 hB3 g5 g6 e5 e6 hp
          cases u3 with
          | false =>
            refine wp_region_held_drew (S := (fun w' => w'.cell? ⟨S, 1, none⟩ = some (.int .u8 s.a) ∧ w'.cell? ⟨S, 2, none⟩ = some (.int .u8 s.b) ∧ w'.cell? ⟨b, o + 2, none⟩ = some (.string d.a) ∧ w'.cell? ⟨b, o + 3, none⟩ = some (.string d.b))) (by kernel_rfl) hC (fun hHeld => ?_)
            clear hHeld
            refine wpAnyH_take (i := 0) (oi := (Oper.mk (some 38) (Op.move (Operand.tmp 5)) 91 "fields.go:89" #[] none)) (v := ?_) rfl (by kernel_rfl) (by kernel_rfl) (by kernel_rfl) (fun _ _ _ h => h) (Or.inl ⟨by rfl, ?_⟩) hC ?_
            rotate_left
            · (intro w hSw; (try dsimp only at hSw); go_simp; try with_reducible rfl)
            try simp only [Act.put, List.setIfInBounds_toArray, List.set_cons_zero, List.set_cons_succ]
            refine wpAnyH_take (i := 1) (oi := (Oper.mk (some 39) (Op.fieldAddr 88 (Operand.tmp 3) 1) 0 "fields.go:89" #[] none)) (v := ?_) rfl (by kernel_rfl) (by kernel_rfl) (by kernel_rfl) (fun _ _ _ h => h) (Or.inl ⟨by rfl, ?_⟩) hC ?_
            rotate_left
            · (intro w hSw; (try dsimp only at hSw); go_simp; try with_reducible rfl)
            try simp only [Act.put, List.setIfInBounds_toArray, List.set_cons_zero, List.set_cons_succ]
            refine wpAnyH_take (i := 2) (oi := (Oper.mk (some 40) (Op.load 86 (Operand.tmp 39)) 86 "fields.go:89" #[(Edge.mk 1 Ground.data)] none)) (v := ?_) rfl (by kernel_rfl) (by kernel_rfl) (by kernel_rfl) (fun _ _ _ h => h) (Or.inl ⟨by rfl, ?_⟩) hC ?_
            rotate_left
            · (intro w hSw; (try dsimp only at hSw); go_simp; try with_reducible rfl)
            try simp only [Act.put, List.setIfInBounds_toArray, List.set_cons_zero, List.set_cons_succ]
            refine wpAnyH_take (i := 3) (oi := (Oper.mk (some 41) (Op.move (Operand.tmp 0)) 63 "fields.go:89" #[] none)) (v := ?_) rfl (by kernel_rfl) (by kernel_rfl) (by kernel_rfl) (fun _ _ _ h => h) (Or.inl ⟨by rfl, ?_⟩) hC ?_
            rotate_left
            · (intro w hSw; (try dsimp only at hSw); go_simp; try with_reducible rfl)
            try simp only [Act.put, List.setIfInBounds_toArray, List.set_cons_zero, List.set_cons_succ]
            refine wpAnyH_take (i := 4) (oi := (Oper.mk (some 42) (Op.nilCheck (Operand.tmp 41)) 0 "fields.go:89" #[(Edge.mk 3 Ground.data)] none)) (v := ?_) rfl (by kernel_rfl) (by kernel_rfl) (by kernel_rfl) (fun _ _ _ h => h) (Or.inl ⟨by rfl, ?_⟩) hC ?_
            rotate_left
            · (intro w hSw; (try dsimp only at hSw); go_simp; try with_reducible rfl)
            try simp only [Act.put, List.setIfInBounds_toArray, List.set_cons_zero, List.set_cons_succ]
            refine wpAnyH_take (i := 5) (oi := (Oper.mk (some 43) (Op.fieldAddr 47 (Operand.tmp 42) 2) 0 "fields.go:89" #[(Edge.mk 4 Ground.data)] none)) (v := ?_) rfl (by kernel_rfl) (by kernel_rfl) (by kernel_rfl) (fun _ _ _ h => h) (Or.inl ⟨by rfl, ?_⟩) hC ?_
            rotate_left
            · (intro w hSw; (try dsimp only at hSw); go_simp; try with_reducible rfl)
            try simp only [Act.put, List.setIfInBounds_toArray, List.set_cons_zero, List.set_cons_succ]
            refine wpAnyH_take (i := 6) (oi := (Oper.mk (some 44) (Op.load 9 (Operand.tmp 43)) 9 "fields.go:89" #[(Edge.mk 5 Ground.data)] none)) (v := ?_) rfl (by kernel_rfl) (by kernel_rfl) (by kernel_rfl) (fun _ _ _ h => h) (Or.inl ⟨by rfl, ?_⟩) hC ?_
            rotate_left
            · (intro w hSw; (try dsimp only at hSw); go_simp; try with_reducible rfl)
            try simp only [Act.put, List.setIfInBounds_toArray, List.set_cons_zero, List.set_cons_succ]
            refine wpAnyH_ready (rs := [7]) (by kernel_rfl) (by simp) (AllReadyH.cons (o := (Oper.mk (some 45) (Op.call (Call.mk (Callee.value (Operand.tmp 38)) #[(Operand.tmp 40), (Operand.tmp 44)] #[86, 9])) 36 "fields.go:89" #[(Edge.mk 0 Ground.data), (Edge.mk 2 Ground.data), (Edge.mk 6 Ground.data)] none)) rfl (fun K hK => ?_) AllReadyH.nil)
            go_simp
            (go_at_call 72; refine Calls.mono (ka.out _) ?_; rintro e w4 ⟨v4, rfl, hR4, hb4⟩; replace hC := kept4 hb4 hC; replace hB := Lib.hid (hB.out.trans (hb4.mono hB.out.size)))
            refine hK.out _ _ hC (fun hHeld => ?_)
            clear hK K hHeld
            try simp only [Act.put, List.setIfInBounds_toArray, List.set_cons_zero, List.set_cons_succ]
            refine wpAnyH_ready (rs := [8]) (by kernel_rfl) (by simp) (AllReadyH.cons (o := (Oper.mk (some 46) (Op.call (Call.mk (Callee.value (Operand.func 73)) #[(Operand.tmp 45)] #[36])) 4 "fields.go:89" #[(Edge.mk 7 Ground.data), (Edge.mk 7 Ground.chain)] none)) rfl (fun K hK => ?_) AllReadyH.nil)
            go_simp
            (go_at_call 73; refine Calls.mono (g3.out _ _ hR4) ?_; rintro e w5 ⟨rfl, rfl⟩)
            refine hK.out _ _ hC (fun hHeld => ?_)
            clear hK K hHeld
            try simp only [Act.put, List.setIfInBounds_toArray, List.set_cons_zero, List.set_cons_succ]
            refine wpAnyH_take (i := 9) (oi := (Oper.mk (some 47) (Op.unOp UnOp.not 4 (Operand.tmp 46)) 4 "fields.go:89" #[(Edge.mk 8 Ground.data)] none)) (v := ?_) rfl (by kernel_rfl) (by kernel_rfl) (by kernel_rfl) (fun _ _ _ h => h) (Or.inl ⟨by rfl, ?_⟩) hC ?_
            rotate_left
            · (intro w hSw; (try dsimp only at hSw); go_simp; try with_reducible rfl)
            try simp only [Act.put, List.setIfInBounds_toArray, List.set_cons_zero, List.set_cons_succ]
            refine wpAnyH_take (i := 10) (oi := (Oper.mk (some 48) (Op.move (Operand.tmp 47)) 4 "fields.go:89" #[(Edge.mk 9 Ground.data), (Edge.mk 8 Ground.chain)] none)) (v := ?_) rfl (by kernel_rfl) (by kernel_rfl) (by kernel_rfl) (fun _ _ _ h => h) (Or.inl ⟨by rfl, ?_⟩) hC ?_
            rotate_left
            · (intro w hSw; (try dsimp only at hSw); go_simp; try with_reducible rfl)
            try simp only [Act.put, List.setIfInBounds_toArray, List.set_cons_zero, List.set_cons_succ]
            refine wpAnyH_take (i := 11) (oi := (Oper.mk (some 49) (Op.move (Operand.tmp 5)) 91 "fields.go:89" #[(Edge.mk 10 Ground.guard)] (some (10, false)))) (v := undef) rfl (by kernel_rfl) (by kernel_rfl) (by kernel_rfl) (fun _ _ _ h => h) (Or.inr ⟨by rfl, rfl⟩) hC ?_
            try simp only [Act.put, List.setIfInBounds_toArray, List.set_cons_zero, List.set_cons_succ]
            refine wpAnyH_take (i := 12) (oi := (Oper.mk (some 50) (Op.fieldAddr 88 (Operand.tmp 3) 2) 0 "fields.go:89" #[(Edge.mk 10 Ground.guard)] (some (10, false)))) (v := undef) rfl (by kernel_rfl) (by kernel_rfl) (by kernel_rfl) (fun _ _ _ h => h) (Or.inr ⟨by rfl, rfl⟩) hC ?_
            try simp only [Act.put, List.setIfInBounds_toArray, List.set_cons_zero, List.set_cons_succ]
            refine wpAnyH_take (i := 13) (oi := (Oper.mk (some 51) (Op.load 86 (Operand.tmp 50)) 86 "fields.go:89" #[(Edge.mk 12 Ground.data), (Edge.mk 10 Ground.guard)] (some (10, false)))) (v := undef) rfl (by kernel_rfl) (by kernel_rfl) (by kernel_rfl) (fun _ _ _ h => h) (Or.inr ⟨by rfl, rfl⟩) hC ?_
            try simp only [Act.put, List.setIfInBounds_toArray, List.set_cons_zero, List.set_cons_succ]
            refine wpAnyH_take (i := 14) (oi := (Oper.mk (some 52) (Op.move (Operand.tmp 0)) 63 "fields.go:89" #[(Edge.mk 10 Ground.guard)] (some (10, false)))) (v := undef) rfl (by kernel_rfl) (by kernel_rfl) (by kernel_rfl) (fun _ _ _ h => h) (Or.inr ⟨by rfl, rfl⟩) hC ?_
            try simp only [Act.put, List.setIfInBounds_toArray, List.set_cons_zero, List.set_cons_succ]
            refine wpAnyH_take (i := 15) (oi := (Oper.mk (some 53) (Op.nilCheck (Operand.tmp 52)) 0 "fields.go:89" #[(Edge.mk 14 Ground.data), (Edge.mk 10 Ground.guard)] (some (10, false)))) (v := undef) rfl (by kernel_rfl) (by kernel_rfl) (by kernel_rfl) (fun _ _ _ h => h) (Or.inr ⟨by rfl, rfl⟩) hC ?_
            try simp only [Act.put, List.setIfInBounds_toArray, List.set_cons_zero, List.set_cons_succ]
            refine wpAnyH_take (i := 16) (oi := (Oper.mk (some 54) (Op.fieldAddr 47 (Operand.tmp 53) 3) 0 "fields.go:89" #[(Edge.mk 15 Ground.data), (Edge.mk 10 Ground.guard)] (some (10, false)))) (v := undef) rfl (by kernel_rfl) (by kernel_rfl) (by kernel_rfl) (fun _ _ _ h => h) (Or.inr ⟨by rfl, rfl⟩) hC ?_
            try simp only [Act.put, List.setIfInBounds_toArray, List.set_cons_zero, List.set_cons_succ]
            refine wpAnyH_take (i := 17) (oi := (Oper.mk (some 55) (Op.load 9 (Operand.tmp 54)) 9 "fields.go:89" #[(Edge.mk 16 Ground.data), (Edge.mk 10 Ground.guard)] (some (10, false)))) (v := undef) rfl (by kernel_rfl) (by kernel_rfl) (by kernel_rfl) (fun _ _ _ h => h) (Or.inr ⟨by rfl, rfl⟩) hC ?_
            try simp only [Act.put, List.setIfInBounds_toArray, List.set_cons_zero, List.set_cons_succ]
            refine wpAnyH_take (i := 18) (oi := (Oper.mk (some 56) (Op.call (Call.mk (Callee.value (Operand.tmp 49)) #[(Operand.tmp 51), (Operand.tmp 55)] #[86, 9])) 36 "fields.go:89" #[(Edge.mk 11 Ground.data), (Edge.mk 13 Ground.data), (Edge.mk 17 Ground.data), (Edge.mk 10 Ground.chain), (Edge.mk 10 Ground.guard)] (some (10, false)))) (v := undef) rfl (by kernel_rfl) (by kernel_rfl) (by kernel_rfl) (fun _ _ _ h => h) (Or.inr ⟨by rfl, rfl⟩) hC ?_
            try simp only [Act.put, List.setIfInBounds_toArray, List.set_cons_zero, List.set_cons_succ]
            refine wpAnyH_take (i := 19) (oi := (Oper.mk (some 57) (Op.call (Call.mk (Callee.value (Operand.func 73)) #[(Operand.tmp 56)] #[36])) 4 "fields.go:89" #[(Edge.mk 18 Ground.data), (Edge.mk 18 Ground.chain), (Edge.mk 10 Ground.guard)] (some (10, false)))) (v := undef) rfl (by kernel_rfl) (by kernel_rfl) (by kernel_rfl) (fun _ _ _ h => h) (Or.inr ⟨by rfl, rfl⟩) hC ?_
            try simp only [Act.put, List.setIfInBounds_toArray, List.set_cons_zero, List.set_cons_succ]
            refine wpAnyH_take (i := 20) (oi := (Oper.mk (some 58) (Op.unOp UnOp.not 4 (Operand.tmp 57)) 4 "fields.go:89" #[(Edge.mk 19 Ground.data), (Edge.mk 10 Ground.guard)] (some (10, false)))) (v := undef) rfl (by kernel_rfl) (by kernel_rfl) (by kernel_rfl) (fun _ _ _ h => h) (Or.inr ⟨by rfl, rfl⟩) hC ?_
            try simp only [Act.put, List.setIfInBounds_toArray, List.set_cons_zero, List.set_cons_succ]
            refine wpAnyH_take (i := 21) (oi := (Oper.mk (some 59) (Op.pick (Operand.tmp 48) (Operand.const (Value.bool true)) (Operand.tmp 58)) 4 "fields.go:89" #[(Edge.mk 10 Ground.data), (Edge.mk 20 Ground.data)] none)) (v := ?_) rfl (by kernel_rfl) (by kernel_rfl) (by kernel_rfl) (fun _ _ _ h => h) (Or.inl ⟨by rfl, ?_⟩) hC ?_
            rotate_left
            · (intro w hSw; (try dsimp only at hSw); go_simp; try with_reducible rfl)
            try simp only [Act.put, List.setIfInBounds_toArray, List.set_cons_zero, List.set_cons_succ]
            refine wpAnyH_done (by kernel_rfl) ?_ _
            go_wp2_with fail
            go_meet
            exact ⟨rfl, hB⟩
          | true =>
            cases u4 <;> (
              refine wp_region_held_drew (S := (fun w' => w'.cell? ⟨S, 1, none⟩ = some (.int .u8 s.a) ∧ w'.cell? ⟨S, 2, none⟩ = some (.int .u8 s.b) ∧ w'.cell? ⟨b, o + 2, none⟩ = some (.string d.a) ∧ w'.cell? ⟨b, o + 3, none⟩ = some (.string d.b))) (by kernel_rfl) hC (fun hHeld => ?_)
              clear hHeld
              refine wpAnyH_take (i := 0) (oi := (Oper.mk (some 38) (Op.move (Operand.tmp 5)) 91 "fields.go:89" #[] none)) (v := ?_) rfl (by kernel_rfl) (by kernel_rfl) (by kernel_rfl) (fun _ _ _ h => h) (Or.inl ⟨by rfl, ?_⟩) hC ?_
              rotate_left
              · (intro w hSw; (try dsimp only at hSw); go_simp; try with_reducible rfl)
              try simp only [Act.put, List.setIfInBounds_toArray, List.set_cons_zero, List.set_cons_succ]
              refine wpAnyH_take (i := 1) (oi := (Oper.mk (some 39) (Op.fieldAddr 88 (Operand.tmp 3) 1) 0 "fields.go:89" #[] none)) (v := ?_) rfl (by kernel_rfl) (by kernel_rfl) (by kernel_rfl) (fun _ _ _ h => h) (Or.inl ⟨by rfl, ?_⟩) hC ?_
              rotate_left
              · (intro w hSw; (try dsimp only at hSw); go_simp; try with_reducible rfl)
              try simp only [Act.put, List.setIfInBounds_toArray, List.set_cons_zero, List.set_cons_succ]
              refine wpAnyH_take (i := 2) (oi := (Oper.mk (some 40) (Op.load 86 (Operand.tmp 39)) 86 "fields.go:89" #[(Edge.mk 1 Ground.data)] none)) (v := ?_) rfl (by kernel_rfl) (by kernel_rfl) (by kernel_rfl) (fun _ _ _ h => h) (Or.inl ⟨by rfl, ?_⟩) hC ?_
              rotate_left
              · (intro w hSw; (try dsimp only at hSw); go_simp; try with_reducible rfl)
              try simp only [Act.put, List.setIfInBounds_toArray, List.set_cons_zero, List.set_cons_succ]
              refine wpAnyH_take (i := 3) (oi := (Oper.mk (some 41) (Op.move (Operand.tmp 0)) 63 "fields.go:89" #[] none)) (v := ?_) rfl (by kernel_rfl) (by kernel_rfl) (by kernel_rfl) (fun _ _ _ h => h) (Or.inl ⟨by rfl, ?_⟩) hC ?_
              rotate_left
              · (intro w hSw; (try dsimp only at hSw); go_simp; try with_reducible rfl)
              try simp only [Act.put, List.setIfInBounds_toArray, List.set_cons_zero, List.set_cons_succ]
              refine wpAnyH_take (i := 4) (oi := (Oper.mk (some 42) (Op.nilCheck (Operand.tmp 41)) 0 "fields.go:89" #[(Edge.mk 3 Ground.data)] none)) (v := ?_) rfl (by kernel_rfl) (by kernel_rfl) (by kernel_rfl) (fun _ _ _ h => h) (Or.inl ⟨by rfl, ?_⟩) hC ?_
              rotate_left
              · (intro w hSw; (try dsimp only at hSw); go_simp; try with_reducible rfl)
              try simp only [Act.put, List.setIfInBounds_toArray, List.set_cons_zero, List.set_cons_succ]
              refine wpAnyH_take (i := 5) (oi := (Oper.mk (some 43) (Op.fieldAddr 47 (Operand.tmp 42) 2) 0 "fields.go:89" #[(Edge.mk 4 Ground.data)] none)) (v := ?_) rfl (by kernel_rfl) (by kernel_rfl) (by kernel_rfl) (fun _ _ _ h => h) (Or.inl ⟨by rfl, ?_⟩) hC ?_
              rotate_left
              · (intro w hSw; (try dsimp only at hSw); go_simp; try with_reducible rfl)
              try simp only [Act.put, List.setIfInBounds_toArray, List.set_cons_zero, List.set_cons_succ]
              refine wpAnyH_take (i := 6) (oi := (Oper.mk (some 44) (Op.load 9 (Operand.tmp 43)) 9 "fields.go:89" #[(Edge.mk 5 Ground.data)] none)) (v := ?_) rfl (by kernel_rfl) (by kernel_rfl) (by kernel_rfl) (fun _ _ _ h => h) (Or.inl ⟨by rfl, ?_⟩) hC ?_
              rotate_left
              · (intro w hSw; (try dsimp only at hSw); go_simp; try with_reducible rfl)
              try simp only [Act.put, List.setIfInBounds_toArray, List.set_cons_zero, List.set_cons_succ]
              refine wpAnyH_ready (rs := [7]) (by kernel_rfl) (by simp) (AllReadyH.cons (o := (Oper.mk (some 45) (Op.call (Call.mk (Callee.value (Operand.tmp 38)) #[(Operand.tmp 40), (Operand.tmp 44)] #[86, 9])) 36 "fields.go:89" #[(Edge.mk 0 Ground.data), (Edge.mk 2 Ground.data), (Edge.mk 6 Ground.data)] none)) rfl (fun K hK => ?_) AllReadyH.nil)
              go_simp
              (go_at_call 72; refine Calls.mono (ka.out _) ?_; rintro e w4 ⟨v4, rfl, hR4, hb4⟩; replace hC := kept4 hb4 hC; replace hB := Lib.hid (hB.out.trans (hb4.mono hB.out.size)))
              refine hK.out _ _ hC (fun hHeld => ?_)
              clear hK K hHeld
              try simp only [Act.put, List.setIfInBounds_toArray, List.set_cons_zero, List.set_cons_succ]
              refine wpAnyH_ready (rs := [8]) (by kernel_rfl) (by simp) (AllReadyH.cons (o := (Oper.mk (some 46) (Op.call (Call.mk (Callee.value (Operand.func 73)) #[(Operand.tmp 45)] #[36])) 4 "fields.go:89" #[(Edge.mk 7 Ground.data), (Edge.mk 7 Ground.chain)] none)) rfl (fun K hK => ?_) AllReadyH.nil)
              go_simp
              (go_at_call 73; refine Calls.mono (g3.out _ _ hR4) ?_; rintro e w5 ⟨rfl, rfl⟩)
              refine hK.out _ _ hC (fun hHeld => ?_)
              clear hK K hHeld
              try simp only [Act.put, List.setIfInBounds_toArray, List.set_cons_zero, List.set_cons_succ]
              refine wpAnyH_take (i := 9) (oi := (Oper.mk (some 47) (Op.unOp UnOp.not 4 (Operand.tmp 46)) 4 "fields.go:89" #[(Edge.mk 8 Ground.data)] none)) (v := ?_) rfl (by kernel_rfl) (by kernel_rfl) (by kernel_rfl) (fun _ _ _ h => h) (Or.inl ⟨by rfl, ?_⟩) hC ?_
              rotate_left
              · (intro w hSw; (try dsimp only at hSw); go_simp; try with_reducible rfl)
              try simp only [Act.put, List.setIfInBounds_toArray, List.set_cons_zero, List.set_cons_succ]
              refine wpAnyH_take (i := 10) (oi := (Oper.mk (some 48) (Op.move (Operand.tmp 47)) 4 "fields.go:89" #[(Edge.mk 9 Ground.data), (Edge.mk 8 Ground.chain)] none)) (v := ?_) rfl (by kernel_rfl) (by kernel_rfl) (by kernel_rfl) (fun _ _ _ h => h) (Or.inl ⟨by rfl, ?_⟩) hC ?_
              rotate_left
              · (intro w hSw; (try dsimp only at hSw); go_simp; try with_reducible rfl)
              try simp only [Act.put, List.setIfInBounds_toArray, List.set_cons_zero, List.set_cons_succ]
              refine wpAnyH_take (i := 11) (oi := (Oper.mk (some 49) (Op.move (Operand.tmp 5)) 91 "fields.go:89" #[(Edge.mk 10 Ground.guard)] (some (10, false)))) (v := ?_) rfl (by kernel_rfl) (by kernel_rfl) (by kernel_rfl) (fun _ _ _ h => h) (Or.inl ⟨by rfl, ?_⟩) hC ?_
              rotate_left
              · (intro w hSw; (try dsimp only at hSw); go_simp; try with_reducible rfl)
              try simp only [Act.put, List.setIfInBounds_toArray, List.set_cons_zero, List.set_cons_succ]
              refine wpAnyH_take (i := 12) (oi := (Oper.mk (some 50) (Op.fieldAddr 88 (Operand.tmp 3) 2) 0 "fields.go:89" #[(Edge.mk 10 Ground.guard)] (some (10, false)))) (v := ?_) rfl (by kernel_rfl) (by kernel_rfl) (by kernel_rfl) (fun _ _ _ h => h) (Or.inl ⟨by rfl, ?_⟩) hC ?_
              rotate_left
              · (intro w hSw; (try dsimp only at hSw); go_simp; try with_reducible rfl)
              try simp only [Act.put, List.setIfInBounds_toArray, List.set_cons_zero, List.set_cons_succ]
              refine wpAnyH_take (i := 13) (oi := (Oper.mk (some 51) (Op.load 86 (Operand.tmp 50)) 86 "fields.go:89" #[(Edge.mk 12 Ground.data), (Edge.mk 10 Ground.guard)] (some (10, false)))) (v := ?_) rfl (by kernel_rfl) (by kernel_rfl) (by kernel_rfl) (fun _ _ _ h => h) (Or.inl ⟨by rfl, ?_⟩) hC ?_
              rotate_left
              · (intro w hSw; (try dsimp only at hSw); go_simp; try with_reducible rfl)
              try simp only [Act.put, List.setIfInBounds_toArray, List.set_cons_zero, List.set_cons_succ]
              refine wpAnyH_take (i := 14) (oi := (Oper.mk (some 52) (Op.move (Operand.tmp 0)) 63 "fields.go:89" #[(Edge.mk 10 Ground.guard)] (some (10, false)))) (v := ?_) rfl (by kernel_rfl) (by kernel_rfl) (by kernel_rfl) (fun _ _ _ h => h) (Or.inl ⟨by rfl, ?_⟩) hC ?_
              rotate_left
              · (intro w hSw; (try dsimp only at hSw); go_simp; try with_reducible rfl)
              try simp only [Act.put, List.setIfInBounds_toArray, List.set_cons_zero, List.set_cons_succ]
              refine wpAnyH_take (i := 15) (oi := (Oper.mk (some 53) (Op.nilCheck (Operand.tmp 52)) 0 "fields.go:89" #[(Edge.mk 14 Ground.data), (Edge.mk 10 Ground.guard)] (some (10, false)))) (v := ?_) rfl (by kernel_rfl) (by kernel_rfl) (by kernel_rfl) (fun _ _ _ h => h) (Or.inl ⟨by rfl, ?_⟩) hC ?_
              rotate_left
              · (intro w hSw; (try dsimp only at hSw); go_simp; try with_reducible rfl)
              try simp only [Act.put, List.setIfInBounds_toArray, List.set_cons_zero, List.set_cons_succ]
              refine wpAnyH_take (i := 16) (oi := (Oper.mk (some 54) (Op.fieldAddr 47 (Operand.tmp 53) 3) 0 "fields.go:89" #[(Edge.mk 15 Ground.data), (Edge.mk 10 Ground.guard)] (some (10, false)))) (v := ?_) rfl (by kernel_rfl) (by kernel_rfl) (by kernel_rfl) (fun _ _ _ h => h) (Or.inl ⟨by rfl, ?_⟩) hC ?_
              rotate_left
              · (intro w hSw; (try dsimp only at hSw); go_simp; try with_reducible rfl)
              try simp only [Act.put, List.setIfInBounds_toArray, List.set_cons_zero, List.set_cons_succ]
              refine wpAnyH_take (i := 17) (oi := (Oper.mk (some 55) (Op.load 9 (Operand.tmp 54)) 9 "fields.go:89" #[(Edge.mk 16 Ground.data), (Edge.mk 10 Ground.guard)] (some (10, false)))) (v := ?_) rfl (by kernel_rfl) (by kernel_rfl) (by kernel_rfl) (fun _ _ _ h => h) (Or.inl ⟨by rfl, ?_⟩) hC ?_
              rotate_left
              · (intro w hSw; (try dsimp only at hSw); go_simp; try with_reducible rfl)
              try simp only [Act.put, List.setIfInBounds_toArray, List.set_cons_zero, List.set_cons_succ]
              refine wpAnyH_ready (rs := [18]) (by kernel_rfl) (by simp) (AllReadyH.cons (o := (Oper.mk (some 56) (Op.call (Call.mk (Callee.value (Operand.tmp 49)) #[(Operand.tmp 51), (Operand.tmp 55)] #[86, 9])) 36 "fields.go:89" #[(Edge.mk 11 Ground.data), (Edge.mk 13 Ground.data), (Edge.mk 17 Ground.data), (Edge.mk 10 Ground.chain), (Edge.mk 10 Ground.guard)] (some (10, false)))) rfl (fun K hK => ?_) AllReadyH.nil)
              go_simp
              (go_at_call 72; refine Calls.mono (kb.out _) ?_; rintro e w4 ⟨v4, rfl, hR4, hb4⟩; replace hC := kept4 hb4 hC; replace hB := Lib.hid (hB.out.trans (hb4.mono hB.out.size)))
              refine hK.out _ _ hC (fun hHeld => ?_)
              clear hK K hHeld
              try simp only [Act.put, List.setIfInBounds_toArray, List.set_cons_zero, List.set_cons_succ]
              refine wpAnyH_ready (rs := [19]) (by kernel_rfl) (by simp) (AllReadyH.cons (o := (Oper.mk (some 57) (Op.call (Call.mk (Callee.value (Operand.func 73)) #[(Operand.tmp 56)] #[36])) 4 "fields.go:89" #[(Edge.mk 18 Ground.data), (Edge.mk 18 Ground.chain), (Edge.mk 10 Ground.guard)] (some (10, false)))) rfl (fun K hK => ?_) AllReadyH.nil)
              go_simp
              (go_at_call 73; refine Calls.mono (g4.out _ _ hR4) ?_; rintro e w5 ⟨rfl, rfl⟩)
              refine hK.out _ _ hC (fun hHeld => ?_)
              clear hK K hHeld
              try simp only [Act.put, List.setIfInBounds_toArray, List.set_cons_zero, List.set_cons_succ]
              refine wpAnyH_take (i := 20) (oi := (Oper.mk (some 58) (Op.unOp UnOp.not 4 (Operand.tmp 57)) 4 "fields.go:89" #[(Edge.mk 19 Ground.data), (Edge.mk 10 Ground.guard)] (some (10, false)))) (v := ?_) rfl (by kernel_rfl) (by kernel_rfl) (by kernel_rfl) (fun _ _ _ h => h) (Or.inl ⟨by rfl, ?_⟩) hC ?_
              rotate_left
              · (intro w hSw; (try dsimp only at hSw); go_simp; try with_reducible rfl)
              try simp only [Act.put, List.setIfInBounds_toArray, List.set_cons_zero, List.set_cons_succ]
              refine wpAnyH_take (i := 21) (oi := (Oper.mk (some 59) (Op.pick (Operand.tmp 48) (Operand.const (Value.bool true)) (Operand.tmp 58)) 4 "fields.go:89" #[(Edge.mk 10 Ground.data), (Edge.mk 20 Ground.data)] none)) (v := ?_) rfl (by kernel_rfl) (by kernel_rfl) (by kernel_rfl) (fun _ _ _ h => h) (Or.inl ⟨by rfl, ?_⟩) hC ?_
              rotate_left
              · (intro w hSw; (try dsimp only at hSw); go_simp; try with_reducible rfl)
              try simp only [Act.put, List.setIfInBounds_toArray, List.set_cons_zero, List.set_cons_succ]
              refine wpAnyH_done (by kernel_rfl) ?_ _
              go_wp2_with fail
              go_meet
              exact ⟨rfl, hB⟩)
        case rest =>
          obtain ⟨rfl, hBc⟩ := hcut
          have hF4 := Lib.hid (hF3.out.below hBc.out)
          have hB4 := Lib.hid (hB3.out.trans (hBc.out.mono hB3.out.size))
          obtain ⟨p2, hp2⟩ : ∃ p, p = (!u3 || !u4) := ⟨_, rfl⟩
          rw [← hp2]
          replace hp2 := Lib.hid hp2
          clear hF3 hB3 hBc ka kb g3 g4
          rename World => W4
          cases p2 with
          | true =>
            clear hF4
            go_wp2_with fail
            go_ret
            exact ⟨by rw [← hp.out, ← hp2.out]; rfl, hB4.out⟩
          | false =>
            have s6 := hF4.out.s6
            have s7 := hF4.out.s7
            have c6 := hF4.out.c6
            have c7 := hF4.out.c7
            have m5 := Lib.hid (g5.out _ hB4.out)
            have m6 := Lib.hid (g6.out _ hB4.out)
            have hq5 := e5.out ()
            have hq6 := e6.out ()
            clear hF4 g5 g6 e5 e6
            cases q5 <;> cases u5 <;> cases q6 <;> cases u6 <;> (
              go_wp2_with (first
                | (go_at_call 43; with_reducible refine Calls.mono m5.out ?_; rintro e w5 ⟨rfl, rfl⟩)
                | (go_at_call 73; with_reducible refine Calls.mono m6.out ?_; rintro e w5 ⟨rfl, rfl⟩))
              go_ret
              exact ⟨by rw [← hp.out, ← hp2.out]; rfl, hB4.out⟩)
end Go.Proofs.YtjblhiekccjdcaaR
