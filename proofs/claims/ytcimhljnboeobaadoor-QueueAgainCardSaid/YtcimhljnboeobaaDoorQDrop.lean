/- Queues: drop. -/
import Derived.Test.YtcimhljnboeobaaDoorQAdd
import Derived.Deep.RegionHeld3
namespace Go.Proofs.YtcimhljnboeobaaDoor
open Go.RowKit Go.Maps

/-- A list without one number. -/
def remQ (l : List Nat) (x : Nat) : List Nat := l.filter (fun y => decide (y ≠ x))
theorem mem_remQ {l : List Nat} {x y : Nat} : y ∈ remQ l x ↔ y ∈ l ∧ y ≠ x := by unfold remQ; rw [List.mem_filter, decide_eq_true_iff]
theorem rise_remQ {l : List Nat} {x : Nat} (hr : l.Pairwise (· < ·)) : (remQ l x).Pairwise (· < ·) := hr.sublist List.filter_sublist
theorem back_remQ {l : List Nat} {x : Nat} (h : x ∈ l) (y : Nat) : y ∈ l ↔ y = x ∨ y ∈ remQ l x := by
  rw [mem_remQ]
  constructor
  · intro hy
    by_cases e : y = x
    · exact .inl e
    · exact .inr ⟨hy, e⟩
  · rintro (rfl | h1)
    · exact h
    · exact h1.1
theorem len_remQ {l : List Nat} {x : Nat} (hr : l.Pairwise (· < ·)) (h : x ∈ l) : l.length = (remQ l x).length + 1 := by
  have h1 : l.Nodup := hr.imp (fun h => Nat.ne_of_lt h)
  have h2 : (x :: remQ l x).Nodup := List.nodup_cons.2 ⟨fun h => (mem_remQ.1 h).2 rfl, (rise_remQ hr).imp (fun h => Nat.ne_of_lt h)⟩
  have := nodup_len_eq h1 h2 (fun y => by rw [back_remQ h, List.mem_cons])
  rw [this, List.length_cons]
section
variable {w w' : World} {qb lb cap n taken : Nat} {bs l : List Nat} {pv : Value} {ps : List Int}
set_option maxHeartbeats 2000000 in
theorem qdrop_any (Q : QAt w qb lb cap bs n l pv ps taken) {x : Nat} (h : x ∈ l) : Calls Tryd.prog 15 #[.pointer (some ⟨qb, 0, none⟩), .int .i64 x] w fun e w' => (∃ v, e = .returned v) ∧ QAt w' qb lb cap bs n (remQ l x) pv ps taken ∧ Touch w w' (fun k => k = qb ∨ k ∈ bs) := by
  have hn3 := Q.nle3
  have hx := Q.lt x h
  have hll := Q.len
  have c3 : w.cell? ⟨qb, 3, none⟩ = some (.int .i64 l.length) := by rw [blk_cell Q.blk]; rfl
  have y3 : w.frozen? ⟨qb, 3, none⟩ = false := by simp [World.frozen?, Q.blk]
  obtain ⟨m, hm⟩ : ∃ m, m = bs.length := ⟨_, rfl⟩
  have hm3 : m ≤ 3 := by rw [hm]; exact Q.m3
  have hlen2 := len_remQ Q.rise h
  obtain ⟨len, hlen⟩ : ∃ len, len = (remQ l x).length := ⟨_, rfl⟩
  rw [← hlen] at hlen2
  have hbne := Lib.hid (fun b hb => Q.bne (b := b) hb)
  have hQ := Lib.hid Q
  rw [hlen2] at c3 hll
  have hi1 : ((len + 1 : Nat) : Int) - 1 = (len : Int) := by omega
  have hback := Lib.hid (back_remQ h)
  have hno : x ∉ remQ l x := fun h => (mem_remQ.1 h).2 rfl
  replace hm := Lib.hid hm
  replace hlen := Lib.hid hlen
  replace hlen2 := Lib.hid hlen2
  replace h := Lib.hid h
  have hrise := Lib.hid (rise_remQ (x := x) Q.rise)
  have hltl := Lib.hid (fun y (hy : y ∈ remQ l x) => Q.lt y (mem_remQ.1 hy).1)
  generalize remQ l x = l2 at hlen hback hno hrise hltl ⊢
  clear Q
  go_enter Tryd.func15, Tryd.ntmps15
  go_upto_region 1 with fail
  have hb1 : (w.setCell ⟨qb, 3, none⟩ (.int .i64 ((len : Nat) : Int))).heap[qb]? = some (.cells #[.int .i64 n, .slice (some ⟨lb, 0, none⟩) m cap, pv, .int .i64 (len : Int), .int .i64 taken] 35 (0, 0)) := by
    have := blk_set (i := 3) (.int .i64 (len : Int)) hQ.out.blk
    rw [← hm.out] at this
    exact this
  have hT1 : Touch w (w.setCell ⟨qb, 3, none⟩ (.int .i64 ((len : Nat) : Int))) (fun k => k = qb ∨ k ∈ bs) := (Touch.refl w (fun k => k = qb ∨ k ∈ bs)).setCell (a := ⟨qb, 3, none⟩) (fun _ => .inl rfl) _
  have hL1 : LvAt (w.setCell ⟨qb, 3, none⟩ (.int .i64 ((len : Nat) : Int))) lb bs (fun j => up j l) := hQ.out.lv.kept (V := fun k => k = qb) ((Touch.refl w (fun k => k = qb)).setCell (a := ⟨qb, 3, none⟩) (fun _ => rfl) _) (fun e => hQ.out.qlb e.symm) (fun k hk e => (hbne.out k hk).1 e)
  try simp only [hi1]
  generalize (w.setCell ⟨qb, 3, none⟩ (.int .i64 ((len : Nat) : Int))) = w1 at hb1 hT1 hL1 ⊢
  have c1 : w1.cell? ⟨qb, 1, none⟩ = some (.slice (some ⟨lb, 0, none⟩) m cap) := by rw [blk_cell hb1]; rfl
  replace hb1 := Lib.hid hb1
  replace hT1 := Lib.hid hT1
  have hL1' : Hid (LvAt w1 lb bs (fun j => if j < 0 then up j l2 else up j l)) := Lib.hid (by simpa using hL1)
  have fin : Hid (∀ w', w'.heap[qb]? = some (.cells #[.int .i64 n, .slice (some ⟨lb, 0, none⟩) m cap, pv, .int .i64 (len : Int), .int .i64 taken] 35 (0, 0)) → Touch w w' (fun k => k = qb ∨ k ∈ bs) → LvAt w' lb bs (fun j => up j l2) → QAt w' qb lb cap bs n l2 pv ps taken) := Lib.hid (fun w' k1 k2 k3 => by
    refine hQ.out.turned k2 (by rw [← hlen.out, ← hm.out]; exact k1) k3 hrise.out hltl.out (rd_keptQ hQ.out.pics k2 (fun k hk hk2 => ?_)) hQ.out.pic hQ.out.pne
    have := hQ.out.pne k hk
    rcases hk2 with e | e
    · exact this.1 e
    · exact this.2.2 e)
  have hno0 : Hid (x / 64 ^ 0 ∉ up 0 l2) := Lib.hid (by rw [up_zero]; simpa using hno)
  clear hL1 c3 y3 hno hi1
  go_wp2_with fail
  clear c1
  go_loopw [1, 5, 6, 19] (fun i _ _ t wr => ∃ j y : Nat, j ≤ m ∧ t = .int .i64 j ∧ i = .int .i64 y ∧ Hid (y = x / 64 ^ j) ∧ y ≤ 262144 ∧ Hid (x / 64 ^ j ∉ up j l2) ∧ Hid (wr.heap[qb]? = some (.cells #[.int .i64 n, .slice (some ⟨lb, 0, none⟩) m cap, pv, .int .i64 (len : Int), .int .i64 taken] 35 (0, 0))) ∧ Hid (Touch w wr (fun k => k = qb ∨ k ∈ bs)) ∧ Hid (LvAt wr lb bs (fun i => if i < j then up i l2 else up i l))) (fun _ _ _ t _ => m - (intOf t).toNat)
  case atStart => exact ⟨0, x, Nat.zero_le _, rfl, rfl, Lib.hid (by simp), by omega, hno0, hb1, hT1, hL1'⟩
  case round =>
    clear hb1 hT1 hL1' hno0
    obtain ⟨j, y, hj, rfl, rfl, hy, hyl, hno, hb1, hT1, hL1⟩ := hrel
    by_cases hlt : j < m
    · have j1 : decide ((j : Int) < (m : Int)) = true := by simpa using hlt
      have j2 : (j : Int) < (m : Int) := by omega
      obtain ⟨b, hb⟩ : ∃ b, bs[j]? = some b := ⟨_, List.getElem?_eq_getElem (by rw [← hm.out]; exact hlt)⟩
      have c6 : wr.cell? ⟨lb, j, none⟩ = some (.map (some b)) := hL1.out.row j b hb
      obtain ⟨D, hD, hW⟩ := hL1.out.maps j b hb
      rw [if_neg (Nat.lt_irrefl j)] at hW
      obtain ⟨c, hc, -, -⟩ := hW.word (y / 64)
      have hkey : keyOf Tryd.prog 3 (.int .i64 ((y : Int) / 64)) = some (key (y / 64)) := by
        rw [show (y : Int) / 64 = ((y / 64 : Nat) : Int) by omega]
        exact keyOf_int_mk Tryd.underlying3 (a := ((y / 64 : Nat) : Int)) (WalkArith.wf_i64 (by omega))
      have hp : 2 ^ (y % 64) < 18446744073709551616 := Nat.pow_lt_pow_of_lt (by decide : 1 < 2) (show y % 64 < 64 by omega)
      have hor : bits BinOp.andNot IntKind.u64 (c : Int) (IntKind.u64.wrap (2 ^ (y % 64))) = ((c &&& (18446744073709551615 - 2 ^ (y % 64)) : Nat) : Int) := by
        have e1 : ((2 : Int) ^ (y % 64)) = ((2 ^ (y % 64) : Nat) : Int) := by simp
        rw [e1, wrap_nat hp]
        exact u64_andNot_nat c _ hc.1 hp
      have hor2 : bits BinOp.andNot IntKind.u64 (c : Int) (IntKind.u64.wrap (2 ^ ((y : Int) % 64).toNat)) = ((c &&& (18446744073709551615 - 2 ^ (y % 64)) : Nat) : Int) := by
        rw [show ((y : Int) % 64).toNat = y % 64 by omega]
        exact hor
      have hwf : (Lit.int .u64 ((c &&& (18446744073709551615 - 2 ^ (y % 64)) : Nat) : Int)).wf = true := wf_u64Q (less_lt hc.1)
      have hsz : size D ≤ 262144 := by
        have h1 := hW.size_le (hD.canon lawQ)
        unfold up at h1
        rw [List.length_map, hlen2.out] at h1
        omega
      have hbm := hbne.out b (List.mem_of_getElem? hb)
      have hbit := hc
      rw [hy.out] at hbit
      have hbit2 := bit_less hbit hback.out hno.out
      rw [← hy.out] at hbit2
      have hC : (Instr.lookup 38 (.map (some b)) (.int .i64 ((y : Int) / 64)) false).run Tryd.prog wr.drew = .ok (.int .u64 c) wr.drew := by
        have := look_wd (World.ownsMap.drew hD) hW hc (by omega)
        rw [Int.natCast_ediv, show ((64 : Nat) : Int) = 64 from rfl] at this
        exact this
      replace hW := Lib.hid hW
      replace hD := Lib.hid (World.ownsMap.drew hD)
      replace hbit2 := Lib.hid hbit2
      replace hb := Lib.hid hb
      generalize c &&& (18446744073709551615 - 2 ^ (y % 64)) = c2 at hor hor2 hwf hbit2
      have htm : (y : Int).tmod 64 = ((y % 64 : Nat) : Int) := by rw [Int.tmod_eq_emod_of_nonneg (by omega)]; omega
      clear hc hbit
      go_upto_region 4 with fail
      refine wp_region_held_drew (S := (fun w' => (Instr.lookup 38 (.map (some b)) (.int .i64 ((y : Int) / 64)) false).run Tryd.prog w' = .ok (.int .u64 c) w')) (by kernel_rfl) hC (fun hHeld => ?_)
      clear hHeld
      refine wpAnyH_take (i := 0) (oi := (Oper.mk (some 23) (Op.move (Operand.tmp 5)) 38 "queue.go:91" #[] none)) (v := ?_) rfl (by kernel_rfl) (by kernel_rfl) (by kernel_rfl) (fun _ _ _ h => h) (Or.inl ⟨by rfl, ?_⟩) hC ?_
      rotate_left
      · (intro w hSw; (try dsimp only at hSw); go_simp; try with_reducible rfl)
      try simp only [Act.put, List.setIfInBounds_toArray, List.set_cons_zero, List.set_cons_succ]
      refine wpAnyH_take (i := 1) (oi := (Oper.mk (some 24) (Op.move (Operand.tmp 1)) 3 "queue.go:91" #[] none)) (v := ?_) rfl (by kernel_rfl) (by kernel_rfl) (by kernel_rfl) (fun _ _ _ h => h) (Or.inl ⟨by rfl, ?_⟩) hC ?_
      rotate_left
      · (intro w hSw; (try dsimp only at hSw); go_simp; try with_reducible rfl)
      try simp only [Act.put, List.setIfInBounds_toArray, List.set_cons_zero, List.set_cons_succ]
      refine wpAnyH_take (i := 2) (oi := (Oper.mk (some 25) (Op.binOp BinOp.shr 3 (Operand.tmp 24) (Operand.const (Value.int IntKind.u64 6)) 40) 3 "queue.go:91" #[(Edge.mk 1 Ground.data)] none)) (v := ?_) rfl (by kernel_rfl) (by kernel_rfl) (by kernel_rfl) (fun _ _ _ h => h) (Or.inl ⟨by rfl, ?_⟩) hC ?_
      rotate_left
      · (intro w hSw; (try dsimp only at hSw); go_simp; try with_reducible rfl)
      try simp only [Act.put, List.setIfInBounds_toArray, List.set_cons_zero, List.set_cons_succ]
      refine wpAnyH_take (i := 4) (oi := (Oper.mk (some 27) (Op.move (Operand.tmp 1)) 3 "queue.go:91" #[] none)) (v := ?_) rfl (by kernel_rfl) (by kernel_rfl) (by kernel_rfl) (fun _ _ _ h => h) (Or.inl ⟨by rfl, ?_⟩) hC ?_
      rotate_left
      · (intro w hSw; (try dsimp only at hSw); go_simp; try with_reducible rfl)
      try simp only [Act.put, List.setIfInBounds_toArray, List.set_cons_zero, List.set_cons_succ]
      refine wpAnyH_take (i := 5) (oi := (Oper.mk (some 28) (Op.binOp BinOp.rem 3 (Operand.tmp 27) (Operand.const (Value.int IntKind.i64 64)) 3) 3 "queue.go:91" #[(Edge.mk 4 Ground.data)] none)) (v := ?_) rfl (by kernel_rfl) (by kernel_rfl) (by kernel_rfl) (fun _ _ _ h => h) (Or.inl ⟨by rfl, ?_⟩) hC ?_
      rotate_left
      · (intro w hSw; (try dsimp only at hSw); go_simp; try with_reducible rfl)
      try simp only [Act.put, List.setIfInBounds_toArray, List.set_cons_zero, List.set_cons_succ]
      refine wpAnyH_take (i := 6) (oi := (Oper.mk (some 29) (Op.binOp BinOp.shl 39 (Operand.const (Value.int IntKind.u64 1)) (Operand.tmp 28) 3) 39 "queue.go:91" #[(Edge.mk 5 Ground.data)] none)) (v := ?_) rfl (by kernel_rfl) (by kernel_rfl) (by kernel_rfl) (fun _ _ _ h => h) (Or.inl ⟨by rfl, ?_⟩) hC ?_
      rotate_left
      · (intro w hSw; (try dsimp only at hSw); go_simp; try with_reducible rfl)
      try simp only [Act.put, List.setIfInBounds_toArray, List.set_cons_zero, List.set_cons_succ]
      refine wpAnyH_ready (rs := [3]) (by kernel_rfl) (by simp) (AllReadyH.cons (o := (Oper.mk (some 26) (Op.lookup 38 (Operand.tmp 23) (Operand.tmp 25) false) 39 "queue.go:91" #[(Edge.mk 0 Ground.data), (Edge.mk 2 Ground.data)] none)) rfl (fun K hK => ?_) AllReadyH.nil)
      go_simp
      skip
      refine hK.out _ _ hC (fun hHeld => ?_)
      clear hK K hHeld
      try simp only [Act.put, List.setIfInBounds_toArray, List.set_cons_zero, List.set_cons_succ]
      refine wpAnyH_take (i := 7) (oi := (Oper.mk (some 30) (Op.binOp BinOp.andNot 39 (Operand.tmp 26) (Operand.tmp 29) 39) 39 "queue.go:91" #[(Edge.mk 3 Ground.data), (Edge.mk 6 Ground.data)] none)) (v := ?_) rfl (by kernel_rfl) (by kernel_rfl) (by kernel_rfl) (fun _ _ _ h => h) (Or.inl ⟨by rfl, ?_⟩) hC ?_
      rotate_left
      · (intro w hSw; (try dsimp only at hSw); go_simp; try with_reducible rfl)
      try simp only [Act.put, List.setIfInBounds_toArray, List.set_cons_zero, List.set_cons_succ]
      refine wpAnyH_take (i := 8) (oi := (Oper.mk (some 6) (Op.assign (Operand.tmp 30)) 39 "queue.go:91" #[(Edge.mk 7 Ground.data), (Edge.mk 0 Ground.phase), (Edge.mk 1 Ground.phase), (Edge.mk 2 Ground.phase), (Edge.mk 3 Ground.phase), (Edge.mk 4 Ground.phase), (Edge.mk 5 Ground.phase), (Edge.mk 6 Ground.phase), (Edge.mk 7 Ground.phase)] none)) (v := ?_) rfl (by kernel_rfl) (by kernel_rfl) (by kernel_rfl) (fun _ _ _ h => h) (Or.inl ⟨by rfl, ?_⟩) hC ?_
      rotate_left
      · (intro w hSw; (try dsimp only at hSw); go_simp; try with_reducible rfl)
      try simp only [Act.put, List.setIfInBounds_toArray, List.set_cons_zero, List.set_cons_succ]
      refine wpAnyH_done (by kernel_rfl) ?_ _
      try simp only [hor2]
      have hb2 : Hid (wr.drew.heap[qb]? = some (.cells #[.int .i64 n, .slice (some ⟨lb, 0, none⟩) m cap, pv, .int .i64 (len : Int), .int .i64 taken] 35 (0, 0))) := hb1
      have hT2 : Hid (Touch w wr.drew (fun k => k = qb ∨ k ∈ bs)) := Lib.hid hT1.out.drew
      have hL2 : Hid (LvAt wr.drew lb bs (fun i => if i < j then up i l2 else up i l)) := Lib.hid (hL1.out.kept (V := fun _ => False) (Touch.refl wr _).drew (fun h => h) (fun _ _ h => h))
      clear hb1 hT1 hL1 hC hor hor2 c6 htm
      generalize wr.drew = w2 at hb2 hT2 hL2 hD ⊢
      by_cases hc0 : c2 = 0
      · have z1 : ((c2 : Int) != 0) = false := by simp [hc0]
        have z2 : (c2 != 0) = false := by simp [hc0]
        rw [hc0] at hbit2
        have hbit3 := hbit2.out
        rw [hy.out] at hbit3
        have hno2 := Lib.hid (less_next hbit3)
        have hWd := Lib.hid (hW.out.delQ hbit2.out (fun k hk => less_other (j := j) hback.out (by rw [← hy.out]; exact hk)))
        replace hc0 := Lib.hid hc0
        clear hbit3
        go_wp2_with (at_delete; refine wpList_delete_own _ rfl _ _ 38 3 rfl 39 lawQ Tryd.underlying38 _ b (size D) D rfl hD.out _ _ rfl hkey ?_; intro w3 hown3 hturn3)
        have hT3 : Touch w2 w3 (fun k => k = b) := Touch.of_grown hturn3.grown (fun k e => (Option.some.inj e).symm)
        have hL3 : Hid (LvAt w3 lb bs (fun i => if i < j + 1 then up i l2 else up i l)) := Lib.hid (hL2.out.turn hQ.out.nodup hb.out hbm.2 hT3 ⟨_, own_tightQ hown3, by rw [if_pos (Nat.lt_succ_self j)]; exact hWd.out⟩ (fun i hi => by
          by_cases e : i < j
          · rw [if_pos e, if_pos (by omega)]
          · rw [if_neg e, if_neg (by omega)]))
        have hT4 := Lib.hid (hT2.out.trans (hT3.mono (fun k _ e => .inr (by rw [e]; exact List.mem_of_getElem? hb.out))))
        have hb4 := Lib.hid ((hT3.block qb (Array.getElem?_eq_some_iff.1 hb2.out).1 (fun e => hbm.1 e.symm)).trans hb2.out)
        clear hown3 hturn3 hT3 hwf hkey hb2 hT2 hL2
        go_wp2_with fail
        exact ⟨⟨j + 1, y / 64, by omega, by go_num, by simp, Lib.hid (by rw [hy.out, div_next]), by omega, hno2, hb4, hT4, hL3⟩, by simp [intOf]; omega⟩
      · have z1 : ((c2 : Int) != 0) = true := by simp [hc0]
        have z2 : (c2 != 0) = true := by simp [hc0]
        have hWd := Lib.hid (hW.out.put hD.out.isMap hbit2.out hc0 (fun k hk => less_other (j := j) hback.out (by rw [← hy.out]; exact hk)))
        replace hc0 := Lib.hid hc0
        go_wp2_with (at_mapUpdate; refine wpList_mapUpdate_in _ rfl _ _ _ 38 rfl 3 39 lawQ Tryd.underlying38 _ b (size D) D rfl hD.out (by unfold maxLen; omega) _ _ _ rfl rfl hkey _ [] (plainElem_int Tryd.underlying39 hwf) ?_; intro w3 hown3 hturn3)
        have hT3 : Touch w2 w3 (fun k => k = b) := Touch.of_grown hturn3.grown (fun k e => (Option.some.inj e).symm)
        have hL3 : LvAt w3 lb bs (fun i => if i < j + 1 then up i l2 else up i l) := hL2.out.turn hQ.out.nodup hb.out hbm.2 hT3 ⟨_, own_tightQ hown3, by rw [if_pos (Nat.lt_succ_self j)]; exact hWd.out⟩ (fun i hi => by
          by_cases e : i < j
          · rw [if_pos e, if_pos (by omega)]
          · rw [if_neg e, if_neg (by omega)])
        have hbit3 := hbit2.out
        rw [hy.out] at hbit3
        have hL4 : LvAt w3 lb bs (fun i => up i l2) := hL3.congr (fun i _ k => by
          by_cases e : i < j + 1
          · rw [if_pos e]
          · rw [if_neg e]
            exact (less_same hbit3 hback.out hc0.out (by omega)).symm)
        have hT4 := Lib.hid (hT2.out.trans (hT3.mono (fun k _ e => .inr (by rw [e]; exact List.mem_of_getElem? hb.out))))
        have hf := Lib.hid (fin.out w3 ((hT3.block qb (Array.getElem?_eq_some_iff.1 hb2.out).1 (fun e => hbm.1 e.symm)).trans hb2.out) hT4.out hL4)
        clear hown3 hturn3 hT3 hwf hkey hb2 hT2 hL2 hL3 hL4 hbit3
        go_wp2_with fail
        go_end0
        exact ⟨⟨_, rfl⟩, hf.out, hT4.out⟩
    · obtain rfl : j = m := by omega
      have j1 : decide ((j : Int) < (j : Int)) = false := by simp
      have hL2 : LvAt wr lb bs (fun i => up i l2) := hL1.out.congr (fun i hi y => by rw [if_pos (by rw [hm.out]; exact hi)])
      have hf := Lib.hid (fin.out wr hb1.out hT1.out hL2)
      clear hL2
      go_wp2_with fail
      go_end0
      exact ⟨⟨_, rfl⟩, hf.out, hT1.out⟩
end
end Go.Proofs.YtcimhljnboeobaaDoor
