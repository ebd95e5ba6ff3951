/- NamesRenamed. -/
import Derived.Test.YtjblhiekccjdcaaRNRen3
import Derived.Test.YtjblhiekccjdcaaRNLaw
import Derived.Test.YtjblhiekccjdcaaRNHeavy
import Derived.Test.YtjblhiekccjdcaaRPrg
import Derived.Laws.StructEq
namespace Go.Proofs.YtjblhiekccjdcaaR
open Go.RowKit Go.Maps Go.Shelf

theorem eq_pntR (d : Nat) (w : World) (a b c a' b' c' : Int) : (Op.equalIn (d + 2) 30 (.agg #[.int .i64 a, .int .i64 b, .int .i64 c]) (.agg #[.int .i64 a', .int .i64 b', .int .i64 c'])).run Try.prog w = .ok (a == a' && (b == b' && c == c')) w := by
  have u3 := Try.underlying3
  have a3 := Try.isAgg3
  have z3 := Try.sizeOf3
  have hS : Try.prog.underlying 30 = some (.struct (Try.prog.fieldsOf 30)) := by kernel_rfl
  have hp : Try.prog.stoodInHeld 30 = false := by kernel_rfl
  rw [run_equalIn_agg w (d + 1) 30 _ _ hS hp]
  simp only [Program.fieldsOf, Try.underlying30]
  go_simp
  by_cases h1 : a = a' <;> by_cases h2 : b = b' <;> by_cases h3 : c = c' <;> simp [h1, h2, h3]
theorem eq_wrgR (d : Nat) (w : World) (r a b c : Int) : (Op.equalIn (d + 3) 32 (.agg #[.int .u8 r, .int .i64 a, .int .i64 b, .int .i64 c]) (.agg #[.int .u8 r, .int .i64 a, .int .i64 b, .int .i64 c])).run Try.prog w = .ok true w := by
  have u3 := Try.underlying28
  have a3 := Try.isAgg28
  have z3 := Try.sizeOf28
  have a6 := Try.isAgg30
  have z6 := Try.sizeOf30
  have hq := fun w => eq_pntR d w a b c a b c
  have hS : Try.prog.underlying 32 = some (.struct (Try.prog.fieldsOf 32)) := by kernel_rfl
  have hp : Try.prog.stoodInHeld 32 = false := by kernel_rfl
  rw [run_equalIn_agg w (d + 2) 32 _ _ hS hp]
  simp only [Program.fieldsOf, Try.underlying32]
  go_simp
theorem renV_size {s : ByteArray} : (renV s).size ≤ s.size + 1 := by
  by_cases h : (s.toList.isEmpty || isNull s) = true
  · rw [renV_old h]; omega
  · have := congrArg List.length (renV_new h)
    rw [Lib.toList_data, Lib.toList_data] at this
    simp only [List.length_cons, Array.length_toList] at this
    show (renV s).data.size ≤ s.data.size + 1
    omega
theorem ren_ok {P : List Fun} (hf : ∀ d ∈ P, d.Fits) (hL : LightP P) (hs : ∀ d ∈ P, ShortF d) : POkA (P.map renF) := by
  have hok := hL.ok hf
  have key : ∀ d ∈ P, (renF d).Fits := by
    intro d hd
    obtain ⟨h1, h2, h3, h4, h5⟩ := hf d hd
    obtain ⟨s1, s2⟩ := hs d hd
    have hm : (61 : Nat) ≤ maxLen := by unfold maxLen; omega
    refine ⟨h1, fun s h => ?_, fun x h => ?_, by simpa [renF] using h4, by simpa [renF] using h5⟩
    · obtain ⟨y, hy, rfl⟩ := List.mem_map.1 h
      have := s1 y hy
      have := renV_size (s := y)
      omega
    · obtain ⟨x, hx, rfl⟩ := List.mem_map.1 h
      obtain ⟨k1, k2, k3⟩ := h3 x hx
      refine ⟨k1, fun c hc => ?_, by simpa [renB] using k3⟩
      obtain ⟨y, hy, rfl⟩ := List.mem_map.1 hc
      obtain ⟨m0, m1, m2, m3, m4, m5, m6, m7, m8, m9, m10⟩ := k2 y hy
      obtain ⟨t1, t2, t3, t4⟩ := s2 x hx y hy
      refine ⟨m0, m1, ?_, ?_, ?_, m5, m6, fun s hs' => ?_, m8, by simpa [renI] using m9, m10⟩
      · have := renV_size (s := y.dst); show (renV y.dst).size ≤ maxLen; omega
      · have := renV_size (s := y.a); show (renV y.a).size ≤ maxLen; omega
      · have := renV_size (s := y.b); show (renV y.b).size ≤ maxLen; omega
      · obtain ⟨z, hz, rfl⟩ := List.mem_map.1 hs'
        have := t4 z hz
        have := renV_size (s := z)
        omega
  refine ⟨⟨fun d hd => ?_, by simpa using hok.l1, fun d hd => ?_, fun d hd x hx => ?_, fun d hd => ?_⟩, fun d hd x hx c hc => ?_⟩
  · obtain ⟨d, h, rfl⟩ := List.mem_map.1 hd; exact key d h
  · obtain ⟨d, h, rfl⟩ := List.mem_map.1 hd; simpa [renF] using hok.l2 d h
  · obtain ⟨d, h, rfl⟩ := List.mem_map.1 hd
    obtain ⟨x, h2, rfl⟩ := List.mem_map.1 hx
    simpa [renB] using hok.l3 d h x h2
  · obtain ⟨d, h, rfl⟩ := List.mem_map.1 hd; simpa [renF] using hok.l4 d h
  · obtain ⟨d, h, rfl⟩ := List.mem_map.1 hd
    obtain ⟨x, h2, rfl⟩ := List.mem_map.1 hx
    obtain ⟨c, h3, rfl⟩ := List.mem_map.1 hc
    simpa [renI] using hok.l5 d h x h2 c h3
set_option maxRecDepth 20000 in
set_option maxHeartbeats 4000000 in
theorem namesRenamed_any {w : World} {v : Value} {P : List Fun} (h : RdE 3 RdFun w v P) (hf : ∀ d ∈ P, d.Fits) (hl : P.length ≤ maxLen) : Calls Try.prog 6 #[.agg #[v]] w fun e w' => e = .returned (.bool true) ∧ Below w.heap.size w w' := by
  obtain ⟨a0, c0, rfl⟩ := h.form
  obtain ⟨p, hp⟩ : ∃ p, p = P.length := ⟨_, rfl⟩
  have hb0 : Below w.heap.size w (w.alloc (.cells #[.slice a0 P.length c0] 26)) := (Below.refl _ _).alloc (Nat.le_refl _) _
  have b0 : (w.alloc (.cells #[.slice a0 P.length c0] 26)).cell? ⟨w.heap.size, 0, none⟩ = some (.slice a0 P.length c0) := by simp
  have hbx := Lib.hid (fun (w' : World) (hb : Below (w.alloc (.cells #[.slice a0 P.length c0] 26)).heap.size (w.alloc (.cells #[.slice a0 P.length c0] 26)) w') => (keepC hb b0 : w'.cell? ⟨w.heap.size, 0, none⟩ = some (.slice a0 P.length c0)))
  have hrd := Lib.hid (fun (w' : World) (hb : Below w.heap.size w w') => RdE.below (fun _ _ h => h.below hb) h hb)
  have hz1 : (w.alloc (.cells #[.slice a0 P.length c0] 26)).heap.size = w.heap.size + 1 := by simp
  rw [← hp] at b0 hbx hrd hz1 hb0 ⊢
  rw [← hp] at h
  generalize hW : (w.alloc (.cells #[.slice a0 p c0] 26)) = W at hb0 b0 hbx hz1
  obtain ⟨S0, hS0⟩ : ∃ S0, S0 = w.heap.size := ⟨_, rfl⟩
  rw [← hS0] at b0 hbx hz1 hb0
  have hup := Lib.hid (fun (w' : World) (hb : Below W.heap.size W w') => hb0.trans (hb.mono (by omega)))
  replace hp := Lib.hid hp
  replace hf := Lib.hid hf
  replace h := Lib.hid h
  go_enter Try.func6, Try.ntmps6
  go_upto_region 1 with fail
  (try rw [hW])
  rw [← hS0]
  clear hW
  replace hS0 := Lib.hid hS0
  have hHv := Lib.hid (heavy_any (hrd.out W (by rw [← hS0.out]; exact hb0)) hf.out hl)
  go_wp2_with fail
  refine hHv.out.mono ?_
  rintro e w3 ⟨q, rfl, hb3, hL1⟩
  have hC3 := Lib.hid hb3
  have hBf := Lib.hid (fun (w' : World) (hb : Below W.heap.size W w') => (show Below w.heap.size w w' by rw [← hS0.out]; exact hup.out w' hb))
  clear b0 hb3
  cases q with
  | true =>
    go_wp2_with fail
    go_ret
    exact ⟨rfl, hBf.out _ hC3.out⟩
  | false =>
  replace hL1 := Lib.hid (hL1 rfl)
  have b0 := hbx.out w3 hC3.out
  have hWd := Lib.hid (wide_any (hrd.out w3 (hBf.out _ hC3.out)) hL1.out)
  go_wp2_with fail
  refine hWd.out.mono ?_
  rintro e w4 ⟨q, rfl, hb4, hS1⟩
  have hC4 := Lib.hid (hC3.out.trans (hb4.mono hC3.out.size))
  clear b0 hb4
  cases q with
  | true =>
    go_wp2_with fail
    go_ret
    exact ⟨rfl, hBf.out _ hC4.out⟩
  | false =>
  replace hS1 := Lib.hid (hS1 rfl)
  have b0 := hbx.out w4 hC4.out
  have hok := Lib.hid (hL1.out.ok hf.out)
  have k2 := Lib.hid (first_any hok.out (hrd.out w4 (hBf.out _ hC4.out)) (r := 2) (by decide))
  unfold ansP ptA at k2
  obtain ⟨r2, hr2⟩ : ∃ r2, ruleAt P 2 = r2 := ⟨_, rfl⟩
  rw [hr2] at k2
  replace hr2 := Lib.hid hr2
  generalize (r2.getD (0, 0, 0)) = q2 at k2
  obtain ⟨sa, hsa⟩ : ∃ sa, r2.isSome = sa := ⟨_, rfl⟩
  rw [hsa] at k2
  replace hsa := Lib.hid hsa
  go_upto_region 4 with (go_at_call 12; refine Calls.mono k2.out ?_; rintro e w5 ⟨rfl, hb5⟩)
  have hb5b := hb5.alloc hb5.size (.cells #[.int .i64 q2.1, .int .i64 q2.2.1, .int .i64 q2.2.2] 30)
  generalize (w5.alloc (.cells #[.int .i64 q2.1, .int .i64 q2.2.1, .int .i64 q2.2.2] 30)) = w6 at hb5b ⊢
  generalize w5.heap.size = t5
  have hC6 := Lib.hid (hC4.out.trans (hb5b.mono hC4.out.size))
  clear b0 hb5 hb5b
  have b0 := hbx.out w6 hC6.out
  have k9 := Lib.hid (first_any hok.out (hrd.out w6 (hBf.out _ hC6.out)) (r := 9) (by decide))
  unfold ansP ptA at k9
  generalize ((ruleAt P 9).getD (0, 0, 0)) = q9 at k9
  generalize (ruleAt P 9).isSome = sb at k9
  go_upto_region 5 with (go_at_call 12; refine Calls.mono k9.out ?_; rintro e w7 ⟨rfl, hb7⟩)
  have hb7b := hb7.alloc hb7.size (.cells #[.int .i64 q9.1, .int .i64 q9.2.1, .int .i64 q9.2.2] 30)
  generalize (w7.alloc (.cells #[.int .i64 q9.1, .int .i64 q9.2.1, .int .i64 q9.2.2] 30)) = w8 at hb7b ⊢
  generalize w7.heap.size = t7
  have hC8 := Lib.hid (hC6.out.trans (hb7b.mono hC6.out.size))
  clear b0 hb7 hb7b
  have b0 := hbx.out w8 hC8.out
  cases sa with
  | true =>
    go_wp2_with (go_at_call 9; refine (checks_any _).mono ?_; rintro e w' ⟨rfl, hb⟩)
    go_ret
    exact ⟨rfl, hBf.out _ (hC8.out.trans (hb.mono hC8.out.size))⟩
  | false =>
  cases sb with
  | true =>
    go_wp2_with (go_at_call 9; refine (checks_any _).mono ?_; rintro e w' ⟨rfl, hb⟩)
    go_ret
    exact ⟨rfl, hBf.out _ (hC8.out.trans (hb.mono hC8.out.size))⟩
  | false =>
  have hnone : ruleAt P 2 = none := by
    have h1 := hr2.out
    have h2 := hsa.out
    rw [h1]
    cases r2 with
    | none => rfl
    | some x => cases h2
  have hwr := wrong_ren hS1.out hnone
  have hokR := Lib.hid (ren_ok hf.out hL1.out hS1.out)
  have kR := Lib.hid (fun (w' : World) (hb : Below W.heap.size W w') => ren_any (hrd.out w' (hBf.out _ hb)) (by have := hok.out.l1; exact this) (fun d hd => ⟨hok.out.l4 d hd, hok.out.l2 d hd, fun x hx => ⟨hok.out.l3 d hd x hx, fun c hc => by have := ((hL1.out.2 d hd).2.2 x hx).2 c hc; have := this.1; omega⟩⟩) hS1.out)
  have kC1 := Lib.hid (fun (w' : World) (v' : Value) (hr : RdE 3 RdFun w' v' (P.map renF)) => check_any hokR.out hr)
  have kC2 := Lib.hid (fun (w' : World) (hb : Below W.heap.size W w') => check_any hok.out (hrd.out w' (hBf.out _ hb)))
  rw [hwr] at kC1
  obtain ⟨xx, hx⟩ : ∃ xx, wrongOf P = xx := ⟨_, rfl⟩
  obtain ⟨x0, x1, x2, x3⟩ := xx
  unfold wrongA at kC1 kC2
  rw [hx] at kC1 kC2
  dsimp only at kC1 kC2
  clear hnone hwr hx
  have heq : ∀ w, (Op.equalIn 10000 32 (.agg #[.int .u8 x0, .int .i64 x1, .int .i64 x2, .int .i64 x3]) (.agg #[.int .u8 x0, .int .i64 x1, .int .i64 x2, .int .i64 x3])).run Try.prog w = .ok true w := fun w => eq_wrgR 9997 w _ _ _ _
  go_upto_region 7 with fail
  have hC : w8.drew.cell? ⟨S0, 0, none⟩ = some (.slice a0 p c0) := b0
  have hC9 := Lib.hid (below_drawn hC8.out 1)
  refine wp_region_held_drew (S := (fun w' => w'.cell? ⟨S0, 0, none⟩ = some (.slice a0 p c0))) (by kernel_rfl) hC (fun hHeld => ?_)
  clear hHeld
  refine wpAnyH_take (i := 0) (oi := (Oper.mk (some 28) (Op.load 26 (Operand.tmp 1)) 26 "outright.go:288" #[] none)) (v := ?_) rfl (by kernel_rfl) (by kernel_rfl) (by kernel_rfl) (fun _ _ _ h => h) (Or.inl ⟨by rfl, ?_⟩) hC ?_
  rotate_left
  · (intro w hSw; (try dsimp only at hSw); go_simp; try with_reducible rfl)
  try simp only [Act.put, List.setIfInBounds_toArray, List.set_cons_zero, List.set_cons_succ]
  refine wpAnyH_take (i := 3) (oi := (Oper.mk (some 31) (Op.load 26 (Operand.tmp 1)) 26 "outright.go:288" #[] none)) (v := ?_) rfl (by kernel_rfl) (by kernel_rfl) (by kernel_rfl) (fun _ _ _ h => h) (Or.inl ⟨by rfl, ?_⟩) hC ?_
  rotate_left
  · (intro w hSw; (try dsimp only at hSw); go_simp; try with_reducible rfl)
  try simp only [Act.put, List.setIfInBounds_toArray, List.set_cons_zero, List.set_cons_succ]
  refine wpAnyH_ready (rs := [1]) (by kernel_rfl) (by simp) (AllReadyH.cons (o := (Oper.mk (some 29) (Op.call (Call.mk (Callee.value (Operand.func 19)) #[(Operand.tmp 28)] #[26])) 26 "outright.go:288" #[(Edge.mk 0 Ground.data)] none)) rfl (fun K hK => ?_) AllReadyH.nil)
  go_simp
  (go_at_call 19; refine (kR.out _ (below_drawn hC8.out 1)).mono ?_; rintro e w9 ⟨v9, rfl, hR9, hb9⟩; have hC10 := Lib.hid (hC9.out.trans (hb9.mono hC9.out.size)); replace hC := hbx.out _ hC10.out; have kC := Lib.hid (kC1.out _ _ hR9); clear hb9 hR9)
  refine hK.out _ _ hC (fun hHeld => ?_)
  clear hK K hHeld
  try simp only [Act.put, List.setIfInBounds_toArray, List.set_cons_zero, List.set_cons_succ]
  refine wpAnyH_ready (rs := [2]) (by kernel_rfl) (by simp) (AllReadyH.cons (o := (Oper.mk (some 30) (Op.call (Call.mk (Callee.value (Operand.func 11)) #[(Operand.tmp 29)] #[26])) 32 "outright.go:288" #[(Edge.mk 1 Ground.data), (Edge.mk 1 Ground.chain)] none)) rfl (fun K hK => ?_) AllReadyH.nil)
  go_simp
  (go_at_call 11; refine Calls.mono kC.out ?_; rintro e w10 ⟨rfl, hb10⟩; have hC11 := Lib.hid (hC10.out.trans (hb10.mono hC10.out.size)); replace hC := hbx.out _ hC11.out; clear hb10)
  refine hK.out _ _ hC (fun hHeld => ?_)
  clear hK K hHeld
  try simp only [Act.put, List.setIfInBounds_toArray, List.set_cons_zero, List.set_cons_succ]
  refine wpAnyH_ready (rs := [4]) (by kernel_rfl) (by simp) (AllReadyH.cons (o := (Oper.mk (some 32) (Op.call (Call.mk (Callee.value (Operand.func 11)) #[(Operand.tmp 31)] #[26])) 32 "outright.go:288" #[(Edge.mk 3 Ground.data), (Edge.mk 2 Ground.chain)] none)) rfl (fun K hK => ?_) AllReadyH.nil)
  go_simp
  (go_at_call 11; refine Calls.mono (kC2.out _ hC11.out) ?_; rintro e w11 ⟨rfl, hb11⟩; have hC12a := Lib.hid (hC11.out.trans (hb11.mono hC11.out.size)); replace hC := hbx.out _ hC12a.out; clear hb11)
  refine hK.out _ _ hC (fun hHeld => ?_)
  clear hK K hHeld
  try simp only [Act.put, List.setIfInBounds_toArray, List.set_cons_zero, List.set_cons_succ]
  refine wpAnyH_take (i := 5) (oi := (Oper.mk (some 33) (Op.binOp BinOp.eql 32 (Operand.tmp 30) (Operand.tmp 32) 32) 4 "outright.go:288" #[(Edge.mk 2 Ground.data), (Edge.mk 4 Ground.data)] none)) (v := ?_) rfl (by kernel_rfl) (by kernel_rfl) (by kernel_rfl) (fun _ _ _ h => h) (Or.inl ⟨by rfl, ?_⟩) hC ?_
  rotate_left
  · (intro w hSw; (try dsimp only at hSw); go_simp; try with_reducible rfl)
  try simp only [Act.put, List.setIfInBounds_toArray, List.set_cons_zero, List.set_cons_succ]
  refine wpAnyH_take (i := 6) (oi := (Oper.mk (some 34) (Op.move (Operand.tmp 33)) 4 "outright.go:288" #[(Edge.mk 5 Ground.data), (Edge.mk 4 Ground.chain)] none)) (v := ?_) rfl (by kernel_rfl) (by kernel_rfl) (by kernel_rfl) (fun _ _ _ h => h) (Or.inl ⟨by rfl, ?_⟩) hC ?_
  rotate_left
  · (intro w hSw; (try dsimp only at hSw); go_simp; try with_reducible rfl)
  try simp only [Act.put, List.setIfInBounds_toArray, List.set_cons_zero, List.set_cons_succ]
  refine wpAnyH_ready (rs := [7]) (by kernel_rfl) (by simp) (AllReadyH.cons (o := (Oper.mk (some 35) (Op.call (Call.mk (Callee.value (Operand.func 9)) #[] #[])) 4 "outright.go:288" #[(Edge.mk 6 Ground.chain), (Edge.mk 6 Ground.guard)] (some (6, true)))) rfl (fun K hK => ?_) AllReadyH.nil)
  go_simp
  (go_at_call 9; refine (checks_any _).mono ?_; rintro e w12 ⟨rfl, hb12⟩; have hC12 := Lib.hid (hC12a.out.trans (hb12.mono hC12a.out.size)); replace hC := hbx.out _ hC12.out; clear hb12)
  refine hK.out _ _ hC (fun hHeld => ?_)
  clear hK K hHeld
  try simp only [Act.put, List.setIfInBounds_toArray, List.set_cons_zero, List.set_cons_succ]
  refine wpAnyH_take (i := 8) (oi := (Oper.mk (some 36) (Op.pick (Operand.tmp 34) (Operand.tmp 35) (Operand.const (Value.bool false))) 4 "outright.go:288" #[(Edge.mk 6 Ground.data), (Edge.mk 7 Ground.data)] none)) (v := ?_) rfl (by kernel_rfl) (by kernel_rfl) (by kernel_rfl) (fun _ _ _ h => h) (Or.inl ⟨by rfl, ?_⟩) hC ?_
  rotate_left
  · (intro w hSw; (try dsimp only at hSw); go_simp; try with_reducible rfl)
  try simp only [Act.put, List.setIfInBounds_toArray, List.set_cons_zero, List.set_cons_succ]
  refine wpAnyH_take (i := 9) (oi := (Oper.mk (some 2) (Op.assign (Operand.tmp 36)) 4 "outright.go:288" #[(Edge.mk 8 Ground.data), (Edge.mk 7 Ground.chain), (Edge.mk 0 Ground.phase), (Edge.mk 1 Ground.phase), (Edge.mk 2 Ground.phase), (Edge.mk 3 Ground.phase), (Edge.mk 4 Ground.phase), (Edge.mk 5 Ground.phase), (Edge.mk 6 Ground.phase), (Edge.mk 7 Ground.phase), (Edge.mk 8 Ground.phase)] none)) (v := ?_) rfl (by kernel_rfl) (by kernel_rfl) (by kernel_rfl) (fun _ _ _ h => h) (Or.inl ⟨by rfl, ?_⟩) hC ?_
  rotate_left
  · (intro w hSw; (try dsimp only at hSw); go_simp; try with_reducible rfl)
  try simp only [Act.put, List.setIfInBounds_toArray, List.set_cons_zero, List.set_cons_succ]
  refine wpAnyH_done (by kernel_rfl) ?_ _
  go_wp2_with fail
  go_ret
  exact ⟨rfl, hBf.out _ hC12.out⟩
end Go.Proofs.YtjblhiekccjdcaaR
