/- names.badFields. -/
import Derived.Test.YtjblhiekccjdcaaRNShape
import Derived.Deep.RegionHeld3
namespace Go.Proofs.YtjblhiekccjdcaaR
open Go.RowKit Go.Maps

/-- An instruction at an address. -/
def InsAt (w : World) (b o : Nat) (d : Ins) : Prop := b < w.heap.size ∧ ∃ va vl, RdS w va d.args ∧ RdS w vl d.labels ∧ ∀ (j : Nat) (u : Value), (insV d va vl)[j]? = some u → w.cell? ⟨b, o + j, none⟩ = some u
theorem InsAt.below {w w' : World} {b o : Nat} {d : Ins} (h : InsAt w b o d) (hb : Below w.heap.size w w') : InsAt w' b o d := by
  obtain ⟨h0, va, vl, h1, h2, h3⟩ := h
  exact ⟨Nat.lt_of_lt_of_le h0 hb.size, va, vl, Rd.below h1 hb, Rd.below h2 hb, fun j u hj => (hb.cell (p := ⟨b, o + j, none⟩) h0).trans (h3 j u hj)⟩
theorem InsAt.cells {w : World} {b o : Nat} {d : Ins} (h : InsAt w b o d) : ∃ aa ca al cl, RdS w (.slice aa d.args.length ca) d.args ∧ RdS w (.slice al d.labels.length cl) d.labels ∧
    w.cell? ⟨b, o, none⟩ = some (.int .u8 d.op) ∧ w.cell? ⟨b, o + 1, none⟩ = some (.string d.dst) ∧ w.cell? ⟨b, o + 2, none⟩ = some (.string d.a) ∧ w.cell? ⟨b, o + 3, none⟩ = some (.string d.b) ∧ w.cell? ⟨b, o + 4, none⟩ = some (.int .i64 d.n) ∧ w.cell? ⟨b, o + 5, none⟩ = some (.string d.fn) ∧ w.cell? ⟨b, o + 6, none⟩ = some (.slice aa d.args.length ca) ∧ w.cell? ⟨b, o + 7, none⟩ = some (.slice al d.labels.length cl) := by
  obtain ⟨h0, va, vl, h1, h2, h3⟩ := h
  obtain ⟨aa, ca, rfl⟩ := h1.shape
  obtain ⟨al, cl, rfl⟩ := h2.shape
  exact ⟨aa, ca, al, cl, h1, h2, h3 0 _ rfl, h3 1 _ rfl, h3 2 _ rfl, h3 3 _ rfl, h3 4 _ rfl, h3 5 _ rfl, h3 6 _ rfl, h3 7 _ rfl⟩
/-- What badFields tells. -/
def badShp (d : Ins) (s : Shp) : Bool := (d.op == 6 && ((d.args.length : Int) == 0 || (d.args.length : Int) != (d.labels.length : Int))) || (missB s.dst d.dst || (missB s.a d.a || (missB s.b d.b || (missB s.fn d.fn || (decide (d.n < s.low) || (decide (d.n > s.high) || (misB s.args d.args.length || misB s.labels d.labels.length)))))))
def badFieldsB (d : Ins) : Bool := match shapeN d.op with
  | none => true
  | some s => badShp d s
theorem badFieldsB_some {d : Ins} {s : Shp} (h : shapeN d.op = some s) : badFieldsB d = badShp d s := by unfold badFieldsB; rw [h]
theorem badFieldsB_none {d : Ins} (h : shapeN d.op = none) : badFieldsB d = true := by unfold badFieldsB; rw [h]
theorem quiet_add_sameN {P : Program} {f : FuncId} {args : Array Value} {w : World} {a n : Nat} {v : Value}
    (h : Calls P f args (w.drewN (a + n)) fun e w' => e = .returned v ∧ w' = w.drewN (a + n)) :
    Calls P f args (w.drewN (a + n)) fun e w'' => e = .returned v ∧ ∃ m, w'' = w.drewN (a + m) :=
  h.mono fun _ _ ⟨he, hm⟩ => ⟨he, n, hm⟩
/-- The cells of an instruction and of a shape. -/
structure InsShp (W : World) (b o S : Nat) (d : Ins) (s : Shp) (va vl : Value) : Prop where
  c0 : W.cell? ⟨b, o, none⟩ = some (.int .u8 d.op)
  c1 : W.cell? ⟨b, o + 1, none⟩ = some (.string d.dst)
  c2 : W.cell? ⟨b, o + 2, none⟩ = some (.string d.a)
  c3 : W.cell? ⟨b, o + 3, none⟩ = some (.string d.b)
  c4 : W.cell? ⟨b, o + 4, none⟩ = some (.int .i64 d.n)
  c5 : W.cell? ⟨b, o + 5, none⟩ = some (.string d.fn)
  c6 : W.cell? ⟨b, o + 6, none⟩ = some va
  c7 : W.cell? ⟨b, o + 7, none⟩ = some vl
  s0 : W.cell? ⟨S, 0, none⟩ = some (.int .u8 s.dst)
  s1 : W.cell? ⟨S, 1, none⟩ = some (.int .u8 s.a)
  s2 : W.cell? ⟨S, 2, none⟩ = some (.int .u8 s.b)
  s3 : W.cell? ⟨S, 3, none⟩ = some (.int .u8 s.fn)
  s4 : W.cell? ⟨S, 4, none⟩ = some (.int .i64 s.low)
  s5 : W.cell? ⟨S, 5, none⟩ = some (.int .i64 s.high)
  s6 : W.cell? ⟨S, 6, none⟩ = some (.int .i64 s.args)
  s7 : W.cell? ⟨S, 7, none⟩ = some (.int .i64 s.labels)
theorem InsShp.drewN {W : World} {b o S : Nat} {d : Ins} {s : Shp} {va vl : Value} (h : InsShp W b o S d s va vl) (n : Nat) : InsShp (W.drewN n) b o S d s va vl :=
  ⟨h.c0, h.c1, h.c2, h.c3, h.c4, h.c5, h.c6, h.c7, h.s0, h.s1, h.s2, h.s3, h.s4, h.s5, h.s6, h.s7⟩
theorem InsShp.below {W W' : World} {b o S : Nat} {d : Ins} {s : Shp} {va vl : Value} (h : InsShp W b o S d s va vl) (hB : Below W.heap.size W W') : InsShp W' b o S d s va vl := by
  have k : ∀ {p : Addr} {v : Value}, W.cell? p = some v → W'.cell? p = some v := fun {p} {v} hc => (hB.cell (p := p) (cell_size hc)).trans hc
  exact ⟨k h.c0, k h.c1, k h.c2, k h.c3, k h.c4, k h.c5, k h.c6, k h.c7, k h.s0, k h.s1, k h.s2, k h.s3, k h.s4, k h.s5, k h.s6, k h.s7⟩
theorem insShp {w w2 : World} {b o : Nat} {d : Ins} {s : Shp} {va vl : Value} (hb : Below w.heap.size w w2) (hbl : b < w.heap.size)
    (c : ∀ (j : Nat) (u : Value), (insV d va vl)[j]? = some u → w.cell? ⟨b, o + j, none⟩ = some u) : InsShp (w2.alloc (.cells (shpA s) 88)) b o w2.heap.size d s va vl := by
  have k : ∀ (j : Nat) (u : Value), (insV d va vl)[j]? = some u → (w2.alloc (.cells (shpA s) 88)).cell? ⟨b, o + j, none⟩ = some u := fun j u hj => by
    have h1 := (hb.cell (p := ⟨b, o + j, none⟩) hbl).trans (c j u hj)
    exact (((Below.refl w2.heap.size w2).alloc (Nat.le_refl _) _).cell (p := ⟨b, o + j, none⟩) (Nat.lt_of_lt_of_le hbl hb.size)).trans h1
  have hN : (w2.alloc (.cells (shpA s) 88)).heap[w2.heap.size]? = some (.cells (shpA s) 88 (0, 0)) := at_newN rfl
  exact ⟨k 0 _ rfl, k 1 _ rfl, k 2 _ rfl, k 3 _ rfl, k 4 _ rfl, k 5 _ rfl, k 6 _ rfl, k 7 _ rfl, by rw [blk_cell hN]; rfl, by rw [blk_cell hN]; rfl, by rw [blk_cell hN]; rfl, by rw [blk_cell hN]; rfl, by rw [blk_cell hN]; rfl, by rw [blk_cell hN]; rfl, by rw [blk_cell hN]; rfl, by rw [blk_cell hN]; rfl⟩
set_option maxRecDepth 20000 in
set_option maxHeartbeats 8000000 in
theorem badFields_any {w : World} {b o : Nat} {d : Ins} (h : InsAt w b o d) (h0 : 0 ≤ d.op) (hla : d.args.length ≤ maxLen) (hll : d.labels.length ≤ maxLen) : Calls Try.prog 56 #[.pointer (some ⟨b, o, none⟩)] w fun e w' => e = .returned (.bool (badFieldsB d)) ∧ Below w.heap.size w w' := by
  obtain ⟨hbl, va, vl, r1, r2, hcs⟩ := h
  obtain ⟨aa, ca, rfl⟩ := r1.shape
  obtain ⟨al, cl, rfl⟩ := r2.shape
  have c0 : w.cell? ⟨b, o, none⟩ = some (.int .u8 d.op) := hcs 0 _ rfl
  unfold maxLen at hla hll
  cases hs : shapeN d.op with
  | none =>
    rw [badFieldsB_none hs]
    have k1 := Lib.hid (fun w => shapeOf_none d.op h0 hs w)
    clear hs r1 r2 hcs
    go_enter Try.func56, Try.ntmps56
    go_wp2_with fail
    refine (k1.out _).mono ?_
    rintro e w2 ⟨rfl, hb⟩
    go_wp2_with fail
    go_ret
    exact ⟨rfl, hb.alloc hb.size _⟩
  | some s =>
    rw [badFieldsB_some hs]
    unfold badShp
    have k1 := Lib.hid (fun w => shapeOf_some d.op s hs w)
    have hF := Lib.hid (fun (w2 : World) (hb : Below w.heap.size w w2) => insShp (s := s) hb hbl hcs)
    have k2 := Lib.hid (fun w => misses_any s.dst d.dst w)
    have k3 := Lib.hid (fun w => misses_any s.a d.a w)
    have k4 := Lib.hid (fun w => misses_any s.b d.b w)
    have k5 := Lib.hid (fun w => misses_any s.fn d.fn w)
    have k6 := Lib.hid (fun w => miscounts_any s.args d.args.length w)
    have k7 := Lib.hid (fun w => miscounts_any s.labels d.labels.length w)
    clear hs r1 r2 h0 hcs
    generalize hn1 : d.args.length = n1 at *
    generalize hn2 : d.labels.length = n2 at *
    generalize hp0 : (d.op == 6) = p0
    generalize hq1 : ((n1 : Int) == 0) = q1
    generalize hq2 : ((n1 : Int) != (n2 : Int)) = q2
    generalize missB s.dst d.dst = p1 at *
    generalize missB s.a d.a = p2 at *
    generalize missB s.b d.b = p3 at *
    generalize missB s.fn d.fn = p4 at *
    generalize hp5 : decide (d.n < s.low) = p5
    generalize hp6 : decide (d.n > s.high) = p6
    generalize misB s.args (n1 : Int) = p7 at *
    generalize misB s.labels (n2 : Int) = p8 at *
    have g0 := Lib.hid (fun _ : Unit => hp0)
    have g1 := Lib.hid (fun _ : Unit => hq1)
    have g2 := Lib.hid (fun _ : Unit => hq2)
    obtain ⟨g, hg⟩ : ∃ g, Hid (g = (p0 && (q1 || q2))) := ⟨_, Lib.hid rfl⟩
    have g5 := Lib.hid (fun _ : Unit => hp5)
    have g6 := Lib.hid (fun _ : Unit => hp6)
    clear hp0 hq1 hq2 hp5 hp6 hn1 hn2
    unfold shpA at k1 hF
    go_enter Try.func56, Try.ntmps56
    go_wp2_with fail
    refine (k1.out _).mono ?_
    rintro e w2 ⟨rfl, hb⟩
    have hF2 := Lib.hid (hF.out _ hb)
    have hB2 := Lib.hid (hb.alloc hb.size (.cells #[.int .u8 s.dst, .int .u8 s.a, .int .u8 s.b, .int .u8 s.fn, .int .i64 s.low, .int .i64 s.high, .int .i64 s.args, .int .i64 s.labels] 88))
    clear hF hb k1 c0
    go_upto_region 4 with fail
    generalize hS : w2.heap.size = S at hF2 ⊢
    generalize (w2.alloc (.cells #[.int .u8 s.dst, .int .u8 s.a, .int .u8 s.b, .int .u8 s.fn, .int .i64 s.low, .int .i64 s.high, .int .i64 s.args, .int .i64 s.labels] 88)) = W at hF2 hB2 ⊢
    go_cut [40] from 15 to 40 (fun x wx => x = .bool g ∧ ∃ n, wx = W.drewN n)
    case first =>
      obtain ⟨c0, c1, c2, c3, c4, c5, c6, c7, s0, s1, s2, s3, s4, s5, s6, s7⟩ := hF2.out
      clear c1 c2 c3 c4 c5 s0 s1 s2 s3 s4 s5 s6 s7 k2 k3 k4 k5 k6 k7
      have hp0 := g0.out ()
      have hq1 := g1.out ()
      have hq2 := g2.out ()
      clear g0 g1 g2 g5 g6
      cases p0 with
      | false =>
        go_quiet (fail)
        go_wp2_with fail
        go_meet
        exact ⟨by rw [hg.out]; rfl, _, rfl⟩
      | true =>
        cases q1 with
        | true =>
          go_quiet (fail)
          go_wp2_with fail
          go_meet
          exact ⟨by rw [hg.out]; rfl, _, rfl⟩
        | false =>
          cases q2 <;> (
            go_quiet (fail)
            go_wp2_with fail
            go_meet
            exact ⟨by rw [hg.out]; rfl, _, rfl⟩)
    case rest =>
      obtain ⟨rfl, nn, rfl⟩ := hcut
      have hF3 := Lib.hid (hF2.out.drewN nn)
      have hB3 := Lib.hid (below_drawn hB2.out nn)
      clear hF2 hB2 g0 g1 g2
      generalize W.drewN nn = W3 at hF3 hB3 ⊢
      cases g with
      | true =>
        go_wp2_with fail
        go_ret
        exact ⟨by rw [← hg.out]; rfl, hB3.out⟩
      | false =>
        obtain ⟨c0, c1, c2, c3, c4, c5, c6, c7, s0, s1, s2, s3, s4, s5, s6, s7⟩ := hF3.out
        clear c0
        have hp5 := g5.out ()
        have hp6 := g6.out ()
        clear g5 g6
        go_wp2_with fail
        dsimp only [List.append]
        refine wp_region_quiet_lit (by kernel_rfl) (by kernel_rfl) ?_
        repeat (go_big_quiet_step ((first | (go_at_call 74; first | (with_reducible exact Calls.quiet_of_same (k2.out _)) | (with_reducible exact Calls.quiet_of_same (k3.out _)) | (with_reducible exact Calls.quiet_of_same (k4.out _)) | (with_reducible exact Calls.quiet_of_same (k5.out _))) | (go_at_call 75; first | (with_reducible exact Calls.quiet_of_same (k6.out _)) | (with_reducible exact Calls.quiet_of_same (k7.out _))))))
        cases p1 with
        | true =>
          repeat (go_big_quiet_step ((first | (go_at_call 74; first | (with_reducible exact Calls.quiet_of_same (k2.out _)) | (with_reducible exact Calls.quiet_of_same (k3.out _)) | (with_reducible exact Calls.quiet_of_same (k4.out _)) | (with_reducible exact Calls.quiet_of_same (k5.out _))) | (go_at_call 75; first | (with_reducible exact Calls.quiet_of_same (k6.out _)) | (with_reducible exact Calls.quiet_of_same (k7.out _))))))
          refine wpQuiet_nil ?_
          intro _ hw'
          obtain ⟨nq, hw''⟩ := hw'
          subst hw''
          go_wp2_with fail
          go_ret
          exact ⟨by rw [← hg.out]; rfl, below_drawn hB3.out _⟩
        | false =>
          repeat (go_big_quiet_step ((first | (go_at_call 74; first | (with_reducible exact Calls.quiet_of_same (k2.out _)) | (with_reducible exact Calls.quiet_of_same (k3.out _)) | (with_reducible exact Calls.quiet_of_same (k4.out _)) | (with_reducible exact Calls.quiet_of_same (k5.out _))) | (go_at_call 75; first | (with_reducible exact Calls.quiet_of_same (k6.out _)) | (with_reducible exact Calls.quiet_of_same (k7.out _))))))
          cases p2 with
          | true =>
            repeat (go_big_quiet_step ((first | (go_at_call 74; first | (with_reducible exact Calls.quiet_of_same (k2.out _)) | (with_reducible exact Calls.quiet_of_same (k3.out _)) | (with_reducible exact Calls.quiet_of_same (k4.out _)) | (with_reducible exact Calls.quiet_of_same (k5.out _))) | (go_at_call 75; first | (with_reducible exact Calls.quiet_of_same (k6.out _)) | (with_reducible exact Calls.quiet_of_same (k7.out _))))))
            refine wpQuiet_nil ?_
            intro _ hw'
            obtain ⟨nq, hw''⟩ := hw'
            subst hw''
            go_wp2_with fail
            go_ret
            exact ⟨by rw [← hg.out]; rfl, below_drawn hB3.out _⟩
          | false =>
            repeat (go_big_quiet_step ((first | (go_at_call 74; first | (with_reducible exact Calls.quiet_of_same (k2.out _)) | (with_reducible exact Calls.quiet_of_same (k3.out _)) | (with_reducible exact Calls.quiet_of_same (k4.out _)) | (with_reducible exact Calls.quiet_of_same (k5.out _))) | (go_at_call 75; first | (with_reducible exact Calls.quiet_of_same (k6.out _)) | (with_reducible exact Calls.quiet_of_same (k7.out _))))))
            cases p3 with
            | true =>
              repeat (go_big_quiet_step ((first | (go_at_call 74; first | (with_reducible exact Calls.quiet_of_same (k2.out _)) | (with_reducible exact Calls.quiet_of_same (k3.out _)) | (with_reducible exact Calls.quiet_of_same (k4.out _)) | (with_reducible exact Calls.quiet_of_same (k5.out _))) | (go_at_call 75; first | (with_reducible exact Calls.quiet_of_same (k6.out _)) | (with_reducible exact Calls.quiet_of_same (k7.out _))))))
              refine wpQuiet_nil ?_
              intro _ hw'
              obtain ⟨nq, hw''⟩ := hw'
              subst hw''
              go_wp2_with fail
              go_ret
              exact ⟨by rw [← hg.out]; rfl, below_drawn hB3.out _⟩
            | false =>
              repeat (go_big_quiet_step ((first | (go_at_call 74; first | (with_reducible exact Calls.quiet_of_same (k2.out _)) | (with_reducible exact Calls.quiet_of_same (k3.out _)) | (with_reducible exact Calls.quiet_of_same (k4.out _)) | (with_reducible exact Calls.quiet_of_same (k5.out _))) | (go_at_call 75; first | (with_reducible exact Calls.quiet_of_same (k6.out _)) | (with_reducible exact Calls.quiet_of_same (k7.out _))))))
              cases p4 with
              | true =>
                repeat (go_big_quiet_step ((first | (go_at_call 74; first | (with_reducible exact Calls.quiet_of_same (k2.out _)) | (with_reducible exact Calls.quiet_of_same (k3.out _)) | (with_reducible exact Calls.quiet_of_same (k4.out _)) | (with_reducible exact Calls.quiet_of_same (k5.out _))) | (go_at_call 75; first | (with_reducible exact Calls.quiet_of_same (k6.out _)) | (with_reducible exact Calls.quiet_of_same (k7.out _))))))
                refine wpQuiet_nil ?_
                intro _ hw'
                obtain ⟨nq, hw''⟩ := hw'
                subst hw''
                go_wp2_with fail
                go_ret
                exact ⟨by rw [← hg.out]; rfl, below_drawn hB3.out _⟩
              | false =>
                repeat (go_big_quiet_step ((first | (go_at_call 74; first | (with_reducible exact Calls.quiet_of_same (k2.out _)) | (with_reducible exact Calls.quiet_of_same (k3.out _)) | (with_reducible exact Calls.quiet_of_same (k4.out _)) | (with_reducible exact Calls.quiet_of_same (k5.out _))) | (go_at_call 75; first | (with_reducible exact Calls.quiet_of_same (k6.out _)) | (with_reducible exact Calls.quiet_of_same (k7.out _))))))
                cases p5 with
                | true =>
                  repeat (go_big_quiet_step ((first | (go_at_call 74; first | (with_reducible exact Calls.quiet_of_same (k2.out _)) | (with_reducible exact Calls.quiet_of_same (k3.out _)) | (with_reducible exact Calls.quiet_of_same (k4.out _)) | (with_reducible exact Calls.quiet_of_same (k5.out _))) | (go_at_call 75; first | (with_reducible exact Calls.quiet_of_same (k6.out _)) | (with_reducible exact Calls.quiet_of_same (k7.out _))))))
                  refine wpQuiet_nil ?_
                  intro _ hw'
                  obtain ⟨nq, hw''⟩ := hw'
                  subst hw''
                  go_wp2_with fail
                  go_ret
                  exact ⟨by rw [← hg.out]; rfl, below_drawn hB3.out _⟩
                | false =>
                  repeat (go_big_quiet_step ((first | (go_at_call 74; first | (with_reducible exact Calls.quiet_of_same (k2.out _)) | (with_reducible exact Calls.quiet_of_same (k3.out _)) | (with_reducible exact Calls.quiet_of_same (k4.out _)) | (with_reducible exact Calls.quiet_of_same (k5.out _))) | (go_at_call 75; first | (with_reducible exact Calls.quiet_of_same (k6.out _)) | (with_reducible exact Calls.quiet_of_same (k7.out _))))))
                  cases p6 with
                  | true =>
                    repeat (go_big_quiet_step ((first | (go_at_call 74; first | (with_reducible exact Calls.quiet_of_same (k2.out _)) | (with_reducible exact Calls.quiet_of_same (k3.out _)) | (with_reducible exact Calls.quiet_of_same (k4.out _)) | (with_reducible exact Calls.quiet_of_same (k5.out _))) | (go_at_call 75; first | (with_reducible exact Calls.quiet_of_same (k6.out _)) | (with_reducible exact Calls.quiet_of_same (k7.out _))))))
                    refine wpQuiet_nil ?_
                    intro _ hw'
                    obtain ⟨nq, hw''⟩ := hw'
                    subst hw''
                    go_wp2_with fail
                    go_ret
                    exact ⟨by rw [← hg.out]; rfl, below_drawn hB3.out _⟩
                  | false =>
                    repeat (go_big_quiet_step ((first | (go_at_call 74; first | (with_reducible exact Calls.quiet_of_same (k2.out _)) | (with_reducible exact Calls.quiet_of_same (k3.out _)) | (with_reducible exact Calls.quiet_of_same (k4.out _)) | (with_reducible exact Calls.quiet_of_same (k5.out _))) | (go_at_call 75; first | (with_reducible exact Calls.quiet_of_same (k6.out _)) | (with_reducible exact Calls.quiet_of_same (k7.out _))))))
                    cases p7 with
                    | true =>
                      repeat (go_big_quiet_step ((first | (go_at_call 74; first | (with_reducible exact Calls.quiet_of_same (k2.out _)) | (with_reducible exact Calls.quiet_of_same (k3.out _)) | (with_reducible exact Calls.quiet_of_same (k4.out _)) | (with_reducible exact Calls.quiet_of_same (k5.out _))) | (go_at_call 75; first | (with_reducible exact Calls.quiet_of_same (k6.out _)) | (with_reducible exact Calls.quiet_of_same (k7.out _))))))
                      refine wpQuiet_nil ?_
                      intro _ hw'
                      obtain ⟨nq, hw''⟩ := hw'
                      subst hw''
                      go_wp2_with fail
                      go_ret
                      exact ⟨by rw [← hg.out]; rfl, below_drawn hB3.out _⟩
                    | false =>
                      repeat (go_big_quiet_step ((first | (go_at_call 74; first | (with_reducible exact Calls.quiet_of_same (k2.out _)) | (with_reducible exact Calls.quiet_of_same (k3.out _)) | (with_reducible exact Calls.quiet_of_same (k4.out _)) | (with_reducible exact Calls.quiet_of_same (k5.out _))) | (go_at_call 75; first | (with_reducible exact Calls.quiet_of_same (k6.out _)) | (with_reducible exact Calls.quiet_of_same (k7.out _))))))
                      cases p8 <;> (
                        refine wpQuiet_nil ?_
                        intro _ hw'
                        obtain ⟨nq, hw''⟩ := hw'
                        subst hw''
                        go_wp2_with fail
                        go_ret
                        exact ⟨by rw [← hg.out]; rfl, below_drawn hB3.out _⟩)
end Go.Proofs.YtjblhiekccjdcaaR
