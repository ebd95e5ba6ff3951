/- NamesOnce: the walk. -/
import Derived.Test.YtjblhiekccjdcaaRNOne6
import Derived.Test.YtjblhiekccjdcaaRNOrderW
namespace Go.Proofs.YtjblhiekccjdcaaR
open Go.RowKit Go.Maps Go.Shelf
attribute [local go_sem] Oper.semAt_some

theorem main_succ {P : List Fun} {k : Nat} {x : Fun} (h : P[k]? = some x) : ((P.take (k + 1)).filter isMain).length = ((P.take k).filter isMain).length + (if isMain x = true then 1 else 0) := by
  rw [take_snocS h, List.filter_append, List.length_append]
  cases e : isMain x <;> simp [e]
set_option maxRecDepth 20000 in
set_option maxHeartbeats 8000000 in
theorem namesOnce_any {w : World} {v : Value} {P : List Fun} (h : RdE 3 RdFun w v P) (hf : ∀ d ∈ P, d.Fits) (hl : P.length ≤ maxLen) : Calls Try.prog 4 #[.agg #[v]] w fun e w' => e = .returned (.bool true) ∧ Below w.heap.size w w' := by
  obtain ⟨a0, c0, rfl⟩ := h.form
  obtain ⟨p, hp⟩ : ∃ p, p = P.length := ⟨_, rfl⟩
  rw [← hp] at h ⊢
  have hb0 : Below w.heap.size w (w.alloc (.cells #[.slice a0 p c0] 26)) := (Below.refl _ _).alloc (Nat.le_refl _) _
  have hPB : PBx (w.alloc (.cells #[.slice a0 p c0] 26)) w.heap.size P a0 p c0 := ⟨by rw [blk_cell (at_newN rfl)]; rfl, RdE.below (fun _ _ h => h.below hb0) h hb0⟩
  replace hp := Lib.hid hp
  replace hf := Lib.hid hf
  clear h
  go_enter Try.func4, Try.ntmps4
  go_upto_region 1 with fail
  generalize (w.alloc (.cells #[.slice a0 p c0] 26)) = w1 at hb0 hPB ⊢
  obtain ⟨S0, hS0⟩ : ∃ S0, S0 = w.heap.size := ⟨_, rfl⟩
  rw [← hS0] at hPB ⊢
  replace hS0 := Lib.hid hS0
  have s0 := hPB.s0
  replace hb0 := Lib.hid hb0
  go_wp2_with fail
  refine (heavy_any hPB.hP hf.out hl).mono ?_
  rintro e w2 ⟨q, rfl, hb2, hL⟩
  have hB2 := Lib.hid (hb0.out.trans (hb2.mono hb0.out.size))
  have hPB2 := hPB.keep hb2
  clear hb0 hb2 s0 hPB
  cases q with
  | true =>
    go_wp2_with fail
    go_ret
    exact ⟨rfl, hB2.out⟩
  | false =>
  replace hL := Lib.hid (hL rfl)
  have hok := Lib.hid (hL.out.ok hf.out)
  have s0 := hPB2.s0
  have hp70 : p ≤ 70 := by rw [hp.out]; exact hL.out.1
  obtain ⟨⟨r, q1, q2, q3⟩, hx⟩ : ∃ x, x = wrongOf P := ⟨_, rfl⟩
  have hck := check_any hok.out hPB2.hP
  rw [← hx] at hck
  replace hck := Lib.hid (show Calls Try.prog 11 #[.agg #[.slice a0 p c0]] w2 fun e w' => e = .returned (.agg #[.int .u8 r, .int .i64 q1, .int .i64 q2, .int .i64 q3]) ∧ Below w2.heap.size w2 w' from hck)
  have hres := checkF_res (show checkF P 16 1 = (r, (q1, q2, q3)) from hx.symm) (Nat.le_refl 1)
  replace hx := Lib.hid hx
  replace hPB2 := Lib.hid hPB2
  go_upto_region 4 with (go_at_call 11; refine Calls.mono hck.out ?_; rintro e w3 ⟨rfl, hb3⟩)
  have hb4 : Below w2.heap.size w2 (w3.alloc (.cells #[.int .u8 r, .int .i64 q1, .int .i64 q2, .int .i64 q3] 32)) := hb3.alloc hb3.size _
  have hW4 : (w3.alloc (.cells #[.int .u8 r, .int .i64 q1, .int .i64 q2, .int .i64 q3] 32)).heap[w3.heap.size]? = some (.cells #[.int .u8 r, .int .i64 q1, .int .i64 q2, .int .i64 q3] 32 (0, 0)) := at_newN rfl
  generalize (w3.alloc (.cells #[.int .u8 r, .int .i64 q1, .int .i64 q2, .int .i64 q3] 32)) = w4 at hb4 hW4 ⊢
  generalize w3.heap.size = Sw at hW4 ⊢
  have hB4 := Lib.hid (hB2.out.trans (hb4.mono hB2.out.size))
  have hPB4 := Lib.hid (hPB2.out.keep hb4)
  have g0 : w4.cell? ⟨Sw, 0, none⟩ = some (.int .u8 r) := by rw [blk_cell hW4]; rfl
  have g1 : w4.cell? ⟨Sw, 1, none⟩ = some (.int .i64 q1) := by rw [blk_cell hW4]; rfl
  have g2 : w4.cell? ⟨Sw, 2, none⟩ = some (.int .i64 q2) := by rw [blk_cell hW4]; rfl
  have g3 : w4.cell? ⟨Sw, 3, none⟩ = some (.int .i64 q3) := by rw [blk_cell hW4]; rfl
  clear hb3 hb4 s0 hB2 hPB2 hck
  rcases hres with ⟨rfl, -, hno⟩ | ⟨hr1, hr2, hat, hno⟩
  · simp only [Int.natCast_zero] at g0 ⊢
    have hO := Lib.hid (once_of (fun j h1 h2 => hno j h1 (by omega)))
    have hpk := Lib.hid (fun w' (hb : Below w4.heap.size w4 w') => hPB4.out.keep hb)
    have s0 := hPB4.out.s0
    clear hno hPB4
    go_wp2_with fail
    clear g0 g1 g2 g3 s0 hW4
    go_loopw [9, 10] (fun q i wr => ∃ k m : Nat, k ≤ p ∧ m ≤ k ∧ i = .int .i64 k ∧ q = .int .i64 m ∧ Hid (((P.take k).filter isMain).length = m) ∧ Hid (Below w4.heap.size w4 wr)) (fun _ i _ => p - (intOf i).toNat)
    case atStart => exact ⟨0, 0, Nat.zero_le _, Nat.le_refl _, rfl, rfl, Lib.hid rfl, Lib.hid (Below.refl _ _)⟩
    case round =>
      obtain ⟨k, m, hk, hm, rfl, rfl, hN, hB⟩ := hrel
      have hPr := hpk.out _ hB.out
      have s0 := hPr.s0
      by_cases hlt : k < p
      · have j1 : decide ((k : Int) < (p : Int)) = true := by simpa using hlt
        have j2 : (k : Int) < (p : Int) := by omega
        obtain ⟨d, hd⟩ : ∃ d, P[k]? = some d := ⟨_, List.getElem?_eq_getElem (by rw [← hp.out]; exact hlt)⟩
        obtain ⟨g, off, cap, cs, e, hgl, ⟨vp, vb, rfl, rp, rb⟩, -, hcell⟩ := hPr.hP.at hd
        rw [← hp.out] at e
        simp only [Value.slice.injEq] at e
        obtain ⟨rfl, -, rfl⟩ := e
        obtain ⟨ap, cp, rfl⟩ := rp.shape
        obtain ⟨ab, cb, rfl⟩ := rb.form
        obtain ⟨np, hnp⟩ : ∃ n, n = d.params.length := ⟨_, rfl⟩
        obtain ⟨nb, hnb⟩ : ∃ n, n = d.blocks.length := ⟨_, rfl⟩
        rw [← hnp] at rp hcell
        rw [← hnb] at rb hcell
        have i0 : wr.cell? ⟨g, off + k * 3, none⟩ = some (.string d.name) := hcell 0 _ rfl
        have i1 : wr.cell? ⟨g, off + k * 3 + 1, none⟩ = some (.slice ap np cp) := hcell 1 _ rfl
        have i2 : wr.cell? ⟨g, off + k * 3 + 2, none⟩ = some (.slice ab nb cb) := hcell 2 _ rfl
        have hdm := Lib.hid (List.mem_of_getElem? hd)
        have hdl := Lib.hid (hL.out.2 d hdm.out)
        have hms := Lib.hid (main_succ hd)
        have hmp := hO.out.mainP d hdm.out
        obtain ⟨hn1, hn2, hn3⟩ := hO.out.fn d hdm.out
        have hpar := Lib.hid (hO.out.par d hdm.out)
        have hfit := (hf.out d hdm.out).1
        have hz : ((nb : Int) == 0) = false := by rw [beq_eq_false_iff_ne, hnb]; omega
        have hz2 : nb ≠ 0 := by omega
        have hbx0 : Below wr.heap.size wr (wr.alloc (.cells #[.string d.name, .slice ap np cp, .slice ab nb cb] 39)) := box_below _ _
        have hF0 : (wr.alloc (.cells #[.string d.name, .slice ap np cp, .slice ab nb cb] 39)).heap[wr.heap.size]? = some (.cells #[.string d.name, .slice ap np cp, .slice ab nb cb] 39 (0, 0)) := heap_alloc_new _ _
        replace rp := Lib.hid (Rd.below rp hbx0)
        replace rb := Lib.hid (RdE.below (fun _ _ h => h.below hbx0) rb hbx0)
        replace hbx0 := Lib.hid hbx0
        rw [← hnp] at hmp
        replace hnp := Lib.hid hnp
        replace hnb := Lib.hid hnb
        clear hcell hd hPr
        go_upto_region 18 with fail
        generalize (wr.alloc (.cells #[.string d.name, .slice ap np cp, .slice ab nb cb] 39)) = w5 at hbx0 hF0 rp rb ⊢
        obtain ⟨Sd, hSd⟩ : ∃ Sd, Sd = wr.heap.size := ⟨_, rfl⟩
        rw [← hSd] at hF0 ⊢
        have hF1 : FBx w5 Sd d ap np cp ab nb cb := ⟨by rw [blk_cell hF0]; rfl, by rw [blk_cell hF0]; rfl, by rw [blk_cell hF0]; rfl, rp.out, rb.out⟩
        have hfk := Lib.hid (fun w' (hb : Below w5.heap.size w5 w') => hF1.keep hb)
        have hpk5 := Lib.hid (fun w' (hb : Below w5.heap.size w5 w') => (hpk.out _ (hB.out.trans (hbx0.out.mono hB.out.size))).keep hb)
        have f0 := hF1.f0
        have f1 := hF1.f1
        have f2 := hF1.f2
        have s0 := (hpk5.out _ (Below.refl _ _)).s0
        have his := Lib.hid (fun w => nm_is_any d.name w hfit)
        rw [hn1] at his
        have hfu := Lib.hid ((hpk5.out _ (Below.refl _ _)).funcs hL.out hn2)
        have hbc : Hid (Below w5.heap.size w5 w5) := Lib.hid (Below.refl _ _)
        replace hSd := Lib.hid hSd
        clear hF1 hF0 rp rb i0 i1 i2 hn1 hn2 hn3 hfit
        cases hmn : isMain d with
        | true =>
          have em : (d.name.toList == [109, 97, 105, 110]) = true := hmn
          have hnp0 : np = 0 := hmp hmn
          have d7 : decide ((np : Int) > 0) = false := by rw [hnp0]; rfl
          have d7n : decide (0 < np) = false := by rw [hnp0]; rfl
          have hms2 : Hid (((P.take (k + 1)).filter isMain).length = m + 1) := Lib.hid (by rw [hms.out, hN.out, hmn]; rfl)
          replace hmn := Lib.hid hmn
          replace hnp0 := Lib.hid hnp0
          clear hmp
          go_upto_block 4 with (first
            | (go_at_call 7; with_reducible refine Calls.mono (his.out _) ?_; rintro e w2 ⟨rfl, hw9⟩; obtain rfl := hw9)
            | (go_at_call 13; with_reducible refine Calls.mono hfu.out ?_; rintro e w2 ⟨rfl, hb2⟩; replace hbc := Lib.hid (hbc.out.trans (hb2.mono hbc.out.size)); clear f0 f1 f2 s0; obtain ⟨f0, f1, f2, -, -⟩ := hfk.out _ hbc.out; obtain ⟨s0, -⟩ := hpk5.out _ hbc.out)
            | fail)
          refine once4 (by kernel_rfl) (hfk.out _ hbc.out) (hpk5.out _ hbc.out) hL.out hO.out hdm.out hdl.out (fun {_ a a1 _} h e => by cases a; cases a1; cases e; exact h) (Lib.hid ?_)
          intros
          rename_i hb2
          replace hbc := Lib.hid (hbc.out.trans (hb2.mono hbc.out.size)); clear f0 f1 f2 s0; obtain ⟨f0, f1, f2, -, -⟩ := hfk.out _ hbc.out; obtain ⟨s0, -⟩ := hpk5.out _ hbc.out
          go_upto_block 12 with fail
          refine once12 (by kernel_rfl) (hfk.out _ hbc.out) hdl.out (fun {_ a a1 _} h e => by cases a; cases a1; cases e; exact h) hpar.out (Lib.hid ?_)
          intros
          rename_i hb2
          replace hbc := Lib.hid (hbc.out.trans (hb2.mono hbc.out.size)); clear f0 f1 f2 s0; obtain ⟨f0, f1, f2, -, -⟩ := hfk.out _ hbc.out; obtain ⟨s0, -⟩ := hpk5.out _ hbc.out
          go_wp2_with fail
          go_round
          case rel => exact ⟨k + 1, m + 1, by omega, by omega, by go_num, by go_num, hms2, Lib.hid (hB.out.trans ((hbx0.out.trans (hbc.out.mono hbx0.out.size)).mono hB.out.size))⟩
          case measure => simp [intOf]; omega
        | false =>
          have em : (d.name.toList == [109, 97, 105, 110]) = false := hmn
          have hms2 : Hid (((P.take (k + 1)).filter isMain).length = m) := Lib.hid (by rw [hms.out, hN.out, hmn]; rfl)
          replace hmn := Lib.hid hmn
          clear hmp
          go_upto_block 4 with (first
            | (go_at_call 7; with_reducible refine Calls.mono (his.out _) ?_; rintro e w2 ⟨rfl, hw9⟩; obtain rfl := hw9)
            | (go_at_call 13; with_reducible refine Calls.mono hfu.out ?_; rintro e w2 ⟨rfl, hb2⟩; replace hbc := Lib.hid (hbc.out.trans (hb2.mono hbc.out.size)); clear f0 f1 f2 s0; obtain ⟨f0, f1, f2, -, -⟩ := hfk.out _ hbc.out; obtain ⟨s0, -⟩ := hpk5.out _ hbc.out)
            | fail)
          refine once4 (by kernel_rfl) (hfk.out _ hbc.out) (hpk5.out _ hbc.out) hL.out hO.out hdm.out hdl.out (fun {_ a a1 _} h e => by cases a; cases a1; cases e; exact h) (Lib.hid ?_)
          intros
          rename_i hb2
          replace hbc := Lib.hid (hbc.out.trans (hb2.mono hbc.out.size)); clear f0 f1 f2 s0; obtain ⟨f0, f1, f2, -, -⟩ := hfk.out _ hbc.out; obtain ⟨s0, -⟩ := hpk5.out _ hbc.out
          go_upto_block 12 with fail
          refine once12 (by kernel_rfl) (hfk.out _ hbc.out) hdl.out (fun {_ a a1 _} h e => by cases a; cases a1; cases e; exact h) hpar.out (Lib.hid ?_)
          intros
          rename_i hb2
          replace hbc := Lib.hid (hbc.out.trans (hb2.mono hbc.out.size)); clear f0 f1 f2 s0; obtain ⟨f0, f1, f2, -, -⟩ := hfk.out _ hbc.out; obtain ⟨s0, -⟩ := hpk5.out _ hbc.out
          go_wp2_with fail
          go_round
          case rel => exact ⟨k + 1, m, by omega, by omega, by go_num, rfl, hms2, Lib.hid (hB.out.trans ((hbx0.out.trans (hbc.out.mono hbx0.out.size)).mono hB.out.size))⟩
          case measure => simp [intOf]; omega
      · obtain rfl : k = p := by omega
        have j1 : decide ((k : Int) < (k : Int)) = false := by simp
        have hm1 : m = 1 := by
          have h1 := hN.out
          rw [List.take_of_length_le (by rw [hp.out]; exact Nat.le_refl _), hO.out.main] at h1
          exact h1.symm
        subst hm1
        clear hPr
        go_wp2_with (first | (go_at_call 9; refine (checks_any _).mono ?_; rintro e w9 ⟨rfl, hb9⟩) | fail)
        go_ret
        exact ⟨rfl, hB4.out.trans ((hB.out.trans (hb9.mono hB.out.size)).mono hB4.out.size)⟩
  · have hr0 : ((r : Int) != 0) = true := by simp; omega
    have hr0n : (r != 0) = true := by simp; omega
    have hpk := Lib.hid (fun w' (hb : Below w4.heap.size w4 w') => hPB4.out.keep hb)
    have s0 := hPB4.out.s0
    have kA := Lib.hid (first_some hok.out (by omega) hat hPB4.out.hP)
    clear hPB4
    go_upto_region 6 with (first | (go_at_call 12; refine Calls.mono kA.out ?_; rintro e w5 ⟨rfl, hb5⟩) | fail)
    have hb6 : Below w4.heap.size w4 (w5.alloc (.cells #[.int .i64 q1, .int .i64 q2, .int .i64 q3] 30)) := hb5.alloc hb5.size _
    have hP6 : (w5.alloc (.cells #[.int .i64 q1, .int .i64 q2, .int .i64 q3] 30)).heap[w5.heap.size]? = some (.cells #[.int .i64 q1, .int .i64 q2, .int .i64 q3] 30 (0, 0)) := at_newN rfl
    generalize (w5.alloc (.cells #[.int .i64 q1, .int .i64 q2, .int .i64 q3] 30)) = w6 at hb6 hP6 ⊢
    generalize w5.heap.size = Sp at hP6 ⊢
    have hcells := Lib.hid (fun (w' : World) (hb : Below w6.heap.size w6 w') => (⟨keepC hb (keepC hb6 g0), keepC hb (keepC hb6 g1), keepC hb (keepC hb6 g2), keepC hb (keepC hb6 g3), keepC hb (by rw [blk_cell hP6]; rfl), keepC hb (by rw [blk_cell hP6]; rfl), keepC hb (by rw [blk_cell hP6]; rfl)⟩ : w'.cell? ⟨Sw, 0, none⟩ = some (.int .u8 r) ∧ w'.cell? ⟨Sw, 1, none⟩ = some (.int .i64 q1) ∧ w'.cell? ⟨Sw, 2, none⟩ = some (.int .i64 q2) ∧ w'.cell? ⟨Sw, 3, none⟩ = some (.int .i64 q3) ∧ w'.cell? ⟨Sp, 0, none⟩ = some (.int .i64 q1) ∧ w'.cell? ⟨Sp, 1, none⟩ = some (.int .i64 q2) ∧ w'.cell? ⟨Sp, 2, none⟩ = some (.int .i64 q3)))
    have hpk6 := Lib.hid (fun w' (hb : Below w6.heap.size w6 w') => (hpk.out _ hb6).keep hb)
    have hB6 := Lib.hid (hB4.out.trans (hb6.mono hB4.out.size))
    replace hno := Lib.hid hno
    clear g0 g1 g2 g3 s0 hW4 hb5 hb6 hP6 kA hat hpk
    go_wp2_with fail
    go_loopw [6] (fun i wr => ∃ j : Nat, 1 ≤ j ∧ j ≤ r ∧ i = .int .u8 j ∧ Hid (Below w6.heap.size w6 wr)) (fun i _ => r - (intOf i).toNat)
    case atStart => exact ⟨1, Nat.le_refl _, hr1, rfl, Lib.hid (Below.refl _ _)⟩
    case round =>
      obtain ⟨j, hj1, hj2, rfl, hB⟩ := hrel
      obtain ⟨g0, g1, g2, g3, p0, p1, p2⟩ := hcells.out _ hB.out
      have s0 := (hpk6.out _ hB.out).s0
      by_cases hlt : j < r
      · have j1 : decide ((j : Int) < (r : Int)) = true := by simpa using hlt
        have kB := Lib.hid (first_none hok.out (by omega) (hno.out j hj1 hlt) (hpk6.out _ hB.out).hP)
        go_wp2_with (first | (go_at_call 12; refine Calls.mono kB.out ?_; rintro e w7 ⟨rfl, hb7⟩; have hB7 := Lib.hid (hB.out.trans ((hb7.alloc hb7.size (.cells #[.int .i64 0, .int .i64 0, .int .i64 0] 30)).mono hB.out.size))) | fail)
        go_round
        case rel => exact ⟨j + 1, by omega, by omega, by go_num, hB7⟩
        case measure => simp [intOf]; omega
      · obtain rfl : j = r := by omega
        have j1 : decide ((j : Int) < (j : Int)) = false := by simp
        go_wp2_with (first | (go_at_call 9; refine (checks_any _).mono ?_; rintro e w9 ⟨rfl, hb9⟩) | fail)
        go_ret
        exact ⟨rfl, hB6.out.trans ((hB.out.trans (hb9.mono hB.out.size)).mono hB6.out.size)⟩
end Go.Proofs.YtjblhiekccjdcaaR
