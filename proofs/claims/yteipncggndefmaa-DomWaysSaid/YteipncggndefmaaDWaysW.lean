/- The law DomWays, walked. -/
import Derived.Test.YteipncggndefmaaDWays
namespace Go.Proofs.Yteipncggndefmaa
open Go.RowKit Go.Maps Go.Shelf

set_option maxRecDepth 20000 in
set_option maxHeartbeats 8000000 in
theorem domWays_any {w : World} {v : Value} {L : List (List Int)} {root : Int} (h : RdG w v L) :
    Calls Try.prog 4 #[v, .int .i64 root] w fun e w' => e = .returned (.bool true) ∧ Below w.heap.size w w' := by
  obtain ⟨av, c0, rfl⟩ := h.form
  have hG := Lib.hid (great9_any h)
  have hW := Lib.hid (fun w => wakes9_g (w := w))
  replace h := Lib.hid h
  go_enter Try.func4, Try.ntmps4
  go_wp2_with fail
  refine hG.out.mono ?_
  rintro e w1 ⟨q, rfl, rfl, hq⟩
  cases q with
  | true =>
    clear hq
    go_wp2_with fail
    refine (hW.out _).mono ?_
    rintro e w2 ⟨rfl, hb2⟩
    go_wp2_with fail
    go_ret
    exact ⟨rfl, hb2⟩
  | false =>
    obtain ⟨hL, hr⟩ := hq rfl
    have hT := Lib.hid (tree_any (root := root) h.out (by omega) (fun r hrm => by have := hr r hrm; omega))
    have hr' := Lib.hid hr
    clear hr hq
    go_wp2_with fail
    refine hT.out.mono ?_
    rintro e w2 ⟨TB, t, rfl, hI, hD, htl, -, hb2⟩
    have hDT := Lib.hid hD.dt
    have hRt := Lib.hid (hI.rd (n := L.length) htl.symm)
    have hg2 := Lib.hid (h.out.below hb2)
    obtain ⟨n, hn⟩ : ∃ n, n = L.length := ⟨_, rfl⟩
    rw [← hn] at hL htl hRt hg2 ⊢
    have hne0 : (((n : Nat) : Int) != (n : Int)) = false := by simp
    replace hn := Lib.hid hn
    replace htl := Lib.hid htl
    replace hb2 := Lib.hid hb2
    clear hT hI hD h
    go_wp2_with fail
    go_loopw [6, 7, 8, 9] (fun i _ _ _ wr => ∃ b : Nat, b ≤ n ∧ i = .int .i64 b ∧ Hid (Below w2.heap.size w2 wr)) (fun i _ _ _ _ => n - (intOf i).toNat)
    case atStart => exact ⟨0, Nat.zero_le _, rfl, Lib.hid (Below.refl _ _)⟩
    case round =>
      obtain ⟨b, hb, rfl, hB⟩ := hrel
      by_cases hlt : b < n
      · have j1 : decide ((b : Int) < (n : Int)) = true := by simpa using hlt
        have j0 : (b : Int) < (n : Int) := by omega
        obtain ⟨tv, htv, e2, e1, -, -⟩ := hDT.out.pair (b := b) (by have := hn.out; omega)
        have hRw := Rd.below hRt.out hB.out
        obtain ⟨bt, ot, ct', et, hct⟩ := RdI.cell hRw htv
        rw [htl.out] at et
        simp only [Value.slice.injEq, Option.some.injEq, Addr.mk.injEq] at et
        obtain ⟨⟨rfl, rfl, -⟩, -, -⟩ := et
        rw [Nat.zero_add] at hct
        obtain ⟨q2, hq2⟩ : ∃ q2 : Bool, q2 = true ↔ leadsP L root b := by
          classical
          exact ⟨decide (leadsP L root b), by simp⟩
        have hLd := Lib.hid (fun (w3 : World) (hb3 : Below wr.heap.size wr w3) => leads_any ((hg2.out.below hB.out).below hb3) (by have := hn.out; omega) (fun r hrm => by have := hr'.out r hrm; omega) hq2)
        rw [leads_root] at hq2
        have k1 : (tv == -2) = !q2 := by
          cases q2 with
          | true => simpa using fun h => e2.1 h (hq2.1 rfl)
          | false => simpa using e2.2 (fun h => by have := hq2.2 h; cases this)
        have k2 : ((b : Int) == root) = (tv == -1) := by
          have := root_eq (L := L) (root := root) (a := b) (by have := hn.out; omega)
          by_cases e : tv = -1
          · rw [e]; simpa using this.2 (e1.1 e)
          · have hx : (tv == -1) = false := by simpa using e
            rw [hx]; simpa using fun h => e (e1.2 (this.1 h))
        have hTl : TB < wr.heap.size := by
          have := (Array.getElem?_eq_some_iff.1 (show wr.heap[TB]? = some (wr.heap[TB]?.getD default) from by
            cases hx : wr.heap[TB]? with
            | none => simp [World.cell?, hx] at hct
            | some o => rfl)).1
          exact this
        obtain ⟨p2, k3⟩ : ∃ p2, (tv == -1) = p2 := ⟨_, rfl⟩
        rw [k3] at k2
        replace hq2 := Lib.hid hq2
        replace e1 := Lib.hid e1
        replace e2 := Lib.hid e2
        replace htv := Lib.hid htv
        clear hRw
        go_upto_region 9 with fail
        have hctd : wr.drew.cell? ⟨TB, b, none⟩ = some (.int .i64 tv) := hct
        have hLd2 := Lib.hid (hLd.out wr.drew (Below.refl _ _).drew)
        go_cut [48] from 27 to 48 (fun x wx => x = .bool false ∧ Hid (Below wr.heap.size wr wx))
        case first =>
          go_region_held3 (fun w' => w'.cell? ⟨TB, b, none⟩ = some (.int .i64 tv)) (first | exact hctd | exact hct4)
            (first | (go_at_call 18; refine Calls.mono hLd2.out ?_; rintro e w4 ⟨rfl, hb4⟩; have hct4 := (hb4.cell (p := ⟨TB, b, none⟩) hTl).trans hctd))
          all_goals
            cases q2 <;> cases p2 <;> (go_wp2_with fail; go_meet; exact ⟨by simp, Lib.hid (((Below.refl _ _).drew).trans hb4)⟩)
        case rest =>
          obtain ⟨rfl, hBc⟩ := hcut
          have hB2 := Lib.hid (hB.out.trans (hBc.out.mono hB.out.size))
          clear hct hctd hLd hLd2 hBc hB k1 k2 k3 hq2 e1 e2 htv
          go_wp2_with fail
          go_loopw [7, 8, 9] (fun i _ _ wx => ∃ a : Nat, a ≤ n ∧ i = .int .i64 a ∧ Hid (Below w2.heap.size w2 wx)) (fun i _ _ _ => n - (intOf i).toNat)
          case atStart => exact ⟨0, Nat.zero_le _, rfl, hB2⟩
          case round =>
            clear hB2
            obtain ⟨a, ha, rfl, hB⟩ := hrel
            by_cases hlta : a < n
            · have j2 : decide ((a : Int) < (n : Int)) = true := by simpa using hlta
              go_upto_block 3 with fail
              refine dways3 (by kernel_rfl) (w := wr) (L := L) (t := t) (hg2.out.below hB.out) (Lib.hid (Rd.below hRt.out hB.out)) htl.out hn.out hL hr'.out hDT.out hlta hlt (Lib.hid ?_)
              intros
              rename_i hx
              have hB2 := Lib.hid (hB.out.trans (hx.mono hB.out.size))
              clear hx hB
              go_wp2_with fail
              exact ⟨⟨a + 1, by omega, by go_num, hB2⟩, by simp [intOf]; omega⟩
            · obtain rfl : a = n := by omega
              have j2 : decide ((a : Int) < (a : Int)) = false := by simp
              go_wp2_with fail
              exact ⟨⟨b + 1, by omega, by go_num, hB⟩, by simp [intOf]; omega⟩
      · obtain rfl : b = n := by omega
        have j1 : decide ((b : Int) < (b : Int)) = false := by simp
        go_wp2_with fail
        refine (hW.out _).mono ?_
        rintro e w3 ⟨rfl, hb3⟩
        have hfin := Lib.hid (hb2.out.trans ((hB.out.trans (hb3.mono hB.out.size)).mono hb2.out.size))
        clear hb3
        go_wp2_with fail
        go_ret
        exact ⟨rfl, hfin.out⟩
end Go.Proofs.Yteipncggndefmaa
