/- BitsPlays: the walk. -/
import Derived.Test.YtdpbbgfceagofaaDoorAct0
import Derived.Test.YtdpbbgfceagofaaDoorAct1
import Derived.Test.YtdpbbgfceagofaaDoorAct2
import Derived.Test.YtdpbbgfceagofaaDoorAct3
import Derived.Test.YtdpbbgfceagofaaDoorAct4
import Derived.Test.YtdpbbgfceagofaaDoorAct5
import Derived.Test.YtdpbbgfceagofaaDoorActD
import Derived.Deep.Cut
import Derived.Deep.CutRange
import Derived.Deep.CutBlock
import Derived.Deep.RegionHeld3
import Derived.BigQuiet
namespace Go.Proofs.YtdpbbgfceagofaaDoor
open Go.RowKit Go.Maps

section
variable {w : World} {s : Value} {acts : List Act4}


set_option maxRecDepth 20000 in
theorem plays_great (G : Gl w) (hs : RdA w s acts) (hn : 150 < acts.length) : Calls Tryd.prog 3 #[s] w fun e w' => e = .returned (.bool true) ∧ Below w.heap.size w w' := by
  obtain ⟨a, c, rfl⟩ := hs.form
  have hd : decide ((acts.length : Int) > 150) = true := by simp; omega
  have hw := Lib.hid (wakes_any G)
  go_enter Tryd.func3, Tryd.ntmps3
  go_wp2_with (go_at_call 10; refine hw.out.mono ?_; rintro e w' ⟨rfl, hb⟩)
  go_ret
  exact ⟨rfl, hb⟩

set_option maxRecDepth 20000 in
set_option maxHeartbeats 8000000 in
theorem plays_any (G : Gl w) (hs : RdA w s acts) (hx : ∀ x ∈ acts, x.ok) (hn : acts.length ≤ 150) : Calls Tryd.prog 3 #[s] w fun e w' => e = .returned (.bool true) ∧ Below w.heap.size w w' := by
  obtain ⟨aa, ca, rfl⟩ := hs.form
  have hd : decide ((acts.length : Int) > 150) = false := by simp; omega
  have B0 := Hall.init w
  go_enter Tryd.func3, Tryd.ntmps3
  go_wp2_with fail
  refine (hall_of_none B0).mono ?_
  rintro e w1 ⟨s0, rfl, B1, -⟩
  clear B0
  go_wp2_with fail
  refine (hall_of_none B1).mono ?_
  rintro e w2 ⟨s1, rfl, B2, -⟩
  clear B1
  go_wp2_with fail
  refine (hall_of_none B2).mono ?_
  rintro e w3 ⟨s2, rfl, B3, -⟩
  clear B2
  go_wp2_with fail
  refine (hall_of_none B3).mono ?_
  rintro e w4 ⟨s3, rfl, B4, -⟩
  clear B3
  change Hall w w4 [(s0, []), (s1, []), (s2, []), (s3, [])] _ at B4
  have hmk : ∀ w : World, (Instr.makeSlice 27 (.int .i64 4) (.int .i64 4)).run Tryd.prog w = .ok (.slice (some ⟨w.heap.size, 0, none⟩) 4 4) (w.alloc (.cells #[.slice none 0 0, .slice none 0 0, .slice none 0 0, .slice none 0 0] 31)) := fun w => by kernel_rfl
  go_wp2_with fail
  have P0 := Play.start B4
  clear B4 hmk
  generalize ((w4.alloc (.cells #[ptr s0, ptr s1, ptr s2, ptr s3] 24)).alloc (.cells #[nilS, nilS, nilS, nilS] 31)) = w6 at P0 ⊢
  generalize w4.heap.size + 1 = ws at P0 ⊢
  generalize w4.heap.size = ps at P0 ⊢
  go_loopw [2, 5] (fun _ i wr => ∃ (j : Nat) (L : List (Nat × List Nat)) (vs : List Value) (rss : List (List Nat)) (V : List Nat), j ≤ acts.length ∧ i = .int .i64 j ∧ Play w wr ps ws L vs rss [] V ∧ Match L rss ∧ V.length ≤ 4 * j) (fun _ i _ => acts.length - (intOf i).toNat)
  case atStart => exact ⟨0, _, _, _, _, Nat.zero_le _, rfl, P0, Match.start, Nat.le_refl _⟩
  case round =>
    clear P0
    obtain ⟨j, L, vs, rss, V, hj, rfl, P, M, hV⟩ := hrel
    by_cases hlt : j < acts.length
    · obtain ⟨x, hxj⟩ : ∃ x, acts[j]? = some x := ⟨_, List.getElem?_eq_getElem hlt⟩
      obtain ⟨p, o, cp, e, h0, h1, h2, h3⟩ := (hs.below P.hall.old).at (i := j) hxj
      simp only [Value.slice.injEq] at e
      obtain ⟨rfl, -, rfl⟩ := e
      obtain ⟨hx0, hx1, hx2, hx3⟩ := hx x (List.mem_of_getElem? hxj)
      obtain ⟨d, A, B, n⟩ := x
      simp only at h0 h1 h2 h3 hx0 hx1 hx2 hx3
      obtain ⟨a, ha4, hpa⟩ := place4 hx1
      obtain ⟨b, hb4, hpb⟩ := place4 hx2
      have PX := P.alloc (.cells #[.int .i64 d, .int .i64 A, .int .i64 B, .int .i64 n] 29)
      generalize hwx : wr.alloc (.cells #[.int .i64 d, .int .i64 A, .int .i64 B, .int .i64 n] 29) = wx at *
      have x0 : wx.cell? ⟨wr.heap.size, 0, none⟩ = some (.int .i64 d) := PX.cellX (List.Mem.head _) 0
      have x1 : wx.cell? ⟨wr.heap.size, 1, none⟩ = some (.int .i64 A) := PX.cellX (List.Mem.head _) 1
      have x2 : wx.cell? ⟨wr.heap.size, 2, none⟩ = some (.int .i64 B) := PX.cellX (List.Mem.head _) 2
      have x3 : wx.cell? ⟨wr.heap.size, 3, none⟩ = some (.int .i64 n) := PX.cellX (List.Mem.head _) 3
      have cA : ∀ n', Calls Tryd.prog 12 #[.int .i64 A, .int .i64 4] (wx.drewN n') fun e w'' => e = .returned (.int .i64 a) ∧ ∃ m, w'' = wx.drewN m := fun n' => (hpa _).mono fun _ _ ⟨e, h⟩ => ⟨e, n', h⟩
      have cB : ∀ n', Calls Tryd.prog 12 #[.int .i64 B, .int .i64 4] (wx.drewN n') fun e w'' => e = .returned (.int .i64 b) ∧ ∃ m, w'' = wx.drewN m := fun n' => (hpb _).mono fun _ _ ⟨e, h⟩ => ⟨e, n', h⟩
      replace cA := Lib.hid cA
      replace cB := Lib.hid cB
      obtain ⟨⟨sa, la⟩, hLa⟩ : ∃ x, L[a]? = some x := ⟨_, List.getElem?_eq_getElem (by have := P.lens.1; omega)⟩
      obtain ⟨⟨sb, lb⟩, hLb⟩ : ∃ x, L[b]? = some x := ⟨_, List.getElem?_eq_getElem (by have := P.lens.1; omega)⟩
      obtain ⟨va, hva⟩ : ∃ x, vs[a]? = some x := ⟨_, List.getElem?_eq_getElem (by have := P.lens.2.1; omega)⟩
      obtain ⟨vb, hvb⟩ : ∃ x, vs[b]? = some x := ⟨_, List.getElem?_eq_getElem (by have := P.lens.2.1; omega)⟩
      obtain ⟨ra, hra⟩ : ∃ x, rss[a]? = some x := ⟨_, List.getElem?_eq_getElem (by have := P.lens.2.2; omega)⟩
      obtain ⟨rb, hrb⟩ : ∃ x, rss[b]? = some x := ⟨_, List.getElem?_eq_getElem (by have := P.lens.2.2; omega)⟩
      clear hpa hpb hxj P hx1
      replace hx2 := Lib.hid hx2
      generalize hxb : wr.heap.size = xb at *
      have cwa : wx.cell? ⟨ws, a, none⟩ = some va := PX.cellW hva
      replace hLa := Lib.hid hLa
      replace hLb := Lib.hid hLb
      replace hva := Lib.hid hva
      replace hvb := Lib.hid hvb
      replace hra := Lib.hid hra
      replace hrb := Lib.hid hrb
      go_wp2_with fail
      clear hwx
      go_quiet (first | (with_reducible exact cA.out _) | (with_reducible exact cB.out _))
      replace PX := PX.drawn nq
      replace hV := Lib.hid hV
      replace M := Lib.hid M
      replace hs := Lib.hid hs
      clear cwa x0 x1 x2 x3 cA cB
      generalize wx.drewN nq = wy at PX ⊢
      obtain ⟨av, cv, e⟩ := own_form (PX.rows a va ra hva.out hra.out).1
      rw [ints_len] at e
      subst e
      have cwa : wy.cell? ⟨ws, a, none⟩ = some (.slice av ra.length cv) := PX.cellW hva.out
      have y0 : wy.cell? ⟨xb, 0, none⟩ = some (.int .i64 d) := PX.cellX (List.Mem.head _) 0
      have y1 : wy.cell? ⟨xb, 1, none⟩ = some (.int .i64 A) := PX.cellX (List.Mem.head _) 1
      have y2 : wy.cell? ⟨xb, 2, none⟩ = some (.int .i64 B) := PX.cellX (List.Mem.head _) 2
      have y3 : wy.cell? ⟨xb, 3, none⟩ = some (.int .i64 n) := PX.cellX (List.Mem.head _) 3
      have ha4i : (a : Int) < 4 := by omega
      have hb4i : (b : Int) < 4 := by omega
      have hVl : Hid (V.length ≤ 1000) := Lib.hid (by have := hV.out; omega)
      replace hx3 := Lib.hid hx3
      go_upto_block 2 with fail
      go_cut [10] from 22 to 289 (fun ok wx' => ok = .bool true ∧ ∃ L' vs' rss' V', Play w wx' ps ws L' vs' rss' [(xb, (.cells #[.int .i64 d, .int .i64 A, .int .i64 B, .int .i64 n] 29))] V' ∧ Match L' rss' ∧ V'.length ≤ 4 * (j + 1))
      case first =>
        clear cwa y0 y1 y2 y3
        by_cases d0 : d = 0
        · as_aux_lemma =>
            subst d0
            refine act0_any (d := 0) (by kernel_rfl) PX ha4 hb4 hx2 hx3 M hV hVl hLa hLb hva hvb hra hrb (Lib.hid (fun hT => ?_))
            obtain ⟨L', vs', rss', V', P', M', h'⟩ := hT
            go_wp2_with fail
            go_meet
            exact ⟨rfl, L', vs', rss', V', P', M', h'⟩
        · replace d0 := Lib.hid d0
          by_cases d1 : d = 1
          · as_aux_lemma =>
              subst d1
              refine act1_any (d := 0) (by kernel_rfl) PX ha4 hb4 hx2 hx3 M hV hVl hLa hLb hva hvb hra hrb (Lib.hid (fun hT => ?_))
              obtain ⟨L', vs', rss', V', P', M', h'⟩ := hT
              go_wp2_with fail
              go_meet
              exact ⟨rfl, L', vs', rss', V', P', M', h'⟩
          · replace d1 := Lib.hid d1
            by_cases d2 : d = 2
            · as_aux_lemma =>
                subst d2
                refine act2_any (d := 0) (by kernel_rfl) PX ha4 hb4 hx2 hx3 M hV hVl hLa hLb hva hvb hra hrb (Lib.hid (fun hT => ?_))
                obtain ⟨L', vs', rss', V', P', M', h'⟩ := hT
                go_wp2_with fail
                go_meet
                exact ⟨rfl, L', vs', rss', V', P', M', h'⟩
            · replace d2 := Lib.hid d2
              by_cases d3 : d = 3
              · as_aux_lemma =>
                  subst d3
                  refine act3_any (d := 0) (by kernel_rfl) PX ha4 hb4 hx2 hx3 M hV hVl hLa hLb hva hvb hra hrb (Lib.hid (fun hT => ?_))
                  obtain ⟨L', vs', rss', V', P', M', h'⟩ := hT
                  go_wp2_with fail
                  go_meet
                  exact ⟨rfl, L', vs', rss', V', P', M', h'⟩
              · replace d3 := Lib.hid d3
                by_cases d4 : d = 4
                · as_aux_lemma =>
                    subst d4
                    refine act4_any (d := 0) (by kernel_rfl) PX ha4 hb4 hx2 hx3 M hV hVl hLa hLb hva hvb hra hrb (Lib.hid (fun hT => ?_))
                    obtain ⟨L', vs', rss', V', P', M', h'⟩ := hT
                    go_wp2_with fail
                    go_meet
                    exact ⟨rfl, L', vs', rss', V', P', M', h'⟩
                · replace d4 := Lib.hid d4
                  by_cases d5 : d = 5
                  · as_aux_lemma =>
                      subst d5
                      refine act5_any (d := 0) (by kernel_rfl) PX ha4 hb4 hx2 hx3 M hV hVl hLa hLb hva hvb hra hrb (Lib.hid (fun hT => ?_))
                      obtain ⟨L', vs', rss', V', P', M', h'⟩ := hT
                      go_wp2_with fail
                      go_meet
                      exact ⟨rfl, L', vs', rss', V', P', M', h'⟩
                  · replace d5 := Lib.hid d5
                    as_aux_lemma =>
                      refine actD_any (by kernel_rfl) PX ha4 hb4 hx2 hx3 M hV hVl hLa hLb hva hvb hra hrb ⟨d0.out, d1.out, d2.out, d3.out, d4.out, d5.out⟩ (Lib.hid (fun hT => ?_))
                      obtain ⟨L', vs', rss', V', P', M', h'⟩ := hT
                      go_wp2_with fail
                      go_meet
                      exact ⟨rfl, L', vs', rss', V', P', M', h'⟩
      case rest =>
        as_aux_lemma =>
          obtain ⟨rfl, L2, vs2, rss2, V2, P, M2, hV2⟩ := hcut
          clear y0 y1 y2 y3 cwa PX M hLa hLb hva hvb hra hrb hV hVl
          have hVl : Hid (V2.length ≤ 1000) := Lib.hid (by omega)
          replace hV2 := Lib.hid hV2
          replace M2 := Lib.hid M2
          go_wp2_with fail
          go_loopw [2, 11] (fun _ u wr' => ∃ k : Nat, k ≤ 4 ∧ u = .int .i64 k ∧ Play w wr' ps ws L2 vs2 rss2 [(xb, (.cells #[.int .i64 d, .int .i64 A, .int .i64 B, .int .i64 n] 29))] V2) (fun _ u _ => 4 - (intOf u).toNat)
          case atStart => exact ⟨0, by omega, rfl, P⟩
          case round =>
            clear P
            obtain ⟨k, hk, rfl, P⟩ := hrel
            by_cases hk4 : k < 4
            · as_aux_lemma =>
                obtain ⟨⟨sk, lk⟩, hLk⟩ : ∃ x, L2[k]? = some x := ⟨_, List.getElem?_eq_getElem (by have := P.lens.1; omega)⟩
                obtain ⟨vk, hvk⟩ : ∃ x, vs2[k]? = some x := ⟨_, List.getElem?_eq_getElem (by have := P.lens.2.1; omega)⟩
                obtain ⟨rk, hrk⟩ : ∃ x, rss2[k]? = some x := ⟨_, List.getElem?_eq_getElem (by have := P.lens.2.2; omega)⟩
                have k1 := P.cellS hLk
                have k2 := P.cellW hvk
                have k3 : _ = some (Value.int .i64 n) := P.cellX (List.Mem.head _) 3
                have hk4i : (k : Int) < 4 := by omega
                replace hLk := Lib.hid hLk
                replace hvk := Lib.hid hvk
                replace hrk := Lib.hid hrk
                go_wp2_with fail
                refine wp_tail 10 (by kernel_rfl) (by kernel_rfl) ?_
                simp only [List.take_succ_cons, List.take_zero, List.drop_succ_cons, List.drop_zero]
                repeat still_step
                refine wpStill_nil ?_
                go_wp2_with fail
                refine (play_tells P.drew G M2.out hLk.out hvk.out hrk.out hx3.out.2 hVl.out).mono ?_
                rintro e w1 ⟨rfl, P1⟩
                clear k1 k2 k3
                go_wp2_with fail
                go_roundw
                case rel => exact ⟨k + 1, by omega, by go_num, P1⟩
                case measure => simp [intOf]; omega
            · have : k = 4 := by omega
              subst this
              clear hk hk4
              obtain ⟨⟨sa, la⟩, hLa⟩ : ∃ x, L2[a]? = some x := ⟨_, List.getElem?_eq_getElem (by have := P.lens.1; omega)⟩
              obtain ⟨⟨sb, lb⟩, hLb⟩ : ∃ x, L2[b]? = some x := ⟨_, List.getElem?_eq_getElem (by have := P.lens.1; omega)⟩
              obtain ⟨va, hva⟩ : ∃ x, vs2[a]? = some x := ⟨_, List.getElem?_eq_getElem (by have := P.lens.2.1; omega)⟩
              obtain ⟨vb, hvb⟩ : ∃ x, vs2[b]? = some x := ⟨_, List.getElem?_eq_getElem (by have := P.lens.2.1; omega)⟩
              obtain ⟨ra, hra⟩ : ∃ x, rss2[a]? = some x := ⟨_, List.getElem?_eq_getElem (by have := P.lens.2.2; omega)⟩
              obtain ⟨rb, hrb⟩ : ∃ x, rss2[b]? = some x := ⟨_, List.getElem?_eq_getElem (by have := P.lens.2.2; omega)⟩
              obtain ⟨k0, hk0⟩ : ∃ k0, k0 = (pickL (ints ra) (ints rb) false).length := ⟨_, rfl⟩
              obtain ⟨q, hq⟩ : ∃ q, q = decide (ra = rb) := ⟨_, rfl⟩
              obtain ⟨r, hr⟩ : ∃ r, r = decide (k0 = 0) := ⟨_, rfl⟩
              have r1 : decide ((k0 : Int) = 0) = r := by rw [hr, decide_eq_decide]; omega
              have r2 : decide (k0 = 0) = r := hr.symm
              have r3 : ((k0 : Int) == 0) = r := by rw [← r1]; rfl
              have MA := M2.out a sa la ra hLa hra
              have MB := M2.out b sb lb rb hLb hrb
              have q1 : ∀ wq, Play w wq ps ws L2 vs2 rss2 [(xb, (.cells #[.int .i64 d, .int .i64 A, .int .i64 B, .int .i64 n] 29))] V2 → Calls Tryd.prog 24 #[ptr sa, ptr sb] wq fun e w1 => e = .returned (.bool q) ∧ Play w w1 ps ws L2 vs2 rss2 [(xb, (.cells #[.int .i64 d, .int .i64 A, .int .i64 B, .int .i64 n] 29))] V2 := fun wq Q => by
                have := play_same Q hLa hLb
                rwa [same_ok (Q.rows a va ra hva hra).2.1 (Q.rows b vb rb hvb hrb).2.1 MA MB (Q.hall.nodup hLa) (Q.hall.nodup hLb), ← hq] at this
              have q2 : ∀ wq, Play w wq ps ws L2 vs2 rss2 [(xb, (.cells #[.int .i64 d, .int .i64 A, .int .i64 B, .int .i64 n] 29))] V2 → Calls Tryd.prog 25 #[va, vb] wq fun e w1 => e = .returned (.bool q) ∧ Play w w1 ps ws L2 vs2 rss2 [(xb, (.cells #[.int .i64 d, .int .i64 A, .int .i64 B, .int .i64 n] 29))] V2 := fun wq Q => by
                rw [hq]
                exact play_rsame Q hva hra hvb hrb hVl.out
              have q3 : ∀ wq, Play w wq ps ws L2 vs2 rss2 [(xb, (.cells #[.int .i64 d, .int .i64 A, .int .i64 B, .int .i64 n] 29))] V2 → Calls Tryd.prog 26 #[ptr sa, ptr sb] wq fun e w1 => e = .returned (.bool r) ∧ Play w w1 ps ws L2 vs2 rss2 [(xb, (.cells #[.int .i64 d, .int .i64 A, .int .i64 B, .int .i64 n] 29))] V2 := fun wq Q => by
                have := play_in Q hLa hLb
                rwa [← in_ok MA MB, ← hk0, ← hr] at this
              have q4 : ∀ wq, Play w wq ps ws L2 vs2 rss2 [(xb, (.cells #[.int .i64 d, .int .i64 A, .int .i64 B, .int .i64 n] 29))] V2 → Calls Tryd.prog 15 #[va, vb, .bool false] wq fun e w1 => ∃ av cv, e = .returned (.slice av k0 cv) ∧ Play w w1 ps ws L2 vs2 rss2 [(xb, (.cells #[.int .i64 d, .int .i64 A, .int .i64 B, .int .i64 n] 29))] V2 := fun wq Q => by
                refine (play_rpick0 Q hva hra hvb hrb hVl.out).mono ?_
                rintro e w1 ⟨av, cv, k, rfl, rfl, Q1⟩
                exact ⟨av, cv, by rw [hk0], Q1⟩
              replace q1 := Lib.hid q1
              replace q2 := Lib.hid q2
              replace q3 := Lib.hid q3
              replace q4 := Lib.hid q4
              replace hq := Lib.hid hq
              replace hr := Lib.hid hr
              replace hk0 := Lib.hid hk0
              replace MA := Lib.hid MA
              replace MB := Lib.hid MB
              have s1 := P.cellS hLa
              have s2 := P.cellS hLb
              have s3 := P.cellW hva
              have s4 := P.cellW hvb
              replace hLa := Lib.hid hLa
              replace hLb := Lib.hid hLb
              replace hva := Lib.hid hva
              replace hvb := Lib.hid hvb
              replace hra := Lib.hid hra
              replace hrb := Lib.hid hrb
              go_upto_region 40 with fail
              go_cut [289] from 248 to 289 (fun t wq => t = .bool false ∧ Play w wq ps ws L2 vs2 rss2 [(xb, (.cells #[.int .i64 d, .int .i64 A, .int .i64 B, .int .i64 n] 29))] V2)
              case first =>
                as_aux_lemma =>
                  go_region_held3 (fun w' => w'.cell? ⟨ps, a, none⟩ = some (ptr sa) ∧ w'.cell? ⟨ps, b, none⟩ = some (ptr sb) ∧ w'.cell? ⟨ws, a, none⟩ = some va ∧ w'.cell? ⟨ws, b, none⟩ = some vb) (first | exact ⟨s1, s2, s3, s4⟩ | exact ⟨a1, b1, c1, d1⟩ | exact ⟨a2, b2, c2, d2⟩ | exact ⟨a3, b3, c3, d3⟩ | exact ⟨a4, b4, c4, d4⟩)
                    (first | (go_at_call 24; with_reducible refine Calls.mono (q1.out _ P.drew) ?_; rintro e w1 ⟨rfl, P1⟩; have a1 := P1.cellS hLa.out; have b1 := P1.cellS hLb.out; have c1 := P1.cellW hva.out; have d1 := P1.cellW hvb.out) | (go_at_call 25; with_reducible refine Calls.mono (q2.out _ P1) ?_; rintro e w2 ⟨rfl, P2⟩; have a2 := P2.cellS hLa.out; have b2 := P2.cellS hLb.out; have c2 := P2.cellW hva.out; have d2 := P2.cellW hvb.out) | (go_at_call 26; with_reducible refine Calls.mono (q3.out _ P2) ?_; rintro e w3 ⟨rfl, P3⟩; have a3 := P3.cellS hLa.out; have b3 := P3.cellS hLb.out; have c3 := P3.cellW hva.out; have d3 := P3.cellW hvb.out) | (go_at_call 15; with_reducible refine Calls.mono (q4.out _ P3) ?_; rintro e w4 ⟨av4, cv4, rfl, P4⟩; have a4 := P4.cellS hLa.out; have b4 := P4.cellS hLb.out; have c4 := P4.cellW hva.out; have d4 := P4.cellW hvb.out))
                  go_wp2_with fail
                  go_meet
                  exact ⟨rfl, P4⟩
              case rest =>
                obtain ⟨rfl, P9⟩ := hcut
                clear s1 s2 s3 s4 P
                go_wp2_with fail
                go_roundw
                case rel => exact ⟨j + 1, L2, vs2, rss2, V2, by omega, by go_num, P9.drop, M2.out, hV2.out⟩
                case measure => simp [intOf]; omega
    · have hje : j = acts.length := by omega
      subst hje
      go_wp2_with fail
      refine (wakes_any (P.hall.gl G)).mono ?_
      rintro e w9 ⟨rfl, hb9⟩
      have hold := P.hall.old.trans (hb9.mono P.hall.old.size)
      go_wp2_with fail
      go_ret
      exact ⟨rfl, hold⟩
end
end Go.Proofs.YtdpbbgfceagofaaDoor
