/- CellKeeps, walked. -/
import Derived.Test.YtaidjamcjinooaaKeepsS
import Derived.Deep.RegionHeld3
namespace Go.Proofs.Ytaidjamcjinooaa
open Go.RowKit

set_option maxHeartbeats 4000000 in
set_option maxRecDepth 100000 in
theorem keeps_any {a : Value} {l : List Act9} {p u : V3} {w : World} (ha : RdAct w a l) (hlen : l.length ≤ 100) :
    Calls Try.prog 3 #[a, .agg #[.int .u8 p.1, .int .i64 p.2.1, .int .i64 p.2.2], .agg #[.int .u8 u.1, .int .i64 u.2.1, .int .i64 u.2.2]] w fun e w' => e = .returned (.bool true) ∧ Below w.heap.size w w' := by
  obtain ⟨d, c, hs0⟩ := ha.form
  subst hs0
  obtain ⟨i0, hi0, hz0, hz1, hz2⟩ := info_parts infoV
  have hd : decide ((100 : Int) < (l.length : Int)) = false := by simp; omega
  go_enter Try.func3, Try.ntmps3
  go_wp2_with fail
  generalize hW : (w.alloc (.cells #[.int .u8 p.1, .int .i64 p.2.1, .int .i64 p.2.2] 24)).alloc (.cells #[.int .u8 u.1, .int .i64 u.2.1, .int .i64 u.2.2] 24) = W0
  have g0 : Below w.heap.size w W0 := hW ▸ ((Below.refl _ _).alloc (Nat.le_refl _) _).alloc (by simp) _
  have xp : box W0 w.heap.size p := hW ▸ alloc_blk (box_new w p) _
  have xu : box W0 (w.heap.size + 1) u := hW ▸ box_at _ _ (by simp) u
  have hwz : w.heap.size + 2 ≤ W0.heap.size := by rw [← hW]; simp
  have ha0 := ha.below (Nat.le_refl _) g0
  clear hW ha
  refine (new_at 16384 (by decide) (by decide) _).mono ?_
  rintro e w1 ⟨rfl, h1, hb1⟩
  have hM : Mem W0 w1 [] := ⟨⟨_, h1⟩, ⟨by simp, by simp [many], by simp⟩, hb1⟩
  clear h1 hb1
  replace g0 := Lib.hid g0
  go_wp2_with fail
  go_loopw [8] (fun i wr => ∃ j : Nat, j ≤ l.length ∧ i = .int .i64 j ∧ ∃ os, Mem W0 wr os) (fun i _ => l.length - (intOf i).toNat)
  case atStart => exact ⟨0, Nat.zero_le _, rfl, _, hM⟩
  case round =>
    clear hM
    obtain ⟨j, hj, rfl, os, M⟩ := hrel
    by_cases hlt : j < l.length
    · obtain ⟨x, hx⟩ : ∃ x, l[j]? = some x := ⟨_, List.getElem?_eq_getElem hlt⟩
      obtain ⟨b, off, cap, e, hb0, q0, q1, q2, q3, q4, q5, q6, q7, q8⟩ := (ha0.below (Nat.le_refl _) M.2.2).at hx
      simp only [Value.slice.injEq] at e
      obtain ⟨rfl, -, rfl⟩ := e
      by_cases h0 : x.1 = 0
      · rw [h0] at q0
        have co := Lib.hid M.objs
        by_cases h12 : os.length < 12
        · have d12 : decide (os.length < 12) = true := by simpa using h12
          have cm := Lib.hid (Mem.make (wr := wr.drew) (M.drewN 1) h12 x.2.1 x.2.2.1)
          clear M
          go_wp2_with fail
          refine co.out.mono ?_
          rintro e w2 ⟨rfl, rfl⟩
          go_wp2_with fail
          refine wp_tail 11 (by kernel_rfl) (by kernel_rfl) ?_
          simp only [List.take_succ_cons, List.take_zero, List.drop_succ_cons, List.drop_zero]
          repeat still_step
          refine wpStill_nil ?_
          go_wp2_with fail
          refine cm.out.mono ?_
          rintro e w3 ⟨y, rfl, os', M'⟩
          go_wp2_with fail
          go_roundw
          case rel => exact ⟨j + 1, by omega, by go_num, os', M'⟩
          case measure => simp [intOf]; omega
        · have d12 : decide (os.length < 12) = false := by simpa using h12
          go_wp2_with fail
          refine co.out.mono ?_
          rintro e w2 ⟨rfl, rfl⟩
          go_wp2_with fail
          go_roundw
          case rel => exact ⟨j + 1, by omega, by go_num, os, M⟩
          case measure => simp [intOf]; omega
      · by_cases h2 : x.1 = 2
        · rw [h2] at q0
          have cs := Lib.hid (Mem.store (wr := wr.drew) (M.drewN 1) x.2.2.2.1 x.2.2.2.2)
          clear M
          go_wp2_with fail
          refine wp_tail 11 (by kernel_rfl) (by kernel_rfl) ?_
          simp only [List.take_succ_cons, List.take_zero, List.drop_succ_cons, List.drop_zero]
          repeat still_step
          refine wpStill_nil ?_
          go_wp2_with fail
          refine cs.out.mono ?_
          rintro e w3 ⟨rfl, M'⟩
          go_wp2_with fail
          go_roundw
          case rel => exact ⟨j + 1, by omega, by go_num, _, M'⟩
          case measure => simp [intOf]; omega
        · have e0 : (x.1 == 0) = false := by simpa using h0
          have e2 : (x.1 == 2) = false := by simpa using h2
          go_wp2_with fail
          go_roundw
          case rel => exact ⟨j + 1, by omega, by go_num, os, M⟩
          case measure => simp [intOf]; omega
    · have hjl : j = l.length := by omega
      subst hjl
      clear ha0
      go_wp2_with fail
      have hG0 := Gath.zero wr
      generalize hWq : wr = W1 at *
      have hM0 := Lib.hid M
      clear hWq
      go_loopw [9, 10, 11] (fun va vb i wr => ∃ o : Nat, o ≤ os.length ∧ i = .int .i64 o ∧ Gath W1 wr va vb (gs os o)) (fun _ _ i _ => os.length - (intOf i).toNat)
      case atStart => exact ⟨0, Nat.zero_le _, rfl, hG0⟩
      case round =>
        clear hG0
        obtain ⟨o, ho, rfl, hG⟩ := hrel
        have M2 := M.more hG.low
        have co := Lib.hid M2.objs
        by_cases hlt : o < os.length
        · go_wp2_with fail
          refine co.out.mono ?_
          rintro e w2 ⟨rfl, rfl⟩
          clear co M2
          go_wp2_with fail
          have hGk : Gath W1 wr u9 u10 (gs os o ++ gk os o 0) := by rw [gk_zero, List.append_nil]; exact hG
          clear hG
          have hlt' := Lib.hid hlt
          go_loopw [9, 10, 12] (fun va vb i wr => ∃ k : Nat, k ≤ 64 ∧ i = .int .i64 k ∧ Gath W1 wr va vb (gs os o ++ gk os o k)) (fun _ _ i _ => 64 - (intOf i).toNat)
          case atStart => exact ⟨0, Nat.zero_le _, rfl, hGk⟩
          case round =>
            clear hGk
            obtain ⟨k, hk, rfl, hG⟩ := hrel
            have hGl : (gs os o ++ gk os o k).length ≤ 1000 := by
              rw [List.length_append]
              have := gs_le os o
              have := gk_le os o k
              have := hM0.out.2.1.len
              omega
            by_cases hlt2 : k < 64
            · have b1 : Below wr.heap.size wr (wr.alloc (.cells #[.int .u8 1, .int .i64 o, .int .i64 k] 24)) := (Below.refl _ _).alloc (Nat.le_refl _) _
              have x1 := box_new wr (1, (o : Int), (k : Int))
              have cl := Lib.hid (((M.more hG.low).more b1).load (1, (o : Int), (k : Int)))
              have hG1 := hG.more b1
              have hla : ∀ b, u9.ownBlock = some b → b < wr.heap.size := fun b e => (hG.ra.lt b e).2
              have hlb : ∀ b, u10.ownBlock = some b → b < wr.heap.size := fun b e => (hG.rb.lt b e).2
              have hnx : ∀ x, look os (1, (o : Int), (k : Int)) = some x → gs os o ++ gk os o (k + 1) = gs os o ++ gk os o k ++ [((1, (o : Int), (k : Int)), x)] := fun x hx => by rw [gk_some hx, List.append_assoc]
              have hno : look os (1, (o : Int), (k : Int)) = none → gs os o ++ gk os o (k + 1) = gs os o ++ gk os o k := fun hx => by rw [gk_none hx]
              generalize gs os o ++ gk os o k = G at *
              clear hG M
              go_wp2_with fail
              refine cl.out.mono ?_
              rintro e w2 ⟨rfl, hb2⟩
              have hG2 := hG1.more hb2
              have x2 := box_kept x1 (Touch.of_below hb2 (fun _ => False)) (fun h => h)
              have hs2 := hb2.size
              simp only [World.size_alloc] at hs2
              clear hG1 x1 b1 hb2 cl
              cases hlk : look os (1, (o : Int), (k : Int)) with
              | none =>
                have ht : tells os (1, (o : Int), (k : Int)) = 3 := by simp [tells, hlk]
                clear hnx
                rw [ht]
                replace hlk := Lib.hid hlk
                simp only [Option.getD_none, agg3]
                go_wp2_with fail
                go_roundw
                case rel => exact ⟨k + 1, by omega, by go_num, by rw [hno hlk.out]; exact hG2.more ((Below.refl _ _).alloc (Nat.le_refl _) _)⟩
                case measure => simp [intOf]; omega
              | some x =>
                have ht : tells os (1, (o : Int), (k : Int)) = 0 := by simp [tells, hlk]
                have hnx := Lib.hid (hnx x hlk)
                clear hno
                rw [ht]
                replace hlk := Lib.hid hlk
                simp only [Option.getD_some, agg3]
                have y3 := box_new w2 x
                have b3 : Below w2.heap.size w2 (w2.alloc (.cells #[.int .u8 x.1, .int .i64 x.2.1, .int .i64 x.2.2] 24)) := (Below.refl _ _).alloc (Nat.le_refl _) _
                have hG3 := hG2.more b3
                have x3 := box_kept x2 (Touch.of_below b3 (fun _ => False)) (fun h => h)
                have hs3 : w2.heap.size + 1 = (w2.alloc (.cells #[.int .u8 x.1, .int .i64 x.2.1, .int .i64 x.2.2] 24)).heap.size := by simp
                generalize hw3 : w2.alloc (.cells #[.int .u8 x.1, .int .i64 x.2.1, .int .i64 x.2.2] 24) = w3 at *
                obtain ⟨i1, i2, i3, i4, _⟩ := box_facts x3
                obtain ⟨j1, j2, j3, j4, _⟩ := box_facts y3
                simp only at i2 i3 i4
                have hbz : W1.heap.size ≤ w3.heap.size := hG3.low.size
                go_wp2_with (at_builtin; refine wpList_append_own_at _ rfl _ _ 35 rfl W1.heap.size 24 i0 (.agg #[.int .u8 0, .int .i64 0, .int .i64 0]) 3 24 Try.underlying35 hi0 hz0 hz1 hz2 rfl (by decide) _ _ _ rfl (hG3.ra.alloc _) ⟨w3.heap.size, 0, none⟩ 1 1 [.int .u8 1, .int .i64 o, .int .i64 k] rfl rfl ?c1 ?c2 ?c3 ?c4 ?c5 ?_)
                case c1 => exact World.news_of_block (cs := #[.int .u8 1, .int .i64 o, .int .i64 k]) (t := 24) (fr := (0, 0)) (heap_alloc_new w3 _)
                case c2 => intro u hu; simp at hu; rcases hu with rfl | rfl | rfl <;> rfl
                case c3 => unfold maxLen; omega
                case c4 => omega
                case c5 => simp; omega
                intro va w4 hrow4 hg4 hfar4 hloc4
                have hz34 : w3.heap.size + 1 ≤ w4.heap.size := by have := hg4.size; simpa using this
                have hne4 : ∀ b, wr.heap.size ≤ b → some b ≠ u9.ownBlock := fun b hb e => by have := hla b e.symm; omega
                have y4 : box w4 w2.heap.size x := by
                  unfold box
                  rw [hg4.block w2.heap.size (by simp; omega) (hne4 _ (by omega))]
                  exact alloc_blk y3 _
                have hrb4 := ownsRow_touch hG3.rb (((Touch.refl w3 (fun b => u9.ownBlock = some b)).alloc _).trans (Touch.of_grown hg4 (fun b h => h))) (fun b h e => hG3.dis b e h)
                have hlow4 : Below W1.heap.size W1 w4 := (hG3.low.alloc hbz _).grown hg4 (by simp; omega) (fun b h => (hG3.ra.lt b h).1)
                have hdis4 : ∀ b, va.ownBlock = some b → u10.ownBlock ≠ some b := fun b e e2 => by
                  rcases hloc4 with h | h
                  · exact hG3.dis b (h ▸ e) e2
                  · have := hlb b e2
                    rw [h] at e
                    simp at e
                    omega
                have hlv : ∀ b, va.ownBlock = some b → b < w4.heap.size := fun b e => (hrow4.lt b e).2
                obtain ⟨j1, j2, j3, j4, _⟩ := box_facts y4
                have hbz4 : W1.heap.size ≤ w4.heap.size := by omega
                clear hG3 hG2 hg4 hfar4 hloc4 y3 x2 x3 i1 i2 i3 i4 hw3
                go_wp2_with (at_builtin; refine wpList_append_own_at _ rfl _ _ 35 rfl W1.heap.size 24 i0 (.agg #[.int .u8 0, .int .i64 0, .int .i64 0]) 3 24 Try.underlying35 hi0 hz0 hz1 hz2 rfl (by decide) _ _ _ rfl (hrb4.alloc _) ⟨w4.heap.size, 0, none⟩ 1 1 (vcells x) rfl rfl ?c1 ?c2 ?c3 ?c4 ?c5 ?_)
                case c1 => exact World.news_of_block (cs := #[.int .u8 x.1, .int .i64 x.2.1, .int .i64 x.2.2]) (t := 24) (fr := (0, 0)) (heap_alloc_new w4 _)
                case c2 => intro u hu; simp [vcells] at hu; rcases hu with rfl | rfl | rfl <;> rfl
                case c3 => unfold maxLen; omega
                case c4 => omega
                case c5 => simp; omega
                intro vb w5 hrow5 hg5 hfar5 hloc5
                have hra5 := ownsRow_touch hrow4 (((Touch.refl w4 (fun b => u10.ownBlock = some b)).alloc _).trans (Touch.of_grown hg5 (fun b h => h))) (fun b h e => hdis4 b h e)
                have hlow5 : Below W1.heap.size W1 w5 := (hlow4.alloc hbz4 _).grown hg5 (by simp; omega) (fun b h => (hrb4.lt b h).1)
                have hdis5 : ∀ b, va.ownBlock = some b → vb.ownBlock ≠ some b := fun b e e2 => by
                  rcases hloc5 with h | h
                  · exact hdis4 b e (h ▸ e2)
                  · have := hlv b e
                    rw [h] at e2
                    simp at e2
                    omega
                have hG5 : Gath W1 w5 va vb (gs os o ++ gk os o (k + 1)) := by
                  rw [hnx.out]
                  refine ⟨?_, ?_, hdis5, hlow5⟩
                  · rw [List.length_append, List.length_singleton, List.map_append, List.flatMap_append, List.map_singleton, List.flatMap_singleton]
                    exact hra5
                  · rw [List.length_append, List.length_singleton, List.map_append, List.flatMap_append, List.map_singleton, List.flatMap_singleton]
                    exact hrow5
                clear hra5 hrow5 hdis5 hlow5 hdis4 hlow4 hrow4 hrb4 hg5 hfar5 hloc5 y4 hnx j1 j2 j3 j4
                go_wp2_with fail
                go_roundw
                case rel => exact ⟨k + 1, by omega, by go_num, hG5⟩
                case measure => simp [intOf]; omega
            · have hk64 : k = 64 := by omega
              subst hk64
              rw [← gs_succ] at hG
              have ho12 : o < 12 := by have := hM0.out.2.1.len; have := hlt'.out; omega
              go_wp2_with fail
              go_roundw
              case rel => exact ⟨o + 1, by have := hlt'.out; omega, by go_num, hG⟩
              case measure => have := hlt'.out; simp [intOf]; omega
        · have hoe : o = os.length := by omega
          subst hoe
          go_wp2_with fail
          refine co.out.mono ?_
          rintro e w2 ⟨rfl, rfl⟩
          clear co
          have hGl : (gs os os.length).length = many os := by rw [gs_len (fun o ho => (hM0.out.2.1.each o ho).2) _ (Nat.le_refl _), List.take_length]
          have hra := hG.ra
          have hrb := hG.rb
          have hGm : ∀ y ∈ gs os os.length, y.1.1 = 1 ∧ look os y.1 = some y.2 := fun y hy => gs_mem hy
          have ct := Lib.hid (M.store2 hG.low p u)
          have hbz : W1.heap.size ≤ wr.heap.size := hG.low.size
          have hbw := hM0.out.2.2
          have xp1 : box wr w.heap.size p := box_kept xp (Touch.of_below M2.2.2 (fun _ => False)) (fun h => h)
          have xu1 : box wr (w.heap.size + 1) u := box_kept xu (Touch.of_below M2.2.2 (fun _ => False)) (fun h => h)
          have hbw2 := M2.2.2
          have hcc := Lib.hid M2.cells
          generalize gs os os.length = G at *
          obtain ⟨aa, ca, rfl⟩ := own_form hra
          obtain ⟨ab, cb, rfl⟩ := own_form hrb
          rw [hGl] at hra hrb
          obtain ⟨i1, i2, i3, i4, _⟩ := box_facts xp1
          obtain ⟨j1, j2, j3, j4, _⟩ := box_facts xu1
          clear M M2 hG
          go_wp2_with fail
          refine hcc.out.mono ?_
          rintro e w3 ⟨rfl, rfl⟩
          have hneq : ((G.length : Int) != (many os : Int)) = false := by rw [hGl]; simp
          go_wp2_with fail
          refine ct.out.mono ?_
          rintro e w4 ⟨rfl, M4, ht⟩
          have hra4 := ownsRow_touch hra ht (fun b e h => by have := (hra.lt b e).1; omega)
          have hrb4 := ownsRow_touch hrb ht (fun b e h => by have := (hrb.lt b e).1; omega)
          have xp4 : box w4 w.heap.size p := box_kept xp (Touch.of_below M4.2.2 (fun _ => False)) (fun h => h)
          have xu4 : box w4 (w.heap.size + 1) u := box_kept xu (Touch.of_below M4.2.2 (fun _ => False)) (fun h => h)
          have hw04 : Below w.heap.size w w4 := g0.out.trans (M4.2.2.mono g0.out.size)
          rw [← hGl] at hra4 hrb4 ⊢
          have hG16 : G.length ≤ 16384 := by have := hM0.out.2.1.sum; omega
          replace hGl := Lib.hid hGl
          replace hw04 := Lib.hid hw04
          clear ct hcc hra hrb ht hbw hbw2 xp1 xu1 i1 i2 i3 i4 j1 j2 j3 j4 hM0 xp xu g0 hneq hbz
          go_wp2_with fail
          go_loopw [17] (fun i wr => ∃ j : Nat, j ≤ G.length ∧ i = .int .i64 j ∧ Below w4.heap.size w4 wr) (fun i _ => G.length - (intOf i).toNat)
          case atStart => exact ⟨0, Nat.zero_le _, rfl, Below.refl _ _⟩
          case round =>
            obtain ⟨j, hj, rfl, hb⟩ := hrel
            by_cases hlt3 : j < G.length
            · obtain ⟨⟨q, x⟩, hy⟩ : ∃ y, G[j]? = some y := ⟨_, List.getElem?_eq_getElem hlt3⟩
              obtain ⟨hq1, hqx⟩ := hGm _ (List.mem_of_getElem? hy)
              simp only at hq1 hqx
              have hl4 := look_put (p := p) (u := u) hq1 hqx
              obtain ⟨ga, cap, e, hga, a0, a1, a2⟩ := own_at hra4 (i := j) (q := q) (by simp [hy]) (by omega)
              simp only [Value.slice.injEq] at e
              obtain ⟨rfl, -, rfl⟩ := e
              obtain ⟨gb, cap, e, hgb, b0, b1, b2⟩ := own_at hrb4 (i := j) (q := x) (by simp [hy]) (by omega)
              simp only [Value.slice.injEq] at e
              obtain ⟨rfl, -, rfl⟩ := e
              have tA : ∀ {p : Addr} {v : Value}, p.block < w4.heap.size → w4.cell? p = some v → wr.cell? p = some v := fun hp hv => (hb.cell hp).trans hv
              have a0' := tA hga a0
              have a1' := tA hga a1
              have a2' := tA hga a2
              have cl := Lib.hid ((M4.more hb).load q)
              rw [hl4] at cl
              have ht0 : tells (put os p u) q = 0 := by simp [tells, hl4]
              rw [ht0] at cl
              generalize hRR : (if tells os p = 0 ∧ q = adr p then u else x) = R at cl
              replace hRR := Lib.hid hRR
              have hgaR : ga < wr.heap.size := Nat.lt_of_lt_of_le hga hb.size
              replace hlt3 := Lib.hid hlt3
              have hltd : decide (j < G.length) = true := by simpa using hlt3.out
              clear hq1 hqx ht0 hl4 hra4 hrb4 hy
              clear tA
              go_wp2_with fail
              refine cl.out.mono ?_
              rintro e w5 ⟨rfl, hb5⟩
              have hb45 : Below w4.heap.size w4 w5 := hb.trans (hb5.mono hb.size)
              have b0' := (hb45.cell (p := ⟨gb, j * 3, none⟩) hgb).trans b0
              have b1' := (hb45.cell (p := ⟨gb, j * 3 + 1, none⟩) hgb).trans b1
              have b2' := (hb45.cell (p := ⟨gb, j * 3 + 2, none⟩) hgb).trans b2
              have hgb5 : gb < w5.heap.size := Nat.lt_of_lt_of_le hgb hb45.size
              simp only [Option.getD_some, agg3]
              clear cl a0' a1' a2' hgaR hb hb5 b0 b1 b2
              go_wp2_with fail
              have z5 := box_new w5 R
              have c5 : Below w5.heap.size w5 (w5.alloc (.cells #[.int .u8 R.1, .int .i64 R.2.1, .int .i64 R.2.2] 24)) := (Below.refl _ _).alloc (Nat.le_refl _) _
              have c6 : Below w5.heap.size w5 ((w5.alloc (.cells #[.int .u8 R.1, .int .i64 R.2.1, .int .i64 R.2.2] 24)).alloc (.cells #[.int .u8 x.1, .int .i64 x.2.1, .int .i64 x.2.2] 24)) := c5.alloc c5.size _
              have z6 : box ((w5.alloc (.cells #[.int .u8 R.1, .int .i64 R.2.1, .int .i64 R.2.2] 24)).alloc (.cells #[.int .u8 x.1, .int .i64 x.2.1, .int .i64 x.2.2] 24)) w5.heap.size R := alloc_blk z5 _
              have z7 : box ((w5.alloc (.cells #[.int .u8 R.1, .int .i64 R.2.1, .int .i64 R.2.2] 24)).alloc (.cells #[.int .u8 x.1, .int .i64 x.2.1, .int .i64 x.2.2] 24)) (w5.heap.size + 1) x := box_at _ _ (by simp) x
              generalize (w5.alloc (.cells #[.int .u8 R.1, .int .i64 R.2.1, .int .i64 R.2.2] 24)).alloc (.cells #[.int .u8 x.1, .int .i64 x.2.1, .int .i64 x.2.2] 24) = w7 at *
              have hb47 : Below w4.heap.size w4 w7 := hb45.trans (c6.mono hb45.size)
              have a0' := (hb47.cell (p := ⟨ga, j * 3, none⟩) hga).trans a0
              have a1' := (hb47.cell (p := ⟨ga, j * 3 + 1, none⟩) hga).trans a1
              have a2' := (hb47.cell (p := ⟨ga, j * 3 + 2, none⟩) hga).trans a2
              have xp7 := box_kept xp4 (Touch.of_below hb47 (fun _ => False)) (fun h => h)
              have xu7 := box_kept xu4 (Touch.of_below hb47 (fun _ => False)) (fun h => h)
              have hs45 := hb45.size
              have hwl : w.heap.size + 1 < w4.heap.size := (Array.getElem?_eq_some_iff.1 xu4).1
              obtain ⟨k1, k2, k3, k4, _⟩ := box_facts xp7
              obtain ⟨m1, m2, m3, m4, _⟩ := box_facts xu7
              obtain ⟨n1, n2, n3, n4, _⟩ := box_facts z6
              obtain ⟨r1, r2, r3, r4, r5, r6, r7⟩ := box_facts z7
              have hb47h := Lib.hid hb47
              replace hltd := Lib.hid hltd
              clear a0 a1 a2 b0' b1' b2' hb45 c5 c6 z5 z6 xp7 hb47 xu7
              by_cases hs : tells os p = 0
              · have ds : (tells os p == 0) = true := by simpa using hs
                by_cases hqa : q = adr p
                · have hRu : R = u := by rw [← hRR.out, if_pos ⟨hs, hqa⟩]
                  have heq : ∀ w, (Op.equalIn 10000 24 (.agg #[.int .u8 q.1, .int .i64 q.2.1, .int .i64 q.2.2]) (.agg #[.int .u8 1, .int .i64 p.2.1, .int .i64 p.2.2])).run Try.prog w = .ok true w := fun w => by have := equal_agg q (adr p) w; rw [decide_eq_true hqa] at this; exact this
                  have heb : ∀ w, (binOp .eql 24 (.agg #[.int .u8 q.1, .int .i64 q.2.1, .int .i64 q.2.2]) (.agg #[.int .u8 1, .int .i64 p.2.1, .int .i64 p.2.2])).run Try.prog w = .ok (.bool true) w := fun w => by have := eq_agg q (adr p) w; rw [decide_eq_true hqa] at this; exact this
                  have hee : ∀ w, (Op.equalIn 10000 24 (.agg #[.int .u8 u.1, .int .i64 u.2.1, .int .i64 u.2.2]) (.agg #[.int .u8 u.1, .int .i64 u.2.1, .int .i64 u.2.2])).run Try.prog w = .ok true w := fun w => by rw [equal_agg u u w, decide_eq_true rfl]
                  subst hRu
                  clear hs hqa
                  have hne1 : w5.heap.size ≠ w5.heap.size + 1 := by omega
                  go_quiet (fail)
                  go_wp2_with fail
                  go_roundw
                  case rel => exact ⟨j + 1, by have := hlt3.out; omega, by go_num, (((below_drawn hb47h.out nq).setCell (by simp; omega) _).setCell (by simp; omega) _).setCell (by simp; omega) _⟩
                  case measure => have := hlt3.out; simp [intOf]; omega
                · have hRx : R = x := by rw [← hRR.out, if_neg (fun h => hqa h.2)]
                  have heq : ∀ w, (Op.equalIn 10000 24 (.agg #[.int .u8 q.1, .int .i64 q.2.1, .int .i64 q.2.2]) (.agg #[.int .u8 1, .int .i64 p.2.1, .int .i64 p.2.2])).run Try.prog w = .ok false w := fun w => by have := equal_agg q (adr p) w; rw [decide_eq_false hqa] at this; exact this
                  have heb : ∀ w, (binOp .eql 24 (.agg #[.int .u8 q.1, .int .i64 q.2.1, .int .i64 q.2.2]) (.agg #[.int .u8 1, .int .i64 p.2.1, .int .i64 p.2.2])).run Try.prog w = .ok (.bool false) w := fun w => by have := eq_agg q (adr p) w; rw [decide_eq_false hqa] at this; exact this
                  subst hRx
                  have hee : ∀ w, (Op.equalIn 10000 24 (.agg #[.int .u8 R.1, .int .i64 R.2.1, .int .i64 R.2.2]) (.agg #[.int .u8 R.1, .int .i64 R.2.1, .int .i64 R.2.2])).run Try.prog w = .ok true w := fun w => by rw [equal_agg R R w, decide_eq_true rfl]
                  clear hs hqa
                  go_quiet (fail)
                  go_wp2_with fail
                  go_roundw
                  case rel => exact ⟨j + 1, by have := hlt3.out; omega, by go_num, below_drawn hb47h.out nq⟩
                  case measure => have := hlt3.out; simp [intOf]; omega
              · have ds : (tells os p == 0) = false := by simpa using hs
                have hRx : R = x := by rw [← hRR.out, if_neg (fun h => hs h.1)]
                subst hRx
                have hee : ∀ w, (Op.equalIn 10000 24 (.agg #[.int .u8 R.1, .int .i64 R.2.1, .int .i64 R.2.2]) (.agg #[.int .u8 R.1, .int .i64 R.2.1, .int .i64 R.2.2])).run Try.prog w = .ok true w := fun w => by rw [equal_agg R R w, decide_eq_true rfl]
                clear hs
                go_quiet (fail)
                go_wp2_with fail
                go_roundw
                case rel => exact ⟨j + 1, by have := hlt3.out; omega, by go_num, below_drawn hb47h.out nq⟩
                case measure => have := hlt3.out; simp [intOf]; omega
            · have hje : j = G.length := by omega
              subst hje
              have hwr : Below w.heap.size w wr := hw04.out.trans (hb.mono hw04.out.size)
              replace hwr := Lib.hid hwr
              clear hra4 hrb4 M4 xp4 xu4 hb
              go_wp2_with fail
              refine (wakes_any _).mono ?_
              rintro e w5 ⟨rfl, hb5⟩
              go_wp2_with fail
              go_ret
              exact ⟨rfl, hwr.out.trans (hb5.mono hwr.out.size)⟩

set_option maxRecDepth 100000 in
theorem keeps_great {a : Value} {l : List Act9} {p u : V3} {w : World} (ha : RdAct w a l) (hlen : 100 < l.length) (hm : l.length ≤ maxLen) :
    Calls Try.prog 3 #[a, .agg #[.int .u8 p.1, .int .i64 p.2.1, .int .i64 p.2.2], .agg #[.int .u8 u.1, .int .i64 u.2.1, .int .i64 u.2.2]] w fun e w' => e = .returned (.bool true) ∧ Below w.heap.size w w' := by
  obtain ⟨d, c, hs0⟩ := ha.form
  subst hs0
  have hd : decide ((100 : Int) < (l.length : Int)) = true := by simp; omega
  have g0 : Below w.heap.size w ((w.alloc (.cells #[.int .u8 p.1, .int .i64 p.2.1, .int .i64 p.2.2] 24)).alloc (.cells #[.int .u8 u.1, .int .i64 u.2.1, .int .i64 u.2.2] 24)) := ((Below.refl _ _).alloc (Nat.le_refl _) _).alloc (by simp) _
  go_enter Try.func3, Try.ntmps3
  go_wp2_with fail
  refine (wakes_any _).mono ?_
  rintro e w5 ⟨rfl, hb5⟩
  go_wp2_with fail
  go_ret
  exact ⟨rfl, g0.trans (hb5.mono g0.size)⟩
end Go.Proofs.Ytaidjamcjinooaa
