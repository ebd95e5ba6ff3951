/- GraphTogether: the walk. -/
import Derived.Test.YtfhckabhaidhmaaGLawN
namespace Go.Proofs.Ytfhckabhaidhmaa
open Go.RowKit Go.Maps Go.Shelf Go.WideShapes Go.ChangeShapes Go.ChangeAt Go.Deep

/-- Those below a number that stand in a list, rising. -/
def selT (s : List Nat) (k : Nat) : List Int := ((List.range k).filter (fun x => decide (x ∈ s))).map (fun x : Nat => (x : Int))
theorem selT_in {s : List Nat} {k : Nat} (h : k ∈ s) : selT s (k + 1) = selT s k ++ [(k : Int)] := by
  unfold selT
  rw [List.range_succ, List.filter_append]
  simp [h]
theorem selT_out {s : List Nat} {k : Nat} (h : k ∉ s) : selT s (k + 1) = selT s k := by
  unfold selT
  rw [List.range_succ, List.filter_append]
  simp [h]
theorem selT_len (s : List Nat) (k : Nat) : (selT s k).length ≤ k := by
  unfold selT
  rw [List.length_map]
  exact Nat.le_trans (List.length_filter_le _ _) (by simp)
theorem mem_selT {s : List Nat} {k x : Nat} : (x : Int) ∈ selT s k ↔ x < k ∧ x ∈ s := by
  unfold selT
  simp
  constructor
  · rintro ⟨a, h, e⟩
    obtain rfl : a = x := by omega
    exact h
  · exact fun h => ⟨x, h, rfl⟩
theorem reached_app {L : List (List Int)} {a b : List Int} {x : Nat} : Reached L (a ++ b) x ↔ Reached L a x ∨ Reached L b x := by
  unfold Reached
  constructor
  · rintro ⟨f, hf, h⟩
    rcases List.mem_append.1 hf with hf | hf
    · exact .inl ⟨f, hf, h⟩
    · exact .inr ⟨f, hf, h⟩
  · rintro (⟨f, hf, h⟩ | ⟨f, hf, h⟩)
    · exact ⟨f, List.mem_append.2 (.inl hf), h⟩
    · exact ⟨f, List.mem_append.2 (.inr hf), h⟩
theorem reached_again {L : List (List Int)} {a : List Int} {s : List Nat} (hs : ∀ x, x ∈ s ↔ Reached L a x) (x : Nat) : Reached L (selT s L.length) x ↔ x ∈ s := by
  constructor
  · rintro ⟨f, hf, h⟩
    obtain ⟨-, hf⟩ := mem_selT.1 hf
    obtain ⟨g, hg, h2⟩ := (hs f).1 hf
    exact (hs x).2 ⟨g, hg, h2.trans h⟩
  · intro h
    obtain ⟨g, hg, h2⟩ := (hs x).1 h
    exact ⟨x, mem_selT.2 ⟨h2.lt.2, h⟩, .refl h2.lt.2⟩
def TogRel (w0 wr : World) (n : Nat) (s : List Nat) (v i : Value) : Prop := ∃ k : Nat, k ≤ n ∧ i = .int .i64 k ∧ wr.ownsRow w0.heap.size 3 1 v (selT s k).length ((selT s k).map encI) ∧ Below w0.heap.size w0 wr

set_option maxRecDepth 20000 in
set_option maxHeartbeats 4000000 in
theorem gtog_any {w : World} {v fa fb : Value} {L : List (List Int)} {la lb : List Int} (h : RdG w v L) (hfa : RdI w fa la) (hfb : RdI w fb lb) : Calls Try.prog 7 #[v, fa, fb] w fun e w' => e = .returned (.bool true) ∧ Below w.heap.size w w' := by
  obtain ⟨av, cap, rfl⟩ := h.form
  obtain ⟨aa, ca, rfl⟩ := hfa.shape
  obtain ⟨ab, cb, rfl⟩ := hfb.shape
  obtain ⟨i0, hi0, hz0, hz1, hz2⟩ := info_parts infoI1
  go_enter Try.func7, Try.ntmps7
  go_wp2_with fail
  refine (great_any h).mono ?_
  rintro e w' ⟨q, rfl, rfl, hq⟩
  have key : (60 < L.length ∨ 60 < la.length ∨ 60 < lb.length) ∨ (¬ 60 < L.length ∧ ¬ 60 < la.length ∧ ¬ 60 < lb.length) := by omega
  rcases key with key | ⟨hln, hla, hlb⟩
  · clear hq
    by_cases k1 : 60 < L.length
    · have d1 : decide ((L.length : Int) > 60) = true := by simp; omega
      cases q
      all_goals
        go_wp2_with fail
        refine wakes_g.mono ?_
        rintro e w1 ⟨rfl, hb⟩
        go_wp2_with fail
        go_ret
        exact ⟨rfl, hb⟩
    · have d1 : decide ((L.length : Int) > 60) = false := by simp; omega
      by_cases k2 : 60 < la.length
      · have d2 : decide ((la.length : Int) > 60) = true := by simp; omega
        cases q
        all_goals
          go_wp2_with fail
          refine wakes_g.mono ?_
          rintro e w1 ⟨rfl, hb⟩
          go_wp2_with fail
          go_ret
          exact ⟨rfl, hb⟩
      · have d2 : decide ((la.length : Int) > 60) = false := by simp; omega
        have d3 : decide ((lb.length : Int) > 60) = true := by simp; omega
        cases q
        all_goals
          go_wp2_with fail
          refine wakes_g.mono ?_
          rintro e w1 ⟨rfl, hb⟩
          go_wp2_with fail
          go_ret
          exact ⟨rfl, hb⟩
  have d1 : decide ((L.length : Int) > 60) = false := by simp; omega
  have d2 : decide ((la.length : Int) > 60) = false := by simp; omega
  have d3 : decide ((lb.length : Int) > 60) = false := by simp; omega
  cases q with
  | true =>
    go_wp2_with fail
    refine wakes_g.mono ?_
    rintro e w1 ⟨rfl, hb⟩
    go_wp2_with fail
    go_ret
    exact ⟨rfl, hb⟩
  | false =>
    obtain ⟨hL, hr⟩ := hq rfl
    clear hq
    have hr1 : Hid (∀ r ∈ L, r.length ≤ 100000) := Lib.hid (fun r hr' => by have := hr r hr'; omega)
    clear hr
    go_wp2_with fail
    refine (reach_any h (by omega) hr1.out hfa (by omega)).mono ?_
    rintro e w1 ⟨A, sa, rfl, hA, hsa, -, hold⟩
    have hg := h.below hold
    have hfa1 := Rd.below hfa hold
    have hfb1 := Rd.below hfb hold
    have hAl := (Array.getElem?_eq_some_iff.1 hA).1
    replace hA := Lib.hid hA
    replace hsa := Lib.hid hsa
    go_wp2_with fail
    refine (reach_any hg (by omega) hr1.out hfb1 (by omega)).mono ?_
    rintro e w2 ⟨B, sb, rfl, hB, hsb, -, hb2⟩
    replace hA := Lib.hid ((hb2.block A hAl).trans hA.out)
    have hBl := (Array.getElem?_eq_some_iff.1 hB).1
    replace hB := Lib.hid hB
    replace hsb := Lib.hid hsb
    replace hg := hg.below hb2
    replace hfa1 := Lib.hid (Rd.below hfa1 hb2)
    replace hfb1 := Rd.below hfb1 hb2
    replace hAl := Nat.lt_of_lt_of_le hAl hb2.size
    replace hold := hold.trans (hb2.mono hold.size)
    clear hb2
    go_wp2_with (at_builtin; refine wpList_append_rd _ rfl _ _ 28 rfl w2.heap.size 3 i0 (.int .i64 0) 8 Try.underlying28 hi0 hz0 hz1 hz2 rfl _ 0 [] rfl (World.ownsRow_nil _ _ _ _) _ (la.map encI) rfl hfa1.out (oneCells _) (by simp; unfold maxLen; omega) (by simp; omega) (Nat.le_refl _) ?_)
    intro v1 w3 hown1 hgrow1 hat1
    replace hown1 : w3.ownsRow w2.heap.size 3 1 v1 la.length (la.map encI) := by simpa using hown1
    have hb3 : Below w2.heap.size w2 w3 := (Below.refl _ _).grown hgrow1 (Nat.le_refl _) (by simp [Value.ownBlock])
    obtain ⟨a1, c1, rfl⟩ := own_form hown1
    have hfb3 := Lib.hid (Rd.below hfb1 hb3)
    clear hgrow1 hat1 hfb1 hfa1
    go_wp2_with (at_builtin; refine wpList_append_rd _ rfl _ _ 28 rfl w2.heap.size 3 i0 (.int .i64 0) 8 Try.underlying28 hi0 hz0 hz1 hz2 rfl _ _ _ rfl hown1 _ (lb.map encI) rfl hfb3.out (oneCells _) (by simp; unfold maxLen; omega) (by simp; omega) hb3.size ?_)
    intro v2 w4 hown2 hgrow2 hat2
    have hb4 : Below w2.heap.size w2 w4 := hb3.grown hgrow2 hb3.size (fun b hb => (hown1.lt b hb).1)
    have hcat : RdI w4 v2 (la ++ lb) := strip_rd (base := w2.heap.size) (n := la.length + lb.length) (by rw [List.map_append]; simpa using hown2)
    replace hA := Lib.hid ((hb4.block A hAl).trans hA.out)
    replace hB := Lib.hid ((hb4.block B hBl).trans hB.out)
    replace hg := hg.below hb4
    replace hAl := Nat.lt_of_lt_of_le hAl hb4.size
    replace hBl := Nat.lt_of_lt_of_le hBl hb4.size
    replace hold := hold.trans (hb4.mono hold.size)
    clear hown1 hb3 hgrow2 hat2 hown2 hb4 hfb3
    obtain ⟨lc, hlc⟩ : ∃ lc, lc = la ++ lb := ⟨_, rfl⟩
    have hlcl : lc.length ≤ 1000000 := by rw [hlc]; simp; omega
    rw [← hlc] at hcat
    replace hlc := Lib.hid hlc
    obtain ⟨a2, c2, rfl⟩ := hcat.shape
    go_wp2_with fail
    refine (reach_any hg (by omega) hr1.out hcat hlcl).mono ?_
    rintro e w5 ⟨C, sc, rfl, hC, hsc, -, hb5⟩
    replace hA := (hb5.block A hAl).trans hA.out
    replace hB := (hb5.block B hBl).trans hB.out
    replace hg := hg.below hb5
    replace hold := hold.trans (hb5.mono hold.size)
    have hscu : Hid (∀ x, decide (x ∈ sc) = (decide (x ∈ sa) || decide (x ∈ sb))) := Lib.hid (fun x => by
      rw [Bool.eq_iff_iff]
      simp only [Bool.or_eq_true, decide_eq_true_eq]
      rw [hsc, hlc.out, reached_app, hsa.out, hsb.out])
    replace hAl : A < w5.heap.size := Nat.lt_of_lt_of_le hAl hb5.size
    replace hBl : B < w5.heap.size := Nat.lt_of_lt_of_le hBl hb5.size
    have hCl : C < w5.heap.size := (Array.getElem?_eq_some_iff.1 hC).1
    clear hsc hsb hcat hb5 hfa hfb
    have hne : ((L.length : Int) != (L.length : Int)) = false := by simp
    have hLL : L.length ≤ 100000 := by omega
    have hag := Lib.hid (reached_again hsa.out)
    clear hsa
    obtain ⟨n, hn⟩ : ∃ n, n = L.length := ⟨_, rfl⟩
    rw [← hn] at hne hA hB hC hg hL hln d1 hag ⊢
    replace hA := Lib.hid hA
    replace hB := Lib.hid hB
    replace hC := Lib.hid hC
    replace hn := Lib.hid hn
    go_wp2_with fail
    go_loopw [10, 11] (fun v i wr => TogRel w5 wr n sa v i) (fun _ i _ => n - (intOf i).toNat)
    case atStart => exact ⟨0, Nat.zero_le _, rfl, World.ownsRow_nil _ _ _ _, Below.refl _ _⟩
    case round =>
      obtain ⟨k, hk, rfl, hrow, hb⟩ := hrel
      by_cases hlt : k < n
      · have i1 : (k : Int) < (n : Int) := by omega
        have x1 : wr.cell? ⟨A, k, none⟩ = some (.bool (decide (k ∈ sa))) := by rw [blk_cell ((hb.block A hAl).trans hA.out)]; exact seenA_at hlt
        have x2 : wr.cell? ⟨B, k, none⟩ = some (.bool (decide (k ∈ sb))) := by rw [blk_cell ((hb.block B hBl).trans hB.out)]; exact seenA_at hlt
        have x3 : wr.cell? ⟨C, k, none⟩ = some (.bool (decide (k ∈ sc))) := by rw [blk_cell ((hb.block C hCl).trans hC.out)]; exact seenA_at hlt
        rw [hscu.out k] at x3
        have hst1 := fun h : k ∈ sa => selT_in h
        have hst2 := fun h : k ∉ sa => selT_out h
        have hsl := selT_len sa k
        generalize hq2 : decide (k ∈ sb) = q2 at x2 x3
        replace hq2 := Lib.hid hq2
        by_cases hin : k ∈ sa
        · have hs3 := Lib.hid (hst1 hin)
          rw [decide_eq_true hin] at x1 x3
          rw [Bool.true_or] at x3
          clear hst1 hst2 hin
          obtain ⟨ar, cr, rfl⟩ := own_form hrow
          have hrsz := hb.size
          go_wp2_with fail
          go_quiet (fail)
          have hrowq : (wr.drewN nq).ownsRow w5.heap.size 3 1 (.slice ar (selT sa k).length cr) (selT sa k).length ((selT sa k).map encI) := ownsRow_touch hrow (Touch.drewN wr nq (fun _ => False)) (fun _ _ h => h)
          have hbq := below_drawn hb nq
          clear hrow hb
          go_wp2_with (at_builtin; refine wpList_append_own_at _ rfl _ _ 28 rfl w5.heap.size 3 i0 _ 1 8 Try.underlying28 hi0 hz0 hz1 hz2 rfl (by decide) _ _ _ rfl (hrowq.alloc _) ⟨(wr.drewN nq).heap.size, 0, none⟩ 1 1 [.int .i64 k] rfl rfl (World.news_of_block (cs := #[.int .i64 k]) (t := 3) (fr := (0, 0)) (heap_alloc_new (wr.drewN nq) _)) (by simp [Value.oneCell']) (by unfold maxLen; omega) (by omega) (by have := hbq.size; simp at this ⊢; omega) ?_)
          intro v' w6 hown2 hgrow hnil hat
          have hb2 : Below w5.heap.size w5 w6 := (hbq.alloc hbq.size _).grown hgrow (by have := hbq.size; simp at this ⊢; omega) (fun b hb => (hrowq.lt b hb).1)
          have hown3 : w6.ownsRow w5.heap.size 3 1 v' (selT sa (k + 1)).length ((selT sa (k + 1)).map encI) := by
            rw [hs3.out, List.map_append, List.length_append]
            exact hown2
          clear hown2 hgrow hnil hat hrowq hbq
          go_wp2_with fail
          exact ⟨⟨k + 1, by omega, by go_num, hown3, hb2⟩, by simp [intOf]; omega⟩
        · have hs3 := hst2 hin
          rw [decide_eq_false hin] at x1 x3
          rw [Bool.false_or] at x3
          rw [← hs3] at hrow
          clear hst1 hst2 hin hs3
          cases q2
          all_goals
            go_wp2_with fail
            go_quiet (fail)
            have hrowq : (wr.drewN nq).ownsRow w5.heap.size 3 1 u10 (selT sa (k + 1)).length ((selT sa (k + 1)).map encI) := ownsRow_touch hrow (Touch.drewN wr nq (fun _ => False)) (fun _ _ h => h)
            have hbq := below_drawn hb nq
            clear hrow hb
            go_wp2_with fail
            exact ⟨⟨k + 1, by omega, by go_num, hrowq, hbq⟩, by simp [intOf]; omega⟩
      · obtain rfl : k = n := by omega
        have i1 : decide ((k : Int) < (k : Int)) = false := by simp
        have hall := strip_rd hrow
        obtain ⟨ar, cr, rfl⟩ := own_form hrow
        have hgr := hg.below hb
        replace hA := Lib.hid ((hb.block A hAl).trans hA.out)
        have hAl2 := Nat.lt_of_lt_of_le hAl hb.size
        replace hold := hold.trans (hb.mono hold.size)
        have hsl := selT_len sa k
        clear hrow hb hg hAl hscu
        go_wp2_with fail
        refine (reach_any hgr hLL hr1.out hall (by omega)).mono ?_
        rintro e w7 ⟨D, sd, rfl, hD, hsd, -, hb7⟩
        replace hA := Lib.hid ((hb7.block A hAl2).trans hA.out)
        rw [← hn.out] at hD ⊢
        rw [seenA_ext (s := sd) (t := sa) (fun x => (hsd x).trans (hag.out x))] at hD
        replace hD := Lib.hid hD
        replace hold := hold.trans (hb7.mono hold.size)
        clear hb7 hgr hall hsd hag
        go_wp2_with fail
        go_loopw [13] (fun j wx => ∃ m q : Nat, m ≤ k ∧ j = .int .i64 m ∧ wx = w7.drewN q) (fun j _ => k - (intOf j).toNat)
        case atStart => exact ⟨0, 0, Nat.zero_le _, rfl, rfl⟩
        case round =>
          obtain ⟨m, q, hm, rfl, rfl⟩ := hrel
          by_cases hltm : m < k
          · have i2 : (m : Int) < (k : Int) := by omega
            have x1 : w7.cell? ⟨A, m, none⟩ = some (.bool (decide (m ∈ sa))) := by rw [blk_cell hA.out]; exact seenA_at hltm
            have x2 : w7.cell? ⟨D, m, none⟩ = some (.bool (decide (m ∈ sa))) := by rw [blk_cell hD.out]; exact seenA_at hltm
            generalize hqq : decide (m ∈ sa) = qq at x1 x2
            replace hqq := Lib.hid hqq
            cases qq
            all_goals
              go_wp2_with fail
              go_quiet (fail)
              go_wp2_with fail
              exact ⟨⟨m + 1, q + nq, by omega, by go_num, rfl⟩, by simp [intOf]; omega⟩
          · obtain rfl : m = k := by omega
            have i2 : decide ((m : Int) < (m : Int)) = false := by simp
            replace hold := below_drawn hold q
            go_wp2_with fail
            refine wakes_g.mono ?_
            rintro e w9 ⟨rfl, hb⟩
            replace hold := hold.trans (hb.mono hold.size)
            go_wp2_with fail
            go_ret
            exact ⟨rfl, hold⟩
end Go.Proofs.Ytfhckabhaidhmaa
