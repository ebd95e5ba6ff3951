/- GraphPost: the walk. -/
import Derived.Test.YtfhckabhaidhmaaGLawN
namespace Go.Proofs.Ytfhckabhaidhmaa
open Go.RowKit Go.Maps Go.Shelf Go.WideShapes Go.ChangeShapes Go.ChangeAt Go.Deep

/-- Where a node stands among the first of a list: its place and one, or 0. -/
def atF (o : List Nat) (k x : Nat) : Int := if x ∈ o.take k then (o.idxOf x : Int) + 1 else 0
def atA (o : List Nat) (n k : Nat) : Array Value := ((List.range n).map fun x => Value.int .i64 (atF o k x)).toArray
theorem atA_at {o : List Nat} {n k x : Nat} (h : x < n) : (atA o n k)[x]? = some (.int .i64 (atF o k x)) := by
  unfold atA
  simp [h]
theorem atA_zero (o : List Nat) (n : Nat) : atA o n 0 = Array.replicate n (Value.int .i64 0) := by
  apply Array.ext'
  unfold atA
  simp only [List.toArray]
  apply List.ext_getElem
  · simp
  · intro i h1 h2
    simp [atF]
theorem idx_at {o : List Nat} {k x : Nat} (hn : o.Nodup) (h : o[k]? = some x) : o.idxOf x = k := by
  obtain ⟨hk, rfl⟩ := List.getElem?_eq_some_iff.1 h
  exact List.Nodup.idxOf_getElem hn k hk
theorem not_before {o : List Nat} {k x : Nat} (hn : o.Nodup) (h : o[k]? = some x) : x ∉ o.take k := by
  intro hm
  obtain ⟨j, hj, e⟩ := List.getElem_of_mem hm
  rw [List.getElem_take] at e
  rw [List.length_take] at hj
  have h1 := idx_at hn h
  have h2 := idx_at hn (k := j) (x := x) (by rw [← e]; exact List.getElem?_eq_getElem (by omega))
  omega
theorem atA_set {o : List Nat} {n k x : Nat} (hn : o.Nodup) (h : o[k]? = some x) : (atA o n k).setIfInBounds x (.int .i64 ((k : Int) + 1)) = atA o n (k + 1) := by
  have hi := idx_at hn h
  have hx := not_before hn h
  have ht := take_snoc h
  apply Array.ext'
  unfold atA
  rw [Array.toList_setIfInBounds]
  simp only [List.toArray]
  apply List.ext_getElem
  · simp
  · intro i h1 h2
    rw [List.getElem_set]
    simp only [List.getElem_map, List.getElem_range]
    unfold atF
    rw [ht]
    by_cases e : x = i
    · subst e
      simp [hi]
    · have : ¬ i = x := fun h => e h.symm
      simp [e, this]
theorem atF_pos {o : List Nat} {x : Nat} : decide (atF o o.length x > 0) = decide (x ∈ o) := by
  unfold atF
  rw [List.take_length]
  by_cases h : x ∈ o
  · simp [h] <;> omega
  · simp [h]
theorem atF_end {o : List Nat} {x : Nat} (h : x ∈ o) : atF o o.length x = (o.idxOf x : Int) + 1 := by
  unfold atF
  rw [List.take_length, if_pos h]
theorem post_head {L : List (List Int)} {y : Int} {o : List Nat} (h : PostOf L y o) (hy : 0 ≤ y ∧ y < L.length) : ∃ o1, o = y.toNat :: o1 := by
  obtain ⟨s, hk⟩ := h
  obtain ⟨s1, o1, hc, hk2⟩ := hk.next.2 (by rw [normL_len]; exact hy) (by simp)
  cases hk2
  cases hc with
  | cons hr ht hk' hc2 =>
    obtain ⟨-, e⟩ := hc2.done
    exact ⟨_, e⟩
theorem post_none {L : List (List Int)} {y : Int} {o : List Nat} (h : PostOf L y o) (hy : ¬ (0 ≤ y ∧ y < L.length)) : o = [] := by
  obtain ⟨s, hk⟩ := h
  have := hk.next.1 (fun h => absurd h (by rw [normL_len]; exact hy))
  cases this
  rfl
/-- The order's properties: each once, just those that are reached, edges go on but for circles. -/
structure Ord (L : List (List Int)) (y : Int) (o : List Nat) : Prop where
  nodup : o.Nodup
  mem : ∀ x, x ∈ o ↔ Reached L [y] x
  goes : ∀ (x z : Nat), x ∈ o → Edge L x z → o.idxOf z ≤ o.idxOf x → Way L z x
theorem post_ord {L : List (List Int)} {y : Int} {o : List Nat} (h : PostOf L y o) : Ord L y o := by
  obtain ⟨s, hk⟩ := h
  obtain ⟨h1, h2, h3⟩ := hk.left
  have hm : ∀ x, x ∈ o ↔ Reached L [y] x := fun x => by rw [h2, hk.reached, reached_norm]
  refine ⟨h1, hm, fun x z hx he hle => ?_⟩
  have hz : z ∈ o := by
    obtain ⟨f, hf, hw⟩ := (hm x).1 hx
    exact (hm z).2 ⟨f, hf, .step hw he⟩
  have e1 : o[o.idxOf x]? = some x := by
    rw [List.getElem?_eq_getElem (List.idxOf_lt_length_iff.2 hx), List.getElem_idxOf]
  have e2 : o[o.idxOf z]? = some z := by
    rw [List.getElem?_eq_getElem (List.idxOf_lt_length_iff.2 hz), List.getElem_idxOf]
  exact way_norm.1 (h3 _ _ x z e1 e2 (edge_norm.2 he) hle)
theorem make_ints (n : Nat) (hn : n ≤ 100000) (w : World) (o : List Nat) : (Instr.makeSlice 28 (.int .i64 (n : Int)) (.int .i64 (n : Int))).run Try.prog w = .ok (.slice (some ⟨w.heap.size, 0, none⟩) n n) (w.alloc (.cells (atA o n 0) 3)) := by
  obtain ⟨i0, hi0, hz0, hz1, hz2⟩ := info_parts infoI1
  have hb : (i0.bytes : Int) * (n : Int) ≤ 281474976710656 := by rw [hz2]; omega
  have hr := run_make (P := Try.prog) w 28 3 i0 _ Try.underlying28 hi0 hz0 .i64 .i64 n n (by omega) (by omega) hb (by omega)
  rw [hr, hz1, Nat.mul_one, Int.toNat_natCast, show (Value.int .i64 0).cells = #[Value.int .i64 0] from rfl, made_one, atA_zero]
  simp
def PostAt (w0 wr : World) (T n : Nat) (o : List Nat) (i : Value) : Prop := ∃ k : Nat, k ≤ o.length ∧ i = .int .i64 k ∧ wr.heap[T]? = some (.cells (atA o n k) 3 (0, 0)) ∧ Touch w0 wr (fun b => b = T)

set_option maxRecDepth 100000 in
set_option maxHeartbeats 8000000 in
theorem gpost_any {w : World} {v : Value} {L : List (List Int)} {y : Int} (h : RdG w v L) : Calls Try.prog 6 #[v, .int .i64 y] w fun e w' => e = .returned (.bool true) ∧ Below w.heap.size w w' := by
  obtain ⟨av, cap, rfl⟩ := h.form
  go_enter Try.func6, Try.ntmps6
  go_wp2_with fail
  refine (great_any h).mono ?_
  rintro e w' ⟨q, rfl, rfl, hq⟩
  by_cases hln : 100 < L.length
  · have d1 : decide ((L.length : Int) > 100) = true := by simp; omega
    clear hq
    cases q
    all_goals
      go_wp2_with fail
      refine wakes_g.mono ?_
      rintro e w1 ⟨rfl, hb⟩
      go_wp2_with fail
      go_ret
      exact ⟨rfl, hb⟩
  have d1 : decide ((L.length : Int) > 100) = false := by simp; omega
  cases q with
  | true =>
    go_wp2_with fail
    refine wakes_g.mono ?_
    rintro e w1 ⟨rfl, hb⟩
    go_wp2_with fail
    go_ret
    exact ⟨rfl, hb⟩
  | false =>
    obtain ⟨hL, hr⟩ := hq rfl
    clear hq
    have hr1 : Hid (∀ r ∈ L, r.length ≤ 100000) := Lib.hid (fun r hr' => by have := hr r hr'; omega)
    clear hr
    go_wp2_with fail
    refine (post_any h (by omega) hr1.out).mono ?_
    rintro e w1 ⟨lv, o, rfl, hown, hpo, hold⟩
    obtain ⟨alv, clv, rfl⟩ := own_form hown
    have hlv : RdI w1 (.slice alv o.length clv) (o.map fun x : Nat => (x : Int)) := strip_rd (base := w.heap.size) (n := o.length) (by rw [List.map_map]; exact hown)
    have hlow : ∀ b, (Value.slice alv o.length clv).ownBlock = some b → b < w1.heap.size := fun b hb => (hown.lt b hb).2
    have hg := h.below hold
    by_cases hy : 0 ≤ y ∧ y < L.length
    case neg =>
      as_aux_lemma =>
        obtain rfl := post_none hpo hy
        by_cases hy0 : y < 0
        · have d2 : decide (y < 0) = true := by simpa using hy0
          go_wp2_with fail
          refine wakes_g.mono ?_
          rintro e w2 ⟨rfl, hb⟩
          replace hold := hold.trans (hb.mono hold.size)
          go_wp2_with fail
          go_ret
          exact ⟨rfl, hold⟩
        · have d2 : decide (y < 0) = false := by simpa using hy0
          have d3 : decide (y ≥ (L.length : Int)) = true := by simp; omega
          go_wp2_with fail
          refine wakes_g.mono ?_
          rintro e w2 ⟨rfl, hb⟩
          replace hold := hold.trans (hb.mono hold.size)
          go_wp2_with fail
          go_ret
          exact ⟨rfl, hold⟩
    case pos =>
    obtain ⟨yn, rfl⟩ : ∃ yn : Nat, y = yn := ⟨y.toNat, by omega⟩
    have d2 : decide ((yn : Int) < 0) = false := by simp
    have d3 : decide ((yn : Int) ≥ (L.length : Int)) = false := by simp; omega
    have d4 : decide (L.length ≤ yn) = false := by simp; omega
    obtain ⟨o1, ho1⟩ := post_head hpo hy
    rw [Int.toNat_natCast] at ho1
    have hO := Lib.hid (post_ord hpo)
    have hfew := post_few hpo
    have hoL : Hid (∀ x ∈ o, x < L.length) := Lib.hid (fun x hx => by obtain ⟨f, hf, hw⟩ := (hO.out.mem x).1 hx; exact hw.lt.2)
    replace ho1 := Lib.hid ho1
    have hmk := make_ints L.length (by omega) w1 o
    clear hown hpo
    go_wp2_with fail
    clear hmk
    obtain ⟨w2, hw2⟩ : ∃ w2, Hid (w1.alloc (.cells (atA o L.length 0) 3) = w2) := ⟨_, Lib.hid rfl⟩
    have hb2 : Below w1.heap.size w1 w2 := by rw [← hw2.out]; exact (Below.refl _ _).alloc (Nat.le_refl _) _
    obtain ⟨T, hT⟩ : ∃ T, T = w1.heap.size := ⟨_, rfl⟩
    have hT2 : w2.heap[T]? = some (.cells (atA o L.length 0) 3 (0, 0)) := by rw [← hw2.out, hT]; exact heap_alloc_new _ _
    have hTl : T < w2.heap.size := (Array.getElem?_eq_some_iff.1 hT2).1
    have hoff : Off (fun b => b = T) (.slice alv o.length clv) (o.map fun x : Nat => (x : Int)).length := fun _ b hb e => by have := hlow b hb; omega
    have hlv2 := Rd.below hlv hb2
    have hgX : RdX (fun b => b = T) w2 (.slice av L.length cap) L := RdX.below (RdG.off hg (fun b e => by rw [e, hT]; exact Nat.le_refl _)) hb2
    have hTw : w.heap.size ≤ T := by rw [hT]; exact hold.size
    have hold2 := hold.trans (hb2.mono hold.size)
    rw [hw2.out, ← hT]
    clear hT hw2 hb2 hlv hg hlow hold
    obtain ⟨n, hn⟩ : ∃ n, n = L.length := ⟨_, rfl⟩
    rw [← hn] at hT2 hgX hfew hoL hy d1 d3 d4 hln hL ⊢
    replace hn := Lib.hid hn
    replace hT2 := Lib.hid hT2
    go_loopw [7] (fun i wr => PostAt w2 wr T n o i) (fun i _ => o.length - (intOf i).toNat)
    case atStart => exact ⟨0, Nat.zero_le _, rfl, hT2.out, Touch.refl _ _⟩
    case round =>
      obtain ⟨k, hk, rfl, hTk, hTo⟩ := hrel
      by_cases hlt : k < o.length
      · as_aux_lemma =>
          have i1 : (k : Int) < (o.length : Int) := by omega
          obtain ⟨x, hx⟩ : ∃ x, o[k]? = some x := ⟨_, List.getElem?_eq_getElem hlt⟩
          have hxn := hoL.out x (List.mem_of_getElem? hx)
          have hlvr := Rd.off hlv2 hTo (by rw [List.length_map]; exact hoff)
          obtain ⟨b3, off3, cap3, e3, hc3⟩ := RdI.cell hlvr (i := k) (x := (x : Int)) (by simp [hx])
          simp only [Value.slice.injEq] at e3
          obtain ⟨rfl, -, rfl⟩ := e3
          have c1 : wr.cell? ⟨T, x, none⟩ = some (.int .i64 0) := by
            rw [blk_cell hTk, atA_at hxn]
            unfold atF
            rw [if_neg (not_before hO.out.nodup hx)]
          have c2 : wr.frozen? ⟨T, x, none⟩ = false := by simp [World.frozen?, hTk]
          have g1 : decide ((x : Int) ≥ (n : Int)) = false := by simp; omega
          have g2 : decide (n ≤ x) = false := by simp; omega
          have g3 : (x : Int) < (n : Int) := by omega
          have hset := blk_set (i := x) (.int .i64 ((k : Int) + 1)) hTk
          rw [atA_set hO.out.nodup hx] at hset
          have hTo2 := hTo.setCell (a := ⟨T, x, none⟩) (fun _ => rfl) (.int .i64 ((k : Int) + 1))
          replace hset := Lib.hid hset
          clear hx hTk hTo hlvr
          go_wp2_with fail
          exact ⟨⟨k + 1, by omega, by go_num, hset.out, hTo2⟩, by simp [intOf]; omega⟩
      · obtain rfl : k = o.length := by omega
        have i1 : decide ((o.length : Int) < (o.length : Int)) = false := by simp
        have hlvr := Rd.off hlv2 hTo (by rw [List.length_map]; exact hoff)
        obtain ⟨b3, off3, cap3, e3, hc3⟩ := RdI.cell hlvr (i := 0) (x := (yn : Int)) (by rw [ho1.out]; simp)
        simp only [Value.slice.injEq] at e3
        obtain ⟨rfl, -, rfl⟩ := e3
        rw [Nat.add_zero] at hc3
        have hpos : 0 < o.length := by rw [ho1.out]; simp
        have g1 : ((o.length : Int) == 0) = false := beq_eq_false_iff_ne.2 (by omega)
        have g2 : decide (o.length = 0) = false := decide_eq_false (by omega)
        have hgr := (RdX.touch hgX hTo).rd
        have hold3 := hold2.trans (hTo.below hold2.size (fun b hb e => by omega))
        have hTr : T < wr.heap.size := Nat.lt_of_lt_of_le hTl hTo.size
        replace hTk := Lib.hid hTk
        clear hTo hgX hlv2 hoff hlvr
        go_wp2_with fail
        obtain ⟨wa, hwa⟩ : ∃ wa, Hid (wr.alloc (.cells #[.int .i64 yn] 3) = wa) := ⟨_, Lib.hid rfl⟩
        have hba : Below wr.heap.size wr wa := by rw [← hwa.out]; exact (Below.refl _ _).alloc (Nat.le_refl _) _
        have hfa : RdI wa (.slice (some ⟨wr.heap.size, 0, none⟩) 1 1) [(yn : Int)] := by rw [← hwa.out]; exact rdi_of (t := 3) rfl (heap_alloc_at rfl)
        rw [hwa.out]
        have hnL : L.length ≤ 100000 := by have := hn.out; omega
        refine (reach_any (hgr.below hba) hnL hr1.out hfa (by simp)).mono ?_
        rintro e w4 ⟨S, s, rfl, hs, hsm, -, hb4⟩
        rw [← hn.out] at hs ⊢
        have hb4a := hba.trans (hb4.mono hba.size)
        have hg4 := hgr.below hb4a
        have hT4 : w4.heap[T]? = some (.cells (atA o n o.length) 3 (0, 0)) := (hb4a.block T hTr).trans hTk.out
        have hT4l : T < w4.heap.size := (Array.getElem?_eq_some_iff.1 hT4).1
        have hS4l : S < w4.heap.size := (Array.getElem?_eq_some_iff.1 hs).1
        have hold4 := hold3.trans (hb4a.mono hold3.size)
        rw [seenA_ext (s := s) (t := o) (fun x => (hsm x).trans (hO.out.mem x).symm)] at hs
        replace hs := Lib.hid hs
        replace hT4 := Lib.hid hT4
        clear hba hwa hfa hb4 hb4a hsm hTk hgr hc3 hold3
        go_wp2_with fail
        go_loopw [9] (fun j wx => ∃ m q : Nat, m ≤ n ∧ j = .int .i64 m ∧ wx = w4.drewN q) (fun j _ => n - (intOf j).toNat)
        case atStart => exact ⟨0, 0, Nat.zero_le _, rfl, rfl⟩
        case round =>
          obtain ⟨m, q, hm, rfl, rfl⟩ := hrel
          by_cases hltm : m < n
          · as_aux_lemma =>
              have i2 : (m : Int) < (n : Int) := by omega
              have x1 : w4.cell? ⟨S, m, none⟩ = some (.bool (decide (m ∈ o))) := by rw [blk_cell hs.out]; exact seenA_at hltm
              have x2 : w4.cell? ⟨T, m, none⟩ = some (.int .i64 (atF o o.length m)) := by rw [blk_cell hT4.out]; exact atA_at hltm
              have x3 := atF_pos (o := o) (x := m)
              generalize hz : atF o o.length m = z at x2 x3
              generalize hqq : decide (m ∈ o) = qq at x1 x3
              replace hqq := Lib.hid hqq
              replace hz := Lib.hid hz
              cases qq
              all_goals
                go_wp2_with fail
                go_quiet (fail)
                go_wp2_with fail
                exact ⟨⟨m + 1, q + nq, by omega, by go_num, rfl⟩, by simp [intOf]; omega⟩
          · obtain rfl : m = n := by omega
            have i2 : decide ((m : Int) < (m : Int)) = false := by simp
            have hbq := below_drawn (Below.refl w4.heap.size w4) q
            have hg5 := hg4.below hbq
            go_wp2_with fail
            refine (norm_any hg5 hnL hr1.out).mono ?_
            rintro e w6 ⟨G, vs, rfl, M, hb6⟩
            have hb46 := hbq.trans (hb6.mono hbq.size)
            have hN6 := M.rd (n := L.length) (cap := L.length) (normL_len L).symm
            rw [← hn.out] at hN6 ⊢
            have hg6 := hg5.below hb6
            have hs6 := Lib.hid ((hb46.block S hS4l).trans hs.out)
            have hT6 := Lib.hid ((hb46.block T hT4l).trans hT4.out)
            have hS6l := Nat.lt_of_lt_of_le hS4l hb46.size
            have hT6l := Nat.lt_of_lt_of_le hT4l hb46.size
            have hold6 := hold4.trans (hb46.mono hold4.size)
            have hNn : (normL L).length = m := by rw [normL_len, hn.out]
            clear hbq hg5 hb6 hb46 M hg4 hs hT4 hS4l hT4l hold4 i2
            go_wp2_with fail
            go_loopw [11, 12] (fun i _ wr => BackRel w6 wr m i) (fun i _ _ => m - (intOf i).toNat)
            case atStart => exact ⟨0, Nat.zero_le _, rfl, Below.refl _ _⟩
            case round =>
              obtain ⟨k, hk2, rfl, hb⟩ := hrel
              by_cases hltk : k < m
              · have i2 : (k : Int) < (m : Int) := by omega
                obtain ⟨l, hl⟩ : ∃ l, (normL L)[k]? = some l := ⟨_, List.getElem?_eq_getElem (by omega)⟩
                have hlx := (norm_form L l (List.mem_of_getElem? hl)).2
                have hll := norm_lens hr1.out l (List.mem_of_getElem? hl)
                rw [hNn] at hlx
                obtain ⟨bG, oG, cG, u1, e1, hbl1, hc1, hd1⟩ := hN6.at hl
                simp only [Value.slice.injEq, Option.some.injEq, Addr.mk.injEq] at e1
                obtain ⟨⟨rfl, rfl, -⟩, -, -⟩ := e1
                rw [Nat.zero_add] at hc1
                obtain ⟨a1, d1', rfl⟩ := hd1.shape
                have x1 : w6.cell? ⟨S, k, none⟩ = some (.bool (decide (k ∈ o))) := by rw [blk_cell hs6.out]; exact seenA_at hltk
                have hed : Hid (∀ z : Nat, (z : Int) ∈ l → Edge L k z) := Lib.hid (fun z hz => edge_norm.1 ⟨by rw [hNn]; have := hlx z hz; omega, l, hl, hz⟩)
                replace hd1 := Lib.hid hd1
                replace hlx := Lib.hid hlx
                replace hl := Lib.hid hl
                go_wp2_with fail
                go_loopw [12] (fun j wx => BackRel w6 wx l.length j) (fun j _ => l.length - (intOf j).toNat)
                case atStart => exact ⟨0, Nat.zero_le _, rfl, hb⟩
                case round =>
                  clear hb
                  obtain ⟨j, hj, rfl, hb⟩ := hrel
                  have y1 := (hb.cell (p := ⟨S, k, none⟩) hS6l).trans x1
                  have y2 := (hb.cell (p := ⟨G, k, none⟩) hbl1).trans hc1
                  by_cases hltj : j < l.length
                  · have i3 : (j : Int) < (l.length : Int) := by omega
                    by_cases hin : k ∈ o
                    · rw [decide_eq_true hin] at y1
                      obtain ⟨x, hx⟩ : ∃ x, l[j]? = some x := ⟨_, List.getElem?_eq_getElem hltj⟩
                      have hxm := List.mem_of_getElem? hx
                      obtain ⟨hx0, hxn⟩ := hlx.out x hxm
                      obtain ⟨z, rfl⟩ : ∃ z : Nat, x = z := ⟨x.toNat, by omega⟩
                      have he := hed.out z hxm
                      have hzo : z ∈ o := by
                        obtain ⟨f, hf, hw⟩ := (hO.out.mem k).1 hin
                        exact (hO.out.mem z).2 ⟨f, hf, .step hw he⟩
                      obtain ⟨b3, off3, cap3, e3, hc3⟩ := RdI.cell (Rd.below hd1.out hb) hx
                      obtain ⟨b3', off3', cap3', e3', hb3l⟩ := Rd.lt (Rd.below hd1.out hb) (by rw [List.length_map]; omega)
                      simp only [Value.slice.injEq] at e3 e3'
                      obtain ⟨rfl, -, rfl⟩ := e3
                      obtain ⟨e4, -, -⟩ := e3'
                      simp only [Option.some.injEq, Addr.mk.injEq] at e4
                      obtain ⟨rfl, -, -⟩ := e4
                      have hTr := (hb.block T hT6l).trans hT6.out
                      have y3 : wr.cell? ⟨T, z, none⟩ = some (.int .i64 ((o.idxOf z : Int) + 1)) := by rw [blk_cell hTr, atA_at (by omega), atF_end hzo]
                      have y4 : wr.cell? ⟨T, k, none⟩ = some (.int .i64 ((o.idxOf k : Int) + 1)) := by rw [blk_cell hTr, atA_at hltk, atF_end hin]
                      have g3 : (z : Int) < (m : Int) := hxn
                      have hgo := hO.out.goes k z hin he
                      obtain ⟨p1, hp1⟩ : ∃ p1, p1 = o.idxOf z := ⟨_, rfl⟩
                      obtain ⟨p2, hp2⟩ : ∃ p2, p2 = o.idxOf k := ⟨_, rfl⟩
                      rw [← hp1] at y3 hgo
                      rw [← hp2] at y4 hgo
                      replace hp1 := Lib.hid hp1
                      replace hp2 := Lib.hid hp2
                      clear hx hTr hxm
                      by_cases hle : p1 ≤ p2
                      · as_aux_lemma =>
                          have hway := hgo hle
                          have g4 : decide ((p1 : Int) + 1 ≤ (p2 : Int) + 1) = true := by simp; omega
                          have hLd := Lib.hid (fun (w' : World) (hb' : Below wr.heap.size wr w') => leads_any (q := true) (a := (z : Int)) (b := (k : Int)) ((hg6.below hb).below hb') hnL hr1.out ⟨fun _ => ⟨by omega, by omega, by simpa using hway⟩, fun _ => rfl⟩)
                          have hGr : G < wr.heap.size := Nat.lt_of_lt_of_le hbl1 hb.size
                          have hTr : T < wr.heap.size := Nat.lt_of_lt_of_le hT6l hb.size
                          clear hgo
                          go_wp2_with fail
                          go_region_held3 (fun w' => w'.cell? ⟨G, k, none⟩ = some (.slice (some ⟨b3, off3, none⟩) l.length d1') ∧ w'.cell? ⟨b3, off3 + j, none⟩ = some (.int .i64 z) ∧ w'.cell? ⟨T, z, none⟩ = some (.int .i64 ((p1 : Int) + 1)) ∧ w'.cell? ⟨T, k, none⟩ = some (.int .i64 ((p2 : Int) + 1)))
                            (first | go_keep | (go_split_ands; refine ⟨?_, ?_, ?_, ?_⟩ <;> assumption))
                            ((go_at_call 20; refine Calls.mono (hLd.out _ (by first | exact Below.refl _ _ | exact (Below.refl _ _).drew)) ?_; rintro e w7 ⟨rfl, hb7⟩; have k1 := (hb7.cell (p := ⟨G, k, none⟩) (by simpa using hGr)).trans y2; have k2 := (hb7.cell (p := ⟨b3, off3 + j, none⟩) (by simpa using hb3l)).trans hc3; have k3 := (hb7.cell (p := ⟨T, z, none⟩) (by simpa using hTr)).trans y3; have k4 := (hb7.cell (p := ⟨T, k, none⟩) (by simpa using hTr)).trans y4))
                          have hb8 : Below w6.heap.size w6 w7 := hb.trans ((Below.trans ((Below.refl _ wr).drew) (hb7.mono (by simp))).mono hb.size)
                          clear k1 k2 k3 k4
                          go_wp2_with fail
                          exact ⟨⟨j + 1, by omega, by go_num, hb8⟩, by simp [intOf]; omega⟩
                      · as_aux_lemma =>
                          have g4 : decide ((p1 : Int) + 1 ≤ (p2 : Int) + 1) = false := by simp; omega
                          have g5 : decide (p1 ≤ p2) = false := by simp; omega
                          clear hgo
                          go_wp2_with fail
                          go_quiet (fail)
                          have hbq := below_drawn hb nq
                          go_wp2_with fail
                          exact ⟨⟨j + 1, by omega, by go_num, hbq⟩, by simp [intOf]; omega⟩
                    · rw [decide_eq_false hin] at y1
                      go_wp2_with fail
                      exact ⟨⟨k + 1, by omega, by go_num, hb⟩, by simp [intOf]; omega⟩
                  · have i3 : decide ((j : Int) < (l.length : Int)) = false := by simp; omega
                    have i4 : decide (j < l.length) = false := by simp; omega
                    go_wp2_with fail
                    exact ⟨⟨k + 1, by omega, by go_num, hb⟩, by simp [intOf]; omega⟩
              · obtain rfl : k = m := by omega
                have i2 : decide ((k : Int) < (k : Int)) = false := by simp
                have hold7 := hold6.trans (hb.mono hold6.size)
                go_wp2_with fail
                refine wakes_g.mono ?_
                rintro e w9 ⟨rfl, hb9⟩
                have hold9 := hold7.trans (hb9.mono hold7.size)
                go_wp2_with fail
                go_ret
                exact ⟨rfl, hold9⟩
end Go.Proofs.Ytfhckabhaidhmaa
