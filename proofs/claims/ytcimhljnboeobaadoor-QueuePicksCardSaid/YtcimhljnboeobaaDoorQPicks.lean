/- QueuePicks: the walk. -/
import Derived.Test.YtcimhljnboeobaaDoorQAgain
namespace Go.Proofs.YtcimhljnboeobaaDoor
open Go.RowKit Go.Maps

theorem rising_eqZ : ∀ {a b : List Int}, a.Pairwise (· < ·) → b.Pairwise (· < ·) → (∀ n, n ∈ a ↔ n ∈ b) → a = b
  | [], [], _, _, _ => rfl
  | [], y :: s, _, _, h => by have := (h y).2 (by simp); simp at this
  | x :: r, [], _, _, h => by have := (h x).1 (by simp); simp at this
  | x :: r, y :: s, h1, h2, h => by
    obtain ⟨a1, a2⟩ := List.pairwise_cons.1 h1
    obtain ⟨b1, b2⟩ := List.pairwise_cons.1 h2
    have hxy : x = y := by
      rcases List.mem_cons.1 ((h x).1 (by simp)) with e | hx
      · exact e
      · rcases List.mem_cons.1 ((h y).2 (by simp)) with e | hy
        · exact e.symm
        · have := a1 y hy; have := b1 x hx; omega
    subst hxy
    rw [rising_eqZ a2 b2 (fun n => ⟨fun hn => by
      rcases List.mem_cons.1 ((h n).1 (by simp [hn])) with rfl | h3
      · have := a1 n hn; omega
      · exact h3, fun hn => by
      rcases List.mem_cons.1 ((h n).2 (by simp [hn])) with rfl | h3
      · have := b1 n hn; omega
      · exact h3⟩)]
theorem eq_castQ {ys xs : List Int} {l : List Nat} (h1 : ys.Pairwise (· < ·)) (h2 : ∀ z, z ∈ ys ↔ z ∈ xs ∧ waitsB l z = true) (h3 : ∀ y ∈ l, (y : Int) ∈ xs) (h4 : l.Pairwise (· < ·)) : ys = l.map (fun n : Nat => (n : Int)) := by
  refine rising_eqZ h1 (by rw [List.pairwise_map]; exact h4.imp (fun h => by omega)) (fun z => ?_)
  rw [h2, List.mem_map]
  constructor
  · rintro ⟨-, h⟩
    simp only [waitsB, Bool.and_eq_true, decide_eq_true_iff] at h
    exact ⟨z.toNat, h.2, by omega⟩
  · rintro ⟨y, hy, rfl⟩
    exact ⟨h3 y hy, by simp [waitsB, hy]⟩
section
variable {W : World} {s t : Value} {xs ps : List Int} {n : Int}
theorem picks_great (G : Gl W) (hp : RdI W t ps) (hs : RdI W s xs) (h : 300 < ps.length ∨ 300 < xs.length ∨ 100000 < n) : Calls Tryd.prog 4 #[.int .i64 n, t, s] W fun e w' => e = .returned (.bool true) ∧ Below W.heap.size W w' := by
  obtain ⟨a, c, rfl⟩ := hs.form
  obtain ⟨a2, c2, rfl⟩ := hp.form
  rw [List.length_map, List.length_map]
  have hw := Lib.hid (wakes_any G)
  have hc : (decide ((ps.length : Int) > 300) = true) ∨ (decide ((ps.length : Int) > 300) = false ∧ decide ((xs.length : Int) > 300) = true) ∨ (decide ((ps.length : Int) > 300) = false ∧ decide ((xs.length : Int) > 300) = false ∧ decide (n > 100000) = true) := by
    simp only [decide_eq_true_iff, decide_eq_false_iff_not]
    omega
  clear h hs hp
  rcases hc with h1 | ⟨h1, h2⟩ | ⟨h1, h2, h3⟩
  all_goals
    go_enter Tryd.func4, Tryd.ntmps4
    go_wp2_with (first | (go_at_call 12; refine hw.out.mono ?_; rintro e w' ⟨rfl, hb⟩) | fail)
    go_ret
    exact ⟨rfl, hb⟩
theorem block_in {b o : Nat} {u : Value} (h : W.cell? ⟨b, o, none⟩ = some u) : b < W.heap.size := by
  unfold World.cell? at h
  split at h
  · rename_i h2
    exact (Array.getElem?_eq_some_iff.1 h2).1
  · cases h
set_option maxRecDepth 100000 in
set_option maxHeartbeats 8000000 in
theorem picks_any (G : Gl W) (hp : RdI W t ps) (hcap : ∀ a m c, t = .slice (some a) m c → m ≤ c) (hs : RdI W s xs) (hx : Small xs) (hpx : Small ps) (hpl : ps.length ≤ 300) (hl : xs.length ≤ 300) (hn : n ≤ 100000) (hn0 : -9223372036854775808 ≤ n) : Calls Tryd.prog 4 #[.int .i64 n, t, s] W fun e w' => e = .returned (.bool true) ∧ Below W.heap.size W w' := by
  obtain ⟨a, c, rfl⟩ := hs.form
  obtain ⟨a2, c2, rfl⟩ := hp.form
  rw [List.length_map] at hs hp
  rw [List.length_map, List.length_map]
  rw [List.length_map] at hcap
  have hd : decide ((xs.length : Int) > 300) = false := by simp; omega
  have hd1 : decide ((ps.length : Int) > 300) = false := by simp; omega
  have hd2 : decide (n > 100000) = false := by simp; omega
  have hnew := Lib.hid (qs_new (W := W) (w := W) (ps := ps) (n' := n) (Below.refl _ _) G hp hcap (by omega) (by omega) hn0)
  rw [show ps.take 65536 = ps from List.take_of_length_le (by omega)] at hnew
  have hG := Lib.hid G
  clear G hcap
  go_enter Tryd.func4, Tryd.ntmps4
  go_wp2_with (first | (go_at_call 11; refine hnew.out.mono ?_; rintro e w2 ⟨qb, rfl, hQ0⟩) | fail)
  clear hnew hd hd1 hd2
  go_loopw [8] (fun i wr => ∃ (j : Nat) (l : List Nat), j ≤ xs.length ∧ i = .int .i64 j ∧ l.length ≤ j ∧ Hid (∀ y ∈ l, (y : Int) ∈ xs) ∧ Hid (QSt W wr qb n.toNat l ps 0)) (fun v _ => xs.length - (intOf v).toNat)
  case atStart => exact ⟨0, [], Nat.zero_le _, rfl, Nat.le_refl _, Lib.hid (fun y h => by cases h), Lib.hid hQ0⟩
  case round =>
    clear hQ0
    obtain ⟨j, l, hj, rfl, hlj, hsub, hQ⟩ := hrel
    by_cases hjl : j < xs.length
    · have j1 : decide ((j : Int) < (xs.length : Int)) = true := by simp; omega
      have j2 : decide (j < xs.length) = true := by simp; omega
      obtain ⟨x, hxj⟩ : ∃ x, xs[j]? = some x := ⟨_, List.getElem?_eq_getElem hjl⟩
      obtain ⟨hx1, hx2⟩ := hx x (List.mem_of_getElem? hxj)
      obtain ⟨b, off, cap, e, hc0⟩ := hs.cell hxj
      simp only [Value.slice.injEq] at e
      obtain ⟨rfl, -, rfl⟩ := e
      have cr : wr.cell? ⟨b, off + j, none⟩ = some (.int .i64 x) := (hQ.out.bel.cell (p := ⟨b, off + j, none⟩) (block_in hc0)).trans hc0
      clear hc0
      by_cases hin : x < 0 ∨ (n.toNat : Int) ≤ x ∨ waitsB l x = true
      · go_wp2_with (first | (go_at_call 7; refine (qs_no hQ.out hin).mono ?_; rintro e w4 ⟨rfl, hw9⟩; obtain rfl := hw9.symm) | fail)
        go_roundw
        case rel => exact ⟨j + 1, l, by omega, by first | rfl | go_num, by omega, hsub, hQ⟩
        case measure => simp [intOf]; omega
      · obtain ⟨y, rfl⟩ : ∃ y : Nat, x = y := ⟨x.toNat, by omega⟩
        have hyn : y < n.toNat := by omega
        have hyl : y ∉ l := fun h => hin (.inr (.inr (by simp [waitsB, h])))
        have hsub2 : Hid (∀ z ∈ insQ l y, (z : Int) ∈ xs) := Lib.hid (fun z hz => by
          rcases (mem_insQ hyl).1 hz with rfl | h
          · exact List.mem_of_getElem? hxj
          · exact hsub.out z h)
        have hlen := len_insQ hQ.out.rise hyl
        replace hin := Lib.hid hin
        go_wp2_with (first | (go_at_call 7; refine (qs_yes hQ.out hyn hyl).mono ?_; rintro e w4 ⟨rfl, hQ1⟩) | fail)
        go_roundw
        case rel => exact ⟨j + 1, insQ l y, by omega, by first | rfl | go_num, by omega, hsub2, Lib.hid hQ1⟩
        case measure => simp [intOf]; omega
    · have j1 : decide ((j : Int) < (xs.length : Int)) = false := by simp; omega
      have j2 : decide (j < xs.length) = false := by simp; omega
      have hll : 0 + l.length ≤ xs.length := by omega
      clear hlj hjl
      go_wp2_with fail
      clear j1 j2
      go_loopw [9] (fun i wr => ∃ (k : Nat) (l : List Nat), i = .int .i64 k ∧ k + l.length ≤ xs.length ∧ Hid (∀ y ∈ l, (y : Int) ∈ xs) ∧ Hid (QSt W wr qb n.toNat l (ps.drop k) k)) (fun v _ => xs.length - (intOf v).toNat)
      case atStart => exact ⟨0, l, rfl, hll, hsub, hQ⟩
      case round =>
        clear hll hsub hQ hj
        obtain ⟨k, l, rfl, hkl, hsub, hq⟩ := hrel
        by_cases hl0 : l.length = 0
        · have d0 : decide ((l.length : Int) > 0) = false := decide_eq_false (by omega)
          have hwk := Lib.hid (wakes_any (W := wr) (hG.out.below hq.out.bel hG.out.lt))
          go_wp2_with (first
            | (go_at_call 9; refine (qs_len hq.out).mono ?_; rintro e w4 ⟨rfl, hw9⟩; obtain rfl := hw9.symm)
            | (go_at_call 12; refine hwk.out.mono ?_; rintro e w9 ⟨rfl, hb9⟩)
            | fail)
          go_ret
          exact ⟨rfl, hq.out.bel.trans (hb9.mono hq.out.bel.size)⟩
        · have d0 : decide ((l.length : Int) > 0) = true := decide_eq_true (by omega)
          have d0n : decide (0 < l.length) = true := decide_eq_true (by omega)
          have hkx : k < xs.length := by omega
          go_wp2_with (first
            | (go_at_call 9; refine (qs_len hq.out).mono ?_; rintro e w4 ⟨rfl, hw9⟩; obtain rfl := hw9.symm)
            | fail)
          clear d0 d0n
          go_loopw [10, 11] (fun v i wx => ∃ (j : Nat) (ys : List Int), j ≤ xs.length ∧ i = .int .i64 j ∧ ys.length ≤ j ∧ Hid (Strip wx v ys) ∧ Hid (ys.Pairwise (· < ·)) ∧ Hid (∀ z, z ∈ ys ↔ z ∈ xs.take j ∧ waitsB l z = true) ∧ Hid (QSt W wx qb n.toNat l (ps.drop k) k)) (fun _ v _ => xs.length - (intOf v).toNat)
          case atStart => exact ⟨0, [], Nat.zero_le _, rfl, Nat.le_refl _, Lib.hid (strip_nil _), Lib.hid List.Pairwise.nil, Lib.hid (fun z => by simp), hq⟩
          case round =>
            clear hq
            obtain ⟨j, ys, hj, rfl, hyj, hS, hyr, hym, hq⟩ := hrel
            by_cases hjl : j < xs.length
            · have j1 : decide ((j : Int) < (xs.length : Int)) = true := by simp; omega
              have j2 : decide (j < xs.length) = true := by simp; omega
              obtain ⟨x, hxj⟩ : ∃ x, xs[j]? = some x := ⟨_, List.getElem?_eq_getElem hjl⟩
              obtain ⟨hx1, hx2⟩ := hx x (List.mem_of_getElem? hxj)
              obtain ⟨b, off, cap, e, hc0⟩ := hs.cell hxj
              simp only [Value.slice.injEq] at e
              obtain ⟨rfl, -, rfl⟩ := e
              have hbl := block_in hc0
              have cr : wr.cell? ⟨b, off + j, none⟩ = some (.int .i64 x) := (hq.out.bel.cell (p := ⟨b, off + j, none⟩) hbl).trans hc0
              clear hc0
              have htk : xs.take (j + 1) = xs.take j ++ [x] := by
                obtain ⟨h, rfl⟩ := List.getElem?_eq_some_iff.1 hxj
                rw [List.take_succ_eq_append_getElem h]
              have hwt := qs_waits hq.out x
              cases hww : waitsB l x with
              | true =>
                rw [hww] at hwt
                have hx0 : 0 ≤ x := by simp only [waitsB, Bool.and_eq_true, decide_eq_true_iff] at hww; exact hww.1
                have hym2 : Hid (∀ z, z ∈ addL ys x ↔ z ∈ xs.take (j + 1) ∧ waitsB l z = true) := Lib.hid (fun z => by
                  rw [mem_addL, hym.out, htk, List.mem_append, List.mem_singleton]
                  constructor
                  · rintro (⟨h1, h2⟩ | ⟨rfl, -⟩)
                    · exact ⟨.inl h1, h2⟩
                    · exact ⟨.inr rfl, hww⟩
                  · rintro ⟨h1 | rfl, h2⟩
                    · exact .inl ⟨h1, h2⟩
                    · exact .inr ⟨rfl, hx0⟩)
                have hal := addL_len ys x
                replace hwt := Lib.hid hwt
                replace htk := Lib.hid htk
                replace hww := Lib.hid hww
                go_wp2_with (first
                  | (go_at_call 8; refine hwt.out.mono ?_; rintro e w4 ⟨rfl, hw9⟩; obtain rfl := hw9.symm)
                  | (go_at_call 13; refine (radd_any hS.out (by omega)).mono ?_; rintro e w4 ⟨v', rfl, hS', -, hb4⟩; replace hS' := Lib.hid hS')
                  | fail)
                go_roundw
                case rel => exact ⟨j + 1, addL ys x, by omega, by first | rfl | go_num, by omega, hS', Lib.hid (rise_addL hyr.out), hym2, Lib.hid (hq.out.below hb4)⟩
                case measure => simp [intOf]; omega
              | false =>
                rw [hww] at hwt
                have hym2 : Hid (∀ z, z ∈ ys ↔ z ∈ xs.take (j + 1) ∧ waitsB l z = true) := Lib.hid (fun z => by
                  rw [hym.out, htk, List.mem_append, List.mem_singleton]
                  constructor
                  · rintro ⟨h1, h2⟩
                    exact ⟨.inl h1, h2⟩
                  · rintro ⟨h1 | rfl, h2⟩
                    · exact ⟨h1, h2⟩
                    · rw [hww] at h2; cases h2)
                replace hwt := Lib.hid hwt
                replace htk := Lib.hid htk
                replace hww := Lib.hid hww
                go_wp2_with (first
                  | (go_at_call 8; refine hwt.out.mono ?_; rintro e w4 ⟨rfl, hw9⟩; obtain rfl := hw9.symm)
                  | fail)
                go_roundw
                case rel => exact ⟨j + 1, ys, by omega, by first | rfl | go_num, by omega, hS, hyr, hym2, hq⟩
                case measure => simp [intOf]; omega
            · have j1 : decide ((j : Int) < (xs.length : Int)) = false := by simp; omega
              have j2 : decide (j < xs.length) = false := by simp; omega
              obtain rfl : j = xs.length := by omega
              have hys : ys = l.map (fun n : Nat => (n : Int)) := eq_castQ hyr.out (fun z => by rw [hym.out, List.take_length]) hsub.out hq.out.rise
              have hyl2 : ys.length = l.length := by rw [hys, List.length_map]
              clear hym hyr hyj
              obtain ⟨y0, hy0⟩ : ∃ y0, l[0]? = some y0 := ⟨_, List.getElem?_eq_getElem (by omega)⟩
              have hR := strip_rd hS.out
              obtain ⟨g, go, gc, rfl, hc0⟩ := hR.cell (i := 0) (x := (y0 : Int)) (by rw [hys, List.getElem?_map, hy0]; rfl)
              rw [Nat.add_zero] at hc0
              have hcg : Hid (∀ r y : Nat, l[r]? = some y → wr.cell? ⟨g, go + r, none⟩ = some (.int .i64 (y : Int))) := Lib.hid (fun r y hr => by
                obtain ⟨g', go', gc', e, h⟩ := hR.cell (i := r) (x := (y : Int)) (by rw [hys, List.getElem?_map, hr]; rfl)
                simp only [Value.slice.injEq, Option.some.injEq, Addr.mk.injEq] at e
                obtain ⟨⟨rfl, rfl, -⟩, -, -⟩ := e
                exact h)
              rw [hyl2]
              have e1 : ((l.length : Int) != (l.length : Int)) = false := by simp
              have e2 : decide ((k : Int) ≥ (xs.length : Int)) = false := decide_eq_false (by omega)
              have hl1 : (0 : Int) < (l.length : Int) := by omega
              clear hS hR hys hyl2 j1 j2
              have e9 : (((k + 1 : Nat) : Int) != (k : Int) + 1) = false := by simp
              obtain ⟨y, hyl⟩ : ∃ y, l[rankQ (ps.drop k) l.length]? = some y := ⟨_, List.getElem?_eq_getElem (rank_ltQ _ (by omega))⟩
              have hlr := Lib.hid (len_remQ hq.out.rise (List.mem_of_getElem? hyl))
              have hcase : (k < ps.length ∧ ∃ x, ps[k]? = some x ∧ (x < 0 ∨ 0 ≤ x ∧ (l.length : Int) ≤ x ∨ ∃ r : Nat, x = r ∧ r < l.length) ∧ rankQ (ps.drop k) l.length = if 0 ≤ x ∧ x < l.length then x.toNat else 0) ∨ (ps.length ≤ k ∧ rankQ (ps.drop k) l.length = 0) := by
                by_cases hk : k < ps.length
                · refine .inl ⟨hk, ps[k], List.getElem?_eq_getElem hk, ?_, ?_⟩
                  · by_cases h0 : ps[k] < 0
                    · exact .inl h0
                    · by_cases h1 : (l.length : Int) ≤ ps[k]
                      · exact .inr (.inl ⟨by omega, h1⟩)
                      · exact .inr (.inr ⟨ps[k].toNat, by omega, by omega⟩)
                  · rw [List.drop_eq_getElem_cons hk]; rfl
                · exact .inr ⟨by omega, by rw [List.drop_of_length_le (by omega)]; rfl⟩
              clear hl0
              go_upto_region 20 with (first
                | (go_at_call 9; refine (qs_len hq.out).mono ?_; rintro e w4 ⟨rfl, hw9⟩; obtain rfl := hw9.symm)
                | fail)
              rcases hcase with ⟨hk, x, hxk, hxc, hrk⟩ | ⟨hk, hrk⟩
              · have k1 : decide ((k : Int) < (ps.length : Int)) = true := decide_eq_true (by omega)
                have k2 : decide (k < ps.length) = true := decide_eq_true hk
                obtain ⟨pb, po, pc, e, hpc⟩ := hp.cell hxk
                simp only [Value.slice.injEq] at e
                obtain ⟨rfl, -, rfl⟩ := e
                have cp : wr.cell? ⟨pb, po + k, none⟩ = some (.int .i64 x) := (hq.out.bel.cell (p := ⟨pb, po + k, none⟩) (block_in hpc)).trans hpc
                obtain ⟨hpx1, hpx2⟩ := hpx x (List.mem_of_getElem? hxk)
                clear hpc hxk
                rcases hxc with h0 | ⟨h0, h1⟩ | ⟨r, rfl, hr⟩
                · rw [if_neg (by omega)] at hrk
                  have x1 : decide (x ≥ 0) = false := decide_eq_false (by omega)
                  obtain rfl : y = y0 := by rw [hrk, hy0] at hyl; exact (Option.some.inj hyl).symm
                  replace hyl := Lib.hid hyl
                  replace hrk := Lib.hid hrk
                  clear hy0
                  go_wp2_with (first
                    | (go_at_call 6; refine (qs_take hq.out (y := y) (by omega) (by simp; omega) hyl.out).mono ?_; rintro e w5 ⟨rfl, hQ2⟩)
                    | (go_at_call 10; refine (qs_taken hQ2).mono ?_; rintro e w4 ⟨rfl, hw9⟩; obtain rfl := hw9.symm)
                    | fail)
                  go_roundw
                  case rel => exact ⟨k + 1, remQ l y, by first | rfl | go_num, by have := hlr.out; omega, Lib.hid (fun z hz => hsub.out z (mem_remQ.1 hz).1), Lib.hid (by rw [← List.tail_drop]; exact hQ2)⟩
                  case measure => simp [intOf]; omega
                · rw [if_neg (by omega)] at hrk
                  have x1 : decide (x ≥ 0) = true := decide_eq_true (by omega)
                  have x2 : decide (x < (l.length : Int)) = false := decide_eq_false (by omega)
                  obtain rfl : y = y0 := by rw [hrk, hy0] at hyl; exact (Option.some.inj hyl).symm
                  replace hyl := Lib.hid hyl
                  replace hrk := Lib.hid hrk
                  clear hy0
                  go_wp2_with (first
                    | (go_at_call 6; refine (qs_take hq.out (y := y) (by omega) (by simp; omega) hyl.out).mono ?_; rintro e w5 ⟨rfl, hQ2⟩)
                    | (go_at_call 10; refine (qs_taken hQ2).mono ?_; rintro e w4 ⟨rfl, hw9⟩; obtain rfl := hw9.symm)
                    | fail)
                  go_roundw
                  case rel => exact ⟨k + 1, remQ l y, by first | rfl | go_num, by have := hlr.out; omega, Lib.hid (fun z hz => hsub.out z (mem_remQ.1 hz).1), Lib.hid (by rw [← List.tail_drop]; exact hQ2)⟩
                  case measure => simp [intOf]; omega
                · rw [if_pos (by omega), Int.toNat_natCast] at hrk
                  have x1 : decide ((r : Int) ≥ 0) = true := decide_eq_true (by omega)
                  have x2 : decide ((r : Int) < (l.length : Int)) = true := decide_eq_true (by omega)
                  have x3 : decide (r < l.length) = true := decide_eq_true (by omega)
                  have hr2 : (r : Int) < (l.length : Int) := by omega
                  have cy := hcg.out r y (by rw [← hrk]; exact hyl)
                  replace hyl := Lib.hid hyl
                  replace hrk := Lib.hid hrk
                  clear hy0
                  go_wp2_with (first
                    | (go_at_call 6; refine (qs_take hq.out (y := y) (by omega) (by simp; omega) hyl.out).mono ?_; rintro e w5 ⟨rfl, hQ2⟩)
                    | (go_at_call 10; refine (qs_taken hQ2).mono ?_; rintro e w4 ⟨rfl, hw9⟩; obtain rfl := hw9.symm)
                    | fail)
                  go_roundw
                  case rel => exact ⟨k + 1, remQ l y, by first | rfl | go_num, by have := hlr.out; omega, Lib.hid (fun z hz => hsub.out z (mem_remQ.1 hz).1), Lib.hid (by rw [← List.tail_drop]; exact hQ2)⟩
                  case measure => simp [intOf]; omega
              · have k1 : decide ((k : Int) < (ps.length : Int)) = false := decide_eq_false (by omega)
                have k2 : decide (k < ps.length) = false := decide_eq_false (by omega)
                obtain rfl : y = y0 := by rw [hrk, hy0] at hyl; exact (Option.some.inj hyl).symm
                replace hyl := Lib.hid hyl
                replace hrk := Lib.hid hrk
                clear hy0
                go_wp2_with (first
                  | (go_at_call 6; refine (qs_take hq.out (y := y) (by omega) (by simp; omega) hyl.out).mono ?_; rintro e w5 ⟨rfl, hQ2⟩)
                  | (go_at_call 10; refine (qs_taken hQ2).mono ?_; rintro e w4 ⟨rfl, hw9⟩; obtain rfl := hw9.symm)
                  | fail)
                go_roundw
                case rel => exact ⟨k + 1, remQ l y, by first | rfl | go_num, by have := hlr.out; omega, Lib.hid (fun z hz => hsub.out z (mem_remQ.1 hz).1), Lib.hid (by rw [← List.tail_drop]; exact hQ2)⟩
                case measure => simp [intOf]; omega
end
end Go.Proofs.YtcimhljnboeobaaDoor
