/- slices.Contains, slices.Max, scc.Cyclic, walked. -/
import Derived.Test.YtedleliddhhacaaSSpec
namespace Go.Proofs.Ytedleliddhhacaa
open Go.RowKit Go.Maps Go.Shelf

set_option maxRecDepth 20000 in
set_option maxHeartbeats 4000000 in
theorem index_any {w : World} {v : Value} {l : List Int} {i : Int} (h : RdI w v l) (hl : l.length ≤ 1000000) :
    Calls Try.prog 36 #[v, .int .i64 i] w fun e w' => ∃ z : Int, e = .returned (.int .i64 z) ∧ (z ≥ 0 ↔ i ∈ l) ∧ w' = w := by
  obtain ⟨a, c, rfl⟩ := h.form
  rw [List.length_map] at *
  go_enter Try.func36, Try.ntmps36
  go_wp2
  go_loopw [5, 8] (fun _ k wr => ∃ j : Nat, j ≤ l.length ∧ k = .int .i64 j ∧ wr = w ∧ Hid (i ∉ l.take j)) (fun _ k _ => l.length - (intOf k).toNat)
  case atStart => exact ⟨0, Nat.zero_le _, rfl, rfl, Lib.hid (by simp)⟩
  case round =>
    obtain ⟨j, hj, rfl, rfl, ht⟩ := hrel
    by_cases hlt : j < l.length
    · obtain ⟨x, hx⟩ : ∃ x, l[j]? = some x := ⟨_, List.getElem?_eq_getElem hlt⟩
      obtain ⟨b, o, cap, e, _, hc⟩ := h.at (i := j) (u := encI x) (by simp [hx])
      unfold encI at hc
      simp only [Value.slice.injEq] at e
      obtain ⟨rfl, -, rfl⟩ := e
      have htx := Lib.hid (take_snoc hx)
      have hmem := Lib.hid (List.mem_of_getElem? hx)
      have i1 : (j : Int) < (l.length : Int) := by omega
      clear hx h
      by_cases hxi : i = x
      · subst hxi
        go_wp2
        go_ret
        exact ⟨_, rfl, ⟨fun _ => hmem.out, fun _ => by omega⟩, rfl⟩
      · have hb : (i == x) = false := by simpa using hxi
        replace hxi := Lib.hid hxi
        go_wp2
        go_roundw
        case rel => exact ⟨j + 1, by omega, by go_num, (by first | rfl | exact trivial), Lib.hid (by rw [htx.out, List.mem_append, List.mem_singleton]; rintro (h | h); exact ht.out h; exact hxi.out h)⟩
        case measure => simp [intOf]; omega
    · have : j = l.length := by omega
      subst this
      have i1 : decide ((l.length : Int) < (l.length : Int)) = false := by simp
      have hn : i ∉ l := by have := ht.out; rwa [List.take_length] at this
      clear ht h
      go_wp2
      go_ret
      exact ⟨_, rfl, ⟨fun h => by omega, fun h => absurd h hn⟩, rfl⟩
theorem contains_any {w : World} {v : Value} {l : List Int} {i : Int} (h : RdI w v l) (hl : l.length ≤ 1000000) :
    Calls Try.prog 29 #[v, .int .i64 i] w fun e w' => e = .returned (.bool (decide (i ∈ l))) ∧ w' = w := by
  have hi := Lib.hid (index_any (i := i) h hl)
  go_enter Try.func29, Try.ntmps29
  go_wp2_with fail
  refine hi.out.mono ?_
  rintro e w' ⟨z, rfl, hz, rfl⟩
  have hd : decide (z ≥ 0) = decide (i ∈ l) := decide_eq_decide.2 hz
  go_wp2_with fail
  go_ret
  exact ⟨rfl, rfl⟩
/-- How often a number stands among the first ones. -/
def cntE (k : Nat → Int) (j : Nat) (c : Int) : Nat := ((List.range j).filter (fun x => decide (k x = c))).length
theorem cntE_succ (k : Nat → Int) (j : Nat) (c : Int) : cntE k (j + 1) c = cntE k j c + if k j = c then 1 else 0 := by
  unfold cntE
  rw [List.range_succ, List.filter_append, List.length_append]
  by_cases h : k j = c
  · simp [h]
  · simp [h]
theorem cntE_le (k : Nat → Int) (j : Nat) (c : Int) : cntE k j c ≤ j := by
  unfold cntE
  exact Nat.le_trans (List.length_filter_le _ _) (by simp)
theorem cntE_two {k : Nat → Int} {n i : Nat} (hi : i < n) : 1 < cntE k n (k i) ↔ ∃ y, y ≠ i ∧ y < n ∧ k y = k i := by
  have hm : ∀ y, y ∈ (List.range n).filter (fun x => decide (k x = k i)) ↔ y < n ∧ k y = k i := fun y => by simp
  have hn : ((List.range n).filter (fun x => decide (k x = k i))).Nodup := List.Nodup.sublist List.filter_sublist List.nodup_range
  unfold cntE
  generalize (List.range n).filter (fun x => decide (k x = k i)) = l at hm hn
  have hil : i ∈ l := (hm i).2 ⟨hi, rfl⟩
  constructor
  · intro h
    rcases l with _ | ⟨a, _ | ⟨b, l⟩⟩
    · simp at h
    · simp at h
    · have hab : a ≠ b := by
        have := List.nodup_cons.1 hn
        intro e
        exact this.1 (by rw [e]; simp)
      by_cases ha : a = i
      · exact ⟨b, fun e => hab (ha.trans e.symm), ((hm b).1 (by simp))⟩
      · exact ⟨a, ha, ((hm a).1 (by simp))⟩
  · rintro ⟨y, hy, h1, h2⟩
    have hyl : y ∈ l := (hm y).2 ⟨h1, h2⟩
    rcases l with _ | ⟨a, _ | ⟨b, l⟩⟩
    · cases hil
    · simp at hil hyl
      exact absurd (hyl.trans hil.symm) hy
    · simp
/-- Truths, as cells. -/
def boolA (n : Nat) (q : Nat → Bool) : Array Value := ((List.range n).map (fun x => Value.bool (q x))).toArray
theorem boolA_at {n x : Nat} {q : Nat → Bool} (h : x < n) : (boolA n q)[x]? = some (.bool (q x)) := by
  unfold boolA
  simp [h]
theorem boolA_set {n x : Nat} {q q' : Nat → Bool} {f : Bool} (h : x < n) (h1 : q' x = f) (h2 : ∀ y, y ≠ x → q' y = q y) : (boolA n q).setIfInBounds x (.bool f) = boolA n q' := by
  apply Array.ext'
  unfold boolA
  rw [Array.toList_setIfInBounds]
  apply List.ext_getElem?
  intro i
  by_cases hi : i = x
  · subst hi
    rw [List.getElem?_set_self (by simpa using h)]
    simp [h, h1]
  · rw [List.getElem?_set_ne (by omega)]
    by_cases hin : i < n
    · simp [hin, h2 i hi]
    · rw [List.getElem?_eq_none (by simp; omega), List.getElem?_eq_none (by simp; omega)]
theorem seenA_bool (n : Nat) : seenA n [] = boolA n (fun _ => false) := by simp [seenA, boolA]
open Classical in
/-- Who lies on a circle. -/
noncomputable def cycB (L : List (List Int)) (x : Nat) : Bool := decide (cycP L x)
theorem cycB_iff {L : List (List Int)} {x : Nat} : cycB L x = true ↔ cycP L x := by
  classical
  unfold cycB
  simp

set_option maxRecDepth 20000 in
set_option maxHeartbeats 4000000 in
theorem cyclic_any {w : World} {v : Value} {L : List (List Int)} (h : RdG w v L) (hL : L.length ≤ 90000) (hr : ∀ r ∈ L, r.length ≤ 100000) :
    Calls Try.prog 24 #[v] w fun e w' => ∃ O, e = .returned (.slice (some ⟨O, 0, none⟩) L.length L.length) ∧ w'.heap[O]? = some (.cells (boolA L.length (cycB L)) 4 (0, 0)) ∧ w.heap.size ≤ O ∧ Below w.heap.size w w' := by
  obtain ⟨av, c0, rfl⟩ := h.form
  have hC := Lib.hid (comps_any h hL hr)
  obtain ⟨n, hn⟩ : ∃ n, n = L.length := ⟨_, rfl⟩
  rw [← hn] at hC hL h ⊢
  replace hn := Lib.hid hn
  have hmk1 := fun w' => make_ints n (by omega) w'
  have hmk2 := fun w' => make_bools n (by omega) w'
  have hr' := Lib.hid hr
  have hg := Lib.hid h
  clear h hr
  go_enter Try.func24, Try.ntmps24
  go_wp2_with fail
  refine hC.out.mono ?_
  rintro e w1 ⟨R, m, rfl, hR, hker, hRl, hb1⟩
  rw [hn.out] at hker
  obtain ⟨k, hk⟩ : ∃ k, Hid (k = numF n m) := ⟨_, Lib.hid rfl⟩
  have hRk : w1.heap[R]? = some (.cells (markA n k) 3 (0, 0)) := by rw [hk.out]; exact hR
  have hRs : R < w1.heap.size := (Array.getElem?_eq_some_iff.1 hRk).1
  have hkb : Hid (∀ x, x < n → 0 ≤ k x ∧ k x < n) := Lib.hid (fun x hx => by
    rw [hk.out]
    have h1 := numF_lt (m := m) (Nat.le_refl n) hx
    have h2 := cntM_le m n
    omega)
  replace hker := Lib.hid (show Marks L m from hker)
  obtain ⟨S, hS⟩ : ∃ S, S = w1.heap.size := ⟨_, rfl⟩
  have hS1 := Lib.hid (heap_alloc_new w1 (.cells (markA n (fun _ => 0)) 3))
  have hb2 : Below w1.heap.size w1 (w1.alloc (.cells (markA n (fun _ => 0)) 3)) := (Below.refl _ _).alloc (Nat.le_refl _) _
  have hm1 := hmk1 w1
  rw [← hS] at hS1 hm1 hb2 hRs
  have hSl : S < (w1.alloc (.cells (markA n (fun _ => 0)) 3)).heap.size := by rw [hS]; simp
  generalize hw2 : (w1.alloc (.cells (markA n (fun _ => 0)) 3)) = w2 at *
  clear hw2 hC hmk1
  replace hS := Lib.hid hS
  have hR2 : Hid (∀ wr : World, Touch w2 wr (fun b => b = S) → wr.heap[R]? = some (.cells (markA n k) 3 (0, 0))) := Lib.hid (fun wr hT => (hT.block R (by omega) (by omega)).trans ((hb2.block R hRs).trans hRk))
  replace hRk := Lib.hid hRk
  replace hR := Lib.hid hR
  go_wp2_with fail
  clear hm1
  go_loopw [6, 16] (fun _ i wr => ∃ j : Nat, j ≤ n ∧ i = .int .i64 j ∧ wr.heap[S]? = some (.cells (markA n (fun c => (cntE k j c : Nat))) 3 (0, 0)) ∧ Touch w2 wr (fun b => b = S)) (fun _ i _ => n - (intOf i).toNat)
  case atStart => exact ⟨0, Nat.zero_le _, rfl, by simpa [cntE] using hS1.out, Touch.refl _ _⟩
  case round =>
    clear hS1
    obtain ⟨j, hj, rfl, hSj, hT⟩ := hrel
    by_cases hlt : j < n
    · have i1 : (j : Int) < (n : Int) := by omega
      have cR : wr.cell? ⟨R, j, none⟩ = some (.int .i64 (k j)) := by rw [blk_cell (hR2.out _ hT)]; exact markA_at hlt
      obtain ⟨c, hc⟩ : ∃ c : Nat, k j = c := ⟨(k j).toNat, by have := hkb.out j hlt; omega⟩
      have hcn : c < n := by have := hkb.out j hlt; omega
      rw [hc] at cR
      have i2 : (c : Int) < (n : Int) := by omega
      have cS : wr.cell? ⟨S, c, none⟩ = some (.int .i64 (cntE k j c : Nat)) := by rw [blk_cell hSj]; exact markA_at hcn
      have fS : wr.frozen? ⟨S, c, none⟩ = false := by simp [World.frozen?, hSj]
      have hle := cntE_le k j c
      have hb : (wr.setCell ⟨S, c, none⟩ (.int .i64 ((cntE k j c : Nat) + 1))).heap[S]? = some (.cells (markA n (fun c => (cntE k (j + 1) c : Nat))) 3 (0, 0)) := by
        rw [blk_set _ hSj, markA_set hcn (m' := (fun c => (cntE k (j + 1) c : Nat)))]
        · rw [cntE_succ, if_pos hc]; rfl
        · intro x hx
          rw [cntE_succ, if_neg (by rw [hc]; omega)]; rfl
      have hT2 := hT.trans ((Touch.refl wr (fun b => b = S)).setCell (a := ⟨S, c, none⟩) (fun _ => rfl) (.int .i64 ((cntE k j c : Nat) + 1)))
      replace hb := Lib.hid hb
      replace hT2 := Lib.hid hT2
      clear hSj hT hc
      go_wp2_with fail
      exact ⟨⟨j + 1, by omega, by go_num, hb.out, hT2.out⟩, by simp [intOf]; omega⟩
    · obtain rfl : j = n := by omega
      have i1 : decide ((j : Int) < (j : Int)) = false := by simp
      have hbr : Below S w1 wr := hb2.trans (hT.below (by omega) (fun b hb e => by omega))
      have hRr := hR2.out _ hT
      have hO1 := Lib.hid (heap_alloc_new wr (.cells (seenA j []) 4))
      have hm2 := hmk2 wr
      obtain ⟨O, hO⟩ : ∃ O, O = wr.heap.size := ⟨_, rfl⟩
      have hb3 : Below wr.heap.size wr (wr.alloc (.cells (seenA j []) 4)) := (Below.refl _ _).alloc (Nat.le_refl _) _
      have hSr : S < wr.heap.size := (Array.getElem?_eq_some_iff.1 hSj).1
      rw [← hO] at hO1 hm2 hb3 hSr
      have hOl : O < (wr.alloc (.cells (seenA j []) 4)).heap.size := by rw [hO]; simp
      generalize hw3 : (wr.alloc (.cells (seenA j []) 4)) = w3 at *
      clear hw3
      have hR3 : Hid (∀ wx : World, Touch w3 wx (fun b => b = O) → wx.heap[R]? = some (.cells (markA j k) 3 (0, 0)) ∧ wx.heap[S]? = some (.cells (markA j (fun c => (cntE k j c : Nat))) 3 (0, 0)) ∧ RdG wx (.slice av j c0) L) :=
        Lib.hid (fun wx hT3 => by
          have hb4 : Below O wr wx := hb3.trans (hT3.below (by omega) (fun b hb e => by omega))
          have hb5 : Below w.heap.size w wx := (hb1.trans (hbr.mono (by have := hb1.size; have := hS.out; omega))).trans (hb4.mono (by have := hb1.size; have := hS.out; omega))
          exact ⟨(hb4.block R (by omega)).trans hRr, (hb4.block S hSr).trans hSj, hg.out.below hb5⟩)
      have hbf : Hid (∀ wx : World, Touch w3 wx (fun b => b = O) → Below w.heap.size w wx) := Lib.hid (fun wx hT3 => by
          have hb4 : Below O wr wx := hb3.trans (hT3.below (by omega) (fun b hb e => by omega))
          exact (hb1.trans (hbr.mono (by have := hb1.size; have := hS.out; omega))).trans (hb4.mono (by have := hb1.size; have := hS.out; omega)))
      replace hO := Lib.hid hO
      clear hRr hSj hT hmk2
      go_wp2_with fail
      clear hm2
      go_loopw [8, 32] (fun _ i wx => ∃ q : Nat, q ≤ j ∧ i = .int .i64 q ∧ wx.heap[O]? = some (.cells (boolA j (fun x => decide (x < q) && cycB L x)) 4 (0, 0)) ∧ Touch w3 wx (fun b => b = O)) (fun _ i _ => j - (intOf i).toNat)
      case atStart => exact ⟨0, Nat.zero_le _, rfl, by simpa [seenA_bool] using hO1.out, Touch.refl _ _⟩
      case round =>
        clear hO1
        obtain ⟨q, hq, rfl, hOq, hT⟩ := hrel
        by_cases hlt : q < j
        · obtain ⟨hRx, hSx, hgx⟩ := hR3.out _ hT
          have i1' : (q : Int) < (j : Int) := by omega
          obtain ⟨c, hc⟩ : ∃ c : Nat, k q = c := ⟨(k q).toNat, by have := hkb.out q hlt; omega⟩
          have hcn : c < j := by have := hkb.out q hlt; omega
          have i2 : (c : Int) < (j : Int) := by omega
          have cR : wr.cell? ⟨R, q, none⟩ = some (.int .i64 c) := by rw [blk_cell hRx, ← hc]; exact markA_at hlt
          have cS : wr.cell? ⟨S, c, none⟩ = some (.int .i64 (cntE k j c : Nat)) := by rw [blk_cell hSx]; exact markA_at hcn
          have cO : wr.cell? ⟨O, q, none⟩ = some (.bool false) := by rw [blk_cell hOq]; simp [boolA_at hlt]
          have fO : wr.frozen? ⟨O, q, none⟩ = false := by simp [World.frozen?, hOq]
          obtain ⟨r, hrq⟩ : ∃ r, L[q]? = some r := ⟨_, List.getElem?_eq_getElem (by rw [← hn.out]; exact hlt)⟩
          obtain ⟨bg, og, cg, u, eg, _, cG, hru⟩ := hgx.at hrq
          rw [← hn.out] at eg
          simp only [Value.slice.injEq] at eg
          obtain ⟨rfl, -, rfl⟩ := eg
          obtain ⟨ar, cr, rfl⟩ := hru.shape
          have hkey : (1 < cntE k j c ↔ ∃ y, y ≠ q ∧ SC L q y) := by
            have := cntE_two (k := k) hlt
            rw [hc] at this
            have e : cntE k j c = cntE k j (c : Int) := rfl
            rw [this]
            constructor
            · rintro ⟨y, h1, h2, h3⟩
              rw [← hc, hk.out] at h3
              exact ⟨y, h1, ((hker.out y q (by rw [← hn.out]; exact h2) (by rw [← hn.out]; exact hlt)).1 ((numF_eq h2 hlt).1 h3)).symm⟩
            · rintro ⟨y, h1, h2⟩
              have hyn : y < j := by rw [hn.out]; exact h2.1.lt.2
              refine ⟨y, h1, hyn, ?_⟩
              rw [← hc, hk.out]
              exact (numF_eq hyn hlt).2 ((hker.out y q h2.1.lt.2 h2.1.lt.1).2 h2.symm)
          have hedge : Edge L q q ↔ (q : Int) ∈ r := by
            constructor
            · rintro ⟨_, r', hr', hm⟩
              rw [hrq] at hr'
              exact Option.some.inj hr' ▸ hm
            · exact fun hm => ⟨by rw [← hn.out]; exact hlt, r, hrq, hm⟩
          have hset : Hid (∀ (wx : World) (t : Bool), Touch wr wx (fun _ => False) → cycB L q = t → (wx.setCell ⟨O, q, none⟩ (.bool t)).heap[O]? = some (.cells (boolA j (fun x => decide (x < q + 1) && cycB L x)) 4 (0, 0)) ∧ Touch w3 (wx.setCell ⟨O, q, none⟩ (.bool t)) (fun b => b = O)) := Lib.hid (fun wx t hTx ht => by
            have hOx := (hTx.block O (Array.getElem?_eq_some_iff.1 hOq).1 (fun h => h)).trans hOq
            refine ⟨?_, (hT.trans (Touch.mono hTx (fun _ _ h => h.elim))).trans ((Touch.refl wx (fun b => b = O)).setCell (a := ⟨O, q, none⟩) (fun _ => rfl) _)⟩
            rw [blk_set _ hOx, boolA_set hlt (q' := (fun x => decide (x < q + 1) && cycB L x))]
            · simp [ht]
            · intro x hx
              by_cases h : x < q
              · simp [h, show x < q + 1 from by omega]
              · simp [h, show ¬ x < q + 1 from by omega])
          have hle := cntE_le k j c
          have hrl : r.length ≤ 100000 := hr'.out r (List.mem_of_getElem? hrq)
          have hct := Lib.hid (contains_any (i := (q : Int)) hru (by omega))
          obtain ⟨s, hs⟩ : ∃ s, s = cntE k j c := ⟨_, rfl⟩
          rw [← hs] at cS hkey hle
          clear hs hc hRx hSx hOq hru hgx
          by_cases hcy : 1 < s
          · have d1 : decide ((s : Int) > 1) = true := decide_eq_true (by omega)
            have hB : cycB L q = true := cycB_iff.2 (.inl (hkey.1 hcy))
            have hfin := Lib.hid (hset.out wr true (Touch.refl _ _) hB)
            replace hB := Lib.hid hB
            clear hkey hedge hrq
            go_wp2_with fail
            exact ⟨⟨q + 1, by omega, by go_num, hfin.out.1, hfin.out.2⟩, by simp [intOf]; omega⟩
          · have d1 : decide ((s : Int) > 1) = false := by simp; omega
            have hB : cycB L q = decide ((q : Int) ∈ r) := by
              unfold cycB
              refine decide_eq_decide.2 ?_
              unfold cycP
              rw [hedge]
              exact ⟨fun h => h.resolve_left (fun h1 => hcy (hkey.2 h1)), .inr⟩
            have hfin := Lib.hid (hset.out wr _ (Touch.refl _ _) hB)
            obtain ⟨t, ht⟩ : ∃ t, t = decide ((q : Int) ∈ r) := ⟨_, rfl⟩
            rw [← ht] at hfin hct
            replace hB := Lib.hid hB
            clear hkey hedge hrq ht hB
            go_wp2_with (go_at_call 29; refine hct.out.mono ?_; rintro e w' ⟨rfl, rfl⟩)
            exact ⟨⟨q + 1, by omega, by go_num, hfin.out.1, hfin.out.2⟩, by simp [intOf]; omega⟩
        · obtain rfl : q = j := by omega
          have i1' : decide ((q : Int) < (q : Int)) = false := by simp
          have hfin : Hid (wr.heap[O]? = some (.cells (boolA q (cycB L)) 4 (0, 0))) := by
            rw [hOq]
            refine Lib.hid ?_
            congr 2
            unfold boolA
            congr 1
            apply List.map_congr_left
            intro x hx
            simp [List.mem_range.1 hx]
          have hbz := hbf.out _ hT
          have hOw : w.heap.size ≤ O := by have := hO.out; have := hbr.size; have := hb1.size; have := hS.out; omega
          clear hOq hT
          go_wp2_with fail
          go_ret
          exact ⟨O, rfl, hfin.out, hOw, hbz⟩
end Go.Proofs.Ytedleliddhhacaa
