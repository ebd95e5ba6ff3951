/- The document's own Comps, walked. -/
import Derived.Test.YtppkponnopnmdaaSLaw
namespace Go.Proofs.Ytppkponnopnmdaa
open Go.RowKit Go.Maps Go.Shelf

/-- Marks there are. -/
theorem marks_ex (L : List (List Int)) : Marks L (compF L (List.range L.length)) := by
  intro x y hx hy
  constructor
  · intro he
    have hne : compF L (List.range L.length) x ≠ -1 := fun hn => compF_none.1 hn x (List.mem_range.2 hx) (.refl hx)
    obtain ⟨f, _, h1, e1⟩ := compF_some rfl hne
    obtain ⟨g, _, h2, e2⟩ := compF_some rfl (he ▸ hne)
    have : f = g := by omega
    exact h1.trans (this ▸ h2).symm
  · exact compF_congr
open Classical in
/-- Where a way leads. -/
noncomputable def wayB (L : List (List Int)) (i x : Nat) : Bool := decide (Way L i x)
theorem wayB_iff {L : List (List Int)} {i x : Nat} : wayB L i x = true ↔ Way L i x := by
  classical
  unfold wayB
  simp
theorem infoBL1 : (Try.prog.info? 29).map (fun i => (i.zero, i.size, i.bytes)) = some (some (.slice none 0 0), 1, 24) := by kernel_rfl
/-- Who is reached from the first ones. -/
structure TH (L : List (List Int)) (n base i : Nat) (w : World) (v : Value) (us : List Value) : Prop where
  row : w.ownsRow base 29 1 v i us
  at' : ∀ j, j < i → ∃ S, us[j]? = some (.slice (some ⟨S, 0, none⟩) n n) ∧ w.heap[S]? = some (.cells (boolA n (wayB L j)) 4 (0, 0)) ∧ v.ownBlock ≠ some S ∧ base ≤ S
/-- What a node's number is, while it is looked for. -/
def zP (L : List (List Int)) (n : Nat) (m : Nat → Int) (i k : Nat) (z : Int) : Prop := (z = -1 ∧ ∀ j, j < k → ¬ SC L i j) ∨ (z = numF n m i ∧ ∃ j, j < i ∧ SC L i j)
def outF (n : Nat) (m : Nat → Int) (i : Nat) (z : Int) (x : Nat) : Int := if x < i then numF n m x else if x = i then z else 0
def RC1 (L : List (List Int)) (n : Nat) (w1 wr : World) (v i : Value) : Prop := ∃ (k : Nat) (us : List Value), k ≤ n ∧ i = .int .i64 k ∧ TH L n w1.heap.size k wr v us ∧ Below w1.heap.size w1 wr
def RC2 (m : Nat → Int) (n A : Nat) (w3 wr : World) (t i : Value) : Prop := ∃ k : Nat, k ≤ n ∧ i = .int .i64 k ∧ t = .int .i64 (cntM m k : Nat) ∧ wr.heap[A]? = some (.cells (markA n (fun x => if x < k then numF n m x else 0)) 3 (0, 0)) ∧ Touch w3 wr (fun b => b = A)
def RC3 (L : List (List Int)) (m : Nat → Int) (n A i : Nat) (w3 wr : World) (j : Value) : Prop := ∃ (k : Nat) (z : Int), k ≤ i ∧ j = .int .i64 k ∧ zP L n m i k z ∧ wr.heap[A]? = some (.cells (markA n (outF n m i z)) 3 (0, 0)) ∧ Touch w3 wr (fun b => b = A)

set_option maxRecDepth 20000 in
set_option maxHeartbeats 8000000 in
theorem rcomps_any {w : World} {v : Value} {L : List (List Int)} {m : Nat → Int} (h : RdG w v L) (hL : L.length ≤ 300) (hr : ∀ r ∈ L, r.length ≤ 100000) (hm : Marks L m) :
    Calls Try.prog 12 #[v] w fun e w' => ∃ A, e = .returned (.slice (some ⟨A, 0, none⟩) L.length L.length) ∧ w'.heap[A]? = some (.cells (markA L.length (numF L.length m)) 3 (0, 0)) ∧ w.heap.size ≤ A ∧ Below w.heap.size w w' := by
  obtain ⟨av, cap, rfl⟩ := h.form
  obtain ⟨n, hn⟩ : ∃ n, n = L.length := ⟨_, rfl⟩
  rw [← hn] at h hL ⊢
  obtain ⟨i0, hi0, hz0, hz1, hz2⟩ := info_parts infoBL1
  have hmk := make_ints n (by omega) w
  obtain ⟨A, hA⟩ : ∃ A, A = w.heap.size := ⟨_, rfl⟩
  obtain ⟨w1, hw1⟩ : ∃ u, u = w.alloc (.cells (markA n (fun _ => 0)) 3) := ⟨_, rfl⟩
  rw [← hA, ← hw1] at hmk
  have hA1 : w1.heap[A]? = some (.cells (markA n (fun _ => 0)) 3 (0, 0)) := by rw [hw1, hA]; exact heap_alloc_new w _
  have hb1 : Below w.heap.size w w1 := by rw [hw1]; exact (Below.refl _ _).alloc (Nat.le_refl _) _
  have hAl : A < w1.heap.size := (Array.getElem?_eq_some_iff.1 hA1).1
  have hLw : Hid (∀ wx : World, Below w1.heap.size w1 wx → RdG wx (.slice av n cap) L) := Lib.hid (fun wx hb => h.below (hb1.trans (hb.mono hb1.size)))
  have hr' := Lib.hid hr
  have hm' := Lib.hid hm
  replace hn := Lib.hid hn
  replace hw1 := Lib.hid hw1
  replace hA := Lib.hid hA
  clear h hr hm
  go_enter Try.func12, Try.ntmps12
  go_wp2_with fail
  clear hmk
  go_loopw [4, 5] (fun u i wr => RC1 L n w1 wr u i) (fun _ i _ => n - (intOf i).toNat)
  case atStart => exact ⟨0, [], Nat.zero_le _, by rfl, ⟨World.ownsRow_nil _ _ _ _, fun j hj => by omega⟩, Below.refl _ _⟩
  case round =>
    obtain ⟨k, us, hk, rfl, hT, hb⟩ := hrel
    obtain ⟨at0, ct0, hform⟩ := own_form hT.row
    subst hform
    by_cases hlt : k < n
    · have i1 : (k : Int) < (n : Int) := by omega
      have hb2 : Below wr.heap.size wr (wr.alloc (.cells #[.int .i64 k] 3)) := (Below.refl _ _).alloc (Nat.le_refl _) _
      have hsz := hb.size
      have hRe := Lib.hid (rreach_any (fl := [(k : Int)]) (hLw.out _ (hb.trans (hb2.mono hsz))) (by rw [← hn.out]; omega) hr'.out (rdi_of (t := 3) (n := 1) (B := wr.heap.size) rfl (heap_alloc_at rfl)) (by simp))
      rw [← hn.out] at hRe
      replace hT := Lib.hid hT
      go_wp2_with fail
      refine hRe.out.mono ?_
      rintro e w3 ⟨S, s, rfl, hS, hs, hSl, hb3⟩
      have hS3 : w3.heap[S]? = some (.cells (boolA n (wayB L k)) 4 (0, 0)) := by
        rw [hS]
        congr 2
        refine (boolA_seen (fun x _ => ?_)).symm
        rw [Bool.eq_iff_iff, wayB_iff, decide_eq_true_iff, hs]
        exact ⟨fun h => ⟨k, by simp, h⟩, fun ⟨f, hf, h⟩ => by
          obtain rfl : f = k := Int.ofNat_inj.1 (by simpa using hf)
          exact h⟩
      have hb13 : Below wr.heap.size wr w3 := hb2.trans (hb3.mono hb2.size)
      have hSs := (Array.getElem?_eq_some_iff.1 hS3).1
      have hrow3 : w3.ownsRow w1.heap.size 29 1 (.slice at0 k ct0) k us := ownsRow_touch hT.out.row (Touch.of_below hb13 (fun _ => False)) (fun _ _ h => h)
      have hlt3 := hT.out.row.lt
      have hSz : wr.heap.size ≤ S := by have := hb2.size; omega
      have hsz3 := hb13.size
      clear hRe hS hs hSl hb3
      go_wp2_with (at_builtin; refine wpList_append_own_at _ rfl _ _ 42 rfl w1.heap.size 29 i0 _ 1 24 Try.underlying42 hi0 hz0 hz1 hz2 rfl (by decide) _ _ _ rfl (hrow3.alloc _) ⟨w3.heap.size, 0, none⟩ 1 1 [.slice (some ⟨S, 0, none⟩) n n] rfl rfl (World.news_of_block (cs := #[.slice (some ⟨S, 0, none⟩) n n]) (t := 29) (fr := (0, 0)) (heap_alloc_new w3 _)) (by simp [Value.oneCell']) (by unfold maxLen; omega) (by omega) (by simp; omega) ?_)
      intro v' w4 hown4 hgrow hnil hat
      have hT4 : Touch w3 w4 (fun b => (Value.slice at0 k ct0).ownBlock = some b) := Touch.trans ((Touch.refl w3 _).alloc _) (Touch.of_grown hgrow (fun k hk => hk))
      have hkeep : ∀ (B : Nat) (o : Obj), w3.heap[B]? = some o → (Value.slice at0 k ct0).ownBlock ≠ some B → w4.heap[B]? = some o := fun B o h1 h2 => (hT4.block B (Array.getElem?_eq_some_iff.1 h1).1 h2).trans h1
      have hnew : ∀ b, v'.ownBlock = some b → (Value.slice at0 k ct0).ownBlock = some b ∨ w3.heap.size ≤ b := fun b hb => by
        rcases hat with e | e
        · exact .inl (e ▸ hb)
        · rw [e] at hb
          exact .inr (by have := Option.some.inj hb; omega)
      have hTH : Hid (TH L n w1.heap.size (k + 1) w4 v' (us ++ [.slice (some ⟨S, 0, none⟩) n n])) := by
        have hul : us.length = k := by have := hT.out.row.1; omega
        refine Lib.hid ⟨hown4, fun j hj => ?_⟩
        by_cases hjk : j = k
        · subst hjk
          refine ⟨S, by rw [List.getElem?_append_right (by omega), hul]; simp, hkeep S _ hS3 (fun e => by have := (hlt3 S e).2; omega), fun e => ?_, by omega⟩
          rcases hnew S e with e | e
          · have := (hlt3 S e).2; omega
          · omega
        · obtain ⟨T, h1, h2, h3, h4⟩ := hT.out.at' j (by omega)
          have hTl := (Array.getElem?_eq_some_iff.1 h2).1
          refine ⟨T, by rw [List.getElem?_append_left (by omega)]; exact h1, hkeep T _ ((hb13.block T hTl).trans h2) h3, fun e => ?_, h4⟩
          rcases hnew T e with e | e
          · exact h3 e
          · omega
      have hb4 : Hid (Below w1.heap.size w1 w4) := Lib.hid ((hb.trans (hb13.mono hsz)).trans (hT4.below (by omega) (fun b hb e => by have := (hlt3 b e).1; omega)))
      clear hown4 hgrow hnil hat hT4 hkeep hnew hS3 hrow3 hb13 hb hb2
      go_wp2_with fail
      exact ⟨⟨k + 1, _, by omega, by go_num, hTH.out, hb4.out⟩, by simp [intOf]; omega⟩
    · obtain rfl : k = n := by omega
      have i1 : decide ((k : Int) < (k : Int)) = false := by simp
      have hA3 : wr.heap[A]? = some (.cells (markA k (fun _ => 0)) 3 (0, 0)) := (hb.block A hAl).trans hA1
      have hcells : Hid (∀ wx : World, Touch wr wx (fun b => b = A) → ∃ tb, (0 < k → at0 = some ⟨tb, 0, none⟩) ∧ ∀ i, i < k → ∃ S, wx.cell? ⟨tb, i, none⟩ = some (.slice (some ⟨S, 0, none⟩) k k) ∧ ∀ x, x < k → wx.cell? ⟨S, x, none⟩ = some (.bool (wayB L i x))) := Lib.hid (fun wx hTx => by
        by_cases h0 : 0 < k
        · obtain ⟨tb, cb, e⟩ := row_form hT.row h0
          simp only [Value.slice.injEq] at e
          obtain ⟨rfl, -, rfl⟩ := e
          refine ⟨tb, fun _ => rfl, fun i hi => ?_⟩
          obtain ⟨S, h1, h2, h3, h4⟩ := hT.at' i hi
          have hrw := ownsRow_touch hT.row hTx (fun b hb e => by have := (hT.row.lt b hb).1; omega)
          refine ⟨S, by rw [hrw.cellAt i (by have := hrw.1; omega)]; exact h1, fun x hx => ?_⟩
          rw [blk_cell ((hTx.block S (Array.getElem?_eq_some_iff.1 h2).1 (by omega)).trans h2)]
          exact boolA_at hx
        · exact ⟨0, fun h => absurd h h0, fun i hi => by omega⟩)
      have hbw : Hid (∀ wx : World, Touch wr wx (fun b => b = A) → Below w.heap.size w wx) := Lib.hid (fun wx hTx => (hb1.trans (hb.mono hb1.size)).trans (hTx.below (by have := hb1.size; have := hb.size; omega) (fun b hb e => by have := hA.out; omega)))
      have hA3' : Hid (wr.heap[A]? = some (.cells (markA k (fun x => if x < 0 then numF k m x else 0)) 3 (0, 0))) := Lib.hid (by rw [hA3, markA_congr (m' := fun x => if x < 0 then numF k m x else 0) (fun x _ => by simp)])
      clear hT hb hA3 hLw
      go_wp2_with fail
      obtain ⟨wz, hwz⟩ : ∃ u, u = wr := ⟨_, rfl⟩
      rw [← hwz] at hcells hbw hA3'
      rw [← hwz]
      clear hwz
      go_loopw [6, 7, 8] (fun t i _ wx => RC2 m k A wz wx t i) (fun _ i _ _ => k - (intOf i).toNat)
      case atStart => exact ⟨0, Nat.zero_le _, by rfl, by rfl, hA3'.out, Touch.refl _ _⟩
      case round =>
        clear hA3'
        obtain ⟨i, hi, rfl, rfl, hAi, hTi⟩ := hrel
        by_cases hlti : i < k
        · have i2 : (i : Int) < (k : Int) := by omega
          have cAi : wr.cell? ⟨A, i, none⟩ = some (.int .i64 0) := by rw [blk_cell hAi, markA_at hlti]; simp
          have fAi : wr.frozen? ⟨A, i, none⟩ = false := by simp [World.frozen?, hAi]
          have hb0 : (wr.setCell ⟨A, i, none⟩ (.int .i64 (-1))).heap[A]? = some (.cells (markA k (outF k m i (-1))) 3 (0, 0)) := by
            rw [blk_set _ hAi, markA_set hlti (m' := outF k m i (-1))]
            · simp [outF]
            · intro y hy
              unfold outF
              by_cases h1 : y < i
              · simp [h1]
              · simp [h1, hy]
          have hT0 := hTi.trans ((Touch.refl wr (fun b => b = A)).setCell (a := ⟨A, i, none⟩) (fun _ => rfl) (.int .i64 (-1)))
          have hcl := cntM_le m i
          replace hb0 := Lib.hid hb0
          replace hT0 := Lib.hid hT0
          clear hAi hTi
          go_wp2_with fail
          go_loopw [8] (fun j wx => RC3 L m k A i wz wx j) (fun j _ => i - (intOf j).toNat)
          case atStart => exact ⟨0, -1, Nat.zero_le _, by rfl, .inl ⟨rfl, fun j hj => by omega⟩, hb0.out, hT0.out⟩
          case round =>
            clear hb0 hT0
            obtain ⟨q, z, hq, rfl, hzp, hA4, hT4⟩ := hrel
            have cA : wr.cell? ⟨A, i, none⟩ = some (.int .i64 z) := by rw [blk_cell hA4, markA_at hlti]; simp [outF]
            have fA : wr.frozen? ⟨A, i, none⟩ = false := by simp [World.frozen?, hA4]
            have hnl := numF_lt (m := m) (Nat.le_refl k) hlti
            by_cases hltq : q < i
            · have i3 : (q : Int) < (i : Int) := by omega
              have i4 : (q : Int) < (k : Int) := by omega
              rcases hzp with ⟨rfl, hnone⟩ | ⟨hz, hfound⟩
              · obtain ⟨tb, htb, hcl4⟩ := hcells.out _ hT4
                have htb' := htb (by omega)
                subst htb'
                obtain ⟨S1, s1, s2⟩ := hcl4 i hlti
                obtain ⟨S2, s3, s4⟩ := hcl4 q (by omega)
                have cw1 := s2 q (by omega)
                have cw2 := s4 i hlti
                have cq : wr.cell? ⟨A, q, none⟩ = some (.int .i64 (numF k m q)) := by rw [blk_cell hA4, markA_at (by omega)]; simp [outF, hltq]
                obtain ⟨b1, hb1'⟩ : ∃ b, b = wayB L i q := ⟨_, rfl⟩
                obtain ⟨b2, hb2'⟩ : ∃ b, b = wayB L q i := ⟨_, rfl⟩
                rw [← hb1'] at cw1
                rw [← hb2'] at cw2
                have hsc : SC L i q ↔ (b1 = true ∧ b2 = true) := by
                  rw [hb1', hb2', wayB_iff, wayB_iff]
                  exact Iff.rfl
                have hno : ¬ SC L i q → zP L k m i (q + 1) (-1) := fun h => .inl ⟨rfl, fun j hj hs => by
                  by_cases e : j = q
                  · subst e; exact h hs
                  · exact hnone j (by omega) hs⟩
                have hnum : SC L i q → numF k m q = numF k m i := fun h => (numF_eq (by omega) hlti).2 ((hm'.out q i (by rw [← hn.out]; omega) (by rw [← hn.out]; omega)).2 h.symm)
                have hb5 : SC L i q → (wr.setCell ⟨A, i, none⟩ (.int .i64 (numF k m q))).heap[A]? = some (.cells (markA k (outF k m i (numF k m i))) 3 (0, 0)) := fun h => by
                  rw [blk_set _ hA4, markA_set hlti (m' := outF k m i (numF k m i))]
                  · simp [outF, hnum h]
                  · intro y hy
                    simp [outF, hy]
                have hT5 := hT4.trans ((Touch.refl wr (fun b => b = A)).setCell (a := ⟨A, i, none⟩) (fun _ => rfl) (.int .i64 (numF k m q)))
                have hA4' := Lib.hid hA4
                have hT4' := Lib.hid hT4
                replace hno := Lib.hid hno
                replace hnum := Lib.hid hnum
                replace hb5 := Lib.hid hb5
                replace hT5 := Lib.hid hT5
                replace hsc := Lib.hid hsc
                clear hcl4 s2 s4 htb hnone hA4 hT4 hb1' hb2' hnl
                cases b1 with
                | false =>
                  go_wp2_with fail
                  exact ⟨⟨q + 1, -1, by omega, by go_num, hno.out (fun h => by simp [hsc.out] at h), hA4'.out, hT4'.out⟩, by simp [intOf]; omega⟩
                | true =>
                  cases b2 with
                  | false =>
                    go_wp2_with fail
                    exact ⟨⟨q + 1, -1, by omega, by go_num, hno.out (fun h => by simp [hsc.out] at h), hA4'.out, hT4'.out⟩, by simp [intOf]; omega⟩
                  | true =>
                    have hs := hsc.out.2 ⟨rfl, rfl⟩
                    have hb6 := Lib.hid (hb5.out hs)
                    replace hs := Lib.hid hs
                    go_wp2_with fail
                    exact ⟨⟨q + 1, _, by omega, by go_num, .inr ⟨rfl, q, hltq, hs.out⟩, hb6.out, hT5.out⟩, by simp [intOf]; omega⟩
              · obtain ⟨c, hc⟩ : ∃ c : Nat, z = c := ⟨z.toNat, by omega⟩
                subst hc
                have hzp := True.intro
                have d5 : decide ((c : Int) < 0) = false := by simp
                have hcnt : Hid (cntM m (i + 1) = cntM m i) := Lib.hid (by
                  obtain ⟨j, hj, hsc⟩ := hfound
                  exact cntM_old hj ((hm'.out j i (by rw [← hn.out]; omega) (by rw [← hn.out]; omega)).2 hsc.symm))
                have hAn : Hid (wr.heap[A]? = some (.cells (markA k (fun x => if x < i + 1 then numF k m x else 0)) 3 (0, 0))) := Lib.hid (by
                  rw [hA4, markA_congr (m' := fun x => if x < i + 1 then numF k m x else 0) (fun x _ => ?_)]
                  unfold outF
                  by_cases h1 : x < i
                  · rw [if_pos h1, if_pos (by omega)]
                  · by_cases h2 : x = i
                    · subst h2; rw [if_neg h1, if_pos rfl, if_pos (by omega), hz]
                    · rw [if_neg h1, if_neg h2, if_neg (by omega)])
                replace hT4 := Lib.hid hT4
                clear hA4 hzp hfound
                go_wp2_with fail
                exact ⟨⟨i + 1, by omega, by go_num, by rw [hcnt.out], hAn.out, hT4.out⟩, by simp [intOf]; omega⟩
            · obtain rfl : q = i := by omega
              have i3 : decide ((q : Int) < (q : Int)) = false := by simp
              rcases hzp with ⟨rfl, hnone⟩ | ⟨hz, hfound⟩
              · have hnew : ∀ j, j < q → m j ≠ m q := fun j hj e => hnone j hj ((hm'.out j q (by rw [← hn.out]; omega) (by rw [← hn.out]; omega)).1 e).symm
                have hnq := numF_new hlti hnew
                have hcnt : Hid (cntM m (q + 1) = cntM m q + 1) := Lib.hid (cntM_new hnew)
                have hb5 : (wr.setCell ⟨A, q, none⟩ (.int .i64 (cntM m q : Nat))).heap[A]? = some (.cells (markA k (fun x => if x < q + 1 then numF k m x else 0)) 3 (0, 0)) := by
                  rw [blk_set _ hA4, markA_set hlti (m' := fun x => if x < q + 1 then numF k m x else 0)]
                  · simp [hnq]
                  · intro y hy
                    unfold outF
                    by_cases h1 : y < q
                    · simp [h1, show y < q + 1 from by omega]
                    · simp [h1, hy, show ¬ y < q + 1 from by omega]
                have hT5 := hT4.trans ((Touch.refl wr (fun b => b = A)).setCell (a := ⟨A, q, none⟩) (fun _ => rfl) (.int .i64 (cntM m q : Nat)))
                replace hb5 := Lib.hid hb5
                replace hT5 := Lib.hid hT5
                replace hnq := Lib.hid hnq
                clear hA4 hT4 hnone hnew hnl
                go_wp2_with fail
                exact ⟨⟨q + 1, by omega, by go_num, by rw [hcnt.out]; go_num, hb5.out, hT5.out⟩, by simp [intOf]; omega⟩
              · obtain ⟨c, hc⟩ : ∃ c : Nat, z = c := ⟨z.toNat, by omega⟩
                subst hc
                have hzp := True.intro
                have d5 : decide ((c : Int) < 0) = false := by simp
                have hcnt : Hid (cntM m (q + 1) = cntM m q) := Lib.hid (by
                  obtain ⟨j, hj, hsc⟩ := hfound
                  exact cntM_old hj ((hm'.out j q (by rw [← hn.out]; omega) (by rw [← hn.out]; omega)).2 hsc.symm))
                have hAn : Hid (wr.heap[A]? = some (.cells (markA k (fun x => if x < q + 1 then numF k m x else 0)) 3 (0, 0))) := Lib.hid (by
                  rw [hA4, markA_congr (m' := fun x => if x < q + 1 then numF k m x else 0) (fun x _ => ?_)]
                  unfold outF
                  by_cases h1 : x < q
                  · rw [if_pos h1, if_pos (by omega)]
                  · by_cases h2 : x = q
                    · subst h2; rw [if_neg h1, if_pos rfl, if_pos (by omega), hz]
                    · rw [if_neg h1, if_neg h2, if_neg (by omega)])
                replace hT4 := Lib.hid hT4
                clear hA4 hzp hfound
                go_wp2_with fail
                exact ⟨⟨q + 1, by omega, by go_num, by rw [hcnt.out], hAn.out, hT4.out⟩, by simp [intOf]; omega⟩
        · obtain rfl : i = k := by omega
          have i2 : decide ((i : Int) < (i : Int)) = false := by simp
          have hfin : Hid (wr.heap[A]? = some (.cells (markA i (numF i m)) 3 (0, 0))) := Lib.hid (by rw [hAi, markA_congr (m' := numF i m) (fun x hx => by simp [hx])])
          have hbz := hbw.out _ hTi
          clear hAi hTi
          go_wp2_with fail
          go_ret
          exact ⟨A, rfl, hfin.out, by rw [hA.out]; exact Nat.le_refl _, hbz⟩
end Go.Proofs.Ytppkponnopnmdaa
