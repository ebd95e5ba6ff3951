/- Queues: Take. -/
import Derived.Test.YtcimhljnboeobaaDoorQRankA
import Derived.Test.YtcimhljnboeobaaDoorQDrop
namespace Go.Proofs.YtcimhljnboeobaaDoor
open Go.RowKit Go.Maps

/-- The number of the one that is next. -/
def rankQ (ps : List Int) (k : Nat) : Nat := match ps with | [] => 0 | p :: _ => if 0 ≤ p ∧ p < k then p.toNat else 0
theorem rank_ltQ (ps : List Int) {k : Nat} (h : 0 < k) : rankQ ps k < k := by
  unfold rankQ
  cases ps with
  | nil => exact h
  | cons p r =>
    simp only
    split
    · omega
    · exact h
theorem qtake_nil (w : World) : Calls Tryd.prog 6 #[.pointer none] w fun e w' => e = .returned (.tuple #[.int .i64 0, .bool false]) ∧ w' = w := by
  have hl := Lib.hid (qlen_nil w)
  go_enter Tryd.func6, Tryd.ntmps6
  go_wp2_with (first | (go_at_call 9; refine hl.out.mono ?_; rintro e w' ⟨rfl, hw9⟩; obtain rfl := hw9.symm) | fail)
  go_ret2
  exact ⟨rfl, rfl⟩
section
variable {w w' : World} {qb lb cap n taken : Nat} {bs l : List Nat} {pv : Value} {ps : List Int}
theorem QAt.cell (Q : QAt w qb lb cap bs n l pv ps taken) {pv' : Value} {ps' : List Int} {taken' : Nat} (hT : Touch w w' (fun k => k = qb)) (hb : w'.heap[qb]? = some (.cells #[.int .i64 n, .slice (some ⟨lb, 0, none⟩) bs.length cap, pv', .int .i64 l.length, .int .i64 taken'] 35 (0, 0)))
    (hp : RdQ w' pv' ps') (hp2 : ∃ a c, pv' = .slice a ps'.length c ∧ ps'.length ≤ c) (hp3 : ∀ k, pBlk pv' k → k ≠ qb ∧ k ≠ lb ∧ k ∉ bs) : QAt w' qb lb cap bs n l pv' ps' taken' :=
  ⟨hb, Nat.lt_of_lt_of_le Q.lbl hT.size, fun j b h => by
    rw [← Q.row j b h]
    unfold World.cell?
    rw [show w'.heap[lb]? = w.heap[lb]? from hT.block lb Q.lbl (fun e => Q.qlb e.symm)], fun j b h => by
    obtain ⟨D, h1, h2⟩ := Q.maps j b h
    exact ⟨D, own_blockQ h1 (hT.block b h1.lt (Q.bne (List.mem_of_getElem? h)).1), h2⟩, Q.nodup, Q.qlb, Q.rise, Q.lt, Q.m1, Q.m3, Q.nle, hp, hp2, hp3⟩
theorem QAt.took (Q : QAt w qb lb cap bs n l pv ps taken) : QAt (w.setCell ⟨qb, 4, none⟩ (.int .i64 ((taken : Int) + 1))) qb lb cap bs n l pv ps (taken + 1) := by
  have hT : Touch w (w.setCell ⟨qb, 4, none⟩ (.int .i64 ((taken : Int) + 1))) (fun k => k = qb) := (Touch.refl w (fun k => k = qb)).setCell (a := ⟨qb, 4, none⟩) (fun _ => rfl) _
  exact Q.cell hT (blk_set (i := 4) (.int .i64 ((taken : Int) + 1)) Q.blk) (rd_keptQ Q.pics hT (fun k hk e => (Q.pne k hk).1 e)) Q.pic Q.pne
theorem qtake_none (Q : QAt w qb lb cap bs n [] pv ps taken) : Calls Tryd.prog 6 #[.pointer (some ⟨qb, 0, none⟩)] w fun e w' => e = .returned (.tuple #[.int .i64 0, .bool false]) ∧ w' = w := by
  have hl := Lib.hid (qlen_any Q)
  clear Q
  go_enter Tryd.func6, Tryd.ntmps6
  go_wp2_with (first | (go_at_call 9; refine hl.out.mono ?_; rintro e w' ⟨rfl, hw9⟩; obtain rfl := hw9.symm) | fail)
  go_ret2
  exact ⟨rfl, rfl⟩
set_option maxHeartbeats 4000000 in
theorem qtake_0 (Q : QAt w qb lb cap bs n l pv [] taken) (G : Gl w) (htk : taken ≤ 1000000000) {y : Nat} (hy : l[0]? = some y) : Calls Tryd.prog 6 #[.pointer (some ⟨qb, 0, none⟩)] w fun e w' => e = .returned (.tuple #[.int .i64 y, .bool true]) ∧ ∃ pv', QAt w' qb lb cap bs n (remQ l y) pv' [] (taken + 1) ∧ (∀ k, QBl qb lb bs pv' k → QBl qb lb bs pv k) ∧ Touch w w' (fun k => k = qb ∨ k ∈ bs) := by
  have hl := Lib.hid (qlen_any Q)
  have hat := Lib.hid (qat_any Q G hy)
  have hll := Q.len
  have hn3 := Q.nle3
  have hlp := (List.getElem?_eq_some_iff.1 hy).1
  have hym := Lib.hid (List.mem_of_getElem? hy)
  obtain ⟨a, c, rfl, -⟩ := Q.pic
  have c2 : w.cell? ⟨qb, 2, none⟩ = some (.slice a 0 c) := by rw [blk_cell Q.blk]; rfl
  have c3 : w.cell? ⟨qb, 3, none⟩ = some (.int .i64 l.length) := by rw [blk_cell Q.blk]; rfl
  obtain ⟨len, hlen⟩ : ∃ len, len = l.length := ⟨_, rfl⟩
  rw [← hlen] at c3 hll hlp hl
  have d0 : ((len : Int) == 0) = false := by simp; omega
  have d1 : decide ((0 : Int) ≥ (len : Int)) = false := by simp; omega
  have hQ := Lib.hid Q
  replace hlen := Lib.hid hlen
  clear Q hy
  go_enter Tryd.func6, Tryd.ntmps6
  go_wp2_with (first
    | (go_at_call 9; refine hl.out.mono ?_; rintro e w' ⟨rfl, hw9⟩; obtain rfl := hw9.symm)
    | (go_at_call 14; refine hat.out.mono ?_; rintro e w6 ⟨rfl, hb6⟩)
    | (go_at_call 15; refine (qdrop_any (hQ.out.below hb6) hym.out).mono ?_; rintro e w7 ⟨⟨v7, rfl⟩, hQ7, hT7⟩; have c4 : w7.cell? ⟨qb, 4, none⟩ = some (.int .i64 taken) := (by rw [blk_cell hQ7.blk]; rfl); have y4 : w7.frozen? ⟨qb, 4, none⟩ = false := (by simp [World.frozen?, hQ7.blk]); replace hQ7 := Lib.hid hQ7; replace hT7 := Lib.hid hT7; replace hb6 := Lib.hid hb6)
    | fail)
  go_ret2
  exact ⟨rfl, _, hQ7.out.took, fun k h => h, ((Touch.of_below hb6.out _).trans hT7.out).setCell (a := ⟨qb, 4, none⟩) (fun _ => .inl rfl) _⟩
theorem rd_pickQ {w : World} {pv : Value} {p : Int} {r : List Int} (h : RdQ w pv (p :: r)) (hc : ∃ a c, pv = .slice a (p :: r).length c ∧ (p :: r).length ≤ c) : ∃ b off c, pv = .slice (some ⟨b, off, none⟩) (r.length + 1) c ∧ r.length + 1 ≤ c ∧ w.cell? ⟨b, off, none⟩ = some (.int .i64 p) ∧ RdQ w (.slice (if c = 1 then some ⟨b, off, none⟩ else some ⟨b, off + 1, none⟩) r.length (c - 1)) r := by
  obtain ⟨a, c, e, hle⟩ := hc
  rcases h with ⟨h1, -⟩ | ⟨b, off, c2, e2, hlt, hc⟩
  · cases h1
  · have e3 := e2
    rw [e] at e3
    simp only [Value.slice.injEq] at e3
    obtain ⟨rfl, -, rfl⟩ := e3
    refine ⟨b, off, c, e, hle, hc 0 _ rfl, ?_⟩
    by_cases h1 : c = 1
    · rw [if_pos h1]
      rw [List.length_cons] at hle
      have : r = [] := List.eq_nil_of_length_eq_zero (by omega)
      subst this
      exact .inl ⟨rfl, .inr ⟨_, _, rfl⟩⟩
    · rw [if_neg h1]
      refine .inr ⟨b, off + 1, c - 1, by simp, hlt, fun i u hu => ?_⟩
      have := hc (i + 1) u hu
      rwa [show off + (i + 1) = off + 1 + i by omega] at this
set_option maxRecDepth 100000 in
set_option maxHeartbeats 4000000 in
theorem qtake_p {p : Int} {r : List Int} (Q : QAt w qb lb cap bs n l pv (p :: r) taken) (G : Gl w) (hG : 0 ≠ qb) (htk : taken ≤ 1000000000) (hpl : r.length ≤ 1000000) {y : Nat} (hy : l[rankQ (p :: r) l.length]? = some y) : Calls Tryd.prog 6 #[.pointer (some ⟨qb, 0, none⟩)] w fun e w' => e = .returned (.tuple #[.int .i64 y, .bool true]) ∧ ∃ pv', QAt w' qb lb cap bs n (remQ l y) pv' r (taken + 1) ∧ (∀ k, QBl qb lb bs pv' k → QBl qb lb bs pv k) ∧ Touch w w' (fun k => k = qb ∨ k ∈ bs) := by
  have hl := Lib.hid (qlen_any Q)
  have hll := Q.len
  have hn3 := Q.nle3
  have hlp := (List.getElem?_eq_some_iff.1 hy).1
  have hym := Lib.hid (List.mem_of_getElem? hy)
  obtain ⟨b, off, c, rfl, hle, hpb, hR⟩ := rd_pickQ Q.pics Q.pic
  obtain ⟨pv5, hpv5⟩ : ∃ pv5, pv5 = Value.slice (if c = 1 then some ⟨b, off, none⟩ else some ⟨b, off + 1, none⟩) r.length (c - 1) := ⟨_, rfl⟩
  obtain ⟨w5, hw5⟩ : ∃ w5, w5 = (w.setCell ⟨qb, 2, none⟩ pv5).drew := ⟨_, rfl⟩
  have hT5 : Touch w w5 (fun k => k = qb) := by rw [hw5]; exact ((Touch.refl w (fun k => k = qb)).setCell (a := ⟨qb, 2, none⟩) (fun _ => rfl) _).drew
  have hRv : ∀ k, pBlk pv5 k → pBlk (.slice (some ⟨b, off, none⟩) (r.length + 1) c) k := by
    rintro k ⟨a, m, c9, e, ek, hm⟩
    rw [hpv5] at e
    simp only [Value.slice.injEq] at e
    refine ⟨_, _, _, rfl, ?_, by omega⟩
    rw [← ek]
    split at e
    · cases e.1; rfl
    · cases e.1; rfl
  rw [← hpv5] at hR
  have hQ5 : QAt w5 qb lb cap bs n l pv5 r taken := Q.cell hT5 (by rw [hw5]; exact blk_set (i := 2) pv5 Q.blk) (rd_keptQ hR hT5 (fun k hk e => (Q.pne k (hRv k hk)).1 e)) ⟨_, _, hpv5, by omega⟩ (fun k hk => Q.pne k (hRv k hk))
  have hat := Lib.hid (qat_any hQ5 (G.touch hT5 hG) hy)
  have c2 : w.cell? ⟨qb, 2, none⟩ = some (.slice (some ⟨b, off, none⟩) (r.length + 1) c) := by rw [blk_cell Q.blk]; rfl
  have y2 : w.drew.frozen? ⟨qb, 2, none⟩ = false := by simp [World.frozen?, show w.drew.heap = w.heap from rfl, Q.blk]
  have c3 : w5.cell? ⟨qb, 3, none⟩ = some (.int .i64 l.length) := by rw [blk_cell hQ5.blk]; rfl
  obtain ⟨len, hlen⟩ : ∃ len, len = l.length := ⟨_, rfl⟩
  rw [← hlen] at c3 hll hlp hl
  have hrk : rankQ (p :: r) l.length = if 0 ≤ p ∧ p < len then p.toNat else 0 := by rw [hlen]; rfl
  rw [hrk] at hat
  have d0 : ((len : Int) == 0) = false := by simp; omega
  obtain ⟨m, hm⟩ : ∃ m, m = r.length := ⟨_, rfl⟩
  rw [← hm] at c2 hle hpl hpv5
  have hm0 : (0 : Int) < (m : Int) + 1 := by omega
  have d5 : decide ((m : Int) + 1 > 0) = true := by simp
  have hsl : ∀ w : World, (Instr.slice 27 (.slice (some ⟨b, off, none⟩) (m + 1) c) (some (.int .i64 1)) none none).run Tryd.prog w = .ok pv5 w := fun w => by
    have i1 : (1 : Int) ≤ ((m + 1 : Nat) : Int) := by omega
    rw [hpv5]
    by_cases h1 : c = 1
    · rw [run_slice_l (ht := Tryd.underlying27) (h0 := by decide) (h1 := i1)]
      simp [go_sem, h1]
    · rw [run_slice_l (ht := Tryd.underlying27) (h0 := by decide) (h1 := i1)]
      simp [go_sem, h1]
  have hsa : ∀ w : World, (Instr.sliceAt 27 (.slice (some ⟨b, off, none⟩) (m + 1) c) (some (.int .i64 1)) none none).run Tryd.prog w = .ok pv5 w := fun w => (run_sliceAt_slice _ _ _ _ _ _ Tryd.underlying27).trans (hsl w)
  have hin : (decide (p < 0) = true ∧ decide (p ≥ (len : Int)) = false ∨ decide (p < 0) = false ∧ decide (p ≥ (len : Int)) = true) ∧ (if 0 ≤ p ∧ p < len then p.toNat else 0) = 0 ∨ (decide (p < 0) = false ∧ decide (p ≥ (len : Int)) = false) ∧ (((if 0 ≤ p ∧ p < len then p.toNat else 0 : Nat)) : Int) = p := by
    by_cases h0 : p < 0
    · exact .inl ⟨.inl ⟨by simpa using h0, by simp; omega⟩, by rw [if_neg (by omega)]⟩
    · by_cases h1 : p < len
      · exact .inr ⟨⟨by simp; omega, by simp; omega⟩, by rw [if_pos (by omega)]; omega⟩
      · exact .inl ⟨.inr ⟨by simp; omega, by simp; omega⟩, by rw [if_neg (by omega)]⟩
  have hQ := Lib.hid hQ5
  have hT := Lib.hid hT5
  have hB : Hid (∀ k, QBl qb lb bs pv5 k → QBl qb lb bs (.slice (some ⟨b, off, none⟩) (m + 1) c) k) := Lib.hid (fun k hk => by
    rcases hk with h | h | h | h
    · exact .inl h
    · exact .inr (.inl h)
    · exact .inr (.inr (.inl h))
    · exact .inr (.inr (.inr (by rw [hm]; exact hRv k h))))
  replace hlen := Lib.hid hlen
  replace hm := Lib.hid hm
  generalize (if c = 1 then some (⟨b, off, none⟩ : Addr) else some ⟨b, off + 1, none⟩) = pa at hpv5
  generalize c - 1 = pc at hpv5
  subst hpv5
  clear Q hy hQ5 hT5 hRv hR hrk hlp
  generalize (if 0 ≤ p ∧ p < len then p.toNat else 0) = rk at hat hin
  go_enter Tryd.func6, Tryd.ntmps6
  go_upto_region 5 with (first
    | (go_at_call 9; refine hl.out.mono ?_; rintro e w' ⟨rfl, hw9⟩; obtain rfl := hw9.symm))
  refine wp_tail 15 (by kernel_rfl) (by kernel_rfl) ?_
  simp only [List.take_succ_cons, List.take_zero, List.drop_succ_cons, List.drop_zero]
  repeat still_step
  refine wpStill_nil ?_
  rcases hin with ⟨⟨d6, d7⟩ | ⟨d6, d7⟩, rfl⟩ | ⟨⟨d6, d7⟩, hrp⟩
  · have x1 := True.intro
    go_upto_region 6 with fail
    rw [← hw5]
    clear hw5 c2 y2
    go_wp2_with (first
      | (go_at_call 14; refine hat.out.mono ?_; rintro e w6 ⟨rfl, hb6⟩)
      | (go_at_call 15; refine (qdrop_any (hQ.out.below hb6) hym.out).mono ?_; rintro e w7 ⟨⟨v7, rfl⟩, hQ7, hT7⟩; have c4 : w7.cell? ⟨qb, 4, none⟩ = some (.int .i64 taken) := (by rw [blk_cell hQ7.blk]; rfl); have y4 : w7.frozen? ⟨qb, 4, none⟩ = false := (by simp [World.frozen?, hQ7.blk]); replace hQ7 := Lib.hid hQ7; replace hT7 := Lib.hid hT7; replace hb6 := Lib.hid hb6)
      | fail)
    go_ret2
    exact ⟨rfl, _, hQ7.out.took, (by rw [← hm.out]; exact hB.out), ((((hT.out.mono (fun k _ h => .inl h)).trans (Touch.of_below hb6.out _)).trans hT7.out)).setCell (a := ⟨qb, 4, none⟩) (fun _ => .inl rfl) _⟩
  · have x1 := True.intro
    go_upto_region 6 with fail
    rw [← hw5]
    clear hw5 c2 y2
    go_wp2_with (first
      | (go_at_call 14; refine hat.out.mono ?_; rintro e w6 ⟨rfl, hb6⟩)
      | (go_at_call 15; refine (qdrop_any (hQ.out.below hb6) hym.out).mono ?_; rintro e w7 ⟨⟨v7, rfl⟩, hQ7, hT7⟩; have c4 : w7.cell? ⟨qb, 4, none⟩ = some (.int .i64 taken) := (by rw [blk_cell hQ7.blk]; rfl); have y4 : w7.frozen? ⟨qb, 4, none⟩ = false := (by simp [World.frozen?, hQ7.blk]); replace hQ7 := Lib.hid hQ7; replace hT7 := Lib.hid hT7; replace hb6 := Lib.hid hb6)
      | fail)
    go_ret2
    exact ⟨rfl, _, hQ7.out.took, (by rw [← hm.out]; exact hB.out), ((((hT.out.mono (fun k _ h => .inl h)).trans (Touch.of_below hb6.out _)).trans hT7.out)).setCell (a := ⟨qb, 4, none⟩) (fun _ => .inl rfl) _⟩
  · have x1 := True.intro
    go_upto_region 6 with fail
    rw [← hw5]
    clear hw5 c2 y2
    rw [hrp] at hat
    go_wp2_with (first
      | (go_at_call 14; refine hat.out.mono ?_; rintro e w6 ⟨rfl, hb6⟩)
      | (go_at_call 15; refine (qdrop_any (hQ.out.below hb6) hym.out).mono ?_; rintro e w7 ⟨⟨v7, rfl⟩, hQ7, hT7⟩; have c4 : w7.cell? ⟨qb, 4, none⟩ = some (.int .i64 taken) := (by rw [blk_cell hQ7.blk]; rfl); have y4 : w7.frozen? ⟨qb, 4, none⟩ = false := (by simp [World.frozen?, hQ7.blk]); replace hQ7 := Lib.hid hQ7; replace hT7 := Lib.hid hT7; replace hb6 := Lib.hid hb6)
      | fail)
    go_ret2
    exact ⟨rfl, _, hQ7.out.took, (by rw [← hm.out]; exact hB.out), ((((hT.out.mono (fun k _ h => .inl h)).trans (Touch.of_below hb6.out _)).trans hT7.out)).setCell (a := ⟨qb, 4, none⟩) (fun _ => .inl rfl) _⟩
theorem qtake_any (Q : QAt w qb lb cap bs n l pv ps taken) (G : Gl w) (hG : 0 ≠ qb) (htk : taken ≤ 1000000000) (hpl : ps.length ≤ 1000000) {y : Nat} (hy : l[rankQ ps l.length]? = some y) : Calls Tryd.prog 6 #[.pointer (some ⟨qb, 0, none⟩)] w fun e w' => e = .returned (.tuple #[.int .i64 y, .bool true]) ∧ ∃ pv', QAt w' qb lb cap bs n (remQ l y) pv' ps.tail (taken + 1) ∧ (∀ k, QBl qb lb bs pv' k → QBl qb lb bs pv k) ∧ Touch w w' (fun k => k = qb ∨ k ∈ bs) := by
  cases ps with
  | nil => exact qtake_0 Q G htk hy
  | cons p r => exact qtake_p Q G hG htk (by rw [List.length_cons] at hpl; omega) hy
end
end Go.Proofs.YtcimhljnboeobaaDoor
