/- Queues: Add. -/
import Derived.Test.YtcimhljnboeobaaDoorQAt
import Derived.Deep.CutRange
import Derived.Deep.CutBlock
namespace Go.Proofs.YtcimhljnboeobaaDoor
open Go.RowKit Go.Maps

/-- A rising list with one more. -/
def insQ (l : List Nat) (x : Nat) : List Nat := l.filter (fun y => decide (y < x)) ++ x :: l.filter (fun y => decide (x < y))
theorem mem_insQ {l : List Nat} {x y : Nat} (h : x ∉ l) : y ∈ insQ l x ↔ y = x ∨ y ∈ l := by
  unfold insQ
  rw [List.mem_append, List.mem_cons, List.mem_filter, List.mem_filter, decide_eq_true_iff, decide_eq_true_iff]
  constructor
  · rintro (h1 | h1 | h1)
    · exact .inr h1.1
    · exact .inl h1
    · exact .inr h1.1
  · rintro (h1 | h1)
    · exact .inr (.inl h1)
    · rcases Nat.lt_trichotomy y x with h2 | h2 | h2
      · exact .inl ⟨h1, h2⟩
      · exact absurd (h2 ▸ h1) h
      · exact .inr (.inr ⟨h1, h2⟩)
theorem rise_insQ {l : List Nat} {x : Nat} (hr : l.Pairwise (· < ·)) : (insQ l x).Pairwise (· < ·) := by
  unfold insQ
  rw [List.pairwise_append, List.pairwise_cons]
  refine ⟨hr.sublist List.filter_sublist, ⟨fun y hy => by simpa using (List.mem_filter.1 hy).2, hr.sublist List.filter_sublist⟩, fun a ha b hb => ?_⟩
  have h1 : a < x := by simpa using (List.mem_filter.1 ha).2
  rcases List.mem_cons.1 hb with rfl | hb
  · exact h1
  · have h2 : x < b := by simpa using (List.mem_filter.1 hb).2
    omega
theorem len_insQ {l : List Nat} {x : Nat} (hr : l.Pairwise (· < ·)) (h : x ∉ l) : (insQ l x).length = l.length + 1 := by
  have h1 : (insQ l x).Nodup := (rise_insQ hr).imp (fun h => Nat.ne_of_lt h)
  have h2 : (x :: l).Nodup := List.nodup_cons.2 ⟨h, hr.imp (fun h => Nat.ne_of_lt h)⟩
  have := nodup_len_eq h1 h2 (fun y => by rw [mem_insQ h, List.mem_cons])
  rw [this, List.length_cons]
section
variable {w w' : World} {qb lb cap n taken : Nat} {bs l : List Nat} {pv : Value} {ps : List Int}
theorem qadd_nil (i : Int) (w : World) : Calls Tryd.prog 7 #[.pointer none, .int .i64 i] w fun e w' => e = .returned (.bool false) ∧ w' = w := by
  go_enter Tryd.func7, Tryd.ntmps7
  go_wp2
  go_ret
  exact ⟨rfl, rfl⟩
theorem qadd_no (Q : QAt w qb lb cap bs n l pv ps taken) {i : Int} (h : i < 0 ∨ (n : Int) ≤ i ∨ waitsB l i = true) : Calls Tryd.prog 7 #[.pointer (some ⟨qb, 0, none⟩), .int .i64 i] w fun e w' => e = .returned (.bool false) ∧ w' = w := by
  have c0 : w.cell? ⟨qb, 0, none⟩ = some (.int .i64 n) := by rw [blk_cell Q.blk]; rfl
  by_cases h0 : i < 0
  · have hd : decide (i < 0) = true := by simpa using h0
    clear Q h
    go_enter Tryd.func7, Tryd.ntmps7
    go_wp2
    go_ret
    exact ⟨rfl, rfl⟩
  have hd : decide (i < 0) = false := by simpa using h0
  by_cases h1 : (n : Int) ≤ i
  · have hd2 : decide (i ≥ (n : Int)) = true := by simpa using h1
    clear Q h
    go_enter Tryd.func7, Tryd.ntmps7
    go_wp2
    go_ret
    exact ⟨rfl, rfl⟩
  have hd2 : decide (i ≥ (n : Int)) = false := by simp; omega
  have h2 : waitsB l i = true := (h.resolve_left h0).resolve_left h1
  have hw := Lib.hid (qwaits_any Q i)
  rw [h2] at hw
  clear Q h h2
  go_enter Tryd.func7, Tryd.ntmps7
  go_wp2_with (go_at_call 8; refine hw.out.mono ?_; rintro e w' ⟨rfl, rfl⟩)
  go_ret
  exact ⟨rfl, rfl⟩
theorem look_wd {w : World} {b k9 : Nat} {D : DataW Unit} {L : List Nat} (h0 : w.ownsMap Tryd.prog 3 (plainElem Tryd.prog 39) b k9 D) (hW : Words D L) {c k : Nat} (hb : Bit c k L) (hk : k < 9223372036854775808) : (Instr.lookup 38 (.map (some b)) (.int .i64 k) false).run Tryd.prog w = .ok (.int .u64 c) w := by
  obtain ⟨d, h1, h2, _⟩ := h0.lookup_int lawQ Tryd.underlying38 Tryd.underlying39 (zeroQU w) (keyOf_int_mk Tryd.underlying3 (a := (k : Int)) (WalkArith.wf_i64 (by omega)))
  have h3 := (hW.at hb).2
  have h4 : (wd c : DataW Unit) = .lit (.int .u64 d) := h3.symm.trans h2
  simp only [wd, DataW.lit.injEq, Lit.int.injEq, true_and] at h4
  rw [h1, h4]
theorem wf_u64Q {n : Nat} (h : n < 18446744073709551616) : (Lit.int .u64 (n : Int)).wf = true := by
  have h1 : IntKind.u64.min = 0 := by decide
  have h2 : IntKind.u64.max = 18446744073709551615 := by decide
  simp only [Lit.wf, h1, h2, Bool.and_eq_true, decide_eq_true_iff]
  omega
/-- Levels that were turned up to a level. -/
structure LvAt (w : World) (lb : Nat) (bs : List Nat) (L : Nat → List Nat) : Prop where
  lbl : lb < w.heap.size
  row : ∀ j b, bs[j]? = some b → w.cell? ⟨lb, j, none⟩ = some (.map (some b))
  maps : ∀ j b, bs[j]? = some b → ∃ D : DataW Unit, w.ownsMap Tryd.prog 3 (plainElem Tryd.prog 39) b (size D) D ∧ Words D (L j)
theorem QAt.lv (Q : QAt w qb lb cap bs n l pv ps taken) : LvAt w lb bs (fun j => up j l) := ⟨Q.lbl, Q.row, Q.maps⟩
theorem LvAt.kept {L : Nat → List Nat} {V : Nat → Prop} (Q : LvAt w lb bs L) (hT : Touch w w' V) (hl : ¬ V lb) (hb : ∀ k ∈ bs, ¬ V k) : LvAt w' lb bs L where
  lbl := Nat.lt_of_lt_of_le Q.lbl hT.size
  row := fun j b h => by
    rw [← Q.row j b h]
    unfold World.cell?
    rw [show w'.heap[lb]? = w.heap[lb]? from hT.block lb Q.lbl hl]
  maps := fun j b h => by
    obtain ⟨D, h1, h2⟩ := Q.maps j b h
    exact ⟨D, own_blockQ h1 (hT.block b h1.lt (hb _ (List.mem_of_getElem? h))), h2⟩
theorem LvAt.congr {L L' : Nat → List Nat} (Q : LvAt w lb bs L) (h : ∀ j, j < bs.length → ∀ y, y ∈ L j ↔ y ∈ L' j) : LvAt w lb bs L' :=
  ⟨Q.lbl, Q.row, fun j b hj => by obtain ⟨D, h1, h2⟩ := Q.maps j b hj; exact ⟨D, h1, h2.congr (h j (List.getElem?_eq_some_iff.1 hj).1)⟩⟩
/-- One level turned. -/
theorem LvAt.turn {L L' : Nat → List Nat} (Q : LvAt w lb bs L) (hn : bs.Nodup) {j b : Nat} (hj : bs[j]? = some b) (hbl : b ≠ lb) (hT : Touch w w' (fun k => k = b)) (hm : ∃ D : DataW Unit, w'.ownsMap Tryd.prog 3 (plainElem Tryd.prog 39) b (size D) D ∧ Words D (L' j)) (hL : ∀ i, i ≠ j → L' i = L i) : LvAt w' lb bs L' where
  lbl := Nat.lt_of_lt_of_le Q.lbl hT.size
  row := fun i c h => by
    rw [← Q.row i c h]
    unfold World.cell?
    rw [show w'.heap[lb]? = w.heap[lb]? from hT.block lb Q.lbl (fun e => hbl e.symm)]
  maps := fun i c h => by
    by_cases e : i = j
    · subst e
      rw [hj] at h
      cases h
      exact hm
    · obtain ⟨D, h1, h2⟩ := Q.maps i c h
      refine ⟨D, own_blockQ h1 (hT.block c h1.lt (fun ec => e ?_)), by rw [hL i e]; exact h2⟩
      obtain ⟨hi, ei⟩ := List.getElem?_eq_some_iff.1 h
      obtain ⟨hj', ej⟩ := List.getElem?_eq_some_iff.1 hj
      exact (List.getElem_inj hn).1 (ei.trans (ec.trans ej.symm))
/-- A queue whose struct and levels were turned. -/
theorem QAt.turned (Q : QAt w qb lb cap bs n l pv ps taken) {l' : List Nat} {pv' : Value} {ps' : List Int} {taken' : Nat} (hT : Touch w w' (fun k => k = qb ∨ k ∈ bs)) (hb : w'.heap[qb]? = some (.cells #[.int .i64 n, .slice (some ⟨lb, 0, none⟩) bs.length cap, pv', .int .i64 l'.length, .int .i64 taken'] 35 (0, 0)))
    (hL : LvAt w' lb bs (fun j => up j l')) (hr : l'.Pairwise (· < ·)) (hlt : ∀ x ∈ l', x < n) (hp : RdQ w' pv' ps') (hp2 : ∃ a c, pv' = .slice a ps'.length c ∧ ps'.length ≤ c) (hp3 : ∀ k, pBlk pv' k → k ≠ qb ∧ k ≠ lb ∧ k ∉ bs) : QAt w' qb lb cap bs n l' pv' ps' taken' :=
  ⟨hb, hL.lbl, hL.row, hL.maps, Q.nodup, Q.qlb, hr, hlt, Q.m1, Q.m3, Q.nle, hp, hp2, hp3⟩
set_option maxHeartbeats 2000000 in
theorem qadd_yes (Q : QAt w qb lb cap bs n l pv ps taken) {x : Nat} (hx : x < n) (h : x ∉ l) : Calls Tryd.prog 7 #[.pointer (some ⟨qb, 0, none⟩), .int .i64 x] w fun e w' => e = .returned (.bool true) ∧ QAt w' qb lb cap bs n (insQ l x) pv ps taken ∧ Touch w w' (fun k => k = qb ∨ k ∈ bs) := by
  have hn3 := Q.nle3
  have hll := Q.len
  have c0 : w.cell? ⟨qb, 0, none⟩ = some (.int .i64 n) := by rw [blk_cell Q.blk]; rfl
  have c3 : w.cell? ⟨qb, 3, none⟩ = some (.int .i64 l.length) := by rw [blk_cell Q.blk]; rfl
  have y3 : w.frozen? ⟨qb, 3, none⟩ = false := by simp [World.frozen?, Q.blk]
  have hd : decide ((x : Int) < 0) = false := by simp
  have hd2 : decide ((x : Int) ≥ (n : Int)) = false := by simp; omega
  have hd2n : decide (n ≤ x) = false := by simp; omega
  have hw : Hid (Calls Tryd.prog 8 #[.pointer (some ⟨qb, 0, none⟩), .int .i64 x] w fun e w' => e = .returned (.bool false) ∧ w' = w) := Lib.hid (by
    have h1 := qwaits_any Q (x : Int)
    rwa [show waitsB l x = false from by simp [waitsB, h]] at h1)
  obtain ⟨m, hm⟩ : ∃ m, m = bs.length := ⟨_, rfl⟩
  have hm3 : m ≤ 3 := by rw [hm]; exact Q.m3
  obtain ⟨len, hlen⟩ : ∃ len, len = l.length := ⟨_, rfl⟩
  have hbne := Lib.hid (fun b hb => Q.bne (b := b) hb)
  have hQ := Lib.hid Q
  rw [← hlen] at c3 hll
  replace hm := Lib.hid hm
  replace hlen := Lib.hid hlen
  replace h := Lib.hid h
  clear Q
  go_enter Tryd.func7, Tryd.ntmps7
  go_upto_region 4 with (go_at_call 8; refine hw.out.mono ?_; rintro e w' ⟨rfl, hw9⟩; obtain rfl := hw9.symm)
  have hb1 : (w.setCell ⟨qb, 3, none⟩ (.int .i64 ((len : Int) + 1))).heap[qb]? = some (.cells #[.int .i64 n, .slice (some ⟨lb, 0, none⟩) m cap, pv, .int .i64 ((len + 1 : Nat) : Int), .int .i64 taken] 35 (0, 0)) := by
    have := blk_set (i := 3) (.int .i64 ((len : Int) + 1)) hQ.out.blk
    rw [← hm.out] at this
    exact this
  have hT1 : Touch w (w.setCell ⟨qb, 3, none⟩ (.int .i64 ((len : Int) + 1))) (fun k => k = qb ∨ k ∈ bs) := (Touch.refl w (fun k => k = qb ∨ k ∈ bs)).setCell (a := ⟨qb, 3, none⟩) (fun _ => .inl rfl) _
  have hL1 : LvAt (w.setCell ⟨qb, 3, none⟩ (.int .i64 ((len : Int) + 1))) lb bs (fun j => up j l) := hQ.out.lv.kept (V := fun k => k = qb) ((Touch.refl w (fun k => k = qb)).setCell (a := ⟨qb, 3, none⟩) (fun _ => rfl) _) (fun e => hQ.out.qlb e.symm) (fun k hk e => (hbne.out k hk).1 e)
  generalize (w.setCell ⟨qb, 3, none⟩ (.int .i64 ((len : Int) + 1))) = w1 at hb1 hT1 hL1 ⊢
  have c1 : w1.cell? ⟨qb, 1, none⟩ = some (.slice (some ⟨lb, 0, none⟩) m cap) := by rw [blk_cell hb1]; rfl
  replace hb1 := Lib.hid hb1
  replace hT1 := Lib.hid hT1
  have hL1' : Hid (LvAt w1 lb bs (fun j => if j < 0 then up j (x :: l) else up j l)) := Lib.hid (by simpa using hL1)
  have fin : Hid (∀ w', w'.heap[qb]? = some (.cells #[.int .i64 n, .slice (some ⟨lb, 0, none⟩) m cap, pv, .int .i64 ((len + 1 : Nat) : Int), .int .i64 taken] 35 (0, 0)) → Touch w w' (fun k => k = qb ∨ k ∈ bs) → LvAt w' lb bs (fun j => up j (x :: l)) → QAt w' qb lb cap bs n (insQ l x) pv ps taken) := Lib.hid (fun w' k1 k2 k3 => by
    refine hQ.out.turned k2 (by rw [len_insQ hQ.out.rise h.out, ← hlen.out, ← hm.out]; exact k1) (k3.congr (fun j _ y => ?_)) (rise_insQ hQ.out.rise) (fun y hy => ?_) (rd_keptQ hQ.out.pics k2 (fun k hk hk2 => ?_)) hQ.out.pic hQ.out.pne
    · rw [mem_up, mem_up]
      exact ⟨fun ⟨u, hu, e⟩ => ⟨u, (mem_insQ h.out).2 (List.mem_cons.1 hu), e⟩, fun ⟨u, hu, e⟩ => ⟨u, List.mem_cons.2 ((mem_insQ h.out).1 hu), e⟩⟩
    · rcases (mem_insQ h.out).1 hy with rfl | hy
      · exact hx
      · exact hQ.out.lt y hy
    · have := hQ.out.pne k hk
      rcases hk2 with e | e
      · exact this.1 e
      · exact this.2.2 e)
  clear hw hL1 c0 c3 y3
  go_wp2_with fail
  clear c1
  go_loopw [1, 6, 7, 39] (fun i _ _ t wr => ∃ j y : Nat, j ≤ m ∧ t = .int .i64 j ∧ i = .int .i64 y ∧ Hid (y = x / 64 ^ j) ∧ y ≤ 262144 ∧ Hid (wr.heap[qb]? = some (.cells #[.int .i64 n, .slice (some ⟨lb, 0, none⟩) m cap, pv, .int .i64 ((len + 1 : Nat) : Int), .int .i64 taken] 35 (0, 0))) ∧ Hid (Touch w wr (fun k => k = qb ∨ k ∈ bs)) ∧ Hid (LvAt wr lb bs (fun i => if i < j then up i (x :: l) else up i l))) (fun _ _ _ t _ => m - (intOf t).toNat)
  case atStart => exact ⟨0, x, Nat.zero_le _, rfl, rfl, Lib.hid (by simp), by omega, hb1, hT1, hL1'⟩
  case round =>
    clear hb1 hT1 hL1'
    obtain ⟨j, y, hj, rfl, rfl, hy, hyl, hb1, hT1, hL1⟩ := hrel
    by_cases hlt : j < m
    · have j1 : decide ((j : Int) < (m : Int)) = true := by simpa using hlt
      have j2 : (j : Int) < (m : Int) := by omega
      obtain ⟨b, hb⟩ : ∃ b, bs[j]? = some b := ⟨_, List.getElem?_eq_getElem (by rw [← hm.out]; exact hlt)⟩
      have c6 : wr.cell? ⟨lb, j, none⟩ = some (.map (some b)) := hL1.out.row j b hb
      obtain ⟨D, hD, hW⟩ := hL1.out.maps j b hb
      rw [if_neg (Nat.lt_irrefl j)] at hW
      obtain ⟨c, hc, -, -⟩ := hW.word (y / 64)
      have hlk := look_wd hD hW hc (by omega)
      rw [Int.natCast_ediv, show ((64 : Nat) : Int) = 64 from rfl] at hlk
      have hkey : keyOf Tryd.prog 3 (.int .i64 ((y : Int) / 64)) = some (key (y / 64)) := by
        rw [show (y : Int) / 64 = ((y / 64 : Nat) : Int) by omega]
        exact keyOf_int_mk Tryd.underlying3 (a := ((y / 64 : Nat) : Int)) (WalkArith.wf_i64 (by omega))
      have hp : 2 ^ (y % 64) < 18446744073709551616 := Nat.pow_lt_pow_of_lt (by decide : 1 < 2) (show y % 64 < 64 by omega)
      have hor : bits BinOp.or IntKind.u64 (c : Int) (IntKind.u64.wrap (2 ^ (y % 64))) = ((c ||| 2 ^ (y % 64) : Nat) : Int) := by
        have e1 : ((2 : Int) ^ (y % 64)) = ((2 ^ (y % 64) : Nat) : Int) := by simp
        rw [e1, wrap_nat hp]
        exact u64_or_nat c _ hc.1 hp
      have hwf : (Lit.int .u64 ((c ||| 2 ^ (y % 64) : Nat) : Int)).wf = true := wf_u64Q (or_lt hc.1 hp)
      have hsz : size D ≤ 262144 := by
        have h1 := hW.size_le (hD.canon lawQ)
        unfold up at h1
        rw [List.length_map, ← hlen.out] at h1
        omega
      have hbm := hbne.out b (List.mem_of_getElem? hb)
      have hbit := hc
      rw [hy.out] at hbit
      have hW2 : Words (D.put (key (y / 64)) (wd (c ||| 2 ^ (y % 64)))) (up j (x :: l)) := by
        have h1 := bit_add hbit
        rw [← hy.out] at h1
        exact hW.put hD.isMap h1 (fun e => by
          have h2 : 2 ^ (y % 64) ≤ c ||| 2 ^ (y % 64) := Nat.right_le_or
          rw [e] at h2
          have := Nat.two_pow_pos (y % 64)
          omega) (fun k hk => up_other (by rw [← hy.out]; exact hk))
      replace hc := Lib.hid hc
      replace hW := Lib.hid hW
      replace hD := Lib.hid hD
      replace hW2 := Lib.hid hW2
      replace hbit := Lib.hid hbit
      replace hb := Lib.hid hb
      generalize c ||| 2 ^ (y % 64) = c2 at hor hwf hW2
      by_cases hc0 : c = 0
      · have z1 : ((c : Int) != 0) = false := by simp [hc0]
        have z2 : (c != 0) = false := by simp [hc0]
        replace hc0 := Lib.hid hc0
        go_wp2_with (at_mapUpdate; refine wpList_mapUpdate_in _ rfl _ _ _ 38 rfl 3 39 lawQ Tryd.underlying38 _ b (size D) D rfl hD.out (by unfold maxLen; omega) _ _ _ rfl rfl hkey _ [] (plainElem_int Tryd.underlying39 hwf) ?_; intro w3 hown3 hturn3)
        have hT3 : Touch wr w3 (fun k => k = b) := Touch.of_grown hturn3.grown (fun k e => (Option.some.inj e).symm)
        have hL3 : Hid (LvAt w3 lb bs (fun i => if i < j + 1 then up i (x :: l) else up i l)) := Lib.hid (hL1.out.turn hQ.out.nodup hb.out hbm.2 hT3 ⟨_, own_tightQ hown3, by rw [if_pos (Nat.lt_succ_self j)]; exact hW2.out⟩ (fun i hi => by
          by_cases e : i < j
          · rw [if_pos e, if_pos (by omega)]
          · rw [if_neg e, if_neg (by omega)]))
        have hT4 := Lib.hid (hT1.out.trans (hT3.mono (fun k _ e => .inr (by rw [e]; exact List.mem_of_getElem? hb.out))))
        have hb4 := Lib.hid ((hT3.block qb (Array.getElem?_eq_some_iff.1 hb1.out).1 (fun e => hbm.1 e.symm)).trans hb1.out)
        clear hown3 hturn3 hT3 hlk hor hwf hkey c6 hb1 hT1 hL1
        go_wp2_with fail
        exact ⟨⟨j + 1, y / 64, by omega, by go_num, by simp, Lib.hid (by rw [hy.out, div_next]), by omega, hb4, hT4, hL3⟩, by simp [intOf]; omega⟩
      · have z1 : ((c : Int) != 0) = true := by simp [hc0]
        have z2 : (c != 0) = true := by simp [hc0]
        replace hc0 := Lib.hid hc0
        go_wp2_with (at_mapUpdate; refine wpList_mapUpdate_in _ rfl _ _ _ 38 rfl 3 39 lawQ Tryd.underlying38 _ b (size D) D rfl hD.out (by unfold maxLen; omega) _ _ _ rfl rfl hkey _ [] (plainElem_int Tryd.underlying39 hwf) ?_; intro w3 hown3 hturn3)
        have hT3 : Touch wr w3 (fun k => k = b) := Touch.of_grown hturn3.grown (fun k e => (Option.some.inj e).symm)
        have hL3 : LvAt w3 lb bs (fun i => if i < j + 1 then up i (x :: l) else up i l) := hL1.out.turn hQ.out.nodup hb.out hbm.2 hT3 ⟨_, own_tightQ hown3, by rw [if_pos (Nat.lt_succ_self j)]; exact hW2.out⟩ (fun i hi => by
          by_cases e : i < j
          · rw [if_pos e, if_pos (by omega)]
          · rw [if_neg e, if_neg (by omega)])
        have hL4 : LvAt w3 lb bs (fun i => up i (x :: l)) := hL3.congr (fun i _ k => by
          by_cases e : i < j + 1
          · rw [if_pos e]
          · rw [if_neg e]
            exact (up_same hbit.out hc0.out (by omega)).symm)
        have hT4 := Lib.hid (hT1.out.trans (hT3.mono (fun k _ e => .inr (by rw [e]; exact List.mem_of_getElem? hb.out))))
        have hf := Lib.hid (fin.out w3 ((hT3.block qb (Array.getElem?_eq_some_iff.1 hb1.out).1 (fun e => hbm.1 e.symm)).trans hb1.out) hT4.out hL4)
        clear hown3 hturn3 hT3 hlk hor hwf hkey c6 hb1 hT1 hL1 hL3 hL4
        go_wp2_with fail
        go_ret
        exact ⟨rfl, hf.out, hT4.out⟩
    · obtain rfl : j = m := by omega
      have j1 : decide ((j : Int) < (j : Int)) = false := by simp
      have hL2 : LvAt wr lb bs (fun i => up i (x :: l)) := hL1.out.congr (fun i hi y => by rw [if_pos (by rw [hm.out]; exact hi)])
      have hf := Lib.hid (fin.out wr hb1.out hT1.out hL2)
      clear hL2
      go_wp2_with fail
      go_ret
      exact ⟨rfl, hf.out, hT1.out⟩
end
end Go.Proofs.YtcimhljnboeobaaDoor
