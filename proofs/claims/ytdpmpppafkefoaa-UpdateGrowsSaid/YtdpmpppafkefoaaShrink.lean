/- maps.Copy into a new map; shrink; Drop. -/
import Derived.Test.YtdpmpppafkefoaaIn
namespace Go.Proofs.Ytdpmpppafkefoaa
open Go.RowKit Go.Maps

section
variable {w w' : World} {sb bm b2 : Nat} {D : DataW Unit} {l : List Nat}

theorem mcopy (hown : w.ownsMap Try.prog 3 elemU bm (size D) D) (hout : w.ownsMap Try.prog 3 elemU b2 0 (.map [])) (hne : b2 ≠ bm) (hsz : size D ≤ 1000000) :
    Calls Try.prog 24 #[.map (some b2), .map (some bm)] w fun e w' => e = .returned (.tuple #[]) ∧ w'.ownsMap Try.prog 3 elemU b2 (size D) D ∧ Touch w w' (fun k => k = b2) := by
  have hlt := hown.lt
  have hlt2 := hout.lt
  go_enter Try.func24, Try.ntmps24
  go_wp2_with (first
    | (at_range; refine wpList_range_own _ rfl _ 43 rfl 3 46 law Try.underlying43 _ bm _ _ rfl hown ?_; intro w0 hrg0 hg0 hs0)
    | go_in)
  go_frame
  have ho0 := hout.kept hg0 (by simp)
  have ht0 : Touch w w0 (fun k => k = b2) := Touch.of_grown hg0 (fun k e => by cases e)
  generalize hr : w.heap.size = r at *
  go_loopw [4, 5] (fun _ _ wr => ∃ (left : Lit → Bool) (cnt : Nat) (Dout : DataW Unit), wr.ranges Try.prog 3 elemU bm r (size D) D left cnt ∧ cnt ≤ size D ∧
      wr.ownsMap Try.prog 3 elemU b2 (size D - cnt) Dout ∧ Agree Dout D left ∧ Touch w wr (fun k => k = b2))
    (fun _ _ wr => wr.rangeLeft bm r)
  case atStart =>
    exact ⟨_, _, .map [], hrg0, Nat.le_refl _, ho0.mono (Nat.zero_le _), agree_start D, ht0⟩
  case round =>
    obtain ⟨left, cnt, Dout, hrg, hcs, hout', hA, ht⟩ := hrel
    go_wp2_with (first
      | (at_next; refine wpList_next_ranges_ii _ rfl _ rfl 3 46 .i64 .u64 law Try.underlying3 Try.underlying46 bm r (size D) _ _ _ rfl hrg ?_ ?_)
      | go_in)
    · intro hc0 hl0
      have e := agree_end hA hl0 (hout'.canon law) (hown.canon law)
      subst hc0
      subst e
      rw [Nat.sub_zero] at hout'
      go_wp2
      go_end0
      exact ⟨rfl, hout', ht⟩
    · intro x c w1 cnt1 hwx hwc hlx hat hrg1 hlt1 hg1 hs1 hen
      have hout1 := hout'.kept hg1 (by simp; omega)
      go_wp2_with (first
        | (at_mapUpdate; refine wpList_mapUpdate_own _ rfl _ _ _ 43 rfl 3 46 law Try.underlying43 _ b2 _ _ rfl hout1 (by unfold maxLen; omega) _ _ _ rfl rfl (keyOf_int_mk Try.underlying3 hwx) _ [] (plainElem_int Try.underlying46 hwc) ?_; intro w2 hout2 hg2; go_frame)
        | go_in)
      have hrg2 := hrg1.kept hg2 (fun e => by have := Option.some.inj e; omega) (fun e => by have := Option.some.inj e; omega)
      go_roundw
      case rel =>
        exact ⟨_, cnt1, _, hrg2, by omega, hout2.mono (by omega), agree_step hA hout'.isMap trivial hat,
          (ht.next (Touch.of_grown (S := fun k => k = r) hg1 (fun k e => by simpa using e.symm)) (fun k e => Or.inl (by omega))).next (Touch.of_grown (S := fun k => k = b2) hg2 (fun k e => by simpa using e.symm)) (fun k e => Or.inr e)⟩
      case measure => rw [hrg2.left_eq, hrg.left_eq]; exact hlt1

theorem makeHint (n : Int) (w : World) : (Instr.makeMap 43 (some (.int .i64 n))).run Try.prog w = .ok (.map (some w.heap.size)) (w.alloc (.map #[] 0)) := by
  simp [Instr.makeMap, run_underlying Try.underlying43, asInt]
  rfl

theorem len_map (S : SetAt w sb bm D l) (n : Nat) (ty : TypeId) : (Builtin.len_ #[43] ty #[.map (some bm)]).run Try.prog (w.drewN n) = .ok (.int .i64 (size D)) (w.drewN n) :=
  (S.drewN n).map.len Try.underlying43 ty

/-- What a set's shrinking leaves: the same numbers. -/
def Shrunk (w w' : World) (sb bm : Nat) (l : List Nat) : Prop := ∃ bm' D', SetAt w' sb bm' D' l ∧ (bm' = bm ∨ w.heap.size ≤ bm') ∧ Touch w w' (Mine sb bm)

set_option maxHeartbeats 1000000 in
theorem shrink_any (S : SetAt w sb bm D l) (hlen : l.length ≤ 1000000) : Calls Try.prog 22 #[.pointer (some ⟨sb, 0, none⟩)] w fun e w' => e = .returned (.tuple #[]) ∧ Shrunk w w' sb bm l := by
  obtain ⟨mo, hbl⟩ := S.blk
  have c0 : w.cell? ⟨sb, 0, none⟩ = some (.map (some bm)) := blk_cell hbl 0
  have c2 : w.cell? ⟨sb, 2, none⟩ = some (.int .i64 mo) := blk_cell hbl 2
  have hlm := len_map S
  by_cases h1 : mo < 64
  · have hd : decide (mo < 64) = true := decide_eq_true h1
    clear h1
    go_enter Try.func22, Try.ntmps22
    go_wp2
    go_quiet (fail)
    go_wp2
    refine bodyPost_ret (results_none rfl _ _ _) rfl ?_
    exact ⟨rfl, bm, D, S.drewN _, Or.inl rfl, Touch.drewN _ _ _⟩
  · have hd : decide (mo < 64) = false := decide_eq_false h1
    by_cases h2 : wrap64 (mo.tdiv 4) < (size D : Int)
    · have hd2 : decide (wrap64 (mo.tdiv 4) < (size D : Int)) = true := decide_eq_true h2
      go_enter Try.func22, Try.ntmps22
      go_wp2
      go_quiet (fail)
      go_wp2
      refine bodyPost_ret (results_none rfl _ _ _) rfl ?_
      exact ⟨rfl, bm, D, S.drewN _, Or.inl rfl, Touch.drewN _ _ _⟩
    · have hd2 : decide (wrap64 (mo.tdiv 4) < (size D : Int)) = false := decide_eq_false h2
      have hmk := makeHint
      go_enter Try.func22, Try.ntmps22
      go_wp2
      go_quiet (fail)
      have S0 := S.drewN nq
      have ht0 := Touch.drewN w nq (Mine sb bm)
      have hsz : Hid ((w.drewN nq).heap.size = w.heap.size) := Lib.hid rfl
      clear hlm hbl c0 c2 hd hd2 h1 h2
      generalize w.drewN nq = w0 at S0 ht0 hsz ⊢
      obtain ⟨mo0, hb0⟩ := S0.blk
      have hss := S0.lts
      have hsm := S0.ltm
      have c0 : w0.cell? ⟨sb, 0, none⟩ = some (.map (some bm)) := blk_cell hb0 0
      have c1 : (w0.alloc (.map #[] 0)).cell? ⟨sb, 0, none⟩ = some (.map (some bm)) := by rw [World.cell?_alloc_past _ _ _ hss]; exact c0
      have hl0 := fun ty => S0.map.len Try.underlying43 ty
      have hcp := Lib.hid (mcopy (w := w0.alloc (.map #[] 0)) (S0.map.alloc _) (World.ownsMap_made w0 Try.prog 3 elemU) (by omega) (Nat.le_trans S0.size_le hlen))
      have hss1 : sb ≠ w0.heap.size := by omega
      have hs0 : Hid (w.heap.size ≤ w0.heap.size) := Lib.hid (by have := hsz.out; omega)
      have hbk : ∀ w1, Touch (w0.alloc (.map #[] 0)) w1 (fun k => k = w0.heap.size) → w1.heap[sb]? = some (.cells #[.map (some bm), .int .i64 l.length, .int .i64 mo0] 45 (0, 0)) := fun w1 ht1 => by
        rw [ht1.block sb (by simp; omega) hss1, Below.heap_alloc _ _ _ hss]; exact hb0
      go_wp2_with (go_at_call 24; refine hcp.out.mono ?_; rintro e w1 ⟨rfl, hown1, ht1⟩; have hb1 := hbk w1 ht1; have d0 : w1.cell? ⟨sb, 0, none⟩ = some (.map (some bm)) := blk_cell hb1 0; have d2 : w1.cell? ⟨sb, 2, none⟩ = some (.int .i64 mo0) := blk_cell hb1 2; have f0 : w1.frozen? ⟨sb, 0, none⟩ = false := (by simp [World.frozen?, hb1]); have f2 : w1.frozen? ⟨sb, 2, none⟩ = false := (by simp [World.frozen?, hb1]); have hl1 := hown1.len Try.underlying43; clear hl0 hcp)
      have ht3 : Touch w0 w1 (fun k => k = w0.heap.size) := ((Touch.refl w0 _).alloc (.map #[] 0)).trans ht1
      have hb2 := blk_set (i := 0) (.map (some w0.heap.size)) hb1
      have hb3 := blk_set (i := 2) (.int .i64 (size D)) hb2
      have hown3 := (hown1.setCell (a := ⟨sb, 0, none⟩) (fun e => hss1 e.symm) (.map (some w0.heap.size))).setCell (a := ⟨sb, 2, none⟩) (fun e => hss1 e.symm) (.int .i64 (size D))
      clear hown1 hl1 d0 d2 f0 f2 hmk c0 c1
      go_end0
      refine ⟨rfl, w0.heap.size, D, ⟨⟨_, hb3⟩, hown3, S.words, S.nodup, S.small⟩, Or.inr hs0.out, ?_⟩
      exact ((ht0.next ht3 (fun k e => Or.inl (by have := hs0.out; omega))).setCell (a := ⟨sb, 0, none⟩) (fun _ => Or.inl rfl) _).setCell (a := ⟨sb, 2, none⟩) (fun _ => Or.inl rfl) _

theorem drop_nil (i : Int) (w : World) : Calls Try.prog 15 #[.pointer none, .int .i64 i] w fun e w' => e = .returned (.bool false) ∧ w' = w := by
  have hh := Lib.hid (has_nil i w)
  go_enter Try.func15, Try.ntmps15
  go_wp2_with (go_at_call 19; refine hh.out.mono ?_; rintro e w' ⟨rfl, rfl⟩)
  go_ret
  exact ⟨rfl, rfl⟩

theorem drop_out (S : SetAt w sb bm D l) {i : Int} (hi : i < 9223372036854775808) (h : ∀ n ∈ l, (n : Int) ≠ i) : Calls Try.prog 15 #[.pointer (some ⟨sb, 0, none⟩), .int .i64 i] w fun e w' => e = .returned (.bool false) ∧ w' = w := by
  have hh : Calls Try.prog 19 #[.pointer (some ⟨sb, 0, none⟩), .int .i64 i] w fun e w' => e = .returned (.bool false) ∧ w' = w := by
    by_cases h0 : 0 ≤ i
    · obtain ⟨n, rfl⟩ := Int.eq_ofNat_of_zero_le h0
      have := has_any S (i := n) (by omega)
      rwa [decide_eq_false (fun hn => h n hn rfl)] at this
    · exact has_less (by omega) _
  replace hh := Lib.hid hh
  clear S h
  go_enter Try.func15, Try.ntmps15
  go_wp2_with (go_at_call 19; refine hh.out.mono ?_; rintro e w' ⟨rfl, rfl⟩)
  go_ret
  exact ⟨rfl, rfl⟩

theorem Bit.drop {c i : Nat} (h : Bit c (i / 64) l) (hn : l.Nodup) : Bit (c &&& (18446744073709551615 - 2 ^ (i % 64))) (i / 64) (l.erase i) := by
  have hp : 2 ^ (i % 64) < 18446744073709551616 := Nat.pow_lt_pow_of_lt (by decide : 1 < 2) (show i % 64 < 64 by omega)
  refine ⟨less_lt h.1, fun j hj => ?_⟩
  rw [tb_less hp hj, Bool.and_eq_true, h.2 j hj, Nat.testBit_two_pow, hn.mem_erase_iff]
  by_cases e : i % 64 = j
  · have : 64 * (i / 64) + j = i := by omega
    simp [e, this]
  · have : 64 * (i / 64) + j ≠ i := by omega
    simp [e, this]

theorem look_own {n : Nat} (h : w.ownsMap Try.prog 3 elemU bm n D) {c k : Nat} (ha : D.atKey (key k) (wd 0) = wd c) (hk : k < 9223372036854775808) : (Instr.lookup 43 (.map (some bm)) (.int .i64 k) false).run Try.prog w = .ok (.int .u64 c) w := by
  obtain ⟨d, h1, h2, _⟩ := h.lookup_int law Try.underlying43 Try.underlying46 (zeroU w) (keyOf_int_mk Try.underlying3 (a := (k : Int)) (WalkArith.wf_i64 (by omega)))
  have h4 : (wd c : DataW Unit) = .lit (.int .u64 d) := ha.symm.trans h2
  simp only [wd, DataW.lit.injEq, Lit.int.injEq, true_and] at h4
  rw [h1, h4]

theorem drop_set (S : SetAt w sb bm D l) {i : Nat} (h : i ∈ l) {n : Nat} {mo : Int} {D' : DataW Unit} (hb : w'.heap[sb]? = some (.cells (#[.map (some bm), .int .i64 l.length, .int .i64 mo].setIfInBounds 1 (.int .i64 ((l.length : Int) - 1))) 45 (0, 0)))
    (hown : w'.ownsMap Try.prog 3 elemU bm n D') (hW : Words D' (l.erase i)) : SetAt w' sb bm D' (l.erase i) := by
  have h1 := List.length_pos_of_mem h
  have h2 : (((l.erase i).length : Nat) : Int) = (l.length : Int) - 1 := by rw [List.length_erase_of_mem h]; omega
  exact ⟨⟨mo, by rw [h2]; exact hb⟩, size_own hown, hW, S.nodup.erase _, fun n hn => S.small n (List.mem_of_mem_erase hn)⟩

theorem erase_other {i n : Nat} (hn : l.Nodup) (h : n / 64 ≠ i / 64) : n ∈ l.erase i ↔ n ∈ l := by
  rw [hn.mem_erase_iff]
  have : n ≠ i := fun e => h (by rw [e])
  simp [this]

set_option maxHeartbeats 1000000 in
theorem drop_in (S : SetAt w sb bm D l) {i : Nat} (hi : i < 9223372036854775808) (h : i ∈ l) (hlen : l.length ≤ 1000000) : Calls Try.prog 15 #[.pointer (some ⟨sb, 0, none⟩), .int .i64 i] w fun e w' => e = .returned (.bool true) ∧ Shrunk w w' sb bm (l.erase i) := by
  have hh := has_any S hi
  rw [decide_eq_true h] at hh
  replace hh := Lib.hid hh
  obtain ⟨mo, hbl⟩ := S.blk
  have c1 : w.cell? ⟨sb, 1, none⟩ = some (.int .i64 l.length) := blk_cell hbl 1
  have f1 : w.frozen? ⟨sb, 1, none⟩ = false := by simp [World.frozen?, hbl]
  obtain ⟨c, hb, -, -⟩ := S.words.word (i / 64)
  have hbd := hb.drop S.nodup
  have hj : i % 64 < 64 := by omega
  have hp : 2 ^ (i % 64) < 18446744073709551616 := Nat.pow_lt_pow_of_lt (by decide : 1 < 2) hj
  have hlp := List.length_pos_of_mem h
  have hle := List.length_erase_of_mem h
  have hz : bits BinOp.andNot IntKind.u64 (c : Int) ((2 ^ (i % 64) : Nat) : Int) = ((c &&& (18446744073709551615 - 2 ^ (i % 64)) : Nat) : Int) := u64_andNot_nat c _ hb.1 hp
  have hshl : ∀ w : World, (Op.shift BinOp.shl IntKind.u64 1 IntKind.i64 ((i : Int).tmod 64)).run Try.prog w = .ok (.int .u64 ((2 ^ (i % 64) : Nat) : Int)) w := fun w => by
    have e1 : (i : Int).tmod 64 = ((i % 64 : Nat) : Int) := by
      rw [Int.tmod_eq_emod_of_nonneg (by omega)]; omega
    rw [e1, shift_shl_any _ _ _ _ (by omega), Int.toNat_natCast]
    have e2 : min (i % 64) IntKind.u64.bits = i % 64 := Nat.min_eq_left (Nat.le_of_lt hj)
    have h1 : ((2 : Int) ^ (i % 64)) = ((2 ^ (i % 64) : Nat) : Int) := by simp
    rw [e2, Int.one_mul, h1, wrap_nat hp]
    rfl
  generalize c &&& (18446744073709551615 - 2 ^ (i % 64)) = z at hbd hz
  generalize 2 ^ (i % 64) = p at hz hshl
  go_enter Try.func15, Try.ntmps15
  go_wp2_with (go_at_call 19; refine hh.out.mono ?_; rintro e w' ⟨rfl, hw⟩; obtain rfl := hw.symm)
  have hss := S.lts
  have hsm := S.ltm
  have hne := S.ne
  have hown1 := S.map.setCell (a := ⟨sb, 1, none⟩) (fun e => hne e.symm) (.int .i64 ((l.length : Int) - 1))
  have hb1 := blk_set (i := 1) (.int .i64 ((l.length : Int) - 1)) hbl
  have ht1 : Touch w (w.setCell ⟨sb, 1, none⟩ (.int .i64 ((l.length : Int) - 1))) (Mine sb bm) := (Touch.refl w (Mine sb bm)).setCell (a := ⟨sb, 1, none⟩) (fun _ => Or.inl rfl) _
  clear c1 f1 hh hp
  generalize w.setCell ⟨sb, 1, none⟩ (.int .i64 ((l.length : Int) - 1)) = w1 at hown1 hb1 ht1 ⊢
  have hk : i / 64 < 9223372036854775808 := by omega
  have hlook := look_own hown1.drew (S.words.at hb).2 hk
  have hcast : ((i / 64 : Nat) : Int) = (i : Int) / 64 := by rw [Int.natCast_ediv]; rfl
  have hkey : keyOf Try.prog 3 (.int .i64 ((i / 64 : Nat) : Int)) = some (key (i / 64)) := keyOf_int_mk Try.underlying3 (a := ((i / 64 : Nat) : Int)) (WalkArith.wf_i64 (by omega))
  rw [hcast] at hlook hkey
  have d0 : w1.drew.cell? ⟨sb, 0, none⟩ = some (.map (some bm)) := blk_cell (w := w1.drew) hb1 0
  have hsz := S.size_le
  have hzl := hbd.1
  refine wp_tail 10 (by kernel_rfl) (by kernel_rfl) ?_
  simp only [List.take_succ_cons, List.take_zero, List.drop_succ_cons, List.drop_zero]
  repeat still_step
  refine wpStill_nil ?_
  have hown1' := hown1.drew
  have hz2 : ∀ w2 : World, w2.ownsMap Try.prog 3 elemU bm (size D + 1) (D.put (key (i / 64)) (wd z)) → (Instr.lookup 43 (.map (some bm)) (.int .i64 ((i : Int) / 64)) false).run Try.prog w2 = .ok (.int .u64 z) w2 := fun w2 h => by
    rw [← hcast]
    exact look_own h (atKey_put_same S.map.isMap (key_lit _) _ _) hk
  have hbk : ∀ w2, w1.drew.grownBy w2 (some bm) → w2.heap[sb]? = _ := fun w2 h => (h.block sb (Nat.lt_of_lt_of_le hss ht1.size) (fun e => hne (by injection e))).trans hb1
  clear hlook d0 hcast hz
  by_cases hz0 : z = 0
  · have hw3 := fun d => S.words.putdel (D := D) d (hz0 ▸ hbd) (fun n hn => erase_other S.nodup hn)
    have hle1 : (l.erase i).length ≤ 1000000 := by omega
    have hss2 : ∀ {w2 : World}, w1.drew.grownBy w2 (some bm) → sb < w2.heap.size := fun h => Nat.lt_of_lt_of_le hss (Nat.le_trans ht1.size h.size)
    have hzi : ((z : Int) == 0) = true := by simp [hz0]
    go_wp2_with (first
      | (at_mapUpdate; refine wpList_mapUpdate_own _ rfl _ _ _ 43 rfl 3 46 law Try.underlying43 _ bm _ D rfl hown1' (by unfold maxLen; omega) _ _ _ rfl rfl hkey _ [] (plainElem_int Try.underlying46 (wf_u64 hzl)) ?_; intro w2 hown2 hg2; have hb2 := hbk w2 hg2; have e0 : w2.cell? ⟨sb, 0, none⟩ = some (.map (some bm)) := blk_cell hb2 0; have hlk := hz2 w2 hown2; clear hbk hown1' hown1)
      | (at_delete; refine wpList_delete_own _ rfl _ _ 43 3 rfl 46 law Try.underlying43 _ bm _ _ rfl hown2 _ _ rfl hkey ?_; intro w3 hown3 hturn3; have hb3 := (hturn3.grown.block sb (hss2 hg2) (fun e => hne (by injection e))).trans hb2; have S3 := drop_set S h hb3 hown3 (hw3 _); have hsh := Lib.hid (shrink_any S3 hle1))
      | (go_at_call 22; refine hsh.out.mono ?_; rintro e w4 ⟨rfl, bm4, D4, S4, hb4, ht4⟩)
      | go_in)
    have ht3 : Touch w w3 (Mine sb bm) := ((ht1.trans ((Touch.refl w1 _).drew)).trans (Touch.of_grown hg2 (fun b e => Or.inr (by simpa using e.symm)))).trans (Touch.of_grown hturn3.grown (fun b e => Or.inr (by simpa using e.symm)))
    clear hz2 hlk hown2 hown3 hsh hb1 hb2 hb3 e0 hw3 hbd hshl
    go_ret
    exact ⟨rfl, bm4, D4, S4, hb4.imp id (fun h => Nat.le_trans ht3.size h), ht3.trans ht4⟩
  · have hzi : ((z : Int) == 0) = false := by simp; omega
    go_wp2_with (first
      | (at_mapUpdate; refine wpList_mapUpdate_own _ rfl _ _ _ 43 rfl 3 46 law Try.underlying43 _ bm _ D rfl hown1' (by unfold maxLen; omega) _ _ _ rfl rfl hkey _ [] (plainElem_int Try.underlying46 (wf_u64 hzl)) ?_; intro w2 hown2 hg2; have hb2 := hbk w2 hg2; have e0 : w2.cell? ⟨sb, 0, none⟩ = some (.map (some bm)) := blk_cell hb2 0; have hlk := hz2 w2 hown2; clear hbk hown1' hown1)
      | go_in)
    have S2 := drop_set S h hb2 hown2 (S.words.put S.map.isMap hbd hz0 (fun n hn => erase_other S.nodup hn))
    have ht2 : Touch w w2 (Mine sb bm) := (ht1.trans ((Touch.refl w1 _).drew)).trans (Touch.of_grown hg2 (fun b e => Or.inr (by simpa using e.symm)))
    clear hz2 hlk hown2 hb1 hb2 e0 hbd hshl
    go_ret
    exact ⟨rfl, bm, _, S2, Or.inl rfl, ht2⟩

/-- A list without a number. -/
def lessN (l : List Nat) (i : Int) : List Nat := if 0 ≤ i then l.erase i.toNat else l

theorem drop_any (S : SetAt w sb bm D l) {i : Int} (hi : i < 9223372036854775808) (hlen : l.length ≤ 1000000) : Calls Try.prog 15 #[.pointer (some ⟨sb, 0, none⟩), .int .i64 i] w fun e w' =>
    e = .returned (.bool (decide (0 ≤ i ∧ i.toNat ∈ l))) ∧ Shrunk w w' sb bm (lessN l i) := by
  by_cases h : 0 ≤ i ∧ i.toNat ∈ l
  · obtain ⟨h0, h1⟩ := h
    obtain ⟨n, rfl⟩ := Int.eq_ofNat_of_zero_le h0
    refine (drop_in S (i := n) (by omega) h1 hlen).mono ?_
    rintro e w' ⟨rfl, hS⟩
    have h2 : (0 ≤ (n : Int) ∧ (n : Int).toNat ∈ l) := ⟨h0, h1⟩
    exact ⟨by rw [decide_eq_true h2], by unfold lessN; rw [if_pos h0]; exact hS⟩
  · refine (drop_out S hi (fun n hn e => h ⟨by omega, by rw [← e]; exact hn⟩)).mono ?_
    rintro e w' ⟨rfl, rfl⟩
    refine ⟨by rw [decide_eq_false h], bm, D, ?_, Or.inl rfl, Touch.refl _ _⟩
    unfold lessN
    split
    · rename_i h0
      rw [List.erase_of_not_mem (fun hn => h ⟨h0, hn⟩)]
      exact S
    · exact S
end
end Go.Proofs.Ytdpmpppafkefoaa
