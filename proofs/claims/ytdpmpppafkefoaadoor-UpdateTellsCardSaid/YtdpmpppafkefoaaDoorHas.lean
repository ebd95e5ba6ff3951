/- Has, put. -/
import Derived.Test.YtdpmpppafkefoaaDoorSet
import Derived.StillTailTactics
namespace Go.Proofs.YtdpmpppafkefoaaDoor
open Go.RowKit Go.Maps
theorem wp_tail {P : Program} {id : Nat} {Q : Exit → Act → World → Prop} {a : Act} {w : World} {l : List Oper} (n : Nat) (hm : P.follows .mixedOrders = true) (hB : Region.lexTailB .any l.toArray n = true)
    (h : wpStill P l.toArray w.drew (fun a' => wpList P l.toArray Q (l.drop n) a' w.drew) (l.take n) a) : (Code.region id l.toArray true).wp P Q a w :=
  wp_region_still_tail n hm hB h

section
variable {w w' : World} {sb bm : Nat} {D : DataW Unit} {l l' : List Nat}

theorem has_nil (i : Int) (w : World) : Calls Tryd.prog 18 #[.pointer none, .int .i64 i] w fun e w' => e = .returned (.bool false) ∧ w' = w := by
  go_enter Tryd.func18, Tryd.ntmps18
  go_wp2
  go_ret
  exact ⟨rfl, rfl⟩

theorem has_less {i : Int} (hi : i < 0) (a : Addr) : Calls Tryd.prog 18 #[.pointer (some a), .int .i64 i] w fun e w' => e = .returned (.bool false) ∧ w' = w := by
  have hd : decide (i ≥ 0) = false := by simp; omega
  go_enter Tryd.func18, Tryd.ntmps18
  go_wp2
  go_ret
  exact ⟨rfl, rfl⟩

theorem has_any (S : SetAt w sb bm D l) {i : Nat} (hi : i < 9223372036854775808) : Calls Tryd.prog 18 #[.pointer (some ⟨sb, 0, none⟩), .int .i64 i] w fun e w' => e = .returned (.bool (decide (i ∈ l))) ∧ w' = w := by
  obtain ⟨mo, hbl⟩ := S.blk
  have c0 : w.cell? ⟨sb, 0, none⟩ = some (.map (some bm)) := blk_cell hbl 0
  obtain ⟨c, hb, -, -⟩ := S.words.word (i / 64)
  have hl := S.look hb (by omega)
  rw [Int.natCast_ediv, show ((64 : Nat) : Int) = 64 from rfl] at hl
  have hd : decide ((i : Int) ≥ 0) = true := by simp
  have hq : (bits BinOp.and IntKind.u64 ((c : Int) / 2 ^ (i % 64)) 1 == 1) = decide (i ∈ l) := by
    have h1 : (c : Int) / 2 ^ (i % 64) = ((c / 2 ^ (i % 64) : Nat) : Int) := by simp
    have h2 := hb.1
    have h3 : c / 2 ^ (i % 64) < 18446744073709551616 := Nat.lt_of_le_of_lt (Nat.div_le_self _ _) h2
    have h4 := hb.2 (i % 64) (by omega)
    rw [Nat.div_add_mod, Nat.testBit_eq_decide_div_mod_eq, decide_eq_true_iff] at h4
    rw [h1, show (1 : Int) = ((1 : Nat) : Int) from rfl, and_nat h3 (by decide), nat_mask1, Bool.eq_iff_iff, beq_iff_eq, decide_eq_true_iff, ← h4]
    omega
  clear hb S hbl
  go_enter Tryd.func18, Tryd.ntmps18
  go_wp2
  go_ret
  exact ⟨rfl, rfl⟩

theorem wf_u64 {n : Nat} (h : n < 18446744073709551616) : (Lit.int .u64 (n : Int)).wf = true := by
  have h1 : IntKind.u64.min = 0 := by decide
  have h2 : IntKind.u64.max = 18446744073709551615 := by decide
  simp only [Lit.wf, h1, h2, Bool.and_eq_true, decide_eq_true_iff]
  omega

theorem put_end (S : SetAt w sb bm D l) {c k m : Nat} {new : List Nat} {w2 : World} {mo : Int} (hb : Bit c k (l ++ new)) (hc : c ≠ 0) (hn : (l ++ new).Nodup) (hk : k < 144115188075855872) (hnew : ∀ n ∈ new, n / 64 = k) (hm : new.length = m)
    (h2 : w2.heap[sb]? = some (.cells (#[.map (some bm), .int .i64 l.length, .int .i64 mo].setIfInBounds 1 (.int .i64 ((l.length : Int) + (m : Int)))) 50 (0, 0)))
    (hown : w2.ownsMap Tryd.prog 3 elemU bm (size D + 1) (D.put (key k) (wd c))) (mo' : Int) : SetAt (w2.setCell ⟨sb, 2, none⟩ (.int .i64 mo')).drew.drew sb bm (D.put (key k) (wd c)) (l ++ new) := by
  refine ⟨⟨mo', ?_⟩, size_own (World.ownsMap.drew (World.ownsMap.drew (hown.setCell (a := ⟨sb, 2, none⟩) (fun e => S.ne e.symm) _))), S.words.put S.map.isMap hb hc (fun n hne => ?_), hn, fun n h => ?_⟩
  · have := blk_set (i := 2) (.int .i64 mo') h2
    rw [List.length_append, hm, Int.natCast_add]
    exact this
  · rw [List.mem_append]
    exact ⟨fun h => h.elim id (fun h => absurd (hnew n h) hne), Or.inl⟩
  · rcases List.mem_append.1 h with h | h
    · exact S.small n h
    · have := hnew n h
      omega

set_option maxHeartbeats 600000 in
theorem put_any (S : SetAt w sb bm D l) {c k v : Nat} (hb : Bit c k l) (hk : k < 144115188075855872) (hv : v < 18446744073709551616) (h0 : v ≠ 0) (hlen : l.length ≤ 1000000) :
    Calls Tryd.prog 25 #[.pointer (some ⟨sb, 0, none⟩), .int .i64 k, .int .u64 v] w fun e w' => e = .returned (.tuple #[]) ∧
      (∃ D', SetAt w' sb bm D' (l ++ nums k (v &&& (18446744073709551615 - c)))) ∧ Touch w w' (Mine sb bm) := by
  obtain ⟨mo, hbl⟩ := S.blk
  have c0 : w.cell? ⟨sb, 0, none⟩ = some (.map (some bm)) := blk_cell hbl 0
  have hlook := S.look hb (by omega)
  have hown := S.map
  have hsz := S.size_le
  have hkey : keyOf Tryd.prog 3 (.int .i64 (k : Int)) = some (key k) := keyOf_int_mk Tryd.underlying3 (a := (k : Int)) (WalkArith.wf_i64 (by omega))
  have hor : bits BinOp.or IntKind.u64 (c : Int) (v : Int) = ((c ||| v : Nat) : Int) := u64_or_nat c v hb.1 hv
  have hwf : (Lit.int .u64 ((c ||| v : Nat) : Int)).wf = true := wf_u64 (or_lt hb.1 hv)
  have hless : bits BinOp.andNot IntKind.u64 (v : Int) (c : Int) = ((v &&& (18446744073709551615 - c) : Nat) : Int) := u64_andNot_nat v c hv hb.1
  have heq := fun (w : World) (r : Option Nat) => run_eql_map_nil (P := Tryd.prog) w 48 3 55 r Tryd.underlying48
  have hdl : v &&& (18446744073709551615 - c) < 18446744073709551616 := less_lt hv
  have hn := nodup_put (v := v) hb S.nodup
  have hbit := hb.put hv
  obtain ⟨d, hd⟩ : ∃ d, d = v &&& (18446744073709551615 - c) := ⟨_, rfl⟩
  rw [← hd] at hless hdl hn hbit ⊢
  have hc0 : c ||| v ≠ 0 := fun e => h0 (Nat.le_zero.1 (e ▸ Nat.right_le_or))
  clear hd
  replace hbit := Lib.hid hbit
  replace hn := Lib.hid hn
  replace hc0 := Lib.hid hc0
  go_enter Tryd.func25, Tryd.ntmps25
  go_wp2_with (first
    | (at_mapUpdate; refine wpList_mapUpdate_own _ rfl _ _ _ 48 rfl 3 55 law Tryd.underlying48 _ bm _ D rfl hown ?_ _ _ _ rfl rfl hkey _ [] (plainElem_int Tryd.underlying55 hwf) ?_)
    | go_in)
  · unfold maxLen; omega
  intro w1 hown1 hgrow1
  have hb1 : w1.heap[sb]? = some (.cells #[.map (some bm), .int .i64 l.length, .int .i64 mo] 50 (0, 0)) := by
    rw [hgrow1.block sb S.lts (fun e => S.ne (by simpa using e))]; exact hbl
  have c1 : w1.cell? ⟨sb, 1, none⟩ = some (.int .i64 l.length) := blk_cell hb1 1
  have f1 : w1.frozen? ⟨sb, 1, none⟩ = false := by simp [World.frozen?, hb1]
  have cO := ones d hdl w1.drew
  replace cO := Lib.hid cO
  have hcnt := cnt_le d
  clear hlook hown heq hbl c0 hkey hor hwf
  go_wp2_with fail
  refine wp_tail 11 (by kernel_rfl) (by kernel_rfl) ?_
  simp only [List.take_succ_cons, List.take_zero, List.drop_succ_cons, List.drop_zero]
  repeat still_step
  still_call cO.out
  repeat still_step
  refine wpStill_nil ?_
  go_wp2_with fail
  have ht1 : Touch w w1 (Mine sb bm) := Touch.of_grown hgrow1 (fun b e => Or.inr (by simpa using e.symm))
  have hown2 := hown1.setCell (a := ⟨sb, 1, none⟩) (fun e => S.ne e.symm) (.int .i64 ((l.length : Int) + (cnt 64 d : Int)))
  have hb2 := blk_set (i := 1) (.int .i64 ((l.length : Int) + (cnt 64 d : Int))) hb1
  have ht2 : Touch w (w1.setCell ⟨sb, 1, none⟩ (.int .i64 ((l.length : Int) + (cnt 64 d : Int)))) (Mine sb bm) := ht1.setCell (a := ⟨sb, 1, none⟩) (fun _ => Or.inl rfl) _
  generalize w1.setCell ⟨sb, 1, none⟩ (.int .i64 ((l.length : Int) + (cnt 64 d : Int))) = w2 at hown2 hb2 ht2 ⊢
  have hl2 := fun ty => (World.ownsMap.drew (World.ownsMap.drew hown2)).len Tryd.underlying48 ty
  have g0 : w2.drew.drew.cell? ⟨sb, 0, none⟩ = some (.map (some bm)) := blk_cell (w := w2.drew.drew) hb2 0
  have g2 : w2.drew.drew.cell? ⟨sb, 2, none⟩ = some (.int .i64 mo) := blk_cell (w := w2.drew.drew) hb2 2
  have k2 : w2.drew.frozen? ⟨sb, 2, none⟩ = false := by rw [World.frozen?_drew]; simp [World.frozen?, hb2]
  clear c1 f1 hb1 hown1 hgrow1 cO
  refine wp_tail 13 (by kernel_rfl) (by kernel_rfl) ?_
  simp only [List.take_succ_cons, List.take_zero, List.drop_succ_cons, List.drop_zero]
  repeat still_step
  refine wpStill_nil ?_
  clear hl2
  go_wp2_with fail
  all_goals
    go_end0
    refine ⟨rfl, ⟨D.put (key k) (wd (c ||| v)), ?_⟩, ?_⟩
    · exact put_end S hbit.out hc0.out hn.out hk (fun n hn => (mem_nums.1 hn).1) (by rw [len_nums]) hb2 hown2 _
    · exact (ht2.setCell (a := ⟨sb, 2, none⟩) (fun _ => Or.inl rfl) _).drew.drew
end
end Go.Proofs.YtdpmpppafkefoaaDoor
