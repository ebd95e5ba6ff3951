/- Queues: New's levels. -/
import Derived.Test.YtcimhljnboeobaaDoorQNew
import Derived.Deep.AppendLies
import Derived.Test.YtcimhljnboeobaaDoorFindB
namespace Go.Proofs.YtcimhljnboeobaaDoor
open Go.RowKit Go.Maps

set_option maxRecDepth 20000 in
set_option maxHeartbeats 2000000 in
theorem qnew_loop {c : Code} (hc : Func.blockOf Tryd.f11 0 = some c) {Q : Exit → Act → World → Prop} {w : World} {qb N : Nat} {pv : Value} {u0 u1 u2 u3 u4 u5 u8 u9 u10 u11 u12 u13 u14 u15 u16 u17 u18 u19 u20 u21 u22 u23 u24 u25 u26 u27 u28 u29 u30 u31 u32 u33 u34 u35 u36 u37 u38 u39 : Value}
    (hq : w.heap[qb]? = some (.cells #[.int .i64 N, .slice none 0 0, pv, .int .i64 0, .int .i64 0] 35 (0, 0))) (hN : N ≤ 262144)
    (hQ : Hid (∀ {wx : World} {v7 v25 v26 v27 v28 v29 v30 v31 v32 v33 v34 v35 v36 v37 v38 v39 : Value}, (∃ lb cap bs, wx.heap[qb]? = some (.cells #[.int .i64 N, .slice (some ⟨lb, 0, none⟩) bs.length cap, pv, .int .i64 0, .int .i64 0] 35 (0, 0)) ∧ Lvs wx w.heap.size (.slice (some ⟨lb, 0, none⟩) bs.length cap) bs ∧ Touch w wx (fun k => k = qb) ∧ 1 ≤ bs.length ∧ bs.length ≤ 3 ∧ N ≤ 64 ^ bs.length) → Q .ret { tmps := #[u0, u1, u2, u3, .pointer (some ⟨qb, 0, none⟩), u5, .pointer (some ⟨qb, 0, none⟩), v7, u8, u9, u10, u11, u12, u13, u14, u15, u16, u17, u18, u19, u20, u21, u22, u23, u24, v25, v26, v27, v28, v29, v30, v31, v32, v33, v34, v35, v36, v37, v38, v39], defers := [] } wx)) :
    c.wp Tryd.prog Q { tmps := #[u0, u1, u2, u3, u4, u5, .pointer (some ⟨qb, 0, none⟩), .int .i64 ((N : Int) - 1), u8, u9, u10, u11, u12, u13, u14, u15, u16, u17, u18, u19, u20, u21, u22, u23, u24, u25, u26, u27, u28, u29, u30, u31, u32, u33, u34, u35, u36, u37, u38, u39], defers := [] } w := by
  conv at hc => lhs; whnf
  simp only [Option.some.injEq] at hc
  subst hc
  obtain ⟨i0, hi0, hz0, hz1, hz2⟩ := info_parts infoQM
  have hmm := @run_makeMap Tryd.prog
  have hqlt := (Array.getElem?_eq_some_iff.1 hq).1
  obtain ⟨B, hB⟩ : ∃ B, B = w.heap.size := ⟨_, rfl⟩
  rw [← hB] at hQ hqlt
  have hBw : B ≤ w.heap.size := by omega
  replace hB := Lib.hid hB
  have hq0 := Lib.hid hq
  have hl0 : Hid (Lvs w B (.slice none 0 0) []) := Lib.hid ⟨World.ownsRow_nil _ _ _ _, fun b h => by simp at h, List.nodup_nil⟩
  clear hq
  go_wp2_with fail
  go_loopw [4, 7] (fun _ i wr => ∃ (L : Int) (bs : List Nat) (la : Option Addr) (lc j : Nat), i = .int .i64 L ∧ Hid (j = bs.length) ∧ j ≤ 2 ∧ (1 ≤ N → L = ((N - 1) / 64 ^ j : Nat)) ∧ (N = 0 → j = 0 ∧ L = -1) ∧ -1 ≤ L ∧ L ≤ 262144 ∧ Hid (wr.heap[qb]? = some (.cells #[.int .i64 N, .slice la j lc, pv, .int .i64 0, .int .i64 0] 35 (0, 0))) ∧ Hid (Lvs wr B (.slice la j lc) bs) ∧ Hid (Touch w wr (fun k => k = qb))) (fun _ i _ => (intOf i).toNat)
  case atStart => exact ⟨(N : Int) - 1, [], none, 0, 0, rfl, Lib.hid rfl, by omega, fun h => by simp; omega, fun h => by simp [h], by omega, by omega, hq0, hl0, Lib.hid (Touch.refl _ _)⟩
  case round =>
    clear hq0 hl0
    obtain ⟨L, bs, la, lc, j, rfl, hj, hj2, hL1, hL0, hLa, hLb, hq1, hlv, hT⟩ := hrel
    obtain ⟨W2, hW2⟩ : ∃ W2, ((wr.alloc (.map #[] 0)).alloc (.cells #[.map (some wr.heap.size)] 38)) = W2 := ⟨_, rfl⟩
    have hb2 : Below wr.heap.size wr W2 := by rw [← hW2]; exact ((Below.refl _ _).alloc (Nat.le_refl _) _).alloc (by simp) _
    have hm2 : W2.heap[wr.heap.size]? = some (.map #[] 0) := by rw [← hW2]; exact at_oldN (at_newN rfl)
    have hr2 : W2.heap[wr.heap.size + 1]? = some (.cells #[.map (some wr.heap.size)] 38 (0, 0)) := by rw [← hW2]; exact at_newN (by simp)
    have hrd : Rd W2 (.slice (some ⟨wr.heap.size + 1, 0, none⟩) 1 1) [.map (some wr.heap.size)] := .inr ⟨_, 0, 1, rfl, (Array.getElem?_eq_some_iff.1 hr2).1, fun i u hu => by
      match i, hu with
      | 0, hu => cases hu; rw [blk_cell hr2]; rfl⟩
    have hT2 := Touch.of_below hb2 (fun _ => False)
    have hown2 : W2.ownsRow B 38 1 (.slice la j lc) bs.length (bs.map (fun b => Value.map (some b))) := row_keptQ hlv.out.row hT2 (fun _ _ h => h)
    have hqb1 := (hb2.block qb (Array.getElem?_eq_some_iff.1 hq1.out).1).trans hq1.out
    have hge : B ≤ wr.heap.size := by have := hT.out.size; have := hB.out; omega
    have hgeW : wr.heap.size ≤ W2.heap.size := hb2.size
    have hlt0 : wr.heap.size < W2.heap.size := (Array.getElem?_eq_some_iff.1 hm2).1
    have c0 : W2.cell? ⟨qb, 1, none⟩ = some (.slice la j lc) := by rw [blk_cell hqb1]; rfl
    have c1 : wr.cell? ⟨qb, 1, none⟩ = some (.slice la j lc) := by rw [blk_cell hq1.out]; rfl
    have c2 : (wr.alloc (.map #[] 0)).cell? ⟨qb, 1, none⟩ = some (.slice la j lc) := by rw [blk_cell (at_oldN hq1.out)]; rfl
    have hjl : bs.length ≤ 2 := by have := hj.out; omega
    replace hqb1 := Lib.hid hqb1
    replace hm2 := Lib.hid hm2
    replace hr2 := Lib.hid hr2
    replace hT2 := Lib.hid hT2
    replace hown2 := Lib.hid hown2
    replace hrd := Lib.hid hrd
    clear hb2
    go_upto_region 6 with (at_builtin; refine wpList_append_rd _ rfl _ _ 33 rfl B 38 i0 (.map none) 8 Tryd.underlying33 hi0 hz0 hz1 hz2 rfl (.slice la j lc) bs.length (bs.map (fun b => Value.map (some b))) rfl hown2.out _ [.map (some wr.heap.size)] rfl hrd.out (fun u hu => by simp at hu; subst hu; rfl) (Nat.le_trans (show bs.length + 1 ≤ 3 by omega) (by decide)) (Nat.le_trans (Nat.mul_le_mul_right 8 (show bs.length + 1 ≤ 3 by omega)) (by decide)) (Nat.le_trans hge hgeW) ?_; intro v' w3 hown3 hgrow3 hat3; replace hown3 : w3.ownsRow B 38 1 v' (j + 1) ((bs ++ [wr.heap.size]).map (fun b => Value.map (some b))) := (by have e9 := hown3; rw [← hj.out] at e9; simpa [List.map_append] using e9); obtain ⟨g3, cap3, rfl, hg3, hg3l⟩ := hown3.form (by omega); have hT3 : Touch W2 w3 (fun k => (Value.slice la j lc).ownBlock = some k) := Touch.of_grown hgrow3 (fun k e => e); have hqb3 := (hT3.block qb (Array.getElem?_eq_some_iff.1 hqb1.out).1 (fun e => by have := (hown2.out.lt qb e).1; omega)).trans hqb1.out; have z1 : w3.cell? ⟨qb, 1, none⟩ = some (.slice la j lc) := (by rw [blk_cell hqb3]; rfl); have z2 : w3.frozen? ⟨qb, 1, none⟩ = false := (by simp [World.frozen?, hqb3]))
    have hj1 : bs.length + 1 = j + 1 := by rw [hj.out]
    have hqb4 : Hid ((w3.setCell ⟨qb, 1, none⟩ (.slice (some ⟨g3, 0, none⟩) (j + 1) cap3)).heap[qb]? = some (.cells #[.int .i64 N, .slice (some ⟨g3, 0, none⟩) (j + 1) cap3, pv, .int .i64 0, .int .i64 0] 35 (0, 0))) := Lib.hid (by
      rw [blk_set _ hqb3]
      rfl)
    have hgl : ∀ g, (Value.slice la j lc).ownBlock = some g → B ≤ g ∧ g < W2.heap.size := fun g e => hown2.out.lt g e
    have hT4 : Hid (Touch w (w3.setCell ⟨qb, 1, none⟩ (.slice (some ⟨g3, 0, none⟩) (j + 1) cap3)) (fun k => k = qb)) := Lib.hid (by
      have t1 : Touch w w3 (fun k => k = qb ∨ (Value.slice la j lc).ownBlock = some k) := ((hT.out.mono (fun k _ e => .inl e)).trans (hT2.out.mono (fun k _ e => e.elim))).trans (hT3.mono (fun k _ e => .inr e))
      have t2 : Touch w w3 (fun k => k = qb) := t1.mono (fun k hk e => e.elim id (fun e => by have := (hgl k e).1; have := hB.out; omega))
      exact t2.setCell (a := ⟨qb, 1, none⟩) (fun _ => rfl) _)
    have hset : ∀ k, k ≠ qb → (w3.setCell ⟨qb, 1, none⟩ (.slice (some ⟨g3, 0, none⟩) (j + 1) cap3)).heap[k]? = w3.heap[k]? := fun k hk => Below.heap_setCell _ _ _ _ hk
    have hTs : Touch w3 (w3.setCell ⟨qb, 1, none⟩ (.slice (some ⟨g3, 0, none⟩) (j + 1) cap3)) (fun k => k = qb) := (Touch.refl w3 (fun k => k = qb)).setCell (a := ⟨qb, 1, none⟩) (fun _ => rfl) _
    have hlv4 : Hid (Lvs (w3.setCell ⟨qb, 1, none⟩ (.slice (some ⟨g3, 0, none⟩) (j + 1) cap3)) B (.slice (some ⟨g3, 0, none⟩) (j + 1) cap3) (bs ++ [wr.heap.size])) := Lib.hid (by
      refine ⟨?_, fun b hb => ?_, ?_⟩
      · have h1 := row_keptQ hown3 hTs (fun g e k => by have h9 : g3 = g := (by simpa [Value.ownBlock] using e); omega)
        rw [List.length_append, List.length_singleton, hj1]
        exact h1
      · rcases List.mem_append.1 hb with h | h
        · obtain ⟨h1, D, h2, h3⟩ := hlv.out.maps b h
          have hbl := h2.lt
          have hbq : b ≠ qb := by omega
          exact ⟨h1, D, own_blockQ h2 ((hset b hbq).trans ((hT3.block b (by omega) (hlv.out.apart h)).trans (hT2.out.block b hbl (fun e => e)))), h3⟩
        · rw [List.mem_singleton] at h
          subst h
          refine ⟨hge, .map [], own_tightQ (own_blockQ (World.ownsMap_made wr _ _ _) ?_), words_none⟩
          have e1 : (wr.alloc (.map #[] 0)).heap[wr.heap.size]? = some (.map #[] 0) := at_newN rfl
          rw [hset _ (by omega), e1, hT3.block _ hlt0 (fun e => ?_), hm2.out]
          have h5 := (hlv.out.row.lt _ e).2
          omega
      · refine List.nodup_append.2 ⟨hlv.out.nodup, by simp, fun x hx y hy => ?_⟩
        rw [List.mem_singleton] at hy
        obtain ⟨-, D, h2, -⟩ := hlv.out.maps x hx
        have := h2.lt
        omega)
    have hlen1 : Hid (j + 1 = (bs ++ [wr.heap.size]).length) := Lib.hid (by rw [List.length_append, ← hj1]; rfl)
    clear hqb3 z1 z2 hT3 hgrow3 hown3 hat3 hown2 hrd hr2 hm2 hT2 hqb1 c0 c1 c2 hset hTs hgl hlv hq1 hT
    try rw [hj1]
    generalize (w3.setCell ⟨qb, 1, none⟩ (.slice (some ⟨g3, 0, none⟩) (j + 1) cap3)) = w4 at hqb4 hlv4 hT4 ⊢
    by_cases hL : L < 64
    · have d1 : decide (L < 64) = true := by simpa using hL
      have hfin := Lib.hid (⟨g3, cap3, bs ++ [wr.heap.size], by rw [← hlen1.out]; exact hqb4.out, by rw [← hlen1.out]; exact hlv4.out, hT4.out, by rw [← hlen1.out]; omega, by rw [← hlen1.out]; omega, by
        rw [← hlen1.out]
        by_cases h0 : 1 ≤ N
        · refine pow_div ?_
          have := hL1 h0
          omega
        · have : N = 0 := by omega
          rw [this]; exact Nat.zero_le _⟩ : ∃ lb cap bs, w4.heap[qb]? = some (.cells #[.int .i64 N, .slice (some ⟨lb, 0, none⟩) bs.length cap, pv, .int .i64 0, .int .i64 0] 35 (0, 0)) ∧ Lvs w4 B (.slice (some ⟨lb, 0, none⟩) bs.length cap) bs ∧ Touch w w4 (fun k => k = qb) ∧ 1 ≤ bs.length ∧ bs.length ≤ 3 ∧ N ≤ 64 ^ bs.length)
      clear hqb4 hlv4 hT4 hL1 hL0
      go_wp2_with fail
      exact hQ.out hfin.out
    · have d1 : decide (L < 64) = false := by simpa using hL
      have hN1 : 1 ≤ N := by
        rcases Nat.eq_zero_or_pos N with h | h
        · have := (hL0 h).2; omega
        · exact h
      have hLv := hL1 hN1
      have hj3 : j ≤ 1 := by
        rcases Nat.lt_or_ge j 2 with h | h
        · omega
        · exfalso
          have h2 : j = 2 := by omega
          subst h2
          omega
      have hnext : Hid (L / 64 = ((N - 1) / 64 ^ (j + 1) : Nat)) := Lib.hid (by rw [div_next]; omega)
      clear hL1 hL0 hLv
      go_wp2_with fail
      exact ⟨⟨L / 64, bs ++ [wr.heap.size], _, cap3, j + 1, by go_num, hlen1, by omega, fun _ => hnext.out, fun h => by omega, by omega, by omega, hqb4, hlv4, hT4⟩, by simp [intOf]; omega⟩
end Go.Proofs.YtcimhljnboeobaaDoor
