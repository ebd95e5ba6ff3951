/- Queues: the node of a number, whole. -/
import Derived.Test.YtcimhljnboeobaaDoorQRank
namespace Go.Proofs.YtcimhljnboeobaaDoor
open Go.RowKit Go.Maps Go.Shelf

attribute [local go_sem] Oper.semAt_some
theorem took_snocQ (pre : List (Nat × Nat)) (x : Nat × Nat) : tookQ (pre ++ [x]) = tookQ pre ++ nums x.1 x.2 := by rw [tookQ_app]; simp [tookQ]
theorem rank_inQ {l pre rest : List (Nat × Nat)} {x : Nat × Nat} {L : List Nat} (e : l = pre ++ x :: rest) (hL : tookQ l = L) {r b : Nat} (hb : (bitsOf 64 x.2)[r]? = some b) : L[(tookQ pre).length + r]? = some (64 * x.1 + b) := by
  rw [← hL, e, show pre ++ x :: rest = (pre ++ [x]) ++ rest by simp, tookQ_app, took_snocQ, List.append_assoc, List.getElem?_append_right (by omega), Nat.add_sub_cancel_left, List.getElem?_append_left]
  · simp [nums, hb]
  · have := (List.getElem?_eq_some_iff.1 hb).1
    simpa [nums] using this
theorem set_oneQ {W : World} {b : Nat} {u0 v0 : Value} {t : TypeId} (h : W.heap[b]? = some (.cells #[u0] t (0, 0))) : (W.setCell ⟨b, 0, none⟩ v0).heap[b]? = some (.cells #[v0] t (0, 0)) := by
  rw [blk_set _ h]
  rfl
/-- Between two rounds. -/
structure RkSt (A : Nat) (W0 : World) (u v : Int) (W : World) : Prop where
  rk : W.heap[A]? = some (.cells #[.int .i64 u] 3 (0, 0))
  res : W.heap[A + 1]? = some (.cells #[.int .i64 v] 3 (0, 0))
  bel : Below A W0 W
theorem RkSt.off {A : Nat} {W0 W W' : World} {u v : Int} {S : Nat → Prop} (h : RkSt A W0 u v W) (hA : A ≤ W0.heap.size) (hT : Touch W W' S) (hS : ∀ k, S k → A + 1 < k) : RkSt A W0 u v W' :=
  ⟨(hT.block _ (Array.getElem?_eq_some_iff.1 h.rk).1 (fun hs => by have := hS _ hs; omega)).trans h.rk, (hT.block _ (Array.getElem?_eq_some_iff.1 h.res).1 (fun hs => by have := hS _ hs; omega)).trans h.res,
    h.bel.trans (hT.below (by have := h.bel.size; omega) (fun k hk hs => by have := hS _ hs; omega))⟩
theorem RkSt.setR {A : Nat} {W0 W : World} {u v : Int} (h : RkSt A W0 u v W) (hA : A ≤ W0.heap.size) (u' : Int) : RkSt A W0 u' v (W.setCell ⟨A, 0, none⟩ (.int .i64 u')) :=
  ⟨set_oneQ h.rk, (Below.heap_setCell _ _ _ _ (show A + 1 ≠ A by omega)).trans h.res, h.bel.setCell (p := ⟨A, 0, none⟩) (Nat.le_refl _) _⟩
theorem RkSt.setV {A : Nat} {W0 W : World} {u v : Int} (h : RkSt A W0 u v W) (hA : A ≤ W0.heap.size) (v' : Int) : RkSt A W0 u v' (W.setCell ⟨A + 1, 0, none⟩ (.int .i64 v')) :=
  ⟨(Below.heap_setCell _ _ _ _ (show A ≠ A + 1 by omega)).trans h.rk, set_oneQ h.res, h.bel.setCell (p := ⟨A + 1, 0, none⟩) (Nat.le_succ _) _⟩
/-- The result, out of its cell, behind a range over a function. -/
theorem qat_left {W : World} {D A : Nat} {b : Int} {x0 x1 x2 x3 x5 x6 x7 x8 x9 x10 x11 x12 x13 x14 x15 x16 x17 x18 x19 x20 x21 x22 x23 x24 x25 x26 x27 x28 x29 x30 x31 x32 : Value} {R : Ending → World → Prop} (hD : W.heap[D]? = some (.deferred (some []))) (h3 : W.heap[A]? = some (.cells #[.int .i64 b] 3 (0, 0))) (hA : A ≠ D)
    (hR : R (.returned (.int .i64 b)) (W.putObj D (.deferred none))) :
    bodyPostM Fence.wide 6 Tryd.prog Tryd.f14 R .ret { tmps := #[x0, x1, x2, x3, .pointer (some ⟨A, 0, none⟩), x5, x6, x7, x8, x9, x10, x11, x12, x13, x14, x15, x16, x17, x18, x19, x20, x21, x22, x23, x24, x25, x26, x27, x28, x29, x30, x31, x32], defers := [{ target := .collected D, args := #[] }] } W := by
  refine ⟨by simp, .inl ⟨_, _, rfl, run_takeDeferred hD, ?_⟩⟩
  have g3 : (W.putObj D (.deferred none)).heap[A]? = some (.cells #[.int .i64 b] 3 (0, 0)) := (World.putObj_heap_other hA).trans h3
  generalize W.putObj D (.deferred none) = W2 at g3 hR ⊢
  have c3 : W2.cell? ⟨A, 0, none⟩ = some (.int .i64 b) := by rw [blk_cell g3]; rfl
  exact ⟨.int .i64 b, by simp [results, Tryd.results14, go_sem, c3], hR⟩
section
variable {W : World} {qb lb cap n taken : Nat} {bs l : List Nat} {pv : Value} {ps : List Int}
set_option maxRecDepth 100000 in
set_option maxHeartbeats 8000000 in
theorem qat_any (Q : QAt W qb lb cap bs n l pv ps taken) (G : Gl W) {rank y : Nat} (hy : l[rank]? = some y) : Calls Tryd.prog 14 #[.pointer (some ⟨qb, 0, none⟩), .int .i64 rank] W fun e W' => e = .returned (.int .i64 y) ∧ Below W.heap.size W W' := by
  have hm3 := Q.m3
  have hm1 := Q.m1
  have hlen := Q.len
  have hn3 := Q.nle3
  have hrl := (List.getElem?_eq_some_iff.1 hy).1
  have hall : tookQ (seqW l (bs.length - 1) 0) = l := all_words Q.rise (fun x hx => by
    have h1 := Q.lt x hx
    have h2 := Q.nle
    rw [show bs.length - 1 + 1 = bs.length by omega]
    omega)
  have hbnd : ∀ x ∈ seqW l (bs.length - 1) 0, x.1 < 4096 ∧ x.2 < 18446744073709551616 := fun x hx => by
    obtain ⟨h1, h2⟩ := seq_bound hx
    refine ⟨Nat.lt_of_lt_of_le h1 ?_, h2⟩
    have : 64 ^ (bs.length - 1) ≤ 64 ^ 2 := Nat.pow_le_pow_right (by decide) (by omega)
    omega
  obtain ⟨A, hA⟩ : ∃ A, A = W.heap.size := ⟨_, rfl⟩
  obtain ⟨W3, hW3⟩ : ∃ W3, W3 = (((W.alloc (.cells #[.int .i64 rank] 3)).alloc (.cells #[.int .i64 0] 3)).alloc (.cells #[.pointer (some ⟨qb, 0, none⟩)] 22)) := ⟨_, rfl⟩
  have hb3 : Below W.heap.size W W3 := by rw [hW3]; exact (((Below.refl _ _).alloc (Nat.le_refl _) _).alloc (by simp) _).alloc (by simp; omega) _
  have hsz3 : W3.heap.size = A + 3 := by rw [hW3, hA]; simp
  have hB3 : W3.heap[A + 2]? = some (.cells #[.pointer (some ⟨qb, 0, none⟩)] 22 (0, 0)) := by rw [hW3]; exact at_newN (by simp; omega)
  have hS3 : RkSt A W rank 0 W3 := ⟨by rw [hW3]; exact at_oldN (at_oldN (at_newN hA)), by rw [hW3]; exact at_oldN (at_newN (by simp; omega)), by rw [hA]; exact hb3⟩
  have hQ3 := Q.below hb3
  have hG3 := G.below hb3 G.lt
  have hV : ∀ k, QBl qb lb bs pv k → ¬ A ≤ k := fun k hk => by have := Q.in hk; omega
  have hVg : ¬ A ≤ 0 := by have := G.lt; omega
  have hAW : A ≤ W.heap.size := by omega
  have hAW2 : W.heap.size ≤ A := by omega
  obtain ⟨all, hal⟩ : ∃ all, all = seqW l (bs.length - 1) 0 := ⟨_, rfl⟩
  rw [← hal] at hall hbnd
  refine (callsIn_wide (n := 6)).1 ?_
  have hfq : Fence.wide.fn 21 := trivial
  have hfw : Fence.wide.fn 18 := trivial
  have hfO : Fence.wide.fn 19 := trivial
  have hfT : Fence.wide.fn 20 := trivial
  refine callsIn_of_wp_marks Tryd.func14 rfl trivial ?_ rfl
  simp only [Tryd.ntmps14, List.size_toArray, List.length_cons, List.length_nil, Nat.reduceAdd, Nat.reduceSub, Array.replicate_succ, Array.replicate_zero, List.push_toArray, List.append_toArray, List.nil_append, List.cons_append]
  replace hA := Lib.hid hA
  replace hal := Lib.hid hal
  replace hall := Lib.hid hall
  replace hbnd := Lib.hid hbnd
  replace hS3 := Lib.hid hS3
  replace hB3 := Lib.hid hB3
  replace hQ3 := Lib.hid hQ3
  replace hG3 := Lib.hid hG3
  replace hb3 := Lib.hid hb3
  replace hW3 := Lib.hid hW3
  replace hV := Lib.hid hV
  replace hVg := Lib.hid hVg
  replace hy := Lib.hid hy
  have hG0 := Lib.hid G
  clear Q G
  gi_wp2_with (gi_at_call 18; refine (callsIn_wide.2 (qwords_call _ _)).mono ?_; rintro e w' ⟨rfl, hw9⟩; obtain rfl := hw9)
  rw [← hA.out, ← hW3.out]
  have e2 : ((W.alloc (.cells #[.int .i64 rank] 3)).alloc (.cells #[.int .i64 0] 3)).heap.size = A + 2 := by simp; have := hA.out; omega
  try rw [e2]
  try rw [show W.heap.size + 1 = A + 1 from by rw [← hA.out]]
  try rw [show W.heap.size + 1 + 1 = A + 2 from by rw [← hA.out]]
  obtain ⟨I2, hI2⟩ : ∃ I2 : List (Nat × Nat) → World → Prop, I2 = fun pre Wa => (tookQ pre).length ≤ rank ∧ RkSt A W ((rank - (tookQ pre).length : Nat) : Int) 0 Wa := ⟨_, rfl⟩
  obtain ⟨Ix2, hIx2⟩ : ∃ Ix2 : World → Prop, Ix2 = fun Wa => ∃ u, RkSt A W u y Wa := ⟨_, rfl⟩
  refine rangeFunc_calm (α := Nat × Nat) rfl (by omega) (gf := 21) (lb := #[.pointer (some ⟨A + 2, 0, none⟩)]) rfl trivial (enters_of Tryd.func21 (by kernel_rfl) rfl)
    (fun pre x vs _ => vs = #[.int .i64 x.1, .int .u64 x.2] ∧ ∃ rest, all = pre ++ x :: rest)
    (fun Wa Wb => Touch Wa Wb (fun k => A ≤ k)) I2 Ix2
    (fun pre x a' Wa => ∃ rest, a' = { tmps := #[.pointer (some ⟨qb, 0, none⟩), .int .i64 rank, undef, .pointer (some ⟨A, 0, none⟩), .pointer (some ⟨A + 1, 0, none⟩), .int .i64 x.1, .int .u64 x.2, undef, .pointer (some ⟨qb, 0, none⟩), .func (.func 21) #[] #[.pointer (some ⟨A + 2, 0, none⟩)], .int .i64 x.1, .int .u64 x.2, undef, undef, undef, undef, undef, undef, undef, undef, undef, undef, undef, undef, undef, undef, undef, undef, undef, undef, undef, undef, undef], defers := [] } ∧ all = pre ++ x :: rest ∧ I2 pre Wa)
    all ?hsz ?hcalm ?hI ?hIx ?hAx (fun h k => h.trans k) ?hKp ?h0 ?hseq ?hassign ?hbody ?hdone ?hstop
  case hsz => rintro pre x vs Wa ⟨rfl, -⟩; rfl
  case hcalm => subst hI2; rintro pre Wa Wb ⟨h1, h2⟩ hT; exact ⟨h1, h2.off hAW hT (fun _ h => h.elim)⟩
  case hI => subst hI2; rintro pre Wa r ⟨h1, h2⟩ hl r'; exact ⟨h1, h2.off hAW (touch_putObj _ _ _) (fun k hk => by omega)⟩
  case hIx => subst hIx2; rintro Wa r ⟨u, h2⟩ hl r'; exact ⟨u, h2.off hAW (touch_putObj _ _ _) (fun k hk => by omega)⟩
  case hAx => subst hI2; rintro pre x a' Wa r ⟨rest, rfl, e1, h1, h2⟩ hl r'; exact ⟨rest, rfl, e1, h1, h2.off hAW (touch_putObj _ _ _) (fun k hk => by omega)⟩
  case hKp => intro Wa r r' hl; exact (touch_putObj Wa _ _).mono (fun k _ hk => by omega)
  case h0 => subst hI2; intro r; exact ⟨by simp [tookQ], by simpa [tookQ] using hS3.out.off hAW (((Touch.refl _ (fun _ => False)).alloc _).alloc _) (fun _ h => h.elim)⟩
  case hseq =>
    intro J Jx r hc hyv hJ0
    have hq := qwords_in hQ3.out hG3.out hV.out hVg.out (W3.heap.size + 1) J Jx hc (fun pre x rest W1 e1 e2 _ => hyv pre x _ W1 ⟨rfl, rest, by rw [hal.out]; exact e1⟩ e2) (at_oldN (at_oldN hB3.out)) hJ0 (((Touch.refl _ _).alloc _).alloc _)
    rw [← hal.out] at hq
    exact hq
  case hassign =>
    rintro pre x vs Wa Kq ⟨rfl, rest, e1⟩ h1 hszW hKq
    have hfin := Lib.hid (hKq { tmps := #[.pointer (some ⟨qb, 0, none⟩), .int .i64 rank, undef, .pointer (some ⟨A, 0, none⟩), .pointer (some ⟨A + 1, 0, none⟩), .int .i64 x.1, .int .u64 x.2, undef, .pointer (some ⟨qb, 0, none⟩), .func (.func 21) #[] #[.pointer (some ⟨A + 2, 0, none⟩)], .int .i64 x.1, .int .u64 x.2, undef, undef, undef, undef, undef, undef, undef, undef, undef, undef, undef, undef, undef, undef, undef, undef, undef, undef, undef, undef, undef], defers := [] } _ ⟨rest, rfl, e1, h1⟩ rfl rfl (Touch.refl _ _))
    clear hKq e1 h1
    gi_wp2
    exact hfin.out
  case hbody =>
    rintro pre x a' Wa ⟨rest, rfl, e1, h1⟩ hszW
    have hx := hbnd.out x (by rw [e1]; simp)
    obtain ⟨hx1, hx2⟩ := hx
    have h1' := h1
    rw [hI2] at h1'
    obtain ⟨hle, hst⟩ := h1'
    clear h1
    obtain ⟨r, hr⟩ : ∃ r, r = rank - (tookQ pre).length := ⟨_, rfl⟩
    rw [← hr] at hst
    have hr2 : rank = (tookQ pre).length + r := by omega
    have k0 : Wa.cell? ⟨A, 0, none⟩ = some (.int .i64 r) := by rw [blk_cell hst.rk]; rfl
    have y0 : Wa.frozen? ⟨A, 0, none⟩ = false := by simp [World.frozen?, hst.rk]
    have hco := Lib.hid ((callsIn_wide (n := 3)).2 (ones x.2 hx2 Wa))
    have hcl := cnt_le x.2
    have hrb : r ≤ 262144 := by omega
    by_cases hge : cnt 64 x.2 ≤ r
    · have d1 : decide ((r : Int) ≥ (cnt 64 x.2 : Int)) = true := by simpa using hge
      have d2 : decide (cnt 64 x.2 ≤ r) = true := by simpa using hge
      have hfin : Hid (I2 (pre ++ [x]) (Wa.setCell ⟨A, 0, none⟩ (.int .i64 ((r : Int) - (cnt 64 x.2 : Int))))) := Lib.hid (by
        rw [hI2]
        show _ ∧ _
        rw [took_snocQ, List.length_append, len_nums]
        refine ⟨by omega, ?_⟩
        have := hst.setR hAW ((r : Int) - (cnt 64 x.2 : Int))
        rwa [show (((rank - ((tookQ pre).length + cnt 64 x.2) : Nat)) : Int) = (r : Int) - (cnt 64 x.2 : Int) by omega])
      have hT : Touch Wa (Wa.setCell ⟨A, 0, none⟩ (.int .i64 ((r : Int) - (cnt 64 x.2 : Int)))) (fun k => A ≤ k) := (Touch.refl Wa _).setCell (a := ⟨A, 0, none⟩) (fun _ => Nat.le_refl _) _
      generalize cnt 64 x.2 = cc at *
      have hf2 : Hid (leftP W3.heap.size (W3.heap.size + 1) (I2 (pre ++ [x])) Ix2 (fun Wa Wb => Touch Wa Wb (fun k => A ≤ k)) Wa .normal { tmps := #[], defers := [] } (Wa.setCell ⟨A, 0, none⟩ (.int .i64 ((r : Int) - (cc : Int))))) :=
        Lib.hid ⟨Below.heap_setCell _ _ _ _ (show W3.heap.size ≠ A by omega), Below.heap_setCell _ _ _ _ (show W3.heap.size + 1 ≠ A by omega), hfin.out, hT⟩
      have hcc : (cc : Int) ≤ 64 := by omega
      have hcr : (cc : Int) ≤ (r : Int) := by omega
      clear hfin hT hst hr hr2 e1 hx2 hle
      gi_wp2_with (gi_at_call 19; refine hco.out.mono ?_; rintro e w' ⟨rfl, hw9⟩; obtain rfl := hw9.symm)
      exact hf2.out
    · have d1 : decide ((r : Int) ≥ (cnt 64 x.2 : Int)) = false := by simpa using hge
      have d2 : decide (cnt 64 x.2 ≤ r) = false := by simpa using hge
      have hlt : r < (bitsOf 64 x.2).length := by simpa [cnt] using hge
      have hd0 : Hid (bitsOf 64 x.2 = [] ++ bitsOf 64 x.2) := Lib.hid rfl
      have hsp := Lib.hid e1
      replace hst := Lib.hid hst
      replace hr2 := Lib.hid hr2
      replace hlt := Lib.hid hlt
      clear hr e1 hle hge
      generalize cnt 64 x.2 = cc at *
      gi_wp2_with (first | (gi_at_call 19; refine hco.out.mono ?_; rintro e w' ⟨rfl, hw9⟩; obtain rfl := hw9.symm) | fail)
      gi_loopw [6, 21] (fun v6 v21 wx => ∃ (c' j : Nat) (done : List Nat), v6 = .int .u64 c' ∧ v21 = .int .i64 j ∧ c' < 18446744073709551616 ∧ j ≤ r ∧ Hid (done.length = j) ∧ Hid (bitsOf 64 x.2 = done ++ bitsOf 64 c') ∧ Hid (Touch Wa wx (fun _ => False))) (fun _ v _ => r - (intOf v).toNat)
      case atStart => exact ⟨x.2, 0, [], rfl, rfl, hx2, Nat.zero_le _, Lib.hid rfl, hd0, Lib.hid (Touch.refl _ _)⟩
      case round =>
        obtain ⟨c', j, done, rfl, rfl, hc', hj, hdl, hd, hT⟩ := hrel
        have hz : c' ≠ 0 := by
          rintro rfl
          have h1 := hd.out
          rw [(bits_none (by decide)).2 rfl, List.append_nil] at h1
          have h2 := hlt.out
          rw [h1, hdl.out] at h2
          omega
        have hcons := bits_cons hz hc'
        by_cases hjr : j = r
        · have j1 : decide ((j : Int) < (r : Int)) = false := by simp [hjr]
          have j2 : decide (j < r) = false := by simp [hjr]
          have hst4 := hst.out.off hAW hT.out (fun _ h => h.elim)
          have htz := Lib.hid ((callsIn_wide (n := 3)).2 (tz (hG0.out.below hst4.bel (by have := hVg.out; omega)).tab hc'))
          have hb : (bitsOf 64 x.2)[r]? = some (Lib.ctz 64 c') := by
            rw [hd.out, hcons, List.getElem?_append_right (by rw [hdl.out]; omega), hdl.out, hjr]
            simp
          have hye := rank_inQ hsp.out hall.out hb
          rw [← hr2.out, hy.out] at hye
          have hye : (y : Int) = (x.1 : Int) * 64 + (Lib.ctz 64 c' : Int) := by cases hye; omega
          have ht64 : Lib.ctz 64 c' < 64 := (mem_bitsOf.1 (List.mem_of_getElem? hb)).1
          have z3 : wr.cell? ⟨A + 1, 0, none⟩ = some (.int .i64 0) := by rw [blk_cell hst4.res]; rfl
          have y3 : wr.frozen? ⟨A + 1, 0, none⟩ = false := by simp [World.frozen?, hst4.res]
          generalize Lib.ctz 64 c' = tt at htz hye ht64
          have hfin : Hid (leftP W3.heap.size (W3.heap.size + 1) (I2 (pre ++ [x])) Ix2 (fun Wa Wb => Touch Wa Wb (fun k => A ≤ k)) Wa .ret { tmps := #[], defers := [] } (wr.setCell ⟨A + 1, 0, none⟩ (.int .i64 ((x.1 : Int) * 64 + (tt : Int))))) :=
            Lib.hid ⟨(Below.heap_setCell _ _ _ _ (show W3.heap.size ≠ A + 1 by omega)).trans (hT.out.block _ (by omega) (fun h => h.elim)), (Below.heap_setCell _ _ _ _ (show W3.heap.size + 1 ≠ A + 1 by omega)).trans (hT.out.block _ (by omega) (fun h => h.elim)), by rw [hIx2]; exact ⟨r, by rw [hye]; exact hst4.setV hAW _⟩⟩
          replace hcons := Lib.hid hcons
          replace hye := Lib.hid hye
          clear hst4 hb hz
          gi_wp2_with (first | (gi_at_call 20; refine htz.out.mono ?_; rintro e w' ⟨rfl, hw9⟩; obtain rfl := hw9.symm) | fail)
          exact hfin.out
        · have j1 : decide ((j : Int) < (r : Int)) = true := by simp; omega
          have j2 : decide (j < r) = true := by simp; omega
          have hd2 : Hid (bitsOf 64 x.2 = (done ++ [Lib.ctz 64 c']) ++ bitsOf 64 (c' &&& (c' - 1))) := Lib.hid (by rw [hd.out, hcons]; simp)
          have hdl2 : Hid ((done ++ [Lib.ctz 64 c']).length = j + 1) := Lib.hid (by rw [List.length_append, hdl.out]; rfl)
          have hless : c' &&& (c' - 1) < c' := Nat.lt_of_le_of_lt Nat.and_le_right (by omega)
          have hand : bits BinOp.and IntKind.u64 (c' : Int) ((c' : Int) - 1) = ((c' &&& (c' - 1) : Nat) : Int) := by
            rw [show (c' : Int) - 1 = ((c' - 1 : Nat) : Int) by omega]
            exact and_nat hc' (by omega)
          generalize Lib.ctz 64 c' = tt at hd2 hdl2
          replace hcons := Lib.hid hcons
          generalize hc2 : c' &&& (c' - 1) = c2 at hd2 hless hand
          replace hc2 := Lib.hid hc2
          gi_wp2_with fail
          go_roundw
          case rel => exact ⟨c2, j + 1, done ++ [tt], by first | rfl | go_num, by first | rfl | go_num, by omega, by omega, hdl2, hd2, hT⟩
          case measure => simp [intOf]; omega
  case hdone =>
    rintro Wa h1 hD
    rw [hI2] at h1
    have := h1.1
    rw [hall.out] at this
    omega
  case hstop =>
    rintro Wa h1 hD
    rw [hIx2] at h1
    obtain ⟨u, h1⟩ := h1
    replace h1 := Lib.hid h1
    replace hD := Lib.hid hD
    gi_wp2
    have hfin := h1.out.off hAW (touch_putObj _ W3.heap.size (.deferred none)) (fun k hk => by omega)
    exact qat_left (D := W3.heap.size) (A := A + 1) (b := y) hD.out h1.out.res (by omega) ⟨rfl, hA.out ▸ hfin.bel⟩
end
end Go.Proofs.YtcimhljnboeobaaDoor
