/- dom.Tree: a round. -/
import Derived.Test.YteipncggndefmaaDTreeA
import Derived.Test.YteipncggndefmaaDStep
namespace Go.Proofs.Yteipncggndefmaa
open Go.RowKit Go.Maps

/-- What a round reads and leaves as it is. -/
structure TW (w : World) (pb tb PB TB og base BG n : Nat) (L : List (List Int)) (o : List Nat) (pl : List Int) (vs : List Value) : Prop where
  pbox : w.heap[pb]? = some (.cells #[.slice (some ⟨PB, 0, none⟩) n n] 25 (0, 0))
  tbox : w.heap[tb]? = some (.cells #[.slice (some ⟨TB, 0, none⟩) n n] 25 (0, 0))
  prow : Ints w PB pl
  place : Placed o o.length pl
  M : Mat w base BG vs (backL L)
  ord : ∀ p x : Nat, o[p]? = some x → w.cell? ⟨og, p, none⟩ = some (.int .i64 x)
  ogl : og < w.heap.size
  ne : pb ≠ TB ∧ tb ≠ TB ∧ PB ≠ TB ∧ og ≠ TB
  low : TB < base
theorem TW.kept {w w' : World} {pb tb PB TB og base BG n : Nat} {L : List (List Int)} {o : List Nat} {pl : List Int} {vs : List Value} (h : TW w pb tb PB TB og base BG n L o pl vs) (ht : Touch w w' (fun b => b = TB)) : TW w' pb tb PB TB og base BG n L o pl vs := by
  have lt : ∀ {b : Nat} {x : Obj}, w.heap[b]? = some x → b < w.heap.size := fun h => (Array.getElem?_eq_some_iff.1 h).1
  obtain ⟨n1, n2, n3, n4⟩ := h.ne
  refine ⟨(ht.block pb (lt h.pbox) n1).trans h.pbox, (ht.block tb (lt h.tbox) n2).trans h.tbox, (ht.block PB h.prow.lt n3).trans h.prow, h.place, h.M.kept ht (fun e => ?_) (fun i u b hu hb e => ?_), fun p x hp => ?_, Nat.lt_of_lt_of_le h.ogl ht.size, h.ne, h.low⟩
  · have := h.M.low
    have := h.low
    omega
  · obtain ⟨l, hl⟩ : ∃ l, (backL L)[i]? = some l := ⟨_, List.getElem?_eq_getElem (by rw [← h.M.len]; exact (List.getElem?_eq_some_iff.1 hu).1)⟩
    have := ((h.M.row i u l hu hl).lt b hb).1
    have := h.low
    omega
  · exact (World.cell?_of_block (w := w) (ht.block og h.ogl n4)).trans (h.ord p x hp)

set_option maxRecDepth 20000 in
set_option maxHeartbeats 2000000 in
theorem dtree4 {c : Code} (hc : Func.blockOf Try.f10 4 = some c) {Q : Exit → Act → World → Prop} {w : World} {pb tb PB TB og oc base BG n K M0 y : Nat} {L : List (List Int)} {o : List Nat} {d T : Nat → Nat} {pl t : List Int} {vs : List Value} {ax : Option Addr} {u0 u1 u2 u3 u4 u6 u11 u12 u13 u14 u15 u16 u17 u18 u19 u20 u21 u22 u23 u24 u25 u26 u27 u28 u29 u30 u31 u32 u33 u34 u35 u36 u37 u38 u39 u40 u41 u42 u43 u44 u48 u49 u50 u51 u52 u53 u54 u55 u56 u57 u58 u59 u60 u61 u62 u63 u64 u65 u66 u67 u68 u69 u70 u71 u72 u73 u74 u75 u76 u77 u78 u79 u80 u81 u82 u83 u84 : Value}
    (R0 : Rnd L y o d K 1 T t M0 false) (hI : Ints w TB t) (hW : TW w pb tb PB TB og base BG n L o pl vs) (hn : n = L.length) (hn2 : n ≤ 100000) (hrow : ∀ r ∈ backL L, r.length ≤ 100000) (hax : 1 < o.length → ax = some ⟨og, 1, none⟩)
    (hQ : Hid (∀ {wx : World} {v10 v12 v13 v15 v47 v48 v49 v50 v51 v52 v53 v54 v55 v56 v57 v58 v59 v60 v61 v62 v63 v64 v65 v66 v67 v68 v69 v70 v71 v72 v73 v74 v75 v76 v77 v78 v79 v80 v81 v82 v83 : Value}, (∃ (K : Nat) (T : Nat → Nat) (t : List Int) (ch : Bool), v10 = .bool ch ∧ Rnd L y o d K o.length T t M0 ch ∧ Ints wx TB t ∧ TW wx pb tb PB TB og base BG n L o pl vs ∧ Below TB w wx) → Q .normal { tmps := #[u0, u1, u2, u3, u4, .slice (some ⟨TB, 0, none⟩) n n, u6, .slice (some ⟨og, 0, none⟩) o.length oc, .slice (some ⟨BG, 0, none⟩) n n, .func (.func 40) #[] #[.pointer (some ⟨pb, 0, none⟩), .pointer (some ⟨tb, 0, none⟩)], v10, u11, v12, v13, u14, v15, u16, u17, u18, u19, u20, u21, u22, u23, u24, u25, u26, u27, u28, u29, u30, u31, u32, u33, u34, u35, u36, u37, u38, u39, u40, u41, u42, u43, u44, .slice ax (o.length - 1) (oc - 1), .int .i64 ((o.length - 1 : Nat) : Int), v47, v48, v49, v50, v51, v52, v53, v54, v55, v56, v57, v58, v59, v60, v61, v62, v63, v64, v65, v66, v67, v68, v69, v70, v71, v72, v73, v74, v75, v76, v77, v78, v79, v80, v81, v82, v83, u84], defers := [] } wx)) :
    c.wp Try.prog Q { tmps := #[u0, u1, u2, u3, u4, .slice (some ⟨TB, 0, none⟩) n n, u6, .slice (some ⟨og, 0, none⟩) o.length oc, .slice (some ⟨BG, 0, none⟩) n n, .func (.func 40) #[] #[.pointer (some ⟨pb, 0, none⟩), .pointer (some ⟨tb, 0, none⟩)], .bool false, u11, u12, u13, u14, u15, u16, u17, u18, u19, u20, u21, u22, u23, u24, u25, u26, u27, u28, u29, u30, u31, u32, u33, u34, u35, u36, u37, u38, u39, u40, u41, u42, u43, u44, .slice ax (o.length - 1) (oc - 1), .int .i64 ((o.length - 1 : Nat) : Int), .int .i64 0, u48, u49, u50, u51, u52, u53, u54, u55, u56, u57, u58, u59, u60, u61, u62, u63, u64, u65, u66, u67, u68, u69, u70, u71, u72, u73, u74, u75, u76, u77, u78, u79, u80, u81, u82, u83, u84], defers := [] } w := by
  conv at hc => lhs; whnf
  simp only [Option.some.injEq] at hc
  subst hc
  have hnL : n = L.length := hn
  have hm0 := R0.row.small
  obtain ⟨m, hmo⟩ : ∃ m, o.length = m + 1 := ⟨o.length - 1, by have := (List.getElem?_eq_some_iff.1 R0.row.head).1; omega⟩
  rw [show o.length - 1 = m by omega] at hQ ⊢
  have hmn : m + 1 ≤ n := by omega
  replace hmo := Lib.hid hmo
  replace hnL := Lib.hid hnL
  clear hn
  go_wp2_with fail
  go_loopw [10, 12, 13, 15, 47] (fun c _ _ _ i wr => ∃ (k K : Nat) (T : Nat → Nat) (t : List Int) (ch : Bool), k ≤ m ∧ i = .int .i64 (k : Int) ∧ c = .bool ch ∧ Hid (Rnd L y o d K (k + 1) T t M0 ch) ∧ Hid (Ints wr TB t) ∧ Hid (TW wr pb tb PB TB og base BG n L o pl vs) ∧ Hid (Below TB w wr)) (fun _ _ _ _ i _ => m - (intOf i).toNat)
  case atStart => exact ⟨0, K, T, t, false, Nat.zero_le _, rfl, rfl, Lib.hid R0, Lib.hid hI, Lib.hid hW, Lib.hid (Below.refl _ _)⟩
  case round =>
    clear hI hW R0
    obtain ⟨k, K, T, t, ch, hk, rfl, rfl, R, hI, hW, hb⟩ := hrel
    by_cases hlt : k < m
    · obtain rfl := hax (by rw [hmo.out]; omega)
      have j1 : decide ((k : Int) < (m : Int)) = true := by simpa using hlt
      have j0 : (k : Int) < (m : Int) := by omega
      obtain ⟨i, hi⟩ : ∃ i, o[k + 1]? = some i := ⟨_, List.getElem?_eq_getElem (by rw [hmo.out]; omega)⟩
      have hil := R.out.row.lt hi
      have hin : i < n := by rw [hnL.out]; exact hil
      have c1 : wr.cell? ⟨og, 1 + k, none⟩ = some (.int .i64 i) := by rw [Nat.add_comm]; exact hW.out.ord (k + 1) i hi
      have htl := R.out.tree.len
      obtain ⟨tv, htv⟩ : ∃ tv, t[i]? = some tv := ⟨_, List.getElem?_eq_getElem (by rw [htl]; exact hil)⟩
      have c2 := hI.out.cell htv
      have f2 := hI.out.frozen i
      obtain ⟨r, hr⟩ : ∃ r, (backL L)[i]? = some r := ⟨_, List.getElem?_eq_getElem (by rw [backL_len]; exact hil)⟩
      obtain ⟨bB, oB, cB, u, e, hbB, c3, hrd⟩ := (hW.out.M.rd (n := n) (cap := n) (by rw [backL_len]; exact hnL.out)).at hr
      simp only [Value.slice.injEq, Option.some.injEq, Addr.mk.injEq] at e
      obtain ⟨⟨rfl, rfl, -⟩, -, rfl⟩ := e
      rw [Nat.zero_add] at c3
      obtain ⟨ar, rc, rfl⟩ := hrd.shape
      have hrl := hrow r (List.mem_of_getElem? hr)
      have hform := back_form L r (List.mem_of_getElem? hr)
      rw [backL_len] at hform
      have hE : Hid (Env wr pb tb PB TB n K o T pl t) := Lib.hid ⟨hW.out.pbox, hW.out.tbox, hW.out.prow, hI.out, fun p x hp => hW.out.place p x (List.getElem?_eq_some_iff.1 hp).1 hp, by rw [hnL.out]; exact R.out.tree, R.out.row.nodup, R.out.mend.down, R.out.kle, fun x hx => by
        obtain ⟨p, hp, e⟩ := List.getElem_of_mem hx
        rw [hnL.out]
        exact R.out.row.lt (p := p) (by rw [List.getElem?_eq_getElem hp, e])⟩
      have hedge : ∀ z : Nat, (z : Int) ∈ r ↔ Edge L z i := fun z => by
        rw [← edge_back]
        unfold Edge
        rw [backL_len]
        constructor
        · intro hz
          have := hform.2 _ hz
          exact ⟨by omega, r, hr, hz⟩
        · rintro ⟨-, r', hr', hz⟩
          obtain rfl := Option.some.inj (hr.symm.trans hr')
          exact hz
      have hstep := Lib.hid (fun v hU => R.out.step (r := r) (v := v) (Nat.succ_pos k) hi htv hedge hU)
      have hrv : Hid (∀ z ∈ r, 0 ≤ z ∧ z < n) := Lib.hid (fun z hz => by have := hform.2 z hz; rw [hnL.out]; exact this)
      have hW2 := Lib.hid (fun (mm : Nat) (v : Int) => hW.out.kept (w' := (wr.drewN mm).setCell ⟨TB, i, none⟩ (.int .i64 v)) ((Touch.drewN wr mm (fun b => b = TB)).setCell (a := ⟨TB, i, none⟩) (fun _ => rfl) _))
      have hI2 := Lib.hid (fun (mm : Nat) (v : Int) => Ints.set (w := wr.drewN mm) (show Ints (wr.drewN mm) TB t from hI.out) i v)
      have hb2 : Hid (∀ (mm : Nat) (v : Int), Below TB w ((wr.drewN mm).setCell ⟨TB, i, none⟩ (.int .i64 v))) := Lib.hid (fun mm v => (below_drawn hb.out mm).setCell (Nat.le_refl _) _)
      have hrd' := Lib.hid hrd
      clear hi htv hr hrd hform hedge R hI hW hb htl hil
      go_upto_block 6 with fail
      refine dtree6 (by kernel_rfl) (w := wr) (K := K) (o := o) (T := T) (pl := pl) (t := t) (r := r) (PB := PB) hE.out hrd'.out hrv.out hn2 hrl (Lib.hid ?_)
      intros
      rename_i hx
      obtain ⟨v, mm, e13, rfl, hU⟩ := hx
      subst e13
      have hst := hstep.out v hU
      obtain ⟨K', T', hR'⟩ := hst
      replace hR' := Lib.hid hR'
      have a1 := Lib.hid (hW2.out mm v)
      have a2 := Lib.hid (hI2.out mm v)
      have a3 := Lib.hid (hb2.out mm v)
      clear hstep hU hW2 hI2 hb2 hE hrv hrd' hrl
      cases ch with
      | true =>
        go_wp2_with fail
        exact ⟨⟨k + 1, K', T', _, true, by omega, by go_num, rfl, Lib.hid (by simpa using hR'.out), Lib.hid a2.out, Lib.hid a1.out, Lib.hid a3.out⟩, by simp [intOf]; omega⟩
      | false =>
        go_wp2_with fail
        exact ⟨⟨k + 1, K', T', _, _, by omega, by go_num, rfl, Lib.hid (by simpa using hR'.out), Lib.hid a2.out, Lib.hid a1.out, Lib.hid a3.out⟩, by simp [intOf]; omega⟩
    · obtain rfl : k = m := by omega
      have j1 : decide ((k : Int) < (k : Int)) = false := by simp
      go_wp2_with fail
      exact hQ.out ⟨K, T, t, ch, rfl, by have := R.out; rw [← hmo.out] at this; exact this, hI.out, hW.out, hb.out⟩

end Go.Proofs.Yteipncggndefmaa
