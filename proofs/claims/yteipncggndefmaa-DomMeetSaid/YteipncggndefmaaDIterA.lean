/- dom.Iterate: the inner loop. -/
import Derived.Test.YteipncggndefmaaDIter
namespace Go.Proofs.Yteipncggndefmaa
open Go.RowKit Go.Maps Go.Shelf

set_option maxRecDepth 20000 in
set_option maxHeartbeats 2000000 in
theorem diter4 {c : Code} (hc : Func.blockOf Try.f19 4 = some c) {Q : Exit → Act → World → Prop} {w w0 : World} {S bm n cf x rc : Nat} {F : List (List Int)} {l r : List Int} {s wt : List Nat} {ar af : Option Addr} {u1 u2 u3 u4 u7 u8 u9 u10 u11 u12 u13 u14 u15 u16 u17 u18 u19 u20 u21 u22 u23 u24 u25 u26 u27 u28 u29 u30 u31 u32 u33 u34 u35 u36 u37 u38 u39 u40 u41 u42 u46 u47 u48 u49 u50 u51 u52 u53 u54 u55 u56 u57 u58 u59 u60 u61 u62 u63 u64 u65 u66 u67 u68 u69 u70 u71 u72 u73 u74 u75 u76 u77 u78 u79 u80 u81 u82 u83 u84 : Value}
    (hS : w.heap[S]? = some (.cells (seenA n s) 4 (0, 0))) (hM : SetM w bm wt) (hne : S ≠ bm) (hI : ItS F l s wt (some (x, r, 0))) (hr : RdI w0 (.slice ar r.length rc) r) (hb : Below w0.heap.size w0 w) (hS0 : w0.heap.size ≤ S) (hm0 : w0.heap.size ≤ bm) (hn : n = F.length) (hn2 : n ≤ 100000) (hrn : r.length ≤ 1000000)
    (hQ : Hid (∀ {wx : World} {v10 v45 v46 v47 v48 v49 v50 v51 v52 v53 v54 v55 v56 v57 v58 v59 v60 v61 v62 v63 v64 v65 v66 v67 v68 v69 v70 : Value}, (∃ s2 wt2, ItS F l s2 wt2 (some (x, r, r.length)) ∧ wx.heap[S]? = some (.cells (seenA n s2) 4 (0, 0)) ∧ SetM wx bm wt2 ∧ Below w0.heap.size w0 wx ∧ wt2.length + 2 * unseen n s2 ≤ wt.length + 2 * unseen n s) → Q .normal { tmps := #[.slice af n cf, u1, u2, u3, u4, .slice (some ⟨S, 0, none⟩) n n, .map (some bm), u7, u8, u9, v10, u11, u12, u13, u14, u15, u16, u17, u18, u19, u20, u21, u22, u23, u24, u25, u26, u27, u28, u29, u30, u31, u32, u33, u34, u35, u36, u37, u38, u39, u40, u41, u42, .slice ar r.length rc, .int .i64 r.length, v45, v46, v47, v48, v49, v50, v51, v52, v53, v54, v55, v56, v57, v58, v59, v60, v61, v62, v63, v64, v65, v66, v67, v68, v69, v70, u71, u72, u73, u74, u75, u76, u77, u78, u79, u80, u81, u82, u83, u84], defers := [] } wx)) :
    c.wp Try.prog Q { tmps := #[.slice af n cf, u1, u2, u3, u4, .slice (some ⟨S, 0, none⟩) n n, .map (some bm), u7, u8, u9, u10, u11, u12, u13, u14, u15, u16, u17, u18, u19, u20, u21, u22, u23, u24, u25, u26, u27, u28, u29, u30, u31, u32, u33, u34, u35, u36, u37, u38, u39, u40, u41, u42, .slice ar r.length rc, .int .i64 r.length, .int .i64 0, u46, u47, u48, u49, u50, u51, u52, u53, u54, u55, u56, u57, u58, u59, u60, u61, u62, u63, u64, u65, u66, u67, u68, u69, u70, u71, u72, u73, u74, u75, u76, u77, u78, u79, u80, u81, u82, u83, u84], defers := [] } w := by
  conv at hc => lhs; whnf
  simp only [Option.some.injEq] at hc
  subst hc
  obtain ⟨rl, hrl⟩ : ∃ rl, rl = r.length := ⟨_, rfl⟩
  rw [← hrl] at hr hrn
  simp only [← hrl] at hQ ⊢
  replace hr := Lib.hid hr
  replace hrl := Lib.hid hrl
  replace hn := Lib.hid hn
  replace hS := Lib.hid hS
  replace hM := Lib.hid hM
  replace hI := Lib.hid hI
  replace hb := Lib.hid hb
  go_wp2_with fail
  go_loopw [10, 45] (fun _ i wr => ∃ (j : Nat) (s2 wt2 : List Nat), j ≤ rl ∧ i = .int .i64 j ∧ Hid (ItS F l s2 wt2 (some (x, r, j))) ∧ Hid (wr.heap[S]? = some (.cells (seenA n s2) 4 (0, 0))) ∧ Hid (SetM wr bm wt2) ∧ Hid (Below w0.heap.size w0 wr) ∧ Hid (wt2.length + 2 * unseen n s2 ≤ wt.length + 2 * unseen n s)) (fun _ i _ => rl - (intOf i).toNat)
  case atStart => exact ⟨0, s, wt, Nat.zero_le _, rfl, hI, hS, hM, hb, Lib.hid (Nat.le_refl _)⟩
  case round =>
    clear hI hS hM hb
    obtain ⟨j, s2, wt2, hj, rfl, hI, hS, hM, hb, hle⟩ := hrel
    by_cases hlt : j < rl
    · obtain ⟨y0, hy0⟩ : ∃ y, r[j]? = some y := ⟨_, List.getElem?_eq_getElem (by rw [← hrl.out]; exact hlt)⟩
      obtain ⟨b, off, cap, e, hbl, hc⟩ := Rd.at hr.out (i := j) (u := .int .i64 y0) (by simp [hy0, encI])
      rw [List.length_map, ← hrl.out] at e
      simp only [Value.slice.injEq] at e
      obtain ⟨rfl, -, rfl⟩ := e
      have c1 := (hb.out.cell (p := ⟨b, off + j, none⟩) hbl).trans hc
      have j1 : decide ((j : Int) < (rl : Int)) = true := by simpa using hlt
      have j2 : (j : Int) < (rl : Int) := by omega
      replace hy0 := Lib.hid hy0
      clear hc
      by_cases h0 : y0 < 0
      · have d1 : decide (y0 ≥ 0) = false := by simpa using h0
        have hI2 := Lib.hid (hI.out.next hy0.out (fun z hz _ => by omega))
        clear hI
        go_wp2_with fail
        exact ⟨⟨j + 1, s2, wt2, by omega, by go_num, hI2, hS, hM, hb, hle⟩, by simp [intOf]; omega⟩
      · have d1 : decide (y0 ≥ 0) = true := by simp; omega
        by_cases hyn : y0 < n
        · obtain ⟨y, rfl⟩ : ∃ y : Nat, y0 = y := ⟨y0.toNat, by omega⟩
          have d2 : decide ((y : Int) < (n : Int)) = true := by simpa using hyn
          have hyn2 : y < n := by omega
          have c2 : wr.cell? ⟨S, y, none⟩ = some (.bool (decide (y ∈ s2))) := by rw [blk_cell hS.out]; exact seenA_at hyn2
          by_cases hys : y ∈ s2
          · rw [decide_eq_true hys] at c2
            have hI2 := Lib.hid (hI.out.next hy0.out (fun z hz _ => by
              have : y = z := by omega
              exact this ▸ hys))
            replace hys := Lib.hid hys
            clear hI
            go_wp2_with fail
            exact ⟨⟨j + 1, s2, wt2, by omega, by go_num, hI2, hS, hM, hb, hle⟩, by simp [intOf]; omega⟩
          · rw [decide_eq_false hys] at c2
            have f2 : wr.frozen? ⟨S, y, none⟩ = false := by simp [World.frozen?, hS.out]
            have hI2 := Lib.hid ((hI.out.new hy0.out (by have := hn.out; omega)).next hy0.out (fun z hz _ => by
              have : y = z := by omega
              exact this ▸ List.Mem.head _))
            have hul := unseen_lt (n := n) hyn2 hys
            have hpl := plusM_len wt2 y
            have hle2 : Hid ((plusM wt2 y).length + 2 * unseen n (y :: s2) ≤ wt.length + 2 * unseen n s) := Lib.hid (by have := hle.out; omega)
            have hS2 : (wr.setCell ⟨S, y, none⟩ (.bool true)).heap[S]? = some (.cells (seenA n (y :: s2)) 4 (0, 0)) := by rw [blk_set _ hS.out, seenA_set hyn2]
            have hM2 : SetM (wr.setCell ⟨S, y, none⟩ (.bool true)) bm wt2 := hM.out.block (Below.heap_setCell _ _ _ _ (fun e => hne e.symm))
            have hb2 : Below w0.heap.size w0 (wr.setCell ⟨S, y, none⟩ (.bool true)) := hb.out.setCell hS0 _
            replace hys := Lib.hid hys
            replace hS2 := Lib.hid hS2
            replace hb2 := Lib.hid hb2
            clear hI hul hpl hle
            go_wp2_with (first
              | (at_mapUpdate; refine wpList_setM_put rfl _ _ _ rfl bm wt2 hM2 rfl y rfl rfl (by omega) ?_; intro w3 hM3 hT3; go_frame)
              | go_in)
            have hS3 := Lib.hid ((hT3.block S (Array.getElem?_eq_some_iff.1 hS2.out).1 hne).trans hS2.out)
            have hb3 := Lib.hid (hb2.out.trans (hT3.below hb2.out.size (fun k hk e => by omega)))
            replace hM3 := Lib.hid hM3
            clear hT3 hM2 hS2 hb2 hS hM hb
            go_wp2_with fail
            exact ⟨⟨j + 1, y :: s2, plusM wt2 y, by omega, by go_num, hI2, hS3, hM3, hb3, hle2⟩, by simp [intOf]; omega⟩
        · have d2 : decide (y0 < (n : Int)) = false := by simpa using hyn
          have hI2 := Lib.hid (hI.out.next hy0.out (fun z hz hzn => by have := hn.out; omega))
          clear hI
          go_wp2_with fail
          exact ⟨⟨j + 1, s2, wt2, by omega, by go_num, hI2, hS, hM, hb, hle⟩, by simp [intOf]; omega⟩
    · obtain rfl : j = rl := by omega
      have j1 : decide ((j : Int) < (j : Int)) = false := by simp
      go_wp2_with fail
      exact hQ.out ⟨s2, wt2, by have := hI.out; exact this, hS.out, hM.out, hb.out, hle.out⟩

end Go.Proofs.Yteipncggndefmaa
