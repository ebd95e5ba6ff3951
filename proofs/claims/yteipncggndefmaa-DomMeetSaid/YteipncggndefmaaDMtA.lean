/- DomMeet: those that lead to one node; going back from one node. -/
import Derived.Test.YteipncggndefmaaDMtM
namespace Go.Proofs.Yteipncggndefmaa
open Go.RowKit Go.Maps Go.Shelf

def ql (q : List Nat) : List Int := q.map (fun x : Nat => (x : Int))
theorem ql_snoc (q : List Nat) (y : Nat) : ql (q ++ [y]) = ql q ++ [(y : Int)] := by simp [ql]
theorem ql_len (q : List Nat) : (ql q).length = q.length := by simp [ql]
set_option maxRecDepth 20000 in
set_option maxHeartbeats 8000000 in
theorem dmt8 {c : Code} (hc : Func.blockOf Try.f5 8 = some c) {Q : Exit → Act → World → Prop} {w w0 : World} {n S R W bM oM cM cg b z x g v y0 : Nat} {ag : Option Addr} {L M : List (List Int)} {t r : List Int} {sp sv s q : List Nat} {vq : Value} {u1 u2 u3 u4 u5 u6 u8 u9 u10 u11 u14 u20 u21 u22 u23 u24 u25 u26 u27 u28 u29 u30 u31 u32 u33 u34 u35 u36 u37 u38 u39 u40 u41 u42 u43 u44 u45 u46 u47 u48 u49 u50 u51 u52 u53 u54 u55 u56 u57 u58 u59 u60 u61 u62 u63 u64 u65 u66 u67 u68 u69 u70 u71 u72 u73 u74 u75 u76 u77 u78 u79 u80 u81 u82 u83 u84 u85 u86 u87 u88 u89 u90 u91 u92 u93 u94 u95 u96 u97 u98 u99 u100 u101 u102 u103 u104 u105 u106 u107 u108 u109 u110 u111 u112 u113 u114 u115 u116 u117 u118 u119 u120 u121 u122 u123 u124 u125 u126 u127 u128 u129 u130 u131 u132 u133 u134 u135 u136 u137 u138 u139 u140 u141 u142 u143 u144 u145 u146 u147 u148 u149 u150 u151 u152 u153 u154 u155 u156 u157 u158 u159 u160 u161 u162 u163 u164 u165 u166 u167 u168 u169 u170 u171 u172 u173 u174 u175 u176 u177 u178 u179 u180 u181 u182 u183 u184 u185 u186 u187 u188 u189 u190 u191 u192 u193 u194 u195 u196 u197 u198 u199 u200 u201 u202 u203 u204 u205 u206 u207 u208 u209 u210 u211 u212 : Value}
    (hW0 : W = w0.heap.size) (hP0 : w0.heap[S]? = some (.cells (seenA n sp) 4 (0, 0))) (hR0 : w0.heap[R]? = some (.cells (seenA n sv) 4 (0, 0))) (hM : RdG w0 (.slice (some ⟨bM, oM, none⟩) n cM) M) (hMl : M.length = n) (hn2 : n ≤ 100000) (hctx : DT L y0 t ∧ Shut L y0 (fun u => u ∈ sp) ∧ IsN L y0 (fun u => u ∈ sp) b z ∧ Way L y0 b ∧ b ∉ sp) (hsv : ∀ u, u ∈ sv ↔ Way L y0 u) (hrx : M[x]? = some r) (hx : x < n) (hrr : r.length ≤ 1000000) (hv : ∀ z ∈ r, 0 ≤ z ∧ z < n) (hre : ∀ u : Nat, Edge L u x ↔ (u : Int) ∈ r) (hWs : w.heap[W]? = some (.cells (seenA n s) 4 (0, 0))) (hWq : Win w (W + 1) vq (ql q)) (hB : Below W w0 w) (hBr : Br L y0 (fun u => u ∈ sp) b z n x r g 0 s q v)
    (hQ : Hid (∀ {wx : World} {v6 v16 v17 v19 v20 v162 v163 v164 v165 v166 v167 v168 v169 v170 v171 v172 v173 v174 v175 v176 v177 v178 v179 v180 v181 v182 v183 v184 v185 v186 v187 v188 v189 v190 v191 v192 v193 v194 v195 v196 v197 v198 v199 v200 v201 v202 v203 v204 v205 v206 v207 v208 v209 : Value}, (∃ s2 q2 v2, Win wx (W + 1) v16 (ql q2) ∧ v17 = .int .i64 (v2 : Nat) ∧ wx.heap[W]? = some (.cells (seenA n s2) 4 (0, 0)) ∧ Below W w0 wx ∧ Bq L y0 (fun u => u ∈ sp) b z n s2 q2 v2 ∧ unseen n s2 + q2.length < g) → Q .normal { tmps := #[.slice ag n cg, u1, u2, u3, u4, u5, v6, .slice (some ⟨S, 0, none⟩) n n, u8, u9, u10, u11, .slice (some ⟨bM, oM, none⟩) n cM, .slice (some ⟨R, 0, none⟩) n n, u14, .slice (some ⟨W, 0, none⟩) n n, v16, v17, .int .i64 x, v19, v20, u21, u22, u23, u24, u25, u26, u27, u28, u29, u30, u31, u32, u33, u34, u35, u36, u37, u38, u39, u40, u41, u42, u43, u44, u45, u46, u47, u48, u49, u50, u51, u52, u53, u54, u55, u56, u57, u58, u59, u60, u61, u62, u63, u64, u65, u66, u67, u68, u69, u70, u71, u72, u73, u74, u75, u76, u77, u78, u79, u80, u81, u82, u83, u84, u85, u86, u87, u88, u89, u90, u91, u92, u93, u94, u95, u96, u97, u98, u99, u100, u101, u102, u103, u104, u105, u106, u107, u108, u109, u110, u111, u112, u113, u114, u115, u116, u117, u118, u119, u120, u121, u122, u123, u124, u125, u126, u127, u128, u129, u130, u131, u132, u133, u134, u135, u136, u137, u138, u139, u140, u141, u142, u143, u144, u145, u146, u147, u148, u149, u150, u151, u152, u153, u154, u155, u156, u157, u158, u159, u160, u161, v162, v163, v164, v165, v166, v167, v168, v169, v170, v171, v172, v173, v174, v175, v176, v177, v178, v179, v180, v181, v182, v183, v184, v185, v186, v187, v188, v189, v190, v191, v192, v193, v194, v195, v196, v197, v198, v199, v200, v201, v202, v203, v204, v205, v206, v207, v208, v209, u210, u211, u212], defers := [] } wx)) :
    c.wp Try.prog Q { tmps := #[.slice ag n cg, u1, u2, u3, u4, u5, u6, .slice (some ⟨S, 0, none⟩) n n, u8, u9, u10, u11, .slice (some ⟨bM, oM, none⟩) n cM, .slice (some ⟨R, 0, none⟩) n n, u14, .slice (some ⟨W, 0, none⟩) n n, vq, .int .i64 v, .int .i64 x, .int .i64 0, u20, u21, u22, u23, u24, u25, u26, u27, u28, u29, u30, u31, u32, u33, u34, u35, u36, u37, u38, u39, u40, u41, u42, u43, u44, u45, u46, u47, u48, u49, u50, u51, u52, u53, u54, u55, u56, u57, u58, u59, u60, u61, u62, u63, u64, u65, u66, u67, u68, u69, u70, u71, u72, u73, u74, u75, u76, u77, u78, u79, u80, u81, u82, u83, u84, u85, u86, u87, u88, u89, u90, u91, u92, u93, u94, u95, u96, u97, u98, u99, u100, u101, u102, u103, u104, u105, u106, u107, u108, u109, u110, u111, u112, u113, u114, u115, u116, u117, u118, u119, u120, u121, u122, u123, u124, u125, u126, u127, u128, u129, u130, u131, u132, u133, u134, u135, u136, u137, u138, u139, u140, u141, u142, u143, u144, u145, u146, u147, u148, u149, u150, u151, u152, u153, u154, u155, u156, u157, u158, u159, u160, u161, u162, u163, u164, u165, u166, u167, u168, u169, u170, u171, u172, u173, u174, u175, u176, u177, u178, u179, u180, u181, u182, u183, u184, u185, u186, u187, u188, u189, u190, u191, u192, u193, u194, u195, u196, u197, u198, u199, u200, u201, u202, u203, u204, u205, u206, u207, u208, u209, u210, u211, u212], defers := [] } w := by
  conv at hc => lhs; whnf
  simp only [Option.some.injEq] at hc
  subst hc
  obtain ⟨rl, hrl⟩ : ∃ rl, rl = r.length := ⟨_, rfl⟩
  have hrn : rl ≤ 1000000 := by omega
  have jx : (x : Int) < (n : Int) := by omega
  have hrow := Lib.hid (fun wr (hb : Below W w0 wr) => (by
    obtain ⟨b1, off, cap, u, e, hbl, hce, hrd⟩ := hM.at hrx
    rw [hMl] at e
    simp only [Value.slice.injEq, Option.some.injEq, Addr.mk.injEq] at e
    obtain ⟨⟨rfl, rfl, -⟩, -, rfl⟩ := e
    obtain ⟨ar, cr, rfl⟩ := hrd.shape
    rw [hW0] at hb
    exact ⟨ar, cr, (hb.cell hbl).trans hce, Rd.below hrd hb⟩ : ∃ ar cr, wr.cell? ⟨bM, oM + x, none⟩ = some (.slice ar r.length cr) ∧ RdI wr (.slice ar r.length cr) r))
  have hSl : S < W := by have := (Array.getElem?_eq_some_iff.1 hP0).1; omega
  have hRl : R < W := by have := (Array.getElem?_eq_some_iff.1 hR0).1; omega
  have hSc := Lib.hid (fun wr (hb : Below W w0 wr) (y : Nat) (hy : y < n) => (by rw [hb.cell (p := ⟨S, y, none⟩) hSl, blk_cell hP0]; exact seenA_at hy : wr.cell? ⟨S, y, none⟩ = some (.bool (decide (y ∈ sp)))))
  have hRc := Lib.hid (fun wr (hb : Below W w0 wr) (y : Nat) (hy : y < n) => (by rw [hb.cell (p := ⟨R, y, none⟩) hRl, blk_cell hR0]; exact seenA_at hy : wr.cell? ⟨R, y, none⟩ = some (.bool (decide (y ∈ sv)))))
  replace hW0 := Lib.hid hW0
  replace hrl := Lib.hid hrl
  replace hv := Lib.hid hv
  replace hre := Lib.hid hre
  replace hsv := Lib.hid hsv
  replace hctx := Lib.hid hctx
  replace hWs := Lib.hid hWs
  replace hWq := Lib.hid hWq
  replace hB := Lib.hid hB
  replace hBr := Lib.hid hBr
  replace hrx := Lib.hid hrx
  replace hSl := Lib.hid hSl
  replace hRl := Lib.hid hRl
  clear hP0 hR0 hM hMl hrr
  obtain ⟨ar, cr, -⟩ := hrow.out w hB.out
  go_wp2_with fail
  go_loopw [16, 17, 19, 20] (fun qv vv i _ wr => ∃ (k : Nat) (s2 q2 : List Nat) (v2 : Nat), k ≤ rl ∧ i = .int .i64 k ∧ vv = .int .i64 v2 ∧ v2 ≤ 1 ∧ Hid (Win wr (W + 1) qv (ql q2)) ∧ Hid (wr.heap[W]? = some (.cells (seenA n s2) 4 (0, 0))) ∧ Hid (Below W w0 wr) ∧ Hid (Br L y0 (fun u => u ∈ sp) b z n x r g k s2 q2 v2)) (fun _ _ i _ _ => rl - (intOf i).toNat)
  case atStart => exact ⟨0, s, q, v, Nat.zero_le _, rfl, rfl, hBr.out.small, hWq, hWs, hB, hBr⟩
  case round =>
    clear hWs hWq hB hBr
    obtain ⟨k, s2, q2, v2, hk, rfl, rfl, hv2, hWq, hWs, hB, hBr⟩ := hrel
    obtain ⟨ar, cr, hce, hrd⟩ := hrow.out wr hB.out
    rw [← hrl.out] at hce
    by_cases hlt : k < rl
    · obtain ⟨zz, hz⟩ : ∃ z, r[k]? = some z := ⟨_, List.getElem?_eq_getElem (by rw [← hrl.out]; exact hlt)⟩
      obtain ⟨b2, off2, cap2, e2, hc2⟩ := RdI.cell hrd hz
      simp only [Value.slice.injEq] at e2
      obtain ⟨rfl, -, rfl⟩ := e2
      have hzv := hv.out _ (List.mem_of_getElem? hz)
      obtain ⟨y, rfl⟩ : ∃ y : Nat, zz = y := ⟨zz.toNat, by omega⟩
      have hyn : y < n := by omega
      have jy : (y : Int) < (n : Int) := by omega
      have j1 : decide ((k : Int) < (rl : Int)) = true := by simpa using hlt
      have j2 : (k : Int) < (rl : Int) := by omega
      have j3 : decide ((y : Int) < 0) = false := by simp
      have j4 : decide ((y : Int) ≥ (n : Int)) = false := by simp; omega
      have j4n : decide (n ≤ y) = false := by simpa using hyn
      have c1 := hSc.out wr hB.out y hyn
      have c2 := hRc.out wr hB.out y hyn
      have c3 : wr.cell? ⟨W, y, none⟩ = some (.bool (decide (y ∈ s2))) := by rw [blk_cell hWs.out]; exact seenA_at hyn
      have hed : Edge L y x := (hre.out y).2 (List.mem_of_getElem? hz)
      clear hrd
      by_cases hys : y ∈ s2
      · rw [decide_eq_true hys] at c3
        have hB2 := Lib.hid (hBr.out.old hz (fun _ => hys))
        replace hys := Lib.hid hys
        replace hed := Lib.hid hed
        clear hBr hz hzv c1 c2
        go_wp2_with fail
        exact ⟨⟨k + 1, s2, q2, v2, by omega, by go_num, rfl, hv2, hWq, hWs, hB, hB2⟩, by simp [intOf]; omega⟩
      · rw [decide_eq_false hys] at c3
        by_cases hw : Way L y0 y
        · rw [decide_eq_true ((hsv.out y).2 hw)] at c2
          have f3 : wr.frozen? ⟨W, y, none⟩ = false := by simp [World.frozen?, hWs.out]
          have hWs2 : Hid ((wr.setCell ⟨W, y, none⟩ (.bool true)).heap[W]? = some (.cells (seenA n (y :: s2)) 4 (0, 0))) := Lib.hid (by rw [blk_set _ hWs.out, seenA_set hyn])
          have hB2 : Hid (Below W w0 (wr.setCell ⟨W, y, none⟩ (.bool true))) := Lib.hid (hB.out.setCell (p := ⟨W, y, none⟩) (Nat.le_refl W) _)
          have hWq2 := Lib.hid (hWq.out.touch (w' := wr.setCell ⟨W, y, none⟩ (.bool true)) (S := fun b => b = W) ((Touch.refl wr (fun b => b = W)).setCell (a := ⟨W, y, none⟩) (fun _ => rfl) _) (fun b hb e => by omega))
          have c1' : (wr.setCell ⟨W, y, none⟩ (.bool true)).cell? ⟨S, y, none⟩ = some (.bool (decide (y ∈ sp))) := hSc.out _ hB2.out y hyn
          obtain ⟨hT, hSh, hIs, hbw, hbP⟩ := hctx.out
          clear hWs hB hWq c1
          by_cases hP : y ∈ sp
          · rw [decide_eq_true hP] at c1'
            have hBr2 := Lib.hid (hBr.out.value hT hSh hIs hbw hbP hz hyn hys hw hed hP)
            have hv3 := hBr2.out.small
            replace hys := Lib.hid hys
            replace hed := Lib.hid hed
            replace hw := Lib.hid hw
            replace hP := Lib.hid hP
            clear hBr hz hzv hT hSh hIs hbw hbP
            go_wp2_with fail
            exact ⟨⟨k + 1, y :: s2, q2, v2 + 1, by omega, by go_num, by go_num, hv3, hWq2, hWs2, hB2, hBr2⟩, by simp [intOf]; omega⟩
          · rw [decide_eq_false hP] at c1'
            have hBr2 := Lib.hid (hBr.out.new hIs.1 hz hyn hys hw hed hP)
            have hql : q2.length ≤ n := hBr.out.size
            have hWl : Hid (W + 1 ≤ wr.heap.size) := Lib.hid (by
              have h := hWs2.out
              have := (Array.getElem?_eq_some_iff.1 h).1
              simp [World.setCell] at this; omega)
            replace hys := Lib.hid hys
            replace hed := Lib.hid hed
            replace hw := Lib.hid hw
            replace hP := Lib.hid hP
            clear hBr hz hzv hT hSh hIs hbw hbP
            generalize hw1 : wr.setCell ⟨W, y, none⟩ (.bool true) = w1 at *
            go_wp2_with (at_builtin; go_must (refine wpList_append_win rfl _ _ rfl (W + 1) _ (ql q2) y rfl (hWq2.out.below (w' := w1.alloc (.cells #[.int .i64 y] 3)) ((Below.refl _ _).alloc (Nat.le_refl _) _)) w1.heap.size 1 rfl (cell_new1 w1 3 (y : Int) 0 _ rfl) (by rw [ql_len]; omega) ?_ ?_))
            · have := hWl.out
              rw [← hw1]
              simp [World.setCell]
              omega
            intro v' w2 hW2 hb2
            have hfin : Hid (Below W w0 w2) := Lib.hid ((hB2.out.alloc (by have := hWl.out; rw [← hw1]; simp [World.setCell]; omega) _).trans (hb2.mono (Nat.le_succ W)))
            have hWs3 : Hid (w2.heap[W]? = some (.cells (seenA n (y :: s2)) 4 (0, 0))) := Lib.hid ((hb2.block W (Nat.lt_succ_self W)).trans (at_oldD hWs2.out))
            rw [← ql_snoc] at hW2
            replace hW2 := Lib.hid hW2
            clear hb2 hWs2 hB2 hWq2
            go_wp2_with fail
            exact ⟨⟨k + 1, y :: s2, q2 ++ [y], v2, by omega, by go_num, rfl, hv2, hW2, hWs3, hfin, hBr2⟩, by simp [intOf]; omega⟩
        · rw [decide_eq_false (fun h => hw ((hsv.out y).1 h))] at c2
          have hB2 := Lib.hid (hBr.out.old hz (fun h => absurd h hw))
          replace hys := Lib.hid hys
          replace hw := Lib.hid hw
          replace hed := Lib.hid hed
          clear hBr hz hzv c1
          go_wp2_with fail
          exact ⟨⟨k + 1, s2, q2, v2, by omega, by go_num, rfl, hv2, hWq, hWs, hB, hB2⟩, by simp [intOf]; omega⟩
    · obtain rfl : k = rl := by omega
      have j1 : decide ((k : Int) < (k : Int)) = false := by simp
      have hfin := Lib.hid (by have h := hBr.out; rw [hrl.out] at h; exact h.end (fun u hu => (hre.out u).1 hu))
      clear hBr hrd
      go_wp2_with fail
      exact hQ.out ⟨s2, q2, v2, hWq.out, rfl, hWs.out, hB.out, hfin.out.1, hfin.out.2⟩

end Go.Proofs.Yteipncggndefmaa
