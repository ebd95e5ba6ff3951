/- dom.Frontier: going up from one node. -/
import Derived.Test.YteipncggndefmaaDFrontM
namespace Go.Proofs.Yteipncggndefmaa
open Go.RowKit Go.Maps

set_option maxRecDepth 20000 in
set_option maxHeartbeats 2000000 in
theorem dfront4 {c : Code} (hc : Func.blockOf Try.f16 4 = some c) {Q : Exit → Act → World → Prop} {w w1 : World} {TB G base n q p x y y0 j : Nat} {L : List (List Int)} {o : List Nat} {T : Nat → Nat} {t r : List Int} {vs : List Value} {B : List (List Int)} {u0 u1 u2 u3 u4 u8 u9 u10 u12 u13 u14 u15 u16 u17 u18 u19 u20 u21 u22 u23 u24 u25 u26 u27 u28 u29 u30 u31 u32 u33 u34 u35 u36 u37 u38 u39 u40 u41 u42 u43 u44 u45 u46 u47 u48 u49 u50 u51 u52 u53 u54 u55 u56 u57 u58 u59 u60 u61 u62 u63 u64 u65 u66 u67 u68 u69 : Value}
    (hF : Fill w1 w base G vs B) (hT : Tree L y0 o T t) (hI : Ints w1 TB t) (hTG : TB ≠ G) (hn : n = L.length) (hn2 : n ≤ 100000) (hq : o[q]? = some y) (hp : o[p]? = some x) (hx : r[j]? = some (x : Int)) (hr : ∀ x : Nat, (x : Int) ∈ r ↔ Edge L x y) (hA : FrAt n (FrP L y0) y (FrJ L y0 y r j) B) (hbase : base ≤ w1.heap.size)
    (hQ : Hid (∀ {wx : World} {v11 v38 v39 v40 v41 v42 v43 v44 v45 v46 v47 v48 v49 v50 v51 v52 v53 v54 v55 v56 v57 v58 v59 v60 v61 v62 v63 v64 v65 v66 : Value}, (∃ (vs : List Value) (B : List (List Int)), Fill w1 wx base G vs B ∧ FrAt n (FrP L y0) y (FrJ L y0 y r (j + 1)) B) → Q .normal { tmps := #[u0, u1, u2, u3, u4, .slice (some ⟨TB, 0, none⟩) n n, .slice (some ⟨G, 0, none⟩) n n, .int .i64 y, u8, u9, u10, v11, u12, u13, u14, u15, u16, u17, u18, u19, u20, u21, u22, u23, u24, u25, u26, u27, u28, u29, u30, u31, u32, u33, u34, u35, u36, u37, v38, v39, v40, v41, v42, v43, v44, v45, v46, v47, v48, v49, v50, v51, v52, v53, v54, v55, v56, v57, v58, v59, v60, v61, v62, v63, v64, v65, v66, u67, u68, u69], defers := [] } wx)) :
    c.wp Try.prog Q { tmps := #[u0, u1, u2, u3, u4, .slice (some ⟨TB, 0, none⟩) n n, .slice (some ⟨G, 0, none⟩) n n, .int .i64 y, u8, u9, u10, .int .i64 x, u12, u13, u14, u15, u16, u17, u18, u19, u20, u21, u22, u23, u24, u25, u26, u27, u28, u29, u30, u31, u32, u33, u34, u35, u36, u37, u38, u39, u40, u41, u42, u43, u44, u45, u46, u47, u48, u49, u50, u51, u52, u53, u54, u55, u56, u57, u58, u59, u60, u61, u62, u63, u64, u65, u66, u67, u68, u69], defers := [] } w := by
  conv at hc => lhs; whnf
  simp only [Option.some.injEq] at hc
  subst hc
  obtain ⟨i0, hi0, hz0, hz1, hz2⟩ := info_parts infoI1
  have hyl := hT.row.lt hq
  obtain ⟨tv, htv⟩ : ∃ tv, t[y]? = some tv := ⟨_, List.getElem?_eq_getElem (by rw [hT.is.len]; exact hyl)⟩
  have hyn : (y : Int) < (n : Int) := by omega
  have hcell : Hid (∀ (wr : World), Touch w1 wr (fun b => b = G) → ∀ (i : Nat) (z : Int), t[i]? = some z → wr.cell? ⟨TB, i, none⟩ = some (.int .i64 z)) := Lib.hid (fun wr hw i z hz => (World.cell?_of_block (w := w1) (hw.block TB hI.lt hTG)).trans (hI.cell hz))
  have hA0 : FrAt n (FrP L y0) y (fun a => FrJ L y0 y r j a ∨ ∃ c', o[c']? = some a ∧ Anc T c' p ∧ ¬ Anc T c' p) B := hA.same (fun a _ => ⟨.inl, fun h => h.elim id (fun ⟨c', _, h1, h2⟩ => absurd h1 h2)⟩)
  have hU0 := Up.start hT hq hp ((hr x).1 (List.mem_of_getElem? hx))
  have hy2 : y ≤ 100000 := by omega
  replace hn := Lib.hid hn
  replace hF := Lib.hid hF
  replace hA0 := Lib.hid hA0
  replace hU0 := Lib.hid hU0
  replace hT := Lib.hid hT
  replace hr := Lib.hid hr
  replace hq := Lib.hid hq
  replace hp := Lib.hid hp
  replace hx := Lib.hid hx
  replace htv := Lib.hid htv
  clear hI hTG hA hyl
  go_wp2_with fail
  go_loopw [11] (fun u wr => ∃ (z : Int) (vs : List Value) (B : List (List Int)) (U : Nat → Prop), u = .int .i64 z ∧ Hid (Fill w1 wr base G vs B) ∧ Hid (Up L y0 o T q p z U) ∧ Hid (FrAt n (FrP L y0) y (fun a => FrJ L y0 y r j a ∨ U a) B)) (fun u _ => upN o (intOf u))
  case atStart => exact ⟨x, vs, B, _, rfl, hF, hU0, hA0⟩
  case round =>
    clear hF hA0 hU0
    obtain ⟨z, vs, B, U, rfl, hF, hU, hA⟩ := hrel
    have ct := hcell.out wr hF.out.T y tv htv.out
    by_cases hz : z = tv
    · have d1 : (z != tv) = false := by simp [hz]
      have hfin := Lib.hid (hA.out.same (fun a _ => Up.close hT.out.row hU.out (fun a ha => Up.top hT.out hq.out hp.out hx.out hU.out (by rw [hz]; exact htv.out) a ha) a))
      replace hz := Lib.hid hz
      clear hU hA
      go_wp2_with fail
      exact hQ.out ⟨vs, B, hF.out, hfin.out⟩
    · have d1 : (z != tv) = true := by simp [hz]
      obtain ⟨c, zn, v, U', rfl, hc, htz, hU', hUe, hlt⟩ := Up.go hT.out hq.out htv.out hU.out hz
      have hzl := hT.out.row.lt hc
      have hzn : zn < n := by have := hn.out; omega
      have i1 : (zn : Int) < (n : Int) := by omega
      obtain ⟨F, hFz⟩ : ∃ F, B[zn]? = some F := ⟨_, List.getElem?_eq_getElem (by rw [hA.out.1]; exact hzn)⟩
      have hFl := hA.out.len hFz
      obtain ⟨u1, hu1, hrow⟩ := hF.out.M.at hFz
      have hgc := hF.out.M.cell hu1
      have hend := hA.out.ends hFz
      have hrd := strip_rd hrow
      have ct2 := hcell.out wr hF.out.T zn v htz
      replace hc := Lib.hid hc
      replace hz := Lib.hid hz
      have hE := Lib.hid (ends_any (y := (y : Int)) hrd (by omega))
      obtain ⟨q2, hq2⟩ : ∃ q2, q2 = endsL F (y : Int) := ⟨_, rfl⟩
      rw [← hq2] at hE hend
      replace hq2 := Lib.hid hq2
      obtain ⟨au, cu, rfl⟩ := own_form hrow
      cases q2 with
      | true =>
        have hm := hend.1 rfl
        have hfin := Lib.hid (hA.out.same (fun a _ => Up.close hT.out.row hU.out (fun a ha => Up.met hT.out hq.out hp.out hx.out hU.out hc.out hm (fun x => (hr.out x).1) a ha) a))
        clear hm hend hU hA hrow hrd hU' hUe hlt hu1 hFz htz
        go_wp2_with fail
        refine hE.out.mono ?_
        rintro e w' ⟨rfl, rfl⟩
        go_wp2_with fail
        exact hQ.out ⟨vs, B, hF.out, hfin.out⟩
      | false =>
        have hno : ¬ (FrJ L y0 y r j zn ∨ U zn) := fun h => by have := hend.2 h; cases this
        have hA2 : Hid (FrAt n (FrP L y0) y (fun a => FrJ L y0 y r j a ∨ U' a) (B.set zn (F ++ [(y : Int)]))) := Lib.hid ((hA.out.mark hFz hno).same (fun a _ => by
          rw [hUe a]
          constructor
          · rintro ((h | h) | h)
            · exact .inl h
            · exact .inr (.inl h)
            · exact .inr (.inr h)
          · rintro (h | h | h)
            · exact .inl (.inl h)
            · exact .inl (.inr h)
            · exact .inr h))
        have hle : base ≤ wr.heap.size := Nat.le_trans hbase hF.out.T.size
        replace hU' := Lib.hid hU'
        replace htz := Lib.hid htz
        clear hno hend hU hA hUe hrd
        go_wp2_with fail
        refine hE.out.mono ?_
        rintro e w' ⟨rfl, rfl⟩
        go_wp2_with (at_builtin; refine wpList_append_own_at _ rfl _ _ 25 rfl base 3 i0 _ 1 8 Try.underlying25 hi0 hz0 hz1 hz2 rfl (by decide) _ _ _ rfl (hrow.alloc _) ⟨w'.heap.size, 0, none⟩ 1 1 [.int .i64 y] rfl rfl (World.news_of_block (cs := #[.int .i64 y]) (t := 3) (fr := (0, 0)) (heap_alloc_new w' _)) (by simp [Value.oneCell']) (by unfold maxLen; omega) (by omega) (by simp; omega) ?_)
        intro v' w2 hown2 hgrow hnil hat
        obtain ⟨⟨av2, cv2, rfl⟩, hc3, hf3, hF2⟩ := hF.out.appended hu1 hFz hown2 hgrow hat
        have ct3 := hcell.out _ hF2.T zn v htz.out
        have hF3 := Lib.hid hF2
        clear hF2 hown2 hgrow hnil hat hgc hrow hu1 hF ct ct2 hE htz hFz
        go_wp2_with fail
        exact ⟨⟨v, _, _, U', rfl, hF3, hU', hA2⟩, hlt⟩

end Go.Proofs.Yteipncggndefmaa
