/- dom.Tree: its blocks. -/
import Derived.Test.YteipncggndefmaaDUp
import Derived.Test.YteipncggndefmaaFindB
import Derived.Deep.CutRange
import Derived.Deep.CutBlock
namespace Go.Proofs.Yteipncggndefmaa
open Go.RowKit Go.Maps

set_option maxRecDepth 20000 in
set_option maxHeartbeats 2000000 in
theorem dtree6 {c : Code} (hc : Func.blockOf Try.f10 6 = some c) {Q : Exit → Act → World → Prop} {w : World} {pb tb PB TB n K rc : Nat} {o : List Nat} {T : Nat → Nat} {pl t r : List Int} {ar : Option Addr} {u0 u1 u2 u3 u4 u6 u7 u8 u10 u11 u12 u14 u15 u16 u17 u18 u19 u20 u21 u22 u23 u24 u25 u26 u27 u28 u29 u30 u31 u32 u33 u34 u35 u36 u37 u38 u39 u40 u41 u42 u43 u44 u45 u46 u47 u48 u49 u50 u51 u52 u53 u57 u58 u59 u60 u61 u62 u63 u64 u65 u66 u67 u68 u69 u70 u71 u72 u73 u74 u75 u76 u77 u78 u79 u80 u81 u82 u83 u84 : Value}
    (E : Env w pb tb PB TB n K o T pl t) (hr : RdI w (.slice ar r.length rc) r) (hrv : ∀ y ∈ r, 0 ≤ y ∧ y < n) (hn : n ≤ 100000) (hrn0 : r.length ≤ 100000)
    (hQ : Hid (∀ {wx : World} {v13 v15 v56 v57 v58 v59 v60 v61 v62 v63 v64 v65 v66 v67 v68 v69 : Value}, (∃ (v : Int) (m : Nat), v13 = .int .i64 v ∧ wx = w.drewN m ∧ UpOf o T K r r.length v) → Q .normal { tmps := #[u0, u1, u2, u3, u4, .slice (some ⟨TB, 0, none⟩) n n, u6, u7, u8, .func (.func 40) #[] #[.pointer (some ⟨pb, 0, none⟩), .pointer (some ⟨tb, 0, none⟩)], u10, u11, u12, v13, u14, v15, u16, u17, u18, u19, u20, u21, u22, u23, u24, u25, u26, u27, u28, u29, u30, u31, u32, u33, u34, u35, u36, u37, u38, u39, u40, u41, u42, u43, u44, u45, u46, u47, u48, u49, u50, u51, u52, u53, .slice ar r.length rc, .int .i64 r.length, v56, v57, v58, v59, v60, v61, v62, v63, v64, v65, v66, v67, v68, v69, u70, u71, u72, u73, u74, u75, u76, u77, u78, u79, u80, u81, u82, u83, u84], defers := [] } wx)) :
    c.wp Try.prog Q { tmps := #[u0, u1, u2, u3, u4, .slice (some ⟨TB, 0, none⟩) n n, u6, u7, u8, .func (.func 40) #[] #[.pointer (some ⟨pb, 0, none⟩), .pointer (some ⟨tb, 0, none⟩)], u10, u11, u12, .int .i64 (-2), u14, u15, u16, u17, u18, u19, u20, u21, u22, u23, u24, u25, u26, u27, u28, u29, u30, u31, u32, u33, u34, u35, u36, u37, u38, u39, u40, u41, u42, u43, u44, u45, u46, u47, u48, u49, u50, u51, u52, u53, .slice ar r.length rc, .int .i64 r.length, .int .i64 0, u57, u58, u59, u60, u61, u62, u63, u64, u65, u66, u67, u68, u69, u70, u71, u72, u73, u74, u75, u76, u77, u78, u79, u80, u81, u82, u83, u84], defers := [] } w := by
  conv at hc => lhs; whnf
  simp only [Option.some.injEq] at hc
  subst hc
  obtain ⟨rl, hrl⟩ : ∃ rl, rl = r.length := ⟨_, rfl⟩
  rw [← hrl] at hr
  have hrn : rl ≤ 100000 := by omega
  simp only [← hrl] at hQ ⊢
  replace hr := Lib.hid hr
  replace hrl := Lib.hid hrl
  have hmf := Lib.hid (fun m (a : Int) => meet_far (E.drewN m) (a := a))
  have hmm := Lib.hid (fun m x0 q0 a b h1 h2 h3 h4 => meet_any (E.drewN m) (x0 := x0) (q0 := q0) (a := a) (b := b) h1 h2 h3 h4 (by omega))
  have hI : Ints w TB t := E.trow
  have htl := E.tree.len
  have hcell : ∀ y : Nat, y < n → ∃ z, t[y]? = some z ∧ w.cell? ⟨TB, y, none⟩ = some (.int .i64 z) := fun y hy => ⟨t[y], List.getElem?_eq_getElem (by omega), hI.cell (List.getElem?_eq_getElem (by omega))⟩
  replace hcell := Lib.hid hcell
  replace E := Lib.hid E
  replace hrv := Lib.hid hrv
  clear hI htl
  go_wp2_with fail
  go_loopw [13, 15, 56] (fun v _ i wr => ∃ (j m : Nat) (z : Int), j ≤ rl ∧ i = .int .i64 j ∧ wr = w.drewN m ∧ v = .int .i64 z ∧ Hid (UpOf o T K r j z)) (fun _ _ i _ => rl - (intOf i).toNat)
  case atStart => exact ⟨0, 0, -2, Nat.zero_le _, rfl, rfl, rfl, Lib.hid (UpOf.start _ _ _ _)⟩
  case round =>
    obtain ⟨j, m, z, hj, rfl, rfl, rfl, hU⟩ := hrel
    by_cases hlt : j < rl
    · obtain ⟨y0, hy0⟩ : ∃ y, r[j]? = some y := ⟨_, List.getElem?_eq_getElem (by rw [← hrl.out]; exact hlt)⟩
      obtain ⟨h0, h1⟩ := hrv.out y0 (List.mem_of_getElem? hy0)
      obtain ⟨y, rfl⟩ : ∃ y : Nat, y0 = y := ⟨y0.toNat, by omega⟩
      obtain ⟨b, off, cap, e, hc⟩ := RdI.cell hr.out hy0
      rw [← hrl.out] at e
      simp only [Value.slice.injEq] at e
      obtain ⟨rfl, -, rfl⟩ := e
      obtain ⟨tv, htv, hct⟩ := hcell.out y (by omega)
      have j1 : decide ((j : Int) < (rl : Int)) = true := by simpa using hlt
      have j2 : (j : Int) < (rl : Int) := by omega
      have j3 : (y : Int) < (n : Int) := by omega
      by_cases hf : tv = -2
      · have d1 : (tv != -2) = false := by simp [hf]
        have hfar : ∀ p, o[p]? = some y → K ≤ p := by
          intro p hp
          rcases Nat.lt_or_ge p K with h | h
          · exfalso
            rcases Nat.eq_zero_or_pos p with rfl | hp0
            · have := E.out.tree.first y hp h
              rw [htv] at this
              have := Option.some.inj this
              omega
            · have hTp := E.out.down p hp0
              obtain ⟨z, hz⟩ : ∃ z, o[T p]? = some z := ⟨_, List.getElem?_eq_getElem (by have := E.out.known; omega)⟩
              have := E.out.tree.at' p y z hp hp0 h hz
              rw [htv] at this
              have := Option.some.inj this
              omega
          · exact h
        have hU2 := Lib.hid (hU.out.far hy0 hfar)
        clear hU hfar hy0
        replace hf := Lib.hid hf
        replace htv := Lib.hid htv
        go_wp2_with fail
        exact ⟨⟨j + 1, m, z, by omega, by go_num, rfl, rfl, hU2⟩, by simp [intOf]; omega⟩
      · have d1 : (tv != -2) = true := by simp [hf]
        obtain ⟨q, hq, hqK⟩ : ∃ q, o[q]? = some y ∧ q < K := by
          by_cases hx : ∃ q, o[q]? = some y ∧ q < K
          · exact hx
          · exfalso
            have := E.out.tree.far y (by omega) (fun p hp => by
              rcases Nat.lt_or_ge p K with h | h
              · exact absurd ⟨p, hp, h⟩ hx
              · exact h)
            rw [htv] at this
            exact hf (Option.some.inj this)
        have hnd := E.out.nodup
        replace htv := Lib.hid htv
        by_cases hz2 : z = -2
        · subst hz2
          have hU2 := Lib.hid (hU.out.one hy0 hnd hq hqK)
          have hcl := Lib.hid (hmf.out m (y : Int))
          clear hU hy0 hq hnd
          replace hf := Lib.hid hf
          go_wp2_with fail
          refine hcl.out.mono ?_
          rintro e w' ⟨rfl, rfl⟩
          go_wp2_with fail
          exact ⟨⟨j + 1, m, _, by omega, by go_num, rfl, rfl, hU2⟩, by simp [intOf]; omega⟩
        · obtain ⟨c, zc, hc1, rfl, hcK, h4⟩ := hU.out.known hz2
          have hcl := Lib.hid (hmm.out m q c y zc hq hc1 hqK hcK)
          have hU2 := Lib.hid (fun c' z' (hM : Meet T q c c') (hz' : o[c']? = some z') hc' => UpOf.more h4 hy0 hnd hq hqK hM hz' hc')
          clear hU hy0 hq hnd h4 hc1 hz2
          replace hf := Lib.hid hf
          go_wp2_with fail
          refine hcl.out.mono ?_
          rintro e w' ⟨c', z', m', rfl, hz', hc', hM, rfl⟩
          have hU3 := Lib.hid (hU2.out c' z' hM hz' hc')
          clear hU2 hM hz'
          go_wp2_with fail
          exact ⟨⟨j + 1, m + m', _, by omega, by go_num, by first | rfl | exact World.drewN_drewN _ _ _, rfl, hU3⟩, by simp [intOf]; omega⟩
    · obtain rfl : j = rl := by omega
      have j1 : decide ((j : Int) < (j : Int)) = false := by simp
      go_wp2_with fail
      exact hQ.out ⟨z, m, rfl, rfl, hU.out⟩

end Go.Proofs.Yteipncggndefmaa
