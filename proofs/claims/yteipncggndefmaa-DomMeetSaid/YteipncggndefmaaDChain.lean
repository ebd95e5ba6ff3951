/- DomChain: the innermost loop. -/
import Derived.Test.YteipncggndefmaaDLaw
namespace Go.Proofs.Yteipncggndefmaa
open Go.RowKit Go.Maps Go.Shelf

/-- Those that dominate stand in a row. -/
structure Rows3 (n : Nat) (q : Nat → Nat → Bool) : Prop where
  row : ∀ a b c, q a c = true → q b c = true → q a b = true ∨ q b a = true
  trans : ∀ a b c, q a b = true → q b c = true → q a c = true
  anti : ∀ a b, a ≠ b → q a b = true → q b a = true → False
theorem DT.rows {L : List (List Int)} {y0 : Nat} {t : List Int} (h : DT L y0 t) : Rows3 L.length (fun a b => Go.Proofs.Yteipncggndefmaa.domL L.length t a b) := by
  have hd := fun a b => h.domL (Nat.le_refl _) a b
  rcases h with ⟨o, T, ht⟩ | ⟨h1, -⟩
  · have hp : ∀ a b : Nat, Go.Proofs.Yteipncggndefmaa.domL L.length t a b = true → ∃ x q, o[x]? = some a ∧ o[q]? = some b ∧ Anc T x q := fun a b hab => by
      have hd1 := (hd a b).1 hab
      obtain ⟨x, hx, ex⟩ := List.getElem_of_mem ((ht.row.mem a).2 hd1.reached)
      obtain ⟨q, hq, eq⟩ := List.getElem_of_mem ((ht.row.mem b).2 hd1.1)
      have hx' : o[x]? = some a := by rw [List.getElem?_eq_getElem hx, ex]
      have hq' : o[q]? = some b := by rw [List.getElem?_eq_getElem hq, eq]
      exact ⟨x, q, hx', hq', (ht.anc_dmn hx' hq').2 hd1⟩
    refine ⟨fun a b c h1 h2 => ?_, fun a b c h1 h2 => ?_, fun a b hne h1 h2 => ?_⟩
    · obtain ⟨x, q, e1, e2, e3⟩ := hp a c h1
      obtain ⟨x', q', f1, f2, f3⟩ := hp b c h2
      obtain rfl := ht.row.inj e2 f2
      rcases Nat.le_total x x' with hle | hle
      · exact .inl ((hd a b).2 ((ht.anc_dmn e1 f1).1 (e3.both ht.down f3 hle)))
      · exact .inr ((hd b a).2 ((ht.anc_dmn f1 e1).1 (f3.both ht.down e3 hle)))
    · obtain ⟨x, q, e1, e2, e3⟩ := hp a b h1
      obtain ⟨x', q', f1, f2, f3⟩ := hp b c h2
      obtain rfl := ht.row.inj e2 f1
      exact (hd a c).2 ((ht.anc_dmn e1 f2).1 (e3.trans f3))
    · obtain ⟨x, q, e1, e2, e3⟩ := hp a b h1
      obtain ⟨x', q', f1, f2, f3⟩ := hp b a h2
      obtain rfl := ht.row.inj e2 f1
      obtain rfl := ht.row.inj e1 f2
      have := e3.le ht.down
      have := f3.le ht.down
      obtain rfl : x = q := by omega
      exact hne (Option.some.inj (e1.symm.trans e2))
  · have hf : ∀ a b : Nat, Go.Proofs.Yteipncggndefmaa.domL L.length t a b = true → False := fun a b hab => by
      have := ((hd a b).1 hab).1.lt.1
      omega
    exact ⟨fun a b c h _ => (hf _ _ h).elim, fun a b c h _ => (hf _ _ h).elim, fun a b _ h _ => hf _ _ h⟩

set_option maxRecDepth 20000 in
set_option maxHeartbeats 8000000 in
theorem dchain4 {c : Code} (hc : Func.blockOf Try.f6 4 = some c) {Q : Exit → Act → World → Prop} {w : World} {n a cc cg ct : Nat} {ag at_ : Option Addr} {t : List Int} {u1 u2 u3 u4 u9 u10 u11 u12 u13 u14 u15 u16 u17 u18 u19 u20 u21 u22 u23 u24 u25 u26 u27 u28 u29 u30 u31 u32 u33 u34 u35 u36 u37 u38 u39 u40 u41 u42 u43 u44 u45 u46 u47 u48 u49 u50 u51 u52 u53 u54 u55 u56 u57 u58 u59 u60 u61 u62 u63 u64 u65 u66 u67 u68 u69 u70 u71 u72 u73 u74 u75 u76 u77 u78 u79 u80 u81 u82 u83 u84 u85 u86 u87 u88 u89 u90 u91 : Value}
    (hI : RdI w (.slice at_ n ct) t) (htl : t.length = n) (htl' : t.length ≤ 1000000) (hn : n ≤ 100000) (hq : Rows3 n (fun a b => domL n t a b))
    (hQ : Hid (∀ {wx : World} {v4 v8 v27 v28 v29 v30 v31 v32 v33 v34 v35 v36 v37 v38 v39 v40 v41 v42 v43 v44 v45 v46 v47 v48 v49 v50 v51 v52 v53 v54 v55 v56 v57 v58 v59 v60 v61 v62 v63 v64 v65 v66 v67 v68 v69 v70 v71 v72 v73 v74 v75 v76 v77 v78 v79 v80 v81 v82 v83 v84 v85 v86 v87 v88 v89 v90 : Value}, wx = w → Q .normal { tmps := #[.slice ag n cg, u1, u2, u3, v4, .slice at_ n ct, .int .i64 cc, .int .i64 a, v8, u9, u10, u11, u12, u13, u14, u15, u16, u17, u18, u19, u20, u21, u22, u23, u24, u25, u26, v27, v28, v29, v30, v31, v32, v33, v34, v35, v36, v37, v38, v39, v40, v41, v42, v43, v44, v45, v46, v47, v48, v49, v50, v51, v52, v53, v54, v55, v56, v57, v58, v59, v60, v61, v62, v63, v64, v65, v66, v67, v68, v69, v70, v71, v72, v73, v74, v75, v76, v77, v78, v79, v80, v81, v82, v83, v84, v85, v86, v87, v88, v89, v90, u91], defers := [] } wx)) :
    c.wp Try.prog Q { tmps := #[.slice ag n cg, u1, u2, u3, u4, .slice at_ n ct, .int .i64 cc, .int .i64 a, .int .i64 0, u9, u10, u11, u12, u13, u14, u15, u16, u17, u18, u19, u20, u21, u22, u23, u24, u25, u26, u27, u28, u29, u30, u31, u32, u33, u34, u35, u36, u37, u38, u39, u40, u41, u42, u43, u44, u45, u46, u47, u48, u49, u50, u51, u52, u53, u54, u55, u56, u57, u58, u59, u60, u61, u62, u63, u64, u65, u66, u67, u68, u69, u70, u71, u72, u73, u74, u75, u76, u77, u78, u79, u80, u81, u82, u83, u84, u85, u86, u87, u88, u89, u90, u91], defers := [] } w := by
  conv at hc => lhs; whnf
  simp only [Option.some.injEq] at hc
  subst hc
  have hD := Lib.hid (fun x z : Nat => dom_any (a := (x : Int)) (b := (z : Int)) hI htl')
  rw [htl] at hD
  replace hq := Lib.hid hq
  clear hI htl htl'
  go_wp2_with fail
  go_loopw [8] (fun i wr => ∃ b : Nat, b ≤ n ∧ i = .int .i64 b ∧ wr = w) (fun i _ => n - (intOf i).toNat)
  case atStart => exact ⟨0, Nat.zero_le _, rfl, rfl⟩
  case round =>
    obtain ⟨b, hb, rfl, rfl⟩ := hrel
    by_cases hlt : b < n
    · have j1 : decide ((b : Int) < (n : Int)) = true := by simpa using hlt
      have k1 := hD.out a cc
      have k2 := hD.out b cc
      have k3 := hD.out a b
      have k4 := hD.out b a
      have f1 := hq.out.row a b cc
      have f2 := hq.out.trans a b cc
      have f3 := hq.out.anti a b
      have j0 : ((a : Int) != (b : Int)) = decide (a ≠ b) := by
        by_cases e : a = b
        · simp [e]
        · have : (a : Int) ≠ b := by omega
          simp [e, this]
      generalize domL n t (a : Int) (cc : Int) = p1 at k1 f1 f2
      generalize domL n t (b : Int) (cc : Int) = p2 at k2 f1 f2
      generalize domL n t (a : Int) (b : Int) = p3 at k3 f1 f2 f3
      generalize domL n t (b : Int) (a : Int) = p4 at k4 f1 f3
      generalize hp5 : decide (a ≠ b) = p5 at j0
      have f3' : p5 = true → p3 = true → p4 = true → False := fun h => f3 (by rw [← hp5] at h; simpa using h)
      replace k1 := Lib.hid k1
      replace k2 := Lib.hid k2
      replace k3 := Lib.hid k3
      replace k4 := Lib.hid k4
      replace hp5 := Lib.hid hp5
      replace f1 := Lib.hid f1
      replace f2 := Lib.hid f2
      replace f3' := Lib.hid f3'
      clear f3
      cases p1 <;> cases p2 <;> cases p3 <;> cases p4 <;> cases p5 <;> first
        | (exfalso; have g1 := f1.out; have g2 := f2.out; have g3 := f3'.out; simp at g1 g2 g3; done)
        | (go_wp2_with (go_at_call 13; first
            | (with_reducible refine Calls.mono k1.out ?_; rintro e w' ⟨rfl, rfl⟩)
            | (with_reducible refine Calls.mono k2.out ?_; rintro e w' ⟨rfl, rfl⟩)
            | (with_reducible refine Calls.mono k3.out ?_; rintro e w' ⟨rfl, rfl⟩)
            | (with_reducible refine Calls.mono k4.out ?_; rintro e w' ⟨rfl, rfl⟩))
           exact ⟨⟨b + 1, by omega, by go_num, by first | rfl | trivial⟩, by simp [intOf]; omega⟩)
    · obtain rfl : b = n := by omega
      have j1 : decide ((b : Int) < (b : Int)) = false := by simp
      go_wp2_with fail
      exact hQ.out rfl


set_option maxRecDepth 20000 in
set_option maxHeartbeats 4000000 in
theorem domChain_any {w : World} {v : Value} {L : List (List Int)} {root : Int} (h : RdG w v L) :
    Calls Try.prog 6 #[v, .int .i64 root] w fun e w' => e = .returned (.bool true) ∧ Below w.heap.size w w' := by
  obtain ⟨av, c0, rfl⟩ := h.form
  have hG := Lib.hid (great9_any h)
  have hW := Lib.hid (fun w => wakes9_g (w := w))
  replace h := Lib.hid h
  go_enter Try.func6, Try.ntmps6
  go_wp2_with fail
  refine hG.out.mono ?_
  rintro e w1 ⟨q, rfl, rfl, hq⟩
  cases q with
  | true =>
    clear hq
    go_wp2_with fail
    refine (hW.out _).mono ?_
    rintro e w2 ⟨rfl, hb2⟩
    go_wp2_with fail
    go_ret
    exact ⟨rfl, hb2⟩
  | false =>
    obtain ⟨hL, hr⟩ := hq rfl
    have hT := Lib.hid (tree_any (root := root) h.out (by omega) (fun r hrm => by have := hr r hrm; omega))
    clear hr hq
    go_wp2_with fail
    refine hT.out.mono ?_
    rintro e w2 ⟨TB, t, rfl, hI, hD, htl, -, hb2⟩
    have hrows := Lib.hid hD.dt.rows
    have hRt := Lib.hid (hI.rd (n := L.length) htl.symm)
    obtain ⟨n, hn⟩ : ∃ n, n = L.length := ⟨_, rfl⟩
    rw [← hn] at hL htl hrows hRt ⊢
    replace hn := Lib.hid hn
    replace htl := Lib.hid htl
    replace hb2 := Lib.hid hb2
    clear hT hI hD
    go_wp2_with fail
    go_loopw [6, 7, 8] (fun i _ _ wr => ∃ c : Nat, c ≤ n ∧ i = .int .i64 c ∧ wr = w2) (fun i _ _ _ => n - (intOf i).toNat)
    case atStart => exact ⟨0, Nat.zero_le _, rfl, rfl⟩
    case round =>
      obtain ⟨c, hc, rfl, rfl⟩ := hrel
      by_cases hlt : c < n
      · have j1 : decide ((c : Int) < (n : Int)) = true := by simpa using hlt
        go_wp2_with fail
        go_loopw [7, 8] (fun i _ wx => ∃ a : Nat, a ≤ n ∧ i = .int .i64 a ∧ wx = wr) (fun i _ _ => n - (intOf i).toNat)
        case atStart => exact ⟨0, Nat.zero_le _, rfl, rfl⟩
        case round =>
          obtain ⟨a, ha, rfl, rfl⟩ := hrel
          by_cases hlta : a < n
          · have j2 : decide ((a : Int) < (n : Int)) = true := by simpa using hlta
            go_upto_block 4 with fail
            refine dchain4 (by kernel_rfl) (w := wr) (t := t) hRt.out htl.out (by have := htl.out; omega) (by omega) hrows.out (Lib.hid ?_)
            intros
            rename_i hx
            subst hx
            go_wp2_with fail
            exact ⟨⟨a + 1, by omega, by go_num, by first | rfl | trivial⟩, by simp [intOf]; omega⟩
          · obtain rfl : a = n := by omega
            have j2 : decide ((a : Int) < (a : Int)) = false := by simp
            go_wp2_with fail
            exact ⟨⟨c + 1, by omega, by go_num, by first | rfl | trivial⟩, by simp [intOf]; omega⟩
      · obtain rfl : c = n := by omega
        have j1 : decide ((c : Int) < (c : Int)) = false := by simp
        go_wp2_with fail
        refine (hW.out _).mono ?_
        rintro e w3 ⟨rfl, hb3⟩
        have hfin := Lib.hid (hb2.out.trans (hb3.mono hb2.out.size))
        clear hb3
        go_wp2_with fail
        go_ret
        exact ⟨rfl, hfin.out⟩
end Go.Proofs.Yteipncggndefmaa
