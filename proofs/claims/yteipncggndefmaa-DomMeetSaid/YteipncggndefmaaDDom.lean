/- dom.isNode, dom.Dom, the document's Dom, dom.endsWith: walked. -/
import Derived.Test.YteipncggndefmaaDSpec
import Derived.Test.YteipncggndefmaaGNorm
namespace Go.Proofs.Yteipncggndefmaa
open Go.RowKit Go.Maps

theorem dnode_any {w : World} {v : Value} {n : Nat} {a : Option Addr} {cap : Nat} {x : Int} (hv : v = .slice a n cap) : Calls Try.prog 28 #[v, .int .i64 x] w fun e w' => e = .returned (.bool (validI n x)) ∧ w = w' := by
  subst hv
  by_cases h0 : 0 ≤ x
  · have d1 : decide (x ≥ 0) = true := by simpa using h0
    by_cases h1 : x < n
    · have d2 : decide (x < (n : Int)) = true := by simpa using h1
      have d3 : validI n x = true := by simp [validI, h0, h1]
      rw [d3]
      go_enter Try.func28, Try.ntmps28
      go_wp2_with fail
      go_ret
      exact ⟨rfl, rfl⟩
    · have d2 : decide (x < (n : Int)) = false := by simpa using h1
      have d3 : validI n x = false := by simp [validI, h1]
      rw [d3]
      go_enter Try.func28, Try.ntmps28
      go_wp2_with fail
      go_ret
      exact ⟨rfl, rfl⟩
  · have d1 : decide (x ≥ 0) = false := by simpa using h0
    have d3 : validI n x = false := by simp [validI, h0]
    rw [d3]
    go_enter Try.func28, Try.ntmps28
    go_wp2_with fail
    go_ret
    exact ⟨rfl, rfl⟩

theorem validI_nat {n : Nat} {x : Int} (h : validI n x = true) : ∃ y : Nat, x = y ∧ y < n := by
  simp only [validI, decide_eq_true_eq] at h
  exact ⟨x.toNat, by omega, by omega⟩

set_option maxRecDepth 20000 in
theorem dom_in {w : World} {n cv bb off y : Nat} {t : List Int} {a z : Int} (hl : t.length ≤ 1000000) (hn : n = t.length)
    (hA : Hid (Calls Try.prog 28 #[.slice (some ⟨bb, off, none⟩) n cv, .int .i64 a] w fun e w' => e = .returned (.bool true) ∧ w = w'))
    (hB : Hid (Calls Try.prog 28 #[.slice (some ⟨bb, off, none⟩) n cv, .int .i64 (y : Int)] w fun e w' => e = .returned (.bool true) ∧ w = w'))
    (hC : Hid (∀ x, Calls Try.prog 28 #[.slice (some ⟨bb, off, none⟩) n cv, .int .i64 x] w fun e w' => e = .returned (.bool (validI n x)) ∧ w = w'))
    (hread : Hid (∀ y : Nat, y < n → ∃ bb' off' cap z, (Value.slice (some ⟨bb, off, none⟩) n cv) = .slice (some ⟨bb', off', none⟩) n cap ∧ w.cell? ⟨bb', off' + y, none⟩ = some (.int .i64 z) ∧ t[y]?.getD 0 = z))
    (hz : w.cell? ⟨bb, off + y, none⟩ = some (.int .i64 z)) (d1 : (z == -2) = false) (hy : y < n) :
    Calls Try.prog 13 #[.slice (some ⟨bb, off, none⟩) n cv, .int .i64 a, .int .i64 y] w fun e w' => e = .returned (.bool (true && true && !false && domF t n a y)) ∧ w' = w := by
  rw [← hn] at hl
  have i1 : (y : Int) < (n : Int) := by omega
  replace hn := Lib.hid hn
  obtain ⟨res, hres⟩ : ∃ res, res = domF t n a y := ⟨_, rfl⟩
  rw [show (true && true && !false && domF t n a y) = res from by rw [hres]; rfl]
  replace hres := Lib.hid hres
  go_enter Try.func13, Try.ntmps13
  go_wp2_with fail
  refine hA.out.mono ?_
  rintro e w' ⟨rfl, rfl⟩
  go_wp2_with fail
  refine hB.out.mono ?_
  rintro e w' ⟨rfl, rfl⟩
  go_wp2_with fail
  go_loopw [2, 26] (fun c i wr => ∃ k x : Nat, k ≤ n ∧ i = .int .i64 k ∧ c = .int .i64 x ∧ x < n ∧ domF t (n - k) a x = res ∧ wr = w) (fun _ i _ => n - (intOf i).toNat)
  case atStart => exact ⟨0, y, Nat.zero_le _, rfl, rfl, hy, hres.out.symm, rfl⟩
  case round =>
    obtain ⟨k, x, hk, rfl, rfl, hx, hr, rfl⟩ := hrel
    by_cases hlt : k < n
    · have j1 : decide ((k : Int) < (n : Int)) = true := by simpa using hlt
      obtain ⟨m, hm⟩ : ∃ m, n - k = m + 1 := ⟨n - k - 1, by omega⟩
      rw [hm] at hr
      unfold domF at hr
      by_cases e : a = (x : Int)
      · rw [if_pos e] at hr
        subst hr
        have j2 : (a == (x : Int)) = true := by simpa using e
        replace e := Lib.hid e
        go_wp2_with fail
        go_ret
        exact ⟨rfl, rfl⟩
      · rw [if_neg e, Int.toNat_natCast] at hr
        have j2 : (a == (x : Int)) = false := by simpa using e
        obtain ⟨bb', off', cap', z', e', hz', hz2'⟩ := hread.out x hx
        simp only [Value.slice.injEq, Option.some.injEq, Addr.mk.injEq] at e'
        obtain ⟨⟨rfl, rfl, -⟩, -, rfl⟩ := e'
        rw [hz2', ← hn.out] at hr
        have i2 : (x : Int) < (n : Int) := by omega
        have hC' := Lib.hid (hC.out z')
        replace hz2' := Lib.hid hz2'
        replace e := Lib.hid e
        cases hv : validI n z' with
        | false =>
          rw [hv] at hC'
          rw [hv, if_neg (by simp)] at hr
          subst hr
          go_wp2_with fail
          refine hC'.out.mono ?_
          rintro e w' ⟨rfl, rfl⟩
          go_wp2_with fail
          go_ret
          exact ⟨rfl, rfl⟩
        | true =>
          rw [hv] at hC'
          rw [hv, if_pos rfl] at hr
          obtain ⟨x2, rfl, hx2⟩ := validI_nat hv
          replace hm := Lib.hid hm
          replace hr := Lib.hid hr
          go_wp2_with fail
          refine hC'.out.mono ?_
          rintro e w' ⟨rfl, rfl⟩
          go_wp2_with fail
          exact ⟨⟨k + 1, x2, by omega, by go_num, rfl, hx2, by rw [show n - (k + 1) = m from by have := hm.out; omega]; exact hr.out, by first | rfl | trivial⟩, by simp [intOf]; omega⟩
    · obtain rfl : k = n := by omega
      have j1 : decide ((k : Int) < (k : Int)) = false := by simp
      rw [Nat.sub_self] at hr
      unfold domF at hr
      subst hr
      go_wp2_with fail
      go_ret
      exact ⟨rfl, rfl⟩

set_option maxRecDepth 20000 in
theorem dom_any {w : World} {v : Value} {t : List Int} {a b : Int} (h : RdI w v t) (hl : t.length ≤ 1000000) :
    Calls Try.prog 13 #[v, .int .i64 a, .int .i64 b] w fun e w' => e = .returned (.bool (domL t.length t a b)) ∧ w' = w := by
  obtain ⟨av, cv, rfl⟩ := h.form
  rw [List.length_map] at h ⊢
  obtain ⟨n, hn⟩ : ∃ n, n = t.length := ⟨_, rfl⟩
  have hA := Lib.hid (dnode_any (w := w) (v := .slice av n cv) (x := a) rfl)
  have hB := Lib.hid (dnode_any (w := w) (v := .slice av n cv) (x := b) rfl)
  have hC := Lib.hid (fun x => dnode_any (w := w) (v := .slice av n cv) (x := x) rfl)
  rw [← hn] at h ⊢
  have hread : ∀ y : Nat, y < n → ∃ bb off cap z, (Value.slice av n cv) = .slice (some ⟨bb, off, none⟩) n cap ∧ w.cell? ⟨bb, off + y, none⟩ = some (.int .i64 z) ∧ t[y]?.getD 0 = z := by
    intro y hy
    obtain ⟨z, hz⟩ : ∃ z, t[y]? = some z := ⟨_, List.getElem?_eq_getElem (by omega)⟩
    obtain ⟨bb, off, cap, e, hc⟩ := RdI.cell h hz
    rw [← hn] at e
    exact ⟨bb, off, cap, z, e, hc, by rw [hz]; rfl⟩
  unfold domL
  rw [← hn]
  replace hread := Lib.hid hread
  cases ha : validI n a with
  | false =>
    rw [ha] at hA
    rw [Bool.false_and, Bool.false_and, Bool.false_and]
    replace hn := Lib.hid hn
    clear h
    go_enter Try.func13, Try.ntmps13
    go_wp2_with fail
    refine hA.out.mono ?_
    rintro e w' ⟨rfl, rfl⟩
    go_wp2_with fail
    go_ret
    exact ⟨rfl, rfl⟩
  | true =>
    rw [ha] at hA
    cases hb : validI n b with
    | false =>
      rw [hb] at hB
      rw [Bool.and_false, Bool.false_and, Bool.false_and]
      replace hn := Lib.hid hn
      clear h
      go_enter Try.func13, Try.ntmps13
      go_wp2_with fail
      refine hA.out.mono ?_
      rintro e w' ⟨rfl, rfl⟩
      go_wp2_with fail
      refine hB.out.mono ?_
      rintro e w' ⟨rfl, rfl⟩
      go_wp2_with fail
      go_ret
      exact ⟨rfl, rfl⟩
    | true =>
      rw [hb] at hB
      obtain ⟨y, rfl, hy⟩ := validI_nat hb
      obtain ⟨bb, off, cap, z, e, hz, hz2⟩ := hread.out y hy
      simp only [Value.slice.injEq] at e
      obtain ⟨rfl, -, rfl⟩ := e
      rw [Int.toNat_natCast, hz2]
      have i1 : (y : Int) < (n : Int) := by omega
      by_cases h2 : z = -2
      · have d1 : (z == -2) = true := by simp [h2]
        rw [decide_eq_true h2]
        replace hn := Lib.hid hn
        replace h2 := Lib.hid h2
        replace hz2 := Lib.hid hz2
        clear h
        go_enter Try.func13, Try.ntmps13
        go_wp2_with fail
        refine hA.out.mono ?_
        rintro e w' ⟨rfl, rfl⟩
        go_wp2_with fail
        refine hB.out.mono ?_
        rintro e w' ⟨rfl, rfl⟩
        go_wp2_with fail
        go_ret
        exact ⟨rfl, rfl⟩
      · rw [decide_eq_false h2]
        exact dom_in hl hn hA hB hC hread hz (by simp [h2]) hy

set_option maxRecDepth 20000 in
theorem rdom_any {w : World} {v : Value} {t : List Int} {a b : Int} (h : RdI w v t) (hl : t.length ≤ 1000000) :
    Calls Try.prog 14 #[v, .int .i64 a, .int .i64 b] w fun e w' => e = .returned (.bool (domL (t.length + 1) t a b)) ∧ w' = w := by
  obtain ⟨av, cv, rfl⟩ := h.form
  rw [List.length_map] at h ⊢
  obtain ⟨n, hn⟩ : ∃ n, n = t.length := ⟨_, rfl⟩
  rw [← hn] at h hl ⊢
  have hread : ∀ y : Nat, y < n → ∃ bb off cap z, (Value.slice av n cv) = .slice (some ⟨bb, off, none⟩) n cap ∧ w.cell? ⟨bb, off + y, none⟩ = some (.int .i64 z) ∧ t[y]?.getD 0 = z := by
    intro y hy
    obtain ⟨z, hz⟩ : ∃ z, t[y]? = some z := ⟨_, List.getElem?_eq_getElem (by omega)⟩
    obtain ⟨bb, off, cap, e, hc⟩ := RdI.cell h hz
    rw [← hn] at e
    exact ⟨bb, off, cap, z, e, hc, by rw [hz]; rfl⟩
  unfold domL
  rw [← hn]
  replace hread := Lib.hid hread
  by_cases a0 : a < 0
  · have d1 : validI n a = false := by simp [validI]; omega
    rw [d1, Bool.false_and, Bool.false_and, Bool.false_and]
    replace hn := Lib.hid hn
    clear h d1
    go_enter Try.func14, Try.ntmps14
    go_wp2_with fail
    go_ret
    exact ⟨rfl, rfl⟩
  · by_cases b0 : b < 0
    · have d1 : validI n b = false := by simp [validI]; omega
      rw [d1, Bool.and_false, Bool.false_and, Bool.false_and]
      replace hn := Lib.hid hn
      have a0' : decide (a < 0) = false := by simpa using a0
      clear h d1
      go_enter Try.func14, Try.ntmps14
      go_wp2_with fail
      go_ret
      exact ⟨rfl, rfl⟩
    · have a0' : decide (a < 0) = false := by simpa using a0
      have b0' : decide (b < 0) = false := by simpa using b0
      by_cases an : a < n
      · have an' : decide (a ≥ (n : Int)) = false := by simpa using an
        by_cases bn : b < n
        · have bn' : decide (b ≥ (n : Int)) = false := by simpa using bn
          obtain ⟨y, rfl⟩ : ∃ y : Nat, b = y := ⟨b.toNat, by omega⟩
          have hy : y < n := by omega
          have da : validI n a = true := by simp [validI]; omega
          have db : validI n (y : Int) = true := by simp [validI]; omega
          obtain ⟨bb, off, cap, z, e, hz, hz2⟩ := hread.out y hy
          simp only [Value.slice.injEq] at e
          obtain ⟨rfl, -, rfl⟩ := e
          rw [Int.toNat_natCast, hz2, da, db]
          have i1 : (y : Int) < (n : Int) := by omega
          by_cases h2 : z = -2
          · have d1 : (z == -2) = true := by simp [h2]
            rw [decide_eq_true h2]
            replace hn := Lib.hid hn
            replace h2 := Lib.hid h2
            replace hz2 := Lib.hid hz2
            clear h
            go_enter Try.func14, Try.ntmps14
            go_wp2_with fail
            go_ret
            exact ⟨rfl, rfl⟩
          · have d1 : (z == -2) = false := by simp [h2]
            rw [decide_eq_false h2]
            replace hn := Lib.hid hn
            replace h2 := Lib.hid h2
            replace hz2 := Lib.hid hz2
            obtain ⟨res, hres⟩ : ∃ res, res = domF t (n + 1) a y := ⟨_, rfl⟩
            rw [show (true && true && !false && domF t (n + 1) a y) = res from by rw [hres]; rfl]
            replace hres := Lib.hid hres
            clear h a0 b0 an bn da db
            go_enter Try.func14, Try.ntmps14
            go_wp2_with fail
            go_loopw [2, 7] (fun c i wr => ∃ k x : Nat, k ≤ n + 1 ∧ i = .int .i64 k ∧ c = .int .i64 x ∧ x < n ∧ domF t (n + 1 - k) a x = res ∧ wr = w) (fun _ i _ => n + 1 - (intOf i).toNat)
            case atStart => exact ⟨0, y, Nat.zero_le _, rfl, rfl, hy, hres.out.symm, rfl⟩
            case round =>
              obtain ⟨k, x, hk, rfl, rfl, hx, hr, rfl⟩ := hrel
              by_cases hlt : k < n + 1
              · have j1 : decide ((k : Int) ≤ (n : Int)) = true := by simp; omega
                obtain ⟨m, hm⟩ : ∃ m, n + 1 - k = m + 1 := ⟨n - k, by omega⟩
                rw [hm] at hr
                unfold domF at hr
                by_cases e : a = (x : Int)
                · rw [if_pos e] at hr
                  subst hr
                  have j2 : (a == (x : Int)) = true := by simpa using e
                  replace e := Lib.hid e
                  go_wp2_with fail
                  go_ret
                  exact ⟨rfl, rfl⟩
                · rw [if_neg e, Int.toNat_natCast] at hr
                  have j2 : (a == (x : Int)) = false := by simpa using e
                  obtain ⟨bb', off', cap', z', e', hz', hz2'⟩ := hread.out x hx
                  simp only [Value.slice.injEq, Option.some.injEq, Addr.mk.injEq] at e'
                  obtain ⟨⟨rfl, rfl, -⟩, -, rfl⟩ := e'
                  rw [hz2', ← hn.out] at hr
                  have i2 : (x : Int) < (n : Int) := by omega
                  replace hz2' := Lib.hid hz2'
                  replace e := Lib.hid e
                  by_cases z0 : z' < 0
                  · have z0' : decide (z' < 0) = true := by simpa using z0
                    rw [show validI n z' = false from by simp [validI]; omega, if_neg (by simp)] at hr
                    subst hr
                    go_wp2_with fail
                    go_ret
                    exact ⟨rfl, rfl⟩
                  · have z0' : decide (z' < 0) = false := by simpa using z0
                    by_cases zn : z' < n
                    · have zn' : decide (z' ≥ (n : Int)) = false := by simpa using zn
                      rw [show validI n z' = true from by simp [validI]; omega, if_pos rfl] at hr
                      obtain ⟨x2, rfl⟩ : ∃ x2 : Nat, z' = x2 := ⟨z'.toNat, by omega⟩
                      replace hm := Lib.hid hm
                      replace hr := Lib.hid hr
                      clear z0
                      go_wp2_with fail
                      exact ⟨⟨k + 1, x2, by omega, by go_num, rfl, by omega, by rw [show n + 1 - (k + 1) = m from by have := hm.out; omega]; exact hr.out, by first | rfl | trivial⟩, by simp [intOf]; omega⟩
                    · have zn' : decide (z' ≥ (n : Int)) = true := by simpa using zn
                      rw [show validI n z' = false from by simp [validI]; omega, if_neg (by simp)] at hr
                      subst hr
                      go_wp2_with fail
                      go_ret
                      exact ⟨rfl, rfl⟩
              · obtain rfl : k = n + 1 := by omega
                have j1 : decide (((n + 1 : Nat) : Int) ≤ (n : Int)) = false := by simp; omega
                rw [Nat.sub_self] at hr
                unfold domF at hr
                subst hr
                go_wp2_with fail
                go_ret
                exact ⟨rfl, rfl⟩
        · have d1 : validI n b = false := by simp [validI]; omega
          have bn' : decide (b ≥ (n : Int)) = true := by simpa using bn
          rw [d1, Bool.and_false, Bool.false_and, Bool.false_and]
          replace hn := Lib.hid hn
          clear h d1
          go_enter Try.func14, Try.ntmps14
          go_wp2_with fail
          go_ret
          exact ⟨rfl, rfl⟩
      · have d1 : validI n a = false := by simp [validI]; omega
        have an' : decide (a ≥ (n : Int)) = true := by simpa using an
        rw [d1, Bool.false_and, Bool.false_and, Bool.false_and]
        replace hn := Lib.hid hn
        clear h d1
        go_enter Try.func14, Try.ntmps14
        go_wp2_with fail
        go_ret
        exact ⟨rfl, rfl⟩

/-- Does a row end with this number? -/
def endsL (l : List Int) (y : Int) : Bool := decide (l.getLast? = some y)
set_option maxRecDepth 20000 in
theorem ends_any {w : World} {v : Value} {l : List Int} {y : Int} (h : RdI w v l) (hl : l.length ≤ 1000000) :
    Calls Try.prog 29 #[v, .int .i64 y] w fun e w' => e = .returned (.bool (endsL l y)) ∧ w' = w := by
  obtain ⟨av, cv, rfl⟩ := h.form
  rw [List.length_map] at h ⊢
  rcases Nat.eq_zero_or_pos l.length with h0 | h0
  · obtain rfl := List.eq_nil_of_length_eq_zero h0
    clear h
    go_enter Try.func29, Try.ntmps29
    go_wp2_with fail
    go_ret
    exact ⟨rfl, rfl⟩
  · obtain ⟨m, hm⟩ : ∃ m, l.length = m + 1 := ⟨l.length - 1, by omega⟩
    obtain ⟨z, hz⟩ : ∃ z, l[m]? = some z := ⟨_, List.getElem?_eq_getElem (by omega)⟩
    obtain ⟨bb, off, cap, e, hc⟩ := RdI.cell h hz
    simp only [Value.slice.injEq] at e
    obtain ⟨rfl, -, rfl⟩ := e
    have he : endsL l y = (z == y) := by
      unfold endsL
      rw [List.getLast?_eq_getElem?, hm, Nat.add_sub_cancel, hz]
      by_cases e : z = y
      · simp [e]
      · simp [e]
    rw [he, hm]
    have d1 : decide (((m + 1 : Nat) : Int) > 0) = true := by simp
    clear h hz he
    go_enter Try.func29, Try.ntmps29
    go_wp2_with fail
    go_ret
    exact ⟨rfl, rfl⟩
end Go.Proofs.Yteipncggndefmaa
