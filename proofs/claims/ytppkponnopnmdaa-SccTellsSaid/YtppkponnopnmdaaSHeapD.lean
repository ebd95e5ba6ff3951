/- container/heap's down over scc's numbers, walked. -/
import Derived.Test.YtppkponnopnmdaaSHeapW
namespace Go.Proofs.Ytppkponnopnmdaa
open Go.RowKit Go.Maps Go.Shelf
section
variable {w : World} {hb : Nat} {v : Value} {l : List Int}

set_option maxRecDepth 20000 in
set_option maxHeartbeats 4000000 in
theorem down_any (H : HS w hb v l) {n : Nat} (hn : n ≤ l.length) (hl : l.length ≤ 100000) (ho : OrdDown l n 0) :
    Calls Try.prog 47 #[.iface 47 (.pointer (some ⟨hb, 0, none⟩)), .int .i64 0, .int .i64 n] w fun e w' => ∃ b, e = .returned (.bool b) ∧ ∃ l', l'.Perm l ∧ Ord l' n ∧ (∀ k, n ≤ k → l'[k]? = l[k]?) ∧ HS w' hb v l' ∧ HTo w w' hb v v := by
  go_enter Try.func47, Try.ntmps47
  go_wp2_with fail
  go_loopg [7, 8, 9, 10] n (fun m iv _ _ _ wr => ∃ (i : Nat) (l' : List Int), .int .i64 i = iv ∧ i ≤ n ∧ l'.Perm l ∧ OrdDown l' n i ∧ (∀ k, n ≤ k → l'[k]? = l[k]?) ∧ HS wr hb v l' ∧ HTo w wr hb v v ∧ Hid (m = n - i))
  case atStart => exact ⟨0, l, by rfl, Nat.zero_le _, List.Perm.refl _, ho, fun _ _ => rfl, H, HTo.refl _ _ _, Lib.hid (by omega)⟩
  case round =>
    clear H ho
    obtain ⟨i, l1, hiv, hi, hp, ho, hrest, H1, T1, hm⟩ := hrel
    subst hiv
    have hll : Hid (l1.length = l.length) := Lib.hid hp.length_eq
    replace hrest := Lib.hid hrest
    obtain ⟨a1, ha1⟩ : ∃ a, a = 2 * i + 1 := ⟨_, rfl⟩
    have e1 : 2 * (i : Int) + 1 = (a1 : Int) := by omega
    have hj1 : Hid (a1 = 2 * i + 1) := Lib.hid ha1
    by_cases hA : n ≤ a1
    · have d1 : decide ((a1 : Int) ≥ (n : Int)) = true := by simpa using hA
      have hord : Hid (Ord l1 n) := Lib.hid (ho.done (fun k k0 kn kp => by omega))
      clear ha1
      go_wp2_with fail
      go_ret
      exact ⟨_, rfl, l1, hp, hord.out, hrest.out, H1, T1⟩
    · have d1 : decide ((a1 : Int) ≥ (n : Int)) = false := by simp; omega
      have d2 : decide ((a1 : Int) < 0) = false := by simp
      obtain ⟨a2, ha2⟩ : ∃ a, a = a1 + 1 := ⟨_, rfl⟩
      have e2 : (a1 : Int) + 1 = (a2 : Int) := by omega
      have hj2 : Hid (a2 = a1 + 1) := Lib.hid ha2
      have a1n : a1 < n := by omega
      have hin : i < n := by omega
      obtain ⟨x, hx⟩ : ∃ x, l1[i]? = some x := ⟨_, List.getElem?_eq_getElem (by rw [hll.out]; omega)⟩
      obtain ⟨y1, hy1⟩ : ∃ y, l1[a1]? = some y := ⟨_, List.getElem?_eq_getElem (by rw [hll.out]; omega)⟩
      have hkid : Hid (∀ k, 0 < k → k < n → (k - 1) / 2 = i → k = a1 ∨ k = a2) := Lib.hid (fun k h1 h2 h3 => by omega)
      clear ha1 ha2
      by_cases hB : a2 < n
      · have d3 : decide ((a2 : Int) < (n : Int)) = true := by simpa using hB
        obtain ⟨y2, hy2⟩ : ∃ y, l1[a2]? = some y := ⟨_, List.getElem?_eq_getElem (by rw [hll.out]; omega)⟩
        have hm1 := meth_val row_less H1.c0
        have hle := Lib.hid (less_h H1 hy2 hy1 (by rw [hll.out]; omega))
        by_cases hC : y2 < y1
        · have d4 : decide (y2 < y1) = true := by simpa using hC
          rw [d4] at hle
          have hmin : Hid (∀ k, 0 < k → k < n → (k - 1) / 2 = i → y2 ≤ l1.getD k 0) := Lib.hid (fun k h1 h2 h3 => by
            rcases hkid.out k h1 h2 h3 with rfl | rfl
            · rw [getD_at hy1]; omega
            · rw [getD_at hy2]; omega)
          go_wp2_with fail
          refine hle.out.mono ?_
          rintro e w2 ⟨rfl, H2, T12⟩
          have T2 := T1.trans T12
          clear hm1 hle
          have hm3 := meth_val row_less H2.c0
          have hle3 := Lib.hid (less_h H2 (i := a2) (j := i) (x := y2) (y := x) hy2 hx (by rw [hll.out]; omega))
          by_cases hlt : y2 < x
          · have d9 : decide (y2 < x) = true := by simpa using hlt
            rw [d9] at hle3
            have hos : Hid (OrdDown (swapL l1 i a2 x y2) n a2) := Lib.hid (ho.step (by have := hj1.out; have := hj2.out; omega) (by have := hj1.out; omega) (by omega) hx hy2 hlt hmin.out)
            go_wp2_with fail
            refine hle3.out.mono ?_
            rintro e w3 ⟨rfl, H3, T3⟩
            have hm4 := meth_val row_swap H3.c0
            have hsw := Lib.hid (swap_h H3 hx hy2 (by rw [hll.out]; omega))
            clear hm3 hle3
            go_wp2_with fail
            refine hsw.out.mono ?_
            rintro e w4 ⟨rfl, H4, T4⟩
            clear hm4 hsw
            have hpm : Hid ((swapL l1 i a2 x y2).Perm l) := Lib.hid ((swapL_perm hx hy2).trans hp)
            have hkeep : Hid (∀ k, n ≤ k → (swapL l1 i a2 x y2)[k]? = l[k]?) := Lib.hid (fun k hk => by
              unfold swapL
              rw [List.getElem?_set_ne (by omega), List.getElem?_set_ne (by have := hj1.out; omega)]
              exact hrest.out k hk)
            have hT := Lib.hid ((T2.trans T3).trans T4)
            have hmm : n - a2 < gk := by rw [hm.out]; have := hj1.out; have := hj2.out; omega
            go_wp2_with fail
            go_roundg (n - a2)
            case rel => exact ⟨a2, _, rfl, by omega, hpm.out, hos.out, hkeep.out, H4, hT.out, Lib.hid rfl⟩
            case measure => exact hmm
          · have d9 : decide (y2 < x) = false := by simpa using hlt
            rw [d9] at hle3
            have hord : Hid (Ord l1 n) := Lib.hid (ho.done (fun k k0 kn kp => by
              have := hmin.out k k0 kn kp
              rw [getD_at hx]
              omega))
            go_wp2_with fail
            refine hle3.out.mono ?_
            rintro e w3 ⟨rfl, H3, T3⟩
            have hT := Lib.hid (T2.trans T3)
            clear hm3 hle3
            go_wp2_with fail
            go_ret
            exact ⟨_, rfl, l1, hp, hord.out, hrest.out, H3, hT.out⟩
        · have d4 : decide (y2 < y1) = false := by simpa using hC
          rw [d4] at hle
          have hmin : Hid (∀ k, 0 < k → k < n → (k - 1) / 2 = i → y1 ≤ l1.getD k 0) := Lib.hid (fun k h1 h2 h3 => by
            rcases hkid.out k h1 h2 h3 with rfl | rfl
            · rw [getD_at hy1]; omega
            · rw [getD_at hy2]; omega)
          go_wp2_with fail
          refine hle.out.mono ?_
          rintro e w2 ⟨rfl, H2, T12⟩
          have T2 := T1.trans T12
          clear hm1 hle
          have hm3 := meth_val row_less H2.c0
          have hle3 := Lib.hid (less_h H2 (i := a1) (j := i) (x := y1) (y := x) hy1 hx (by rw [hll.out]; omega))
          by_cases hlt : y1 < x
          · have d9 : decide (y1 < x) = true := by simpa using hlt
            rw [d9] at hle3
            have hos : Hid (OrdDown (swapL l1 i a1 x y1) n a1) := Lib.hid (ho.step (by have := hj1.out; have := hj2.out; omega) (by have := hj1.out; omega) (by omega) hx hy1 hlt hmin.out)
            go_wp2_with fail
            refine hle3.out.mono ?_
            rintro e w3 ⟨rfl, H3, T3⟩
            have hm4 := meth_val row_swap H3.c0
            have hsw := Lib.hid (swap_h H3 hx hy1 (by rw [hll.out]; omega))
            clear hm3 hle3
            go_wp2_with fail
            refine hsw.out.mono ?_
            rintro e w4 ⟨rfl, H4, T4⟩
            clear hm4 hsw
            have hpm : Hid ((swapL l1 i a1 x y1).Perm l) := Lib.hid ((swapL_perm hx hy1).trans hp)
            have hkeep : Hid (∀ k, n ≤ k → (swapL l1 i a1 x y1)[k]? = l[k]?) := Lib.hid (fun k hk => by
              unfold swapL
              rw [List.getElem?_set_ne (by omega), List.getElem?_set_ne (by have := hj1.out; omega)]
              exact hrest.out k hk)
            have hT := Lib.hid ((T2.trans T3).trans T4)
            have hmm : n - a1 < gk := by rw [hm.out]; have := hj1.out; have := hj2.out; omega
            go_wp2_with fail
            go_roundg (n - a1)
            case rel => exact ⟨a1, _, rfl, by omega, hpm.out, hos.out, hkeep.out, H4, hT.out, Lib.hid rfl⟩
            case measure => exact hmm
          · have d9 : decide (y1 < x) = false := by simpa using hlt
            rw [d9] at hle3
            have hord : Hid (Ord l1 n) := Lib.hid (ho.done (fun k k0 kn kp => by
              have := hmin.out k k0 kn kp
              rw [getD_at hx]
              omega))
            go_wp2_with fail
            refine hle3.out.mono ?_
            rintro e w3 ⟨rfl, H3, T3⟩
            have hT := Lib.hid (T2.trans T3)
            clear hm3 hle3
            go_wp2_with fail
            go_ret
            exact ⟨_, rfl, l1, hp, hord.out, hrest.out, H3, hT.out⟩
      · have d3 : decide ((a2 : Int) < (n : Int)) = false := by simpa using hB
        have hmin : Hid (∀ k, 0 < k → k < n → (k - 1) / 2 = i → y1 ≤ l1.getD k 0) := Lib.hid (fun k h1 h2 h3 => by
          rcases hkid.out k h1 h2 h3 with rfl | rfl
          · rw [getD_at hy1]; omega
          · omega)
        have H2 := H1
        have T2 := T1
        have hm3 := meth_val row_less H2.c0
        have hle3 := Lib.hid (less_h H2 (i := a1) (j := i) (x := y1) (y := x) hy1 hx (by rw [hll.out]; omega))
        by_cases hlt : y1 < x
        · have d9 : decide (y1 < x) = true := by simpa using hlt
          rw [d9] at hle3
          have hos : Hid (OrdDown (swapL l1 i a1 x y1) n a1) := Lib.hid (ho.step (by have := hj1.out; have := hj2.out; omega) (by have := hj1.out; omega) (by omega) hx hy1 hlt hmin.out)
          go_wp2_with fail
          refine hle3.out.mono ?_
          rintro e w3 ⟨rfl, H3, T3⟩
          have hm4 := meth_val row_swap H3.c0
          have hsw := Lib.hid (swap_h H3 hx hy1 (by rw [hll.out]; omega))
          clear hm3 hle3
          go_wp2_with fail
          refine hsw.out.mono ?_
          rintro e w4 ⟨rfl, H4, T4⟩
          clear hm4 hsw
          have hpm : Hid ((swapL l1 i a1 x y1).Perm l) := Lib.hid ((swapL_perm hx hy1).trans hp)
          have hkeep : Hid (∀ k, n ≤ k → (swapL l1 i a1 x y1)[k]? = l[k]?) := Lib.hid (fun k hk => by
            unfold swapL
            rw [List.getElem?_set_ne (by omega), List.getElem?_set_ne (by have := hj1.out; omega)]
            exact hrest.out k hk)
          have hT := Lib.hid ((T2.trans T3).trans T4)
          have hmm : n - a1 < gk := by rw [hm.out]; have := hj1.out; have := hj2.out; omega
          go_wp2_with fail
          go_roundg (n - a1)
          case rel => exact ⟨a1, _, rfl, by omega, hpm.out, hos.out, hkeep.out, H4, hT.out, Lib.hid rfl⟩
          case measure => exact hmm
        · have d9 : decide (y1 < x) = false := by simpa using hlt
          rw [d9] at hle3
          have hord : Hid (Ord l1 n) := Lib.hid (ho.done (fun k k0 kn kp => by
            have := hmin.out k k0 kn kp
            rw [getD_at hx]
            omega))
          go_wp2_with fail
          refine hle3.out.mono ?_
          rintro e w3 ⟨rfl, H3, T3⟩
          have hT := Lib.hid (T2.trans T3)
          clear hm3 hle3
          go_wp2_with fail
          go_ret
          exact ⟨_, rfl, l1, hp, hord.out, hrest.out, H3, hT.out⟩
end
end Go.Proofs.Ytppkponnopnmdaa
