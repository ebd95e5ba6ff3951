/- container/heap over scc's numbers, walked. -/
import Derived.Test.YtppkponnopnmdaaSHeap
namespace Go.Proofs.Ytppkponnopnmdaa
open Go.RowKit Go.Maps Go.Shelf

/-- The heap as the library is handed it. -/
def hI (hb : Nat) : Value := .iface 47 (.pointer (some ⟨hb, 0, none⟩))
theorem recv_val (a : Addr) (w : World) (s : String) : (receiverAt 47 (.val (.pointer (some a))) false (some s)).run Try.prog w = (loadVar 48 a).run Try.prog w := by kernel_rfl
theorem info_pl : (Try.prog.info? 47).isSome = true := by kernel_rfl
/-- A method with a value for its receiver, through the pointer. -/
theorem meth_val {name : String} {f : FuncId} (h2 : (Try.prog.info? 47).map (fun i => (i.methods.find? (·.name == name)).map (fun m => (m.func, m.path.isEmpty, m.path.toList.length))) = some (some (some (f, false), true, 0))) {a : Addr} {w : World} {v : Value} (hc : w.cell? a = some v) :
    (method 211 47 (.pointer (some a)) name).run Try.prog w = .ok (f, v) w := by
  obtain ⟨i, hi⟩ := Option.isSome_iff_exists.1 info_pl
  rw [hi] at h2
  simp only [Option.map_some, Option.some.injEq, Option.map_eq_some_iff, Prod.mk.injEq] at h2
  obtain ⟨m, hm, h3, h4, h5⟩ := h2
  have h5' := List.length_eq_zero_iff.1 h5
  have hti : (typeInfo 47).run Try.prog w = .ok i w := by simp [typeInfo, go_sem, hi]
  have hl : (loadVar 48 a).run Try.prog w = .ok v w := by simp [go_sem, hc]
  rw [show (211 : Nat) = (211 - 1) + 1 from rfl, method]
  simp only [Sem.run_bind, hti, Result.andThen_ok, hm, h5', follow, Sem.run_pure, h3, h4, if_true, recv_val, hl]
theorem row_less : (Try.prog.info? 47).map (fun i => (i.methods.find? (·.name == "Less")).map (fun m => (m.func, m.path.isEmpty, m.path.toList.length))) = some (some (some (90, false), true, 0)) := by kernel_rfl
theorem row_len : (Try.prog.info? 47).map (fun i => (i.methods.find? (·.name == "Len")).map (fun m => (m.func, m.path.isEmpty, m.path.toList.length))) = some (some (some (89, false), true, 0)) := by kernel_rfl
theorem row_swap : (Try.prog.info? 47).map (fun i => (i.methods.find? (·.name == "Swap")).map (fun m => (m.func, m.path.isEmpty, m.path.toList.length))) = some (some (some (93, false), true, 0)) := by kernel_rfl
theorem meth_push (a : Addr) (w : World) : (method 211 47 (.pointer (some a)) "Push").run Try.prog w = .ok (92, .pointer (some a)) w := by kernel_rfl
theorem meth_pop (a : Addr) (w : World) : (method 211 47 (.pointer (some a)) "Pop").run Try.prog w = .ok (91, .pointer (some a)) w := by kernel_rfl

/-- No number is less than the one above it. -/
def Ord (l : List Int) (n : Nat) : Prop := ∀ k, 0 < k → k < n → l.getD ((k - 1) / 2) 0 ≤ l.getD k 0
/-- But perhaps the j-th. -/
def OrdUp (l : List Int) (n j : Nat) : Prop := (∀ k, 0 < k → k < n → k ≠ j → l.getD ((k - 1) / 2) 0 ≤ l.getD k 0) ∧ ∀ k, 0 < k → k < n → (k - 1) / 2 = j → 0 < j → l.getD ((j - 1) / 2) 0 ≤ l.getD k 0
/-- But perhaps those below the i-th. -/
def OrdDown (l : List Int) (n i : Nat) : Prop := (∀ k, 0 < k → k < n → (k - 1) / 2 ≠ i → l.getD ((k - 1) / 2) 0 ≤ l.getD k 0) ∧ ∀ k, 0 < k → k < n → (k - 1) / 2 = i → 0 < i → l.getD ((i - 1) / 2) 0 ≤ l.getD k 0
theorem getD_at {l : List Int} {i : Nat} {x : Int} (h : l[i]? = some x) : l.getD i 0 = x := by simp [List.getD, h]
theorem swapL_getD {l : List Int} {i j : Nat} {x y : Int} (hi : l[i]? = some x) (hj : l[j]? = some y) (k : Nat) : (swapL l i j x y).getD k 0 = if k = j then x else if k = i then y else l.getD k 0 := by
  have h1 := (List.getElem?_eq_some_iff.1 hi).1
  have h2 := (List.getElem?_eq_some_iff.1 hj).1
  unfold swapL List.getD
  by_cases hkj : k = j
  · subst hkj
    rw [List.getElem?_set_self (by simpa using h2), if_pos rfl]; rfl
  · rw [List.getElem?_set_ne (fun e => hkj e.symm), if_neg hkj]
    by_cases hki : k = i
    · subst hki
      rw [List.getElem?_set_self h1, if_pos rfl]; rfl
    · rw [List.getElem?_set_ne (fun e => hki e.symm), if_neg hki]
theorem swapL_perm {l : List Int} {i j : Nat} {x y : Int} (hi : l[i]? = some x) (hj : l[j]? = some y) : (swapL l i j x y).Perm l := by
  have h1 := (List.getElem?_eq_some_iff.1 hi).1
  have h2 := (List.getElem?_eq_some_iff.1 hj).1
  have e : swapL l i j x y = (l.set i l[j]).set j l[i] := by
    unfold swapL
    rw [(List.getElem?_eq_some_iff.1 hi).2, (List.getElem?_eq_some_iff.1 hj).2]
  rw [e]
  exact List.set_set_perm h1 h2
theorem OrdUp.step {l : List Int} {n j : Nat} {x y : Int} (h : OrdUp l n j) (h0 : 0 < j) (hn : n = l.length) (hi : l[(j - 1) / 2]? = some x) (hj : l[j]? = some y) (hlt : y < x) : OrdUp (swapL l ((j - 1) / 2) j x y) n ((j - 1) / 2) := by
  have gi := getD_at hi
  have gj := getD_at hj
  have hjl := (List.getElem?_eq_some_iff.1 hj).1
  obtain ⟨p, hp⟩ : ∃ p, p = (j - 1) / 2 := ⟨_, rfl⟩
  rw [← hp] at hi gi ⊢
  refine ⟨fun k k0 kn kp => ?_, fun k k0 kn kp p0 => ?_⟩
  · rw [swapL_getD hi hj, swapL_getD hi hj]
    by_cases e1 : k = j
    · subst e1
      rw [if_neg (by omega), if_pos hp.symm, if_pos rfl]
      omega
    · rw [if_neg e1, if_neg kp]
      by_cases e2 : (k - 1) / 2 = j
      · rw [if_pos e2]
        have := h.2 k k0 kn e2 h0
        rw [← hp, gi] at this
        exact this
      · rw [if_neg e2]
        have h1 := h.1 k k0 kn e1
        by_cases e3 : (k - 1) / 2 = p
        · rw [if_pos e3]
          rw [e3, gi] at h1
          omega
        · rw [if_neg e3]
          exact h1
  · rw [swapL_getD hi hj, swapL_getD hi hj, if_neg (by omega), if_neg (by omega)]
    have hpp := h.1 p p0 (by omega) (by omega)
    by_cases e1 : k = j
    · subst e1
      rw [if_pos rfl]
      rw [gi] at hpp
      exact hpp
    · rw [if_neg e1, if_neg (by omega)]
      have h1 := h.1 k k0 kn e1
      rw [kp] at h1
      omega
theorem OrdUp.done {l : List Int} {n j : Nat} (h : OrdUp l n j) (hj : 0 < j → l.getD ((j - 1) / 2) 0 ≤ l.getD j 0) : Ord l n := by
  intro k k0 kn
  by_cases e : k = j
  · subst e; exact hj k0
  · exact h.1 k k0 kn e
theorem OrdDown.step {l : List Int} {n i j : Nat} {x y : Int} (h : OrdDown l n i) (hji : (j - 1) / 2 = i) (h0 : 0 < j) (hjn : j < n) (hi : l[i]? = some x) (hj : l[j]? = some y) (hlt : y < x) (hmin : ∀ k, 0 < k → k < n → (k - 1) / 2 = i → y ≤ l.getD k 0) : OrdDown (swapL l i j x y) n j := by
  have gi := getD_at hi
  have gj := getD_at hj
  refine ⟨fun k k0 kn kp => ?_, fun k k0 kn kp p0 => ?_⟩
  · rw [swapL_getD hi hj, swapL_getD hi hj, if_neg kp]
    by_cases e1 : k = j
    · subst e1
      rw [if_pos hji, if_pos rfl]
      omega
    · rw [if_neg e1]
      by_cases e2 : (k - 1) / 2 = i
      · rw [if_pos e2, if_neg (by omega)]
        exact hmin k k0 kn e2
      · rw [if_neg e2]
        have h1 := h.1 k k0 kn e2
        by_cases e3 : k = i
        · rw [if_pos e3]
          have h2 := h.2 j h0 (by omega) hji (by omega)
          subst e3
          rw [gj] at h2
          exact h2
        · rw [if_neg e3]
          exact h1
  · rw [swapL_getD hi hj, swapL_getD hi hj, hji, if_neg (by omega), if_pos rfl, if_neg (by omega), if_neg (by omega)]
    have h1 := h.1 k k0 kn (by omega)
    rw [kp, gj] at h1
    exact h1
theorem OrdDown.done {l : List Int} {n i : Nat} (h : OrdDown l n i) (hc : ∀ k, 0 < k → k < n → (k - 1) / 2 = i → l.getD i 0 ≤ l.getD k 0) : Ord l n := by
  intro k k0 kn
  by_cases e : (k - 1) / 2 = i
  · rw [e]; exact hc k k0 kn e
  · exact h.1 k k0 kn e
theorem Ord.root {l : List Int} {n : Nat} (h : Ord l n) : ∀ k, k < n → l.getD 0 0 ≤ l.getD k 0 := by
  intro k
  induction k using Nat.strongRecOn with
  | _ k ih =>
    intro hk
    by_cases h0 : k = 0
    · subst h0; omega
    · have h1 := ih ((k - 1) / 2) (by omega) (by omega)
      have h2 := h k (by omega) hk
      omega

section
variable {w : World} {hb : Nat} {v : Value} {l : List Int}
set_option maxRecDepth 20000 in
set_option maxHeartbeats 4000000 in
theorem up_any (H : HS w hb v l) {j : Nat} (hj : j < l.length) (hl : l.length ≤ 100000) (ho : OrdUp l l.length j) :
    Calls Try.prog 46 #[.iface 47 (.pointer (some ⟨hb, 0, none⟩)), .int .i64 j] w fun e w' => e = .returned (.tuple #[]) ∧ ∃ l', l'.Perm l ∧ Ord l' l'.length ∧ HS w' hb v l' ∧ HTo w w' hb v v := by
  obtain ⟨n, hn⟩ : ∃ n, n = l.length := ⟨_, rfl⟩
  rw [← hn] at hj hl ho
  replace hn := Lib.hid hn
  go_enter Try.func46, Try.ntmps46
  go_wp2_with fail
  go_loopg [1, 4] j (fun m jv _ wr => ∃ (i : Nat) (l' : List Int), .int .i64 i = jv ∧ i < n ∧ l'.Perm l ∧ OrdUp l' n i ∧ HS wr hb v l' ∧ HTo w wr hb v v ∧ Hid (m = i))
  case atStart => exact ⟨j, l, rfl, hj, List.Perm.refl _, ho, H, HTo.refl _ _ _, Lib.hid rfl⟩
  case round =>
    clear H ho
    obtain ⟨i, l1, hiv, hi, hp, ho, H1, T1, hm⟩ := hrel
    subst hiv
    have hll : Hid (l1.length = n) := Lib.hid (hp.length_eq.trans hn.out.symm)
    by_cases h0 : i = 0
    · subst h0
      have hord : Hid (Ord l1 l1.length) := Lib.hid (by rw [hll.out]; exact ho.done (fun h => by omega))
      go_wp2_with fail
      go_end0
      exact ⟨rfl, l1, hp, hord.out, H1, T1⟩
    · obtain ⟨p, hpe⟩ : ∃ p, p = (i - 1) / 2 := ⟨_, rfl⟩
      have hpi : p < i := by omega
      have d1 : IntKind.i64.wrap ((i : Int) - 1) = (i : Int) - 1 := IntWalk.i64_in _ (by omega)
      have d2 : ((i : Int) - 1) / 2 = (p : Int) := by omega
      have d2' : ((i - 1 : Nat) : Int) / 2 = (p : Int) := by omega
      have d3 : ((p : Int) == (i : Int)) = false := by simp; omega
      obtain ⟨x, hx⟩ : ∃ x, l1[p]? = some x := ⟨_, List.getElem?_eq_getElem (by rw [hll.out]; omega)⟩
      obtain ⟨y, hy⟩ : ∃ y, l1[i]? = some y := ⟨_, List.getElem?_eq_getElem (by rw [hll.out]; omega)⟩
      replace hpe := Lib.hid hpe
      have hm1 := meth_val row_less H1.c0
      have hle := Lib.hid (less_h H1 hy hx (by rw [hll.out]; omega))
      by_cases hlt : y < x
      · have d4 : decide (y < x) = true := by simpa using hlt
        rw [d4] at hle
        have hos : Hid (OrdUp (swapL l1 p i x y) n p) := Lib.hid (by
          have := ho.step (by omega) hll.out.symm (by rw [← hpe.out]; exact hx) hy hlt
          rwa [← hpe.out] at this)
        go_wp2_with fail
        refine hle.out.mono ?_
        rintro e w2 ⟨rfl, H2, T2⟩
        have hm2 := meth_val row_swap H2.c0
        have hsw := Lib.hid (swap_h H2 hx hy (by rw [hll.out]; omega))
        clear hm1 hle
        go_wp2_with fail
        refine hsw.out.mono ?_
        rintro e w3 ⟨rfl, H3, T3⟩
        clear hm2 hsw
        have hpm : Hid ((swapL l1 p i x y).Perm l) := Lib.hid ((swapL_perm hx hy).trans hp)
        have hT := Lib.hid ((T1.trans T2).trans T3)
        have hmm : p < gk := by rw [hm.out]; exact hpi
        go_wp2_with fail
        go_roundg p
        case rel => exact ⟨p, _, rfl, by omega, hpm.out, hos.out, H3, hT.out, Lib.hid rfl⟩
        case measure => exact hmm
      · have d4 : decide (y < x) = false := by simpa using hlt
        rw [d4] at hle
        have hord : Hid (Ord l1 l1.length) := Lib.hid (by
          rw [hll.out]
          refine ho.done (fun h => ?_)
          rw [← hpe.out, getD_at hx, getD_at hy]
          omega)
        go_wp2_with fail
        refine hle.out.mono ?_
        rintro e w2 ⟨rfl, H2, T2⟩
        have hT := Lib.hid (T1.trans T2)
        go_wp2_with fail
        go_end0
        exact ⟨rfl, l1, hp, hord.out, H2, hT.out⟩
end
end Go.Proofs.Ytppkponnopnmdaa
