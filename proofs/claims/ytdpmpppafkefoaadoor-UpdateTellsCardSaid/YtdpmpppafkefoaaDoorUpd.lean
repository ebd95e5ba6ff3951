/- update.Store: what a field has behind a store, over sets that lie in memory. -/
import Derived.Test.YtdpmpppafkefoaaDoorHall
namespace Go.Proofs.YtdpmpppafkefoaaDoor
open Go.RowKit Go.Maps

theorem uni_nil (l : List Nat) : uni l [] = l := by simp [uni]
theorem nil_uni (l : List Nat) : uni [] l = l := by simp [uni]

theorem union_other_nil (a : Addr) (w : World) : Calls Tryd.prog 19 #[.pointer (some a), .pointer none] w fun e w' => e = .returned (.bool false) ∧ w' = w := by
  go_enter Tryd.func19, Tryd.ntmps19
  go_wp2
  go_ret
  exact ⟨rfl, rfl⟩

/-- A set that was made since w, in a world w1. -/
def New (w w1 : World) (s : Nat) (l : List Nat) : Prop := ∃ bm D, SetAt w1 s bm D l ∧ w.heap.size ≤ s ∧ w.heap.size ≤ bm ∧ Below w.heap.size w w1

section
variable {w w1 : World} {s : Nat} {l o : List Nat} {v : Value}

theorem New.newSet (h : New w w1 s l) : NewSet w w1 (.returned (ptr s)) l := by
  obtain ⟨bm, D, S, h1, h2, h3⟩ := h
  exact ⟨s, bm, D, rfl, h1, h2, S, h3⟩
theorem New.below (h : New w w1 s l) : Below w.heap.size w w1 := by
  obtain ⟨bm, D, S, h1, h2, h3⟩ := h
  exact h3

theorem new_none (w : World) : Calls Tryd.prog 6 #[.slice none 0 0] w fun e w' => ∃ s, e = .returned (ptr s) ∧ New w w' s [] :=
  (of_none w).mono fun _ _ ⟨he, ⟨D, S⟩, hb⟩ => ⟨_, he, _, D, S, Nat.le_succ _, Nat.le_refl _, hb⟩

theorem new_union (h : New w w1 s l) (T : ASet w v o) (hlen : l.length + o.length ≤ 1000000) : Calls Tryd.prog 19 #[ptr s, v] w1 fun e w' => (∃ b, e = .returned (.bool b)) ∧ New w w' s (uni l o) := by
  obtain ⟨bm, D, S, h1, h2, h3⟩ := h
  rcases T with ⟨rfl, rfl⟩ | ⟨so, bo, Do, rfl, T⟩
  · refine (union_other_nil _ w1).mono ?_
    rintro e w' ⟨rfl, rfl⟩
    exact ⟨⟨_, rfl⟩, bm, D, by rw [uni_nil]; exact S, h1, h2, h3⟩
  · have g1 := T.lts
    have g2 := T.ltm
    refine (union_any S (T.below h3) (by omega) (by omega) hlen).mono ?_
    rintro e w' ⟨rfl, ⟨D', S'⟩, ht⟩
    exact ⟨⟨_, rfl⟩, bm, D', S', h1, h2, h3.trans (ht.below h3.size (fun k hk h => by rcases h with h | h <;> omega))⟩

theorem has_a {x : Int} (T : ASet w v o) (hx : x < 9223372036854775808) (hne : o ≠ []) : Calls Tryd.prog 18 #[v, .int .i64 x] w fun e w' => e = .returned (.bool (decide (0 ≤ x ∧ x.toNat ∈ o))) ∧ w' = w := by
  rcases T with ⟨rfl, rfl⟩ | ⟨so, bo, Do, rfl, T⟩
  · exact absurd rfl hne
  · by_cases h0 : 0 ≤ x
    · obtain ⟨n, rfl⟩ := Int.eq_ofNat_of_zero_le h0
      refine (has_any T (i := n) (by omega)).mono ?_
      rintro e w' ⟨rfl, hw⟩
      refine ⟨?_, hw⟩
      congr 2
      simp
    · refine (has_less (by omega) _).mono ?_
      rintro e w' ⟨rfl, hw⟩
      refine ⟨?_, hw⟩
      congr 2
      simp; omega
end

/-- What a field has behind a store. -/
def storeL (A B T : List Nat) (o : Int) (single : Bool) : List Nat :=
  if T = [] then [] else if ¬ (0 ≤ o ∧ o.toNat ∈ T) then A else if 1 < T.length ∨ single = false then uni A B else B

section
variable {w : World} {va vb vt : Value} {A B T : List Nat} {o : Int} {single : Bool}

theorem store_new (hA : ASet w va A) (hB : ASet w vb B) (hT : ASet w vt T) (ho : o < 9223372036854775808) (na : A.length ≤ 100000) (nb : B.length ≤ 100000) (nt : T.length ≤ 100000) :
    Calls Tryd.prog 7 #[va, vb, vt, .int .i64 o, .bool single] w fun e w' => NewSet w w' e (storeL A B T o single) := by
  have hn := Lib.hid (new_none w)
  unfold storeL
  by_cases hT0 : T = []
  · rw [if_pos hT0]
    subst hT0
    clear hA hB na nb nt ho
    go_enter Tryd.func7, Tryd.ntmps7
    go_wp2_with (first
      | (go_at_call 6; refine hn.out.mono ?_; clear hn; rintro e w1 ⟨s, rfl, hN⟩; have hl := Lib.hid (len_a (hT.below hN.below)); clear hT)
      | (go_at_call 16; refine hl.out.mono ?_; clear hl; rintro e w2 ⟨rfl, hw⟩; obtain rfl := hw.symm))
    go_ret
    exact hN.newSet
  · rw [if_neg hT0]
    have hl0 : T.length ≠ 0 := fun h => hT0 (List.length_eq_zero_iff.1 h)
    have d0 : ((T.length : Int) == 0) = false := by simp; exact hT0
    by_cases hin : 0 ≤ o ∧ o.toNat ∈ T
    · rw [if_neg (fun h => h hin)]
      have hin' := Lib.hid (decide_eq_true hin)
      clear hin
      by_cases hgt : 1 < T.length
      · rw [if_pos (Or.inl hgt)]
        have d1 : decide ((T.length : Int) > 1) = true := by simp; omega
        go_enter Tryd.func7, Tryd.ntmps7
        go_wp2_with fail
        refine hn.out.mono ?_
        clear hn
        rintro e w1 ⟨s, rfl, hN⟩
        have hl := Lib.hid (len_a (hT.below hN.below))
        have hh := Lib.hid (has_a (x := o) (hT.below hN.below) ho hT0)
        rw [hin'.out] at hh
        clear hT
        go_wp2_with fail
        refine hl.out.mono ?_
        rintro e w2 ⟨rfl, hw⟩; obtain rfl := hw.symm
        go_wp2_with fail
        refine hh.out.mono ?_
        rintro e w2 ⟨rfl, hw⟩; obtain rfl := hw.symm
        go_wp2_with fail
        refine (new_union hN hA (by simp; omega)).mono ?_
        rintro e w3 ⟨⟨b, rfl⟩, hN⟩
        rw [nil_uni] at hN
        go_wp2_with fail
        refine (new_union hN (hB) (by omega)).mono ?_
        rintro e w4 ⟨⟨b, rfl⟩, hN⟩
        go_wp2_with fail
        go_ret
        exact hN.newSet
      · have d1 : decide ((T.length : Int) > 1) = false := by simp; omega
        cases single
        · rw [if_pos (Or.inr rfl)]
          go_enter Tryd.func7, Tryd.ntmps7
          go_wp2_with fail
          refine hn.out.mono ?_
          clear hn
          rintro e w1 ⟨s, rfl, hN⟩
          have hl := Lib.hid (len_a (hT.below hN.below))
          have hh := Lib.hid (has_a (x := o) (hT.below hN.below) ho hT0)
          rw [hin'.out] at hh
          clear hT
          go_wp2_with fail
          refine hl.out.mono ?_
          rintro e w2 ⟨rfl, hw⟩; obtain rfl := hw.symm
          go_wp2_with fail
          refine hh.out.mono ?_
          rintro e w2 ⟨rfl, hw⟩; obtain rfl := hw.symm
          go_wp2_with fail
          refine (new_union hN hA (by simp; omega)).mono ?_
          rintro e w3 ⟨⟨b, rfl⟩, hN⟩
          rw [nil_uni] at hN
          go_wp2_with fail
          refine (new_union hN (hB) (by omega)).mono ?_
          rintro e w4 ⟨⟨b, rfl⟩, hN⟩
          go_wp2_with fail
          go_ret
          exact hN.newSet
        · rw [if_neg (by rintro (h | h); exact hgt h; cases h)]
          go_enter Tryd.func7, Tryd.ntmps7
          go_wp2_with fail
          refine hn.out.mono ?_
          clear hn
          rintro e w1 ⟨s, rfl, hN⟩
          have hl := Lib.hid (len_a (hT.below hN.below))
          have hh := Lib.hid (has_a (x := o) (hT.below hN.below) ho hT0)
          rw [hin'.out] at hh
          clear hT
          go_wp2_with fail
          refine hl.out.mono ?_
          rintro e w2 ⟨rfl, hw⟩; obtain rfl := hw.symm
          go_wp2_with fail
          refine hh.out.mono ?_
          rintro e w2 ⟨rfl, hw⟩; obtain rfl := hw.symm
          go_wp2_with fail
          refine (new_union hN hB (by simp; omega)).mono ?_
          rintro e w3 ⟨⟨b, rfl⟩, hN⟩
          rw [nil_uni] at hN
          go_wp2_with fail
          go_ret
          exact hN.newSet
    · rw [if_pos hin]
      have hin' := Lib.hid (decide_eq_false hin)
      clear hin
      go_enter Tryd.func7, Tryd.ntmps7
      go_wp2_with fail
      refine hn.out.mono ?_
      clear hn
      rintro e w1 ⟨s, rfl, hN⟩
      have hl := Lib.hid (len_a (hT.below hN.below))
      have hh := Lib.hid (has_a (x := o) (hT.below hN.below) ho hT0)
      rw [hin'.out] at hh
      clear hT
      go_wp2_with fail
      refine hl.out.mono ?_
      rintro e w2 ⟨rfl, hw⟩; obtain rfl := hw.symm
      go_wp2_with fail
      refine hh.out.mono ?_
      rintro e w2 ⟨rfl, hw⟩; obtain rfl := hw.symm
      go_wp2_with fail
      refine (new_union hN hA (by simp; omega)).mono ?_
      rintro e w3 ⟨⟨b, rfl⟩, hN⟩
      rw [nil_uni] at hN
      go_wp2_with fail
      go_ret
      exact hN.newSet
end
end Go.Proofs.YtdpmpppafkefoaaDoor
