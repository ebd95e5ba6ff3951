/- BitsOrder: the walk. -/
import Derived.Test.YtdpbbgfceagofaaDoorPlace
namespace Go.Proofs.YtdpbbgfceagofaaDoor
open Go.RowKit Go.Maps

section
variable {w : World} {s : Value} {xs : List Int} {i : Int}

theorem order_great (G : Gl w) (hs : RdI w s xs) (hn : 1000 < xs.length) : Calls Tryd.prog 6 #[s, .int .i64 i] w fun e w' => e = .returned (.bool true) ∧ Below w.heap.size w w' := by
  obtain ⟨a, c, rfl⟩ := hs.form
  rw [List.length_map]
  have hd : decide ((xs.length : Int) > 1000) = true := by simp; omega
  have hw := Lib.hid (wakes_any G)
  go_enter Tryd.func6, Tryd.ntmps6
  go_wp2_with (go_at_call 10; refine hw.out.mono ?_; rintro e w' ⟨rfl, hb⟩)
  go_ret
  exact ⟨rfl, hb⟩

set_option maxHeartbeats 2000000 in
theorem order_any (G : Gl w) (hs : RdI w s xs) (hx : Small xs) (hi0 : -9223372036854775808 ≤ i) (hi1 : i < 9223372036854775808) (hn : xs.length ≤ 1000) : Calls Tryd.prog 6 #[s, .int .i64 i] w fun e w' => e = .returned (.bool true) ∧ Below w.heap.size w w' := by
  obtain ⟨a, c, rfl⟩ := hs.form
  rw [List.length_map] at hs ⊢
  have hd : decide ((xs.length : Int) > 1000) = false := by simp; omega
  have B0 := Bag.init w
  go_enter Tryd.func6, Tryd.ntmps6
  go_wp2_with fail
  refine (bag_of_none B0).mono ?_
  rintro e w1 ⟨s1, rfl, B1⟩
  go_wp2_with fail
  refine (bag_of_none B1).mono ?_
  rintro e w2 ⟨s2, rfl, B2⟩
  change Bag w w2 [(s1, []), (s2, [])] [] at B2
  clear B0 B1
  go_wp2_with fail
  go_loopw [7] (fun u wr => ∃ (j : Nat) (l1 l2 : List Nat), j ≤ xs.length ∧ u = .int .i64 j ∧ Bag w wr [(s1, l1), (s2, l2)] [] ∧ (∀ m : Nat, m ∈ l1 ↔ (m : Int) ∈ xs.take j) ∧ (∀ m ∈ l2, (m : Int) ∈ xs) ∧ (∀ m : Nat, (m : Int) ∈ xs.drop (xs.length - j) → m ∈ l2))
    (fun u _ => xs.length - (intOf u).toNat)
  case atStart =>
    exact ⟨0, [], [], Nat.zero_le _, rfl, B2, by simp, by simp, by simp⟩
  case round =>
    obtain ⟨j, l1, l2, hj, rfl, B, hm1, hm2, hm3⟩ := hrel
    clear B2
    have hl1 := nat_len (B.nodup (i := 0) rfl) (xs := xs) (fun m h => List.mem_of_mem_take ((hm1 m).1 h))
    have hl2 := nat_len (B.nodup (i := 1) rfl) hm2
    by_cases hlt : j < xs.length
    · obtain ⟨x, hxj⟩ : ∃ k, xs[j]? = some k := ⟨_, List.getElem?_eq_getElem hlt⟩
      obtain ⟨p, hp⟩ : ∃ p, p = xs.length - 1 - j := ⟨_, rfl⟩
      have hplt : p < xs.length := by omega
      obtain ⟨y, hyj⟩ : ∃ k, xs[p]? = some k := ⟨_, List.getElem?_eq_getElem hplt⟩
      have hpc : (xs.length : Int) - 1 - (j : Int) = (p : Int) := by omega
      obtain ⟨b, off, cap, e, hq⟩ := RdI.open hs (by omega)
      simp only [Value.slice.injEq] at e
      obtain ⟨rfl, -, rfl⟩ := e
      have hxx := hx x (List.mem_of_getElem? hxj)
      have hyy := hx y (List.mem_of_getElem? hyj)
      have c1 := hq wr B.old j x hxj
      replace hp := Lib.hid hp
      replace hm1 := Lib.hid hm1
      replace hm2 := Lib.hid hm2
      replace hm3 := Lib.hid hm3
      replace hxj := Lib.hid hxj
      replace hyj := Lib.hid hyj
      replace hq := Lib.hid hq
      go_wp2_with fail
      refine (bag_add B (i := 0) rfl hxx.2 (by omega)).mono ?_
      rintro e w3 ⟨rfl, B3⟩
      change Bag w w3 [(s1, plusN l1 x), (s2, l2)] [] at B3
      have c2 := hq.out w3 B3.old p y hyj.out
      clear B c1
      go_wp2_with fail
      refine (bag_add B3 (i := 1) rfl hyy.2 (by omega)).mono ?_
      rintro e w4 ⟨rfl, B4⟩
      change Bag w w4 [(s1, plusN l1 x), (s2, plusN l2 y)] [] at B4
      clear B3 c2
      go_wp2_with fail
      refine (place_any hi0 hi1 (by omega) (by omega) w4).mono ?_
      rintro e w' ⟨⟨k, hk, -, rfl⟩, hw⟩
      obtain rfl := hw.symm
      obtain ⟨z, hzk⟩ : ∃ z, xs[k]? = some z := ⟨_, List.getElem?_eq_getElem hk⟩
      have hzz := hx z (List.mem_of_getElem? hzk)
      have c3 := hq.out w4 B4.old k z hzk
      have hp2 := plusN_len l2 y
      replace hzk := Lib.hid hzk
      go_wp2_with fail
      refine (bag_add B4 (i := 1) rfl hzz.2 (by omega)).mono ?_
      rintro e w5 ⟨rfl, B5⟩
      change Bag w w5 [(s1, plusN l1 x), (s2, plusN (plusN l2 y) z)] [] at B5
      clear B4 c3
      go_wp2_with fail
      go_roundw
      case rel =>
        refine ⟨j + 1, _, _, by omega, by go_num, B5, fun m => ?_, fun m hm => ?_, fun m hm => ?_⟩
        · rw [mem_plusN, hm1.out, take_snoc hxj.out, List.mem_append, List.mem_singleton]
        · rw [mem_plusN, mem_plusN] at hm
          rcases hm with (h | h) | h
          · exact hm2.out m h
          · rw [h]; exact List.mem_of_getElem? hyj.out
          · rw [h]; exact List.mem_of_getElem? hzk.out
        · rw [mem_plusN, mem_plusN]
          have hpo := hp.out
          have e1 : xs.length - (j + 1) = p := by omega
          have e2 : xs.drop p = y :: xs.drop (xs.length - j) := by
            obtain ⟨hlt2, e3⟩ := List.getElem?_eq_some_iff.1 hyj.out
            rw [List.drop_eq_getElem_cons hlt2, e3]
            congr 2
            omega
          rw [e1, e2, List.mem_cons] at hm
          rcases hm with h | h
          · exact Or.inl (Or.inr h)
          · exact Or.inl (Or.inl (hm3.out m h))
      case measure => simp [intOf]; omega
    · have : j = xs.length := by omega
      subst this
      rw [List.take_length] at hm1
      rw [Nat.sub_self, List.drop_zero] at hm3
      have h12 : ∀ m, m ∈ l1 ↔ m ∈ l2 := fun m => ⟨fun h => hm3 m ((hm1 m).1 h), fun h => (hm1 m).2 (hm2 m h)⟩
      have ha1 : alike l1 l2 = true := (alike_iff (B.nodup (i := 0) rfl) (B.nodup (i := 1) rfl)).2 h12
      have ha2 : alike l1 (numsOf xs) = true := (alike_iff (B.nodup (i := 0) rfl) (nodup_numsOf xs)).2 (fun m => by rw [hm1, mem_numsOf])
      have hx63 : ∀ x ∈ xs, x < 9223372036854775808 := fun x h => (hx x h).2
      replace h12 := Lib.hid h12
      clear hm1 hm2 hm3
      go_wp2_with fail
      refine (bag_same B (i := 0) (j := 1) rfl rfl).mono ?_
      rintro e w3 ⟨rfl, B3⟩
      rw [ha1]
      clear B
      go_wp2_with fail
      refine (bag_list B3 G (i := 0) rfl (by omega)).mono ?_
      rintro e w4 ⟨v1, rs1, rfl, r1, r2, -, -, B4⟩
      clear B3
      go_wp2_with fail
      refine (bag_list B4 G (i := 1) rfl (by omega)).mono ?_
      rintro e w5 ⟨v2, rs2, rfl, q1, q2, -, -, B5⟩
      obtain rfl : rs1 = rs2 := rising_eq r1 q1 (fun m => by rw [r2, q2]; exact h12.out m)
      have hrl : (ints rs1).length ≤ 1000000 := by
        have := nodup_len_le (r1.imp (fun h => Nat.ne_of_lt h)) (fun m h => (r2 m).1 h)
        simp [ints]
        omega
      have hv1 := (B5.rows v1 (ints rs1) (by simp)).1
      have hv2 := (B5.rows v2 (ints rs1) (by simp)).1
      clear B4 r1 r2 q1 q2
      go_wp2_with fail
      refine (same_any hv1 hv2 hrl).mono ?_
      rintro e w6 ⟨rfl, n6, rfl⟩
      rw [decide_eq_true (rfl : ints rs1 = ints rs1)]
      replace B5 := B5.drawn n6
      clear hv1 hv2 hrl
      generalize w5.drewN n6 = w6 at B5 ⊢
      go_wp2_with fail
      refine (bag_of B5 (hs.below B5.old) hx63 (by omega)).mono ?_
      rintro e w7 ⟨s7, rfl, B7⟩
      change Bag w w7 [(s1, l1), (s2, l2), (s7, numsOf xs)] _ at B7
      clear B5
      go_wp2_with fail
      refine (bag_same B7 (i := 0) (j := 2) rfl rfl).mono ?_
      rintro e w8 ⟨rfl, B8⟩
      rw [ha2]
      clear B7
      go_wp2_with fail
      refine (wakes_any (B8.gl G)).mono ?_
      rintro e w9 ⟨rfl, hb9⟩
      have hold := B8.old.trans (hb9.mono B8.old.size)
      clear B8 hb9
      go_wp2_with fail
      go_ret
      exact ⟨rfl, hold⟩
end
end Go.Proofs.YtdpbbgfceagofaaDoor
