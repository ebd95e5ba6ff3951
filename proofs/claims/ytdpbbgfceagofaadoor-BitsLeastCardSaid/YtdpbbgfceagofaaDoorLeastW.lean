/- BitsLeast: the walk. -/
import Derived.Test.YtdpbbgfceagofaaDoorPlace
namespace Go.Proofs.YtdpbbgfceagofaaDoor
open Go.RowKit Go.Maps

theorem min_drop {rs l : List Nat} {j m k : Nat} (hr : rs.Pairwise (· < ·)) (hl : ∀ n, n ∈ l ↔ n ∈ rs.drop j) (hk : rs[j]? = some k) (hm : Min l m) : m = k := by
  obtain ⟨hlt, e⟩ := List.getElem?_eq_some_iff.1 hk
  have hd : rs.drop j = k :: rs.drop (j + 1) := by rw [List.drop_eq_getElem_cons hlt, e]
  have hp : (rs.drop j).Pairwise (· < ·) := hr.sublist (List.drop_sublist j rs)
  rw [hd] at hp
  have h1 := (List.pairwise_cons.1 hp).1
  have h2 := (hl m).1 hm.1
  have h3 := hm.2 k ((hl k).2 (by rw [hd]; simp))
  rw [hd, List.mem_cons] at h2
  rcases h2 with h | h
  · exact h
  · have := h1 m h; omega

theorem drop_erase {rs l : List Nat} {j k : Nat} (hr : rs.Pairwise (· < ·)) (hn : l.Nodup) (hl : ∀ n, n ∈ l ↔ n ∈ rs.drop j) (hk : rs[j]? = some k) (n : Nat) : n ∈ lessN l (k : Int) ↔ n ∈ rs.drop (j + 1) := by
  obtain ⟨hlt, e⟩ := List.getElem?_eq_some_iff.1 hk
  have hd : rs.drop j = k :: rs.drop (j + 1) := by rw [List.drop_eq_getElem_cons hlt, e]
  have hp : (rs.drop j).Pairwise (· < ·) := hr.sublist (List.drop_sublist j rs)
  rw [hd] at hp
  have h1 := (List.pairwise_cons.1 hp).1
  rw [mem_lessN hn, hl, hd, List.mem_cons]
  constructor
  · rintro ⟨h | h, h2⟩
    · exact absurd (by rw [h]) h2
    · exact h
  · intro h
    have := h1 n h
    exact ⟨Or.inr h, by omega⟩

section
variable {w : World} {s : Value} {xs : List Int}

theorem least_great (G : Gl w) (hs : RdI w s xs) (hn : 1000 < xs.length) : Calls Tryd.prog 8 #[s] w fun e w' => e = .returned (.bool true) ∧ Below w.heap.size w w' := by
  obtain ⟨a, c, rfl⟩ := hs.form
  rw [List.length_map]
  have hd : decide ((xs.length : Int) > 1000) = true := by simp; omega
  have hw := Lib.hid (wakes_any G)
  go_enter Tryd.func8, Tryd.ntmps8
  go_wp2_with (go_at_call 10; refine hw.out.mono ?_; rintro e w' ⟨rfl, hb⟩)
  go_ret
  exact ⟨rfl, hb⟩

set_option maxHeartbeats 2000000 in
theorem least_any (G : Gl w) (hs : RdI w s xs) (hx : Small xs) (hn : xs.length ≤ 1000) : Calls Tryd.prog 8 #[s] w fun e w' => e = .returned (.bool true) ∧ Below w.heap.size w w' := by
  obtain ⟨a, c, rfl⟩ := hs.form
  rw [List.length_map] at hs ⊢
  have hd : decide ((xs.length : Int) > 1000) = false := by simp; omega
  have B0 := Bag.init w
  have ya : ∀ x ∈ xs, x < 9223372036854775808 := fun x h => (hx x h).2
  go_enter Tryd.func8, Tryd.ntmps8
  go_wp2_with fail
  refine (bag_of B0 hs ya (by omega)).mono ?_
  rintro e w1 ⟨s0, rfl, B1⟩
  have hA : (numsOf xs).length ≤ 1000 := Nat.le_trans (numsOf_len xs) hn
  change Bag w w1 [(s0, numsOf xs)] [] at B1
  generalize numsOf xs = A at B1 hA
  clear B0 hs hx ya hn
  go_wp2_with fail
  refine (bag_list B1 G (i := 0) rfl (by omega)).mono ?_
  rintro e w2 ⟨v, rs, rfl, r1, r2, hown, -, B2⟩
  change Bag w w2 [(s0, A)] [(v, ints rs)] at B2
  obtain ⟨va, vc, rfl⟩ := own_form hown
  have hlen : rs.length = A.length := nodup_len_eq (r1.imp (fun h => Nat.ne_of_lt h)) (B2.nodup (i := 0) rfl) r2
  have hsm := B2.small (i := 0) rfl
  have hrl : rs.length ≤ 1000 := by omega
  replace hlen := Lib.hid hlen
  clear B1 hown
  go_wp2_with fail
  go_loopw [2, 5, 6, 7] (fun _ u _ _ wr => ∃ (j : Nat) (l : List Nat), j ≤ rs.length ∧ u = .int .i64 j ∧ Bag w wr [(s0, l)] [(.slice va rs.length vc, ints rs)] ∧ ∀ m, m ∈ l ↔ m ∈ rs.drop j)
    (fun _ u _ _ _ => rs.length - (intOf u).toNat)
  case atStart => exact ⟨0, A, Nat.zero_le _, rfl, B2, fun m => by rw [List.drop_zero]; exact (r2 m).symm⟩
  case round =>
    obtain ⟨j, l, hj, rfl, B, hl⟩ := hrel
    clear B2
    have hnd := B.nodup (i := 0) rfl
    have hll : l.length = rs.length - j := by
      rw [nodup_len_eq hnd ((r1.sublist (List.drop_sublist j rs)).imp (fun h => Nat.ne_of_lt h)) hl, List.length_drop]
    by_cases hlt : j < rs.length
    · obtain ⟨k, hk⟩ : ∃ k, rs[j]? = some k := ⟨_, List.getElem?_eq_getElem hlt⟩
      have hkm : k ∈ l := by
        rw [hl]
        obtain ⟨hlt', e⟩ := List.getElem?_eq_some_iff.1 hk
        rw [List.drop_eq_getElem_cons hlt', e]
        simp
      have hk63 := hsm k ((r2 k).1 (List.mem_of_getElem? hk))
      obtain ⟨b, off, cap, e, hq⟩ := RdI.open ((B.rows _ _ (List.Mem.head _)).1) (by simp [ints]; omega)
      have e0 : (ints rs).length = rs.length := by simp [ints]
      rw [e0] at e
      simp only [Value.slice.injEq] at e
      obtain ⟨rfl, -, rfl⟩ := e
      have hmem := drop_erase r1 hnd hl hk
      have hmin := fun m (h : Min l m) => min_drop r1 hl hk h
      have hin : decide (0 ≤ (k : Int) ∧ (k : Int).toNat ∈ l) = true := decide_eq_true ⟨by omega, hkm⟩
      have hout : decide (0 ≤ (k : Int) ∧ (k : Int).toNat ∈ lessN l (k : Int)) = false := decide_eq_false (fun h => by
        have := (mem_lessN hnd).1 h.2
        exact this.2 (by simp))
      have hle2 : (lessN l (k : Int)).length = rs.length - (j + 1) := by
        unfold lessN
        rw [if_pos (by omega), Int.toNat_natCast, List.length_erase_of_mem hkm]
        omega
      have hne2 : ((((lessN l (k : Int)).length : Nat) : Int) != (rs.length : Int) - 1 - (j : Int)) = false := by rw [hle2]; simp; omega
      have hne : l ≠ [] := fun e => by rw [e] at hkm; cases hkm
      have hki : Hid ((ints rs)[j]? = some (k : Int)) := Lib.hid (by simp [ints, hk])
      replace hmem := Lib.hid hmem
      replace hmin := Lib.hid hmin
      replace hl := Lib.hid hl
      replace r1 := Lib.hid r1
      replace r2 := Lib.hid r2
      replace hsm := Lib.hid hsm
      replace hin := Lib.hid hin
      replace hout := Lib.hid hout
      replace hle2 := Lib.hid hle2
      clear hk hq hkm
      go_wp2_with fail
      refine (bag_least B G (i := 0) rfl hne (by omega)).mono ?_
      rintro e w3 ⟨⟨m, hm, rfl⟩, B3⟩
      obtain rfl := hmin.out m hm
      have c1 := row_cell ((B3.rows _ _ (List.Mem.head _)).1) (j := j) (x := (m : Int)) hki.out
      have hl3 : l.length ≤ 1000000 := by omega
      clear B
      go_wp2_with fail
      refine (bag_drop B3 (i := 0) rfl (x := (m : Int)) (by omega) hl3).mono ?_
      rintro e w4 ⟨rfl, B4⟩
      rw [hin.out]
      change Bag w w4 [(s0, lessN l (m : Int))] _ at B4
      clear B3 c1
      go_wp2_with fail
      refine (bag_has B4 (i := 0) rfl (x := (m : Int)) (by omega)).mono ?_
      rintro e w' ⟨rfl, hw⟩
      obtain rfl := hw.symm
      rw [hout.out]
      go_wp2_with fail
      refine (bag_len B4 (i := 0) rfl).mono ?_
      rintro e w' ⟨rfl, hw⟩
      obtain rfl := hw.symm
      go_wp2_with fail
      go_roundw
      case rel => exact ⟨j + 1, _, by omega, by go_num, B4, hmem.out⟩
      case measure => simp [intOf]; omega
    · have : j = rs.length := by omega
      subst this
      obtain rfl : l = [] := List.eq_nil_iff_forall_not_mem.2 (fun m hm => by have := (hl m).1 hm; simp at this)
      replace r1 := Lib.hid r1
      replace r2 := Lib.hid r2
      replace hsm := Lib.hid hsm
      clear hl hll
      go_wp2_with fail
      refine (bag_least_none B (i := 0) rfl).mono ?_
      rintro e w' ⟨rfl, hw⟩
      obtain rfl := hw.symm
      go_wp2_with fail
      refine (same_a (B.aset (i := 0) rfl) (Or.inl ⟨rfl, rfl⟩ : ASet _ (.pointer none) [])).mono ?_
      rintro e w3 ⟨rfl, hb⟩
      rw [show alike [] [] = true from rfl]
      replace B := B.below hb
      clear hb
      go_wp2_with fail
      refine (wakes_any (B.gl G)).mono ?_
      rintro e w9 ⟨rfl, hb9⟩
      have hold := B.old.trans (hb9.mono B.old.size)
      clear B hb9
      go_wp2_with fail
      go_ret
      exact ⟨rfl, hold⟩
end
end Go.Proofs.YtdpbbgfceagofaaDoor
