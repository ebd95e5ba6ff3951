/- UpdateCases: the walk. -/
import Derived.Test.YtdpmpppafkefoaaUpdW
import Derived.Test.YtdpmpppafkefoaaReadI
namespace Go.Proofs.Ytdpmpppafkefoaa
open Go.RowKit Go.Maps

theorem store_none (A B : List Nat) (o : Int) (s : Bool) : storeL A B [] o s = [] := by simp [storeL]
theorem store_else {A B T : List Nat} {o : Int} {s : Bool} (h0 : T ≠ []) (h : ¬ (0 ≤ o ∧ o.toNat ∈ T)) : storeL A B T o s = A := by unfold storeL; rw [if_neg h0, if_pos h]
theorem store_more {A B T : List Nat} {o : Int} {s : Bool} (h : 0 ≤ o ∧ o.toNat ∈ T) (h1 : 1 < T.length) : storeL A B T o s = uni A B := by
  unfold storeL
  rw [if_neg (by rintro rfl; simp at h), if_neg (fun k => k h), if_pos (Or.inl h1)]
theorem store_one {A B T : List Nat} {o : Int} (h : 0 ≤ o ∧ o.toNat ∈ T) (h1 : T.length = 1) : storeL A B T o true = B := by
  unfold storeL
  rw [if_neg (by rintro rfl; simp at h), if_neg (fun k => k h), if_neg (by rw [h1]; simp)]
theorem store_weak {A B T : List Nat} {o : Int} (h : 0 ≤ o ∧ o.toNat ∈ T) : storeL A B T o false = uni A B := by
  unfold storeL
  rw [if_neg (by rintro rfl; simp at h), if_neg (fun k => k h), if_pos (Or.inr rfl)]
theorem less_not {l : List Nat} (hn : l.Nodup) (o : Int) : ¬ (0 ≤ o ∧ o.toNat ∈ lessN l o) := by
  rintro ⟨h0, h1⟩
  exact ((mem_lessN hn).1 h1).2 (by omega)
theorem nums_one {o : Int} (h : 0 ≤ o) : numsOf [o] = [o.toNat] := by simp [numsOf, plusN, h]
theorem lessN_len (l : List Nat) (i : Int) : (lessN l i).length ≤ l.length := by
  unfold lessN
  split
  · exact List.length_erase_le
  · exact Nat.le_refl _

section
variable {w : World} {va vb vt : Value} {xa xb xt : List Int} {o : Int}

set_option maxRecDepth 20000 in
theorem cases_great (ha : RdI w va xa) (hb : RdI w vb xb) (ht : RdI w vt xt) (hn : 300 < xa.length ∨ 300 < xb.length ∨ 300 < xt.length) : Calls Try.prog 4 #[va, vb, vt, .int .i64 o] w fun e w' => e = .returned (.bool true) ∧ Below w.heap.size w w' := by
  obtain ⟨a, c, rfl⟩ := ha.form
  obtain ⟨a', c', rfl⟩ := hb.form
  obtain ⟨a'', c'', rfl⟩ := ht.form
  rw [List.length_map, List.length_map, List.length_map]
  have hw := Lib.hid (uwakes_any w)
  clear ha hb ht
  rcases hd : decide ((xa.length : Int) > 300) with _ | _
  · rcases hd2 : decide ((xb.length : Int) > 300) with _ | _
    · have hd3 : decide ((xt.length : Int) > 300) = true := by simp at hd hd2 ⊢; omega
      go_enter Try.func4, Try.ntmps4
      go_wp2_with (go_at_call 7; refine hw.out.mono ?_; rintro e w' ⟨rfl, hb⟩)
      go_ret
      exact ⟨rfl, hb⟩
    · go_enter Try.func4, Try.ntmps4
      go_wp2_with (go_at_call 7; refine hw.out.mono ?_; rintro e w' ⟨rfl, hb⟩)
      go_ret
      exact ⟨rfl, hb⟩
  · go_enter Try.func4, Try.ntmps4
    go_wp2_with (go_at_call 7; refine hw.out.mono ?_; rintro e w' ⟨rfl, hb⟩)
    go_ret
    exact ⟨rfl, hb⟩

set_option maxRecDepth 20000 in
set_option maxHeartbeats 4000000 in
theorem cases_empty_neg (ha : RdI w va xa) (hb : RdI w vb xb) (ht : RdI w vt xt) (xa63 : ∀ x ∈ xa, x < 9223372036854775808) (xb63 : ∀ x ∈ xb, x < 9223372036854775808) (xt63 : ∀ x ∈ xt, x < 9223372036854775808) (na : xa.length ≤ 300) (nb : xb.length ≤ 300) (nt : xt.length ≤ 300) (hi : o < 9223372036854775808)
    (hs : o < 0) (hT : lessN (numsOf xt) o = []) : Calls Try.prog 4 #[va, vb, vt, .int .i64 o] w fun e w' => e = .returned (.bool true) ∧ Below w.heap.size w w' := by
  obtain ⟨a, c, rfl⟩ := ha.form
  obtain ⟨a', c', rfl⟩ := hb.form
  obtain ⟨a'', c'', rfl⟩ := ht.form
  rw [List.length_map] at ha hb ht ⊢
  rw [List.length_map, List.length_map]
  have hd : decide ((xa.length : Int) > 300) = false := by simp; omega
  have hd2 : decide ((xb.length : Int) > 300) = false := by simp; omega
  have hd3 : decide ((xt.length : Int) > 300) = false := by simp; omega
  have hold := Below.refl w.heap.size w
  have g1 : decide (o ≥ 0) = false := by simp; omega
  have g2 : decide (o < 0) = true := by simp; omega
  go_enter Try.func4, Try.ntmps4
  have hbx := hb
  have htx := ht
  clear hb ht
  go_wp2_with fail
  refine (of_new ha xa63 (by omega)).mono ?_
  rintro e w1 ⟨s_a, rfl, N_a⟩
  have hb := N_a.below
  replace hbx := hbx.below hb
  replace htx := htx.below hb
  replace hold := hold.trans (hb.mono hold.size)
  clear hb
  have a := N_a.aset
  clear N_a
  clear ha
  go_wp2_with fail
  refine (of_new hbx xb63 (by omega)).mono ?_
  rintro e w2 ⟨s_b, rfl, N_b⟩
  have hb := N_b.below
  replace a := a.below hb
  replace htx := htx.below hb
  replace hold := hold.trans (hb.mono hold.size)
  clear hb
  have b := N_b.aset
  clear N_b
  clear hbx
  have hA : (numsOf xa).length ≤ 300 := Nat.le_trans (numsOf_len xa) na
  have hB : (numsOf xb).length ≤ 300 := Nat.le_trans (numsOf_len xb) nb
  generalize numsOf xa = A at a hA
  generalize numsOf xb = B at b hB
  go_wp2_with fail
  refine (copy_new a (by omega)).mono ?_
  rintro e w3 ⟨s_c, rfl, N_c⟩
  go_wp2_with fail
  refine (new_union N_c b (by omega)).mono ?_
  rintro e w4 ⟨⟨r4, rfl⟩, M_c⟩
  clear N_c
  have N_c := M_c
  clear M_c
  have hb := N_c.below
  replace a := a.below hb
  replace b := b.below hb
  replace htx := htx.below hb
  replace hold := hold.trans (hb.mono hold.size)
  clear hb
  have c := N_c.aset
  clear N_c
  go_wp2_with fail
  refine (of_new htx xt63 (by omega)).mono ?_
  rintro e w5 ⟨s_t, rfl, N_t⟩
  have hn0 := N_t.nodup
  go_wp2_with fail
  refine (new_drop N_t hi (Nat.le_trans (numsOf_len xt) (by omega))).mono ?_
  rintro e w6 ⟨⟨r6, rfl⟩, M_t⟩
  clear N_t
  have N_t := M_t
  clear M_t
  have hb := N_t.below
  replace a := a.below hb
  replace b := b.below hb
  replace c := c.below hb
  replace hold := hold.trans (hb.mono hold.size)
  clear hb
  have t := N_t.aset
  clear N_t
  clear htx xa63 xb63 xt63 hd hd2 hd3
  have hTl : (lessN (numsOf xt) o).length ≤ 300 := Nat.le_trans (lessN_len _ _) (Nat.le_trans (numsOf_len xt) nt)
  have hnot := Lib.hid (less_not hn0 o)
  clear hn0
  replace hT := Lib.hid hT
  generalize lessN (numsOf xt) o = T at t hTl hnot hT
  obtain rfl := hT.out
  clear hT
  go_wp2_with fail
  go_loopw [13] (fun i wr => ∃ k : Nat, k ≤ 2 ∧ i = .int .i64 k ∧ Below w6.heap.size w6 wr) (fun i _ => 2 - (intOf i).toNat)
  case atStart => exact ⟨0, by omega, rfl, Below.refl _ _⟩
  case round =>
    obtain ⟨k, hk, rfl, hbr⟩ := hrel
    have hbr0 := hbr
    replace a := a.below hbr
    replace b := b.below hbr
    replace c := c.below hbr
    replace t := t.below hbr
    replace hold := hold.trans (hbr.mono hold.size)
    clear hbr
    by_cases hlt : k < 2
    · rcases (show k = 0 ∨ k = 1 by omega) with rfl | rfl
      · skip
        have hrest : Below wr.heap.size wr wr := Below.refl _ _
        go_wp2_with fail
        refine (new_none _).mono ?_
        rintro e w7 ⟨s_x, rfl, N_x⟩
        have hb := N_x.below
        replace a := a.below hb
        replace b := b.below hb
        replace c := c.below hb
        replace t := t.below hb
        replace hold := hold.trans (hb.mono hold.size)
        replace hrest := hrest.trans (hb.mono hrest.size)
        clear hb
        have x := N_x.aset
        clear N_x
        go_wp2_with fail
        refine (news (store_new a b x (o := o) (single := false) hi (by omega) (by omega) (by simp))).mono ?_
        rintro e w8 ⟨s_d, rfl, N_d⟩
        have hb := N_d.below
        replace a := a.below hb
        replace b := b.below hb
        replace c := c.below hb
        replace t := t.below hb
        replace x := x.below hb
        replace hold := hold.trans (hb.mono hold.size)
        replace hrest := hrest.trans (hb.mono hrest.size)
        clear hb
        have d := N_d.aset
        clear N_d
        go_wp2_with fail
        refine (len_a d).mono ?_
        rintro e w' ⟨rfl, hw⟩
        obtain rfl := hw.symm
        rw [show (storeL A B [] o false).length = 0 from by rw [store_none]; rfl]
        clear d
        clear x
        go_wp2_with fail
        refine (news (store_new a b (T := []) (vt := .pointer none) (Or.inl ⟨rfl, rfl⟩) (o := o) (single := false) hi (by omega) (by omega) (by simp))).mono ?_
        rintro e w9 ⟨s_d, rfl, N_d⟩
        have hb := N_d.below
        replace a := a.below hb
        replace b := b.below hb
        replace c := c.below hb
        replace t := t.below hb
        replace hold := hold.trans (hb.mono hold.size)
        replace hrest := hrest.trans (hb.mono hrest.size)
        clear hb
        have d := N_d.aset
        clear N_d
        go_wp2_with fail
        refine (len_a d).mono ?_
        rintro e w' ⟨rfl, hw⟩
        obtain rfl := hw.symm
        rw [show (storeL A B [] o false).length = 0 from by rw [store_none]; rfl]
        clear d
        go_wp2_with fail
        refine (len_a t).mono ?_
        rintro e w' ⟨rfl, hw⟩
        obtain rfl := hw.symm
        go_wp2_with fail
        refine (copy_new t (by simp)).mono ?_
        rintro e w10 ⟨s_m, rfl, N_m⟩
        go_wp2_with fail
        refine (new_add N_m hi (by simp)).mono ?_
        rintro e w11 ⟨⟨r11, rfl⟩, M_m⟩
        clear N_m
        have N_m := M_m
        clear M_m
        have hb := N_m.below
        replace a := a.below hb
        replace b := b.below hb
        replace c := c.below hb
        replace t := t.below hb
        replace hold := hold.trans (hb.mono hold.size)
        replace hrest := hrest.trans (hb.mono hrest.size)
        clear hb
        have m := N_m.aset
        clear N_m
        go_wp2_with fail
        go_roundw
        case rel => exact ⟨1, by omega, by go_num, hbr0.trans (hrest.mono hbr0.size)⟩
        case measure => simp [intOf]
      · skip
        have hrest : Below wr.heap.size wr wr := Below.refl _ _
        go_wp2_with fail
        refine (new_none _).mono ?_
        rintro e w7 ⟨s_x, rfl, N_x⟩
        have hb := N_x.below
        replace a := a.below hb
        replace b := b.below hb
        replace c := c.below hb
        replace t := t.below hb
        replace hold := hold.trans (hb.mono hold.size)
        replace hrest := hrest.trans (hb.mono hrest.size)
        clear hb
        have x := N_x.aset
        clear N_x
        go_wp2_with fail
        refine (news (store_new a b x (o := o) (single := true) hi (by omega) (by omega) (by simp))).mono ?_
        rintro e w8 ⟨s_d, rfl, N_d⟩
        have hb := N_d.below
        replace a := a.below hb
        replace b := b.below hb
        replace c := c.below hb
        replace t := t.below hb
        replace x := x.below hb
        replace hold := hold.trans (hb.mono hold.size)
        replace hrest := hrest.trans (hb.mono hrest.size)
        clear hb
        have d := N_d.aset
        clear N_d
        go_wp2_with fail
        refine (len_a d).mono ?_
        rintro e w' ⟨rfl, hw⟩
        obtain rfl := hw.symm
        rw [show (storeL A B [] o true).length = 0 from by rw [store_none]; rfl]
        clear d
        clear x
        go_wp2_with fail
        refine (news (store_new a b (T := []) (vt := .pointer none) (Or.inl ⟨rfl, rfl⟩) (o := o) (single := true) hi (by omega) (by omega) (by simp))).mono ?_
        rintro e w9 ⟨s_d, rfl, N_d⟩
        have hb := N_d.below
        replace a := a.below hb
        replace b := b.below hb
        replace c := c.below hb
        replace t := t.below hb
        replace hold := hold.trans (hb.mono hold.size)
        replace hrest := hrest.trans (hb.mono hrest.size)
        clear hb
        have d := N_d.aset
        clear N_d
        go_wp2_with fail
        refine (len_a d).mono ?_
        rintro e w' ⟨rfl, hw⟩
        obtain rfl := hw.symm
        rw [show (storeL A B [] o true).length = 0 from by rw [store_none]; rfl]
        clear d
        go_wp2_with fail
        refine (len_a t).mono ?_
        rintro e w' ⟨rfl, hw⟩
        obtain rfl := hw.symm
        go_wp2_with fail
        refine (copy_new t (by simp)).mono ?_
        rintro e w10 ⟨s_m, rfl, N_m⟩
        go_wp2_with fail
        refine (new_add N_m hi (by simp)).mono ?_
        rintro e w11 ⟨⟨r11, rfl⟩, M_m⟩
        clear N_m
        have N_m := M_m
        clear M_m
        have hb := N_m.below
        replace a := a.below hb
        replace b := b.below hb
        replace c := c.below hb
        replace t := t.below hb
        replace hold := hold.trans (hb.mono hold.size)
        replace hrest := hrest.trans (hb.mono hrest.size)
        clear hb
        have m := N_m.aset
        clear N_m
        go_wp2_with fail
        go_roundw
        case rel => exact ⟨2, by omega, by go_num, hbr0.trans (hrest.mono hbr0.size)⟩
        case measure => simp [intOf]
    · have : k = 2 := by omega
      subst this
      go_wp2_with fail
      refine (uwakes_any _).mono ?_
      rintro e w7 ⟨rfl, hb⟩
      replace a := a.below hb
      replace b := b.below hb
      replace c := c.below hb
      replace t := t.below hb
      replace hold := hold.trans (hb.mono hold.size)
      clear hb
      go_wp2_with fail
      go_ret
      exact ⟨rfl, hold⟩

set_option maxRecDepth 20000 in
set_option maxHeartbeats 4000000 in
theorem cases_empty_pos (ha : RdI w va xa) (hb : RdI w vb xb) (ht : RdI w vt xt) (xa63 : ∀ x ∈ xa, x < 9223372036854775808) (xb63 : ∀ x ∈ xb, x < 9223372036854775808) (xt63 : ∀ x ∈ xt, x < 9223372036854775808) (na : xa.length ≤ 300) (nb : xb.length ≤ 300) (nt : xt.length ≤ 300) (hi : o < 9223372036854775808)
    (hs : 0 ≤ o) (hT : lessN (numsOf xt) o = []) : Calls Try.prog 4 #[va, vb, vt, .int .i64 o] w fun e w' => e = .returned (.bool true) ∧ Below w.heap.size w w' := by
  obtain ⟨a, c, rfl⟩ := ha.form
  obtain ⟨a', c', rfl⟩ := hb.form
  obtain ⟨a'', c'', rfl⟩ := ht.form
  rw [List.length_map] at ha hb ht ⊢
  rw [List.length_map, List.length_map]
  have hd : decide ((xa.length : Int) > 300) = false := by simp; omega
  have hd2 : decide ((xb.length : Int) > 300) = false := by simp; omega
  have hd3 : decide ((xt.length : Int) > 300) = false := by simp; omega
  have hold := Below.refl w.heap.size w
  have g1 : decide (o ≥ 0) = true := by simp; omega
  have g2 : decide (o < 0) = false := by simp; omega
  go_enter Try.func4, Try.ntmps4
  have hbx := hb
  have htx := ht
  clear hb ht
  go_wp2_with fail
  refine (of_new ha xa63 (by omega)).mono ?_
  rintro e w1 ⟨s_a, rfl, N_a⟩
  have hb := N_a.below
  replace hbx := hbx.below hb
  replace htx := htx.below hb
  replace hold := hold.trans (hb.mono hold.size)
  clear hb
  have a := N_a.aset
  clear N_a
  clear ha
  go_wp2_with fail
  refine (of_new hbx xb63 (by omega)).mono ?_
  rintro e w2 ⟨s_b, rfl, N_b⟩
  have hb := N_b.below
  replace a := a.below hb
  replace htx := htx.below hb
  replace hold := hold.trans (hb.mono hold.size)
  clear hb
  have b := N_b.aset
  clear N_b
  clear hbx
  have hA : (numsOf xa).length ≤ 300 := Nat.le_trans (numsOf_len xa) na
  have hB : (numsOf xb).length ≤ 300 := Nat.le_trans (numsOf_len xb) nb
  generalize numsOf xa = A at a hA
  generalize numsOf xb = B at b hB
  go_wp2_with fail
  refine (copy_new a (by omega)).mono ?_
  rintro e w3 ⟨s_c, rfl, N_c⟩
  go_wp2_with fail
  refine (new_union N_c b (by omega)).mono ?_
  rintro e w4 ⟨⟨r4, rfl⟩, M_c⟩
  clear N_c
  have N_c := M_c
  clear M_c
  have hb := N_c.below
  replace a := a.below hb
  replace b := b.below hb
  replace htx := htx.below hb
  replace hold := hold.trans (hb.mono hold.size)
  clear hb
  have c := N_c.aset
  clear N_c
  go_wp2_with fail
  refine (of_new htx xt63 (by omega)).mono ?_
  rintro e w5 ⟨s_t, rfl, N_t⟩
  have hn0 := N_t.nodup
  go_wp2_with fail
  refine (new_drop N_t hi (Nat.le_trans (numsOf_len xt) (by omega))).mono ?_
  rintro e w6 ⟨⟨r6, rfl⟩, M_t⟩
  clear N_t
  have N_t := M_t
  clear M_t
  have hb := N_t.below
  replace a := a.below hb
  replace b := b.below hb
  replace c := c.below hb
  replace hold := hold.trans (hb.mono hold.size)
  clear hb
  have t := N_t.aset
  clear N_t
  clear htx xa63 xb63 xt63 hd hd2 hd3
  have hTl : (lessN (numsOf xt) o).length ≤ 300 := Nat.le_trans (lessN_len _ _) (Nat.le_trans (numsOf_len xt) nt)
  have hnot := Lib.hid (less_not hn0 o)
  clear hn0
  replace hT := Lib.hid hT
  generalize lessN (numsOf xt) o = T at t hTl hnot hT
  obtain rfl := hT.out
  clear hT
  go_wp2_with fail
  go_loopw [13] (fun i wr => ∃ k : Nat, k ≤ 2 ∧ i = .int .i64 k ∧ Below w6.heap.size w6 wr) (fun i _ => 2 - (intOf i).toNat)
  case atStart => exact ⟨0, by omega, rfl, Below.refl _ _⟩
  case round =>
    obtain ⟨k, hk, rfl, hbr⟩ := hrel
    have hbr0 := hbr
    replace a := a.below hbr
    replace b := b.below hbr
    replace c := c.below hbr
    replace t := t.below hbr
    replace hold := hold.trans (hbr.mono hold.size)
    clear hbr
    by_cases hlt : k < 2
    · rcases (show k = 0 ∨ k = 1 by omega) with rfl | rfl
      · skip
        have hrest : Below wr.heap.size wr wr := Below.refl _ _
        go_wp2_with fail
        refine (new_none _).mono ?_
        rintro e w7 ⟨s_x, rfl, N_x⟩
        have hb := N_x.below
        replace a := a.below hb
        replace b := b.below hb
        replace c := c.below hb
        replace t := t.below hb
        replace hold := hold.trans (hb.mono hold.size)
        replace hrest := hrest.trans (hb.mono hrest.size)
        clear hb
        have x := N_x.aset
        clear N_x
        go_wp2_with fail
        refine (news (store_new a b x (o := o) (single := false) hi (by omega) (by omega) (by simp))).mono ?_
        rintro e w8 ⟨s_d, rfl, N_d⟩
        have hb := N_d.below
        replace a := a.below hb
        replace b := b.below hb
        replace c := c.below hb
        replace t := t.below hb
        replace x := x.below hb
        replace hold := hold.trans (hb.mono hold.size)
        replace hrest := hrest.trans (hb.mono hrest.size)
        clear hb
        have d := N_d.aset
        clear N_d
        go_wp2_with fail
        refine (len_a d).mono ?_
        rintro e w' ⟨rfl, hw⟩
        obtain rfl := hw.symm
        rw [show (storeL A B [] o false).length = 0 from by rw [store_none]; rfl]
        clear d
        clear x
        go_wp2_with fail
        refine (news (store_new a b (T := []) (vt := .pointer none) (Or.inl ⟨rfl, rfl⟩) (o := o) (single := false) hi (by omega) (by omega) (by simp))).mono ?_
        rintro e w9 ⟨s_d, rfl, N_d⟩
        have hb := N_d.below
        replace a := a.below hb
        replace b := b.below hb
        replace c := c.below hb
        replace t := t.below hb
        replace hold := hold.trans (hb.mono hold.size)
        replace hrest := hrest.trans (hb.mono hrest.size)
        clear hb
        have d := N_d.aset
        clear N_d
        go_wp2_with fail
        refine (len_a d).mono ?_
        rintro e w' ⟨rfl, hw⟩
        obtain rfl := hw.symm
        rw [show (storeL A B [] o false).length = 0 from by rw [store_none]; rfl]
        clear d
        go_wp2_with fail
        refine (len_a t).mono ?_
        rintro e w' ⟨rfl, hw⟩
        obtain rfl := hw.symm
        go_wp2_with fail
        refine (copy_new t (by simp)).mono ?_
        rintro e w10 ⟨s_m, rfl, N_m⟩
        go_wp2_with fail
        refine (new_add N_m hi (by simp)).mono ?_
        rintro e w11 ⟨⟨r11, rfl⟩, M_m⟩
        clear N_m
        have N_m := M_m
        clear M_m
        have hb := N_m.below
        replace a := a.below hb
        replace b := b.below hb
        replace c := c.below hb
        replace t := t.below hb
        replace hold := hold.trans (hb.mono hold.size)
        replace hrest := hrest.trans (hb.mono hrest.size)
        clear hb
        have m := N_m.aset
        clear N_m
        go_wp2_with fail
        refine (len_a t).mono ?_
        rintro e w' ⟨rfl, hw⟩
        obtain rfl := hw.symm
        go_wp2_with fail
        go_roundw
        case rel => exact ⟨1, by omega, by go_num, hbr0.trans (hrest.mono hbr0.size)⟩
        case measure => simp [intOf]
      · skip
        have hrest : Below wr.heap.size wr wr := Below.refl _ _
        go_wp2_with fail
        refine (new_none _).mono ?_
        rintro e w7 ⟨s_x, rfl, N_x⟩
        have hb := N_x.below
        replace a := a.below hb
        replace b := b.below hb
        replace c := c.below hb
        replace t := t.below hb
        replace hold := hold.trans (hb.mono hold.size)
        replace hrest := hrest.trans (hb.mono hrest.size)
        clear hb
        have x := N_x.aset
        clear N_x
        go_wp2_with fail
        refine (news (store_new a b x (o := o) (single := true) hi (by omega) (by omega) (by simp))).mono ?_
        rintro e w8 ⟨s_d, rfl, N_d⟩
        have hb := N_d.below
        replace a := a.below hb
        replace b := b.below hb
        replace c := c.below hb
        replace t := t.below hb
        replace x := x.below hb
        replace hold := hold.trans (hb.mono hold.size)
        replace hrest := hrest.trans (hb.mono hrest.size)
        clear hb
        have d := N_d.aset
        clear N_d
        go_wp2_with fail
        refine (len_a d).mono ?_
        rintro e w' ⟨rfl, hw⟩
        obtain rfl := hw.symm
        rw [show (storeL A B [] o true).length = 0 from by rw [store_none]; rfl]
        clear d
        clear x
        go_wp2_with fail
        refine (news (store_new a b (T := []) (vt := .pointer none) (Or.inl ⟨rfl, rfl⟩) (o := o) (single := true) hi (by omega) (by omega) (by simp))).mono ?_
        rintro e w9 ⟨s_d, rfl, N_d⟩
        have hb := N_d.below
        replace a := a.below hb
        replace b := b.below hb
        replace c := c.below hb
        replace t := t.below hb
        replace hold := hold.trans (hb.mono hold.size)
        replace hrest := hrest.trans (hb.mono hrest.size)
        clear hb
        have d := N_d.aset
        clear N_d
        go_wp2_with fail
        refine (len_a d).mono ?_
        rintro e w' ⟨rfl, hw⟩
        obtain rfl := hw.symm
        rw [show (storeL A B [] o true).length = 0 from by rw [store_none]; rfl]
        clear d
        go_wp2_with fail
        refine (len_a t).mono ?_
        rintro e w' ⟨rfl, hw⟩
        obtain rfl := hw.symm
        go_wp2_with fail
        refine (copy_new t (by simp)).mono ?_
        rintro e w10 ⟨s_m, rfl, N_m⟩
        go_wp2_with fail
        refine (new_add N_m hi (by simp)).mono ?_
        rintro e w11 ⟨⟨r11, rfl⟩, M_m⟩
        clear N_m
        have N_m := M_m
        clear M_m
        have hb := N_m.below
        replace a := a.below hb
        replace b := b.below hb
        replace c := c.below hb
        replace t := t.below hb
        replace hold := hold.trans (hb.mono hold.size)
        replace hrest := hrest.trans (hb.mono hrest.size)
        clear hb
        have m := N_m.aset
        clear N_m
        go_wp2_with fail
        refine (len_a t).mono ?_
        rintro e w' ⟨rfl, hw⟩
        obtain rfl := hw.symm
        go_wp2_with fail
        go_roundw
        case rel => exact ⟨2, by omega, by go_num, hbr0.trans (hrest.mono hbr0.size)⟩
        case measure => simp [intOf]
    · have : k = 2 := by omega
      subst this
      go_wp2_with fail
      refine (of_lit wr (x := o) hi).mono ?_
      rintro e w7 ⟨s_x, rfl, N_x⟩
      rw [nums_one hs] at N_x
      have hb := N_x.below
      replace a := a.below hb
      replace b := b.below hb
      replace c := c.below hb
      replace t := t.below hb
      replace hold := hold.trans (hb.mono hold.size)
      clear hb
      have x := N_x.aset
      clear N_x
      go_wp2_with fail
      refine (news (store_new a b x (o := o) (single := true) hi (by omega) (by omega) (by simp))).mono ?_
      rintro e w8 ⟨s_d, rfl, N_d⟩
      rw [store_one ⟨hs, by simp⟩ rfl] at N_d
      have hb := N_d.below
      replace a := a.below hb
      replace b := b.below hb
      replace c := c.below hb
      replace t := t.below hb
      replace x := x.below hb
      replace hold := hold.trans (hb.mono hold.size)
      clear hb
      have d := N_d.aset
      clear N_d
      go_wp2_with fail
      refine (same_a d b).mono ?_
      rintro e w9 ⟨rfl, hb⟩
      replace a := a.below hb
      replace b := b.below hb
      replace c := c.below hb
      replace t := t.below hb
      replace x := x.below hb
      replace d := d.below hb
      replace hold := hold.trans (hb.mono hold.size)
      clear hb
      rw [alike_refl]
      clear d
      clear x
      go_wp2_with fail
      refine (of_lit w9 (x := o) hi).mono ?_
      rintro e w10 ⟨s_x, rfl, N_x⟩
      rw [nums_one hs] at N_x
      have hb := N_x.below
      replace a := a.below hb
      replace b := b.below hb
      replace c := c.below hb
      replace t := t.below hb
      replace hold := hold.trans (hb.mono hold.size)
      clear hb
      have x := N_x.aset
      clear N_x
      go_wp2_with fail
      refine (news (store_new a b x (o := o) (single := false) hi (by omega) (by omega) (by simp))).mono ?_
      rintro e w11 ⟨s_d, rfl, N_d⟩
      rw [store_weak ⟨hs, by simp⟩] at N_d
      have hb := N_d.below
      replace a := a.below hb
      replace b := b.below hb
      replace c := c.below hb
      replace t := t.below hb
      replace x := x.below hb
      replace hold := hold.trans (hb.mono hold.size)
      clear hb
      have d := N_d.aset
      clear N_d
      go_wp2_with fail
      refine (same_a d c).mono ?_
      rintro e w12 ⟨rfl, hb⟩
      replace a := a.below hb
      replace b := b.below hb
      replace c := c.below hb
      replace t := t.below hb
      replace x := x.below hb
      replace d := d.below hb
      replace hold := hold.trans (hb.mono hold.size)
      clear hb
      rw [alike_refl]
      clear d
      clear x
      go_wp2_with fail
      refine (uwakes_any _).mono ?_
      rintro e w13 ⟨rfl, hb⟩
      replace a := a.below hb
      replace b := b.below hb
      replace c := c.below hb
      replace t := t.below hb
      replace hold := hold.trans (hb.mono hold.size)
      clear hb
      go_wp2_with fail
      go_ret
      exact ⟨rfl, hold⟩

set_option maxRecDepth 20000 in
set_option maxHeartbeats 4000000 in
theorem cases_some_neg (ha : RdI w va xa) (hb : RdI w vb xb) (ht : RdI w vt xt) (xa63 : ∀ x ∈ xa, x < 9223372036854775808) (xb63 : ∀ x ∈ xb, x < 9223372036854775808) (xt63 : ∀ x ∈ xt, x < 9223372036854775808) (na : xa.length ≤ 300) (nb : xb.length ≤ 300) (nt : xt.length ≤ 300) (hi : o < 9223372036854775808)
    (hs : o < 0) (hT : lessN (numsOf xt) o ≠ []) : Calls Try.prog 4 #[va, vb, vt, .int .i64 o] w fun e w' => e = .returned (.bool true) ∧ Below w.heap.size w w' := by
  obtain ⟨a, c, rfl⟩ := ha.form
  obtain ⟨a', c', rfl⟩ := hb.form
  obtain ⟨a'', c'', rfl⟩ := ht.form
  rw [List.length_map] at ha hb ht ⊢
  rw [List.length_map, List.length_map]
  have hd : decide ((xa.length : Int) > 300) = false := by simp; omega
  have hd2 : decide ((xb.length : Int) > 300) = false := by simp; omega
  have hd3 : decide ((xt.length : Int) > 300) = false := by simp; omega
  have hold := Below.refl w.heap.size w
  have g1 : decide (o ≥ 0) = false := by simp; omega
  have g2 : decide (o < 0) = true := by simp; omega
  go_enter Try.func4, Try.ntmps4
  have hbx := hb
  have htx := ht
  clear hb ht
  go_wp2_with fail
  refine (of_new ha xa63 (by omega)).mono ?_
  rintro e w1 ⟨s_a, rfl, N_a⟩
  have hb := N_a.below
  replace hbx := hbx.below hb
  replace htx := htx.below hb
  replace hold := hold.trans (hb.mono hold.size)
  clear hb
  have a := N_a.aset
  clear N_a
  clear ha
  go_wp2_with fail
  refine (of_new hbx xb63 (by omega)).mono ?_
  rintro e w2 ⟨s_b, rfl, N_b⟩
  have hb := N_b.below
  replace a := a.below hb
  replace htx := htx.below hb
  replace hold := hold.trans (hb.mono hold.size)
  clear hb
  have b := N_b.aset
  clear N_b
  clear hbx
  have hA : (numsOf xa).length ≤ 300 := Nat.le_trans (numsOf_len xa) na
  have hB : (numsOf xb).length ≤ 300 := Nat.le_trans (numsOf_len xb) nb
  generalize numsOf xa = A at a hA
  generalize numsOf xb = B at b hB
  go_wp2_with fail
  refine (copy_new a (by omega)).mono ?_
  rintro e w3 ⟨s_c, rfl, N_c⟩
  go_wp2_with fail
  refine (new_union N_c b (by omega)).mono ?_
  rintro e w4 ⟨⟨r4, rfl⟩, M_c⟩
  clear N_c
  have N_c := M_c
  clear M_c
  have hb := N_c.below
  replace a := a.below hb
  replace b := b.below hb
  replace htx := htx.below hb
  replace hold := hold.trans (hb.mono hold.size)
  clear hb
  have c := N_c.aset
  clear N_c
  go_wp2_with fail
  refine (of_new htx xt63 (by omega)).mono ?_
  rintro e w5 ⟨s_t, rfl, N_t⟩
  have hn0 := N_t.nodup
  go_wp2_with fail
  refine (new_drop N_t hi (Nat.le_trans (numsOf_len xt) (by omega))).mono ?_
  rintro e w6 ⟨⟨r6, rfl⟩, M_t⟩
  clear N_t
  have N_t := M_t
  clear M_t
  have hb := N_t.below
  replace a := a.below hb
  replace b := b.below hb
  replace c := c.below hb
  replace hold := hold.trans (hb.mono hold.size)
  clear hb
  have t := N_t.aset
  clear N_t
  clear htx xa63 xb63 xt63 hd hd2 hd3
  have hTl : (lessN (numsOf xt) o).length ≤ 300 := Nat.le_trans (lessN_len _ _) (Nat.le_trans (numsOf_len xt) nt)
  have hnot := Lib.hid (less_not hn0 o)
  clear hn0
  replace hT := Lib.hid hT
  generalize lessN (numsOf xt) o = T at t hTl hnot hT
  have hT1 : 0 < T.length := List.length_pos_iff.2 hT.out
  have g3 : decide ((T.length : Int) > 0) = true := by simp; exact hT1
  go_wp2_with fail
  go_loopw [13] (fun i wr => ∃ k : Nat, k ≤ 2 ∧ i = .int .i64 k ∧ Below w6.heap.size w6 wr) (fun i _ => 2 - (intOf i).toNat)
  case atStart => exact ⟨0, by omega, rfl, Below.refl _ _⟩
  case round =>
    obtain ⟨k, hk, rfl, hbr⟩ := hrel
    have hbr0 := hbr
    replace a := a.below hbr
    replace b := b.below hbr
    replace c := c.below hbr
    replace t := t.below hbr
    replace hold := hold.trans (hbr.mono hold.size)
    clear hbr
    by_cases hlt : k < 2
    · rcases (show k = 0 ∨ k = 1 by omega) with rfl | rfl
      · skip
        have hrest : Below wr.heap.size wr wr := Below.refl _ _
        go_wp2_with fail
        refine (new_none _).mono ?_
        rintro e w7 ⟨s_x, rfl, N_x⟩
        have hb := N_x.below
        replace a := a.below hb
        replace b := b.below hb
        replace c := c.below hb
        replace t := t.below hb
        replace hold := hold.trans (hb.mono hold.size)
        replace hrest := hrest.trans (hb.mono hrest.size)
        clear hb
        have x := N_x.aset
        clear N_x
        go_wp2_with fail
        refine (news (store_new a b x (o := o) (single := false) hi (by omega) (by omega) (by simp))).mono ?_
        rintro e w8 ⟨s_d, rfl, N_d⟩
        have hb := N_d.below
        replace a := a.below hb
        replace b := b.below hb
        replace c := c.below hb
        replace t := t.below hb
        replace x := x.below hb
        replace hold := hold.trans (hb.mono hold.size)
        replace hrest := hrest.trans (hb.mono hrest.size)
        clear hb
        have d := N_d.aset
        clear N_d
        go_wp2_with fail
        refine (len_a d).mono ?_
        rintro e w' ⟨rfl, hw⟩
        obtain rfl := hw.symm
        rw [show (storeL A B [] o false).length = 0 from by rw [store_none]; rfl]
        clear d
        clear x
        go_wp2_with fail
        refine (news (store_new a b (T := []) (vt := .pointer none) (Or.inl ⟨rfl, rfl⟩) (o := o) (single := false) hi (by omega) (by omega) (by simp))).mono ?_
        rintro e w9 ⟨s_d, rfl, N_d⟩
        have hb := N_d.below
        replace a := a.below hb
        replace b := b.below hb
        replace c := c.below hb
        replace t := t.below hb
        replace hold := hold.trans (hb.mono hold.size)
        replace hrest := hrest.trans (hb.mono hrest.size)
        clear hb
        have d := N_d.aset
        clear N_d
        go_wp2_with fail
        refine (len_a d).mono ?_
        rintro e w' ⟨rfl, hw⟩
        obtain rfl := hw.symm
        rw [show (storeL A B [] o false).length = 0 from by rw [store_none]; rfl]
        clear d
        go_wp2_with fail
        refine (len_a t).mono ?_
        rintro e w' ⟨rfl, hw⟩
        obtain rfl := hw.symm
        go_wp2_with fail
        refine (news (store_new a b t (o := o) (single := false) hi (by omega) (by omega) (by omega))).mono ?_
        rintro e w10 ⟨s_d, rfl, N_d⟩
        have hb := N_d.below
        replace a := a.below hb
        replace b := b.below hb
        replace c := c.below hb
        replace t := t.below hb
        replace hold := hold.trans (hb.mono hold.size)
        replace hrest := hrest.trans (hb.mono hrest.size)
        clear hb
        have d := N_d.aset
        clear N_d
        rw [store_else hT.out hnot.out] at d
        go_wp2_with fail
        refine (same_a d a).mono ?_
        rintro e w11 ⟨rfl, hb⟩
        replace a := a.below hb
        replace b := b.below hb
        replace c := c.below hb
        replace t := t.below hb
        replace d := d.below hb
        replace hold := hold.trans (hb.mono hold.size)
        replace hrest := hrest.trans (hb.mono hrest.size)
        clear hb
        rw [alike_refl]
        clear d
        go_wp2_with fail
        refine (copy_new t (by omega)).mono ?_
        rintro e w12 ⟨s_m, rfl, N_m⟩
        go_wp2_with fail
        refine (new_add N_m hi (by omega)).mono ?_
        rintro e w13 ⟨⟨r13, rfl⟩, M_m⟩
        clear N_m
        have N_m := M_m
        clear M_m
        have hb := N_m.below
        replace a := a.below hb
        replace b := b.below hb
        replace c := c.below hb
        replace t := t.below hb
        replace hold := hold.trans (hb.mono hold.size)
        replace hrest := hrest.trans (hb.mono hrest.size)
        clear hb
        have m := N_m.aset
        clear N_m
        go_wp2_with fail
        go_roundw
        case rel => exact ⟨1, by omega, by go_num, hbr0.trans (hrest.mono hbr0.size)⟩
        case measure => simp [intOf]
      · skip
        have hrest : Below wr.heap.size wr wr := Below.refl _ _
        go_wp2_with fail
        refine (new_none _).mono ?_
        rintro e w7 ⟨s_x, rfl, N_x⟩
        have hb := N_x.below
        replace a := a.below hb
        replace b := b.below hb
        replace c := c.below hb
        replace t := t.below hb
        replace hold := hold.trans (hb.mono hold.size)
        replace hrest := hrest.trans (hb.mono hrest.size)
        clear hb
        have x := N_x.aset
        clear N_x
        go_wp2_with fail
        refine (news (store_new a b x (o := o) (single := true) hi (by omega) (by omega) (by simp))).mono ?_
        rintro e w8 ⟨s_d, rfl, N_d⟩
        have hb := N_d.below
        replace a := a.below hb
        replace b := b.below hb
        replace c := c.below hb
        replace t := t.below hb
        replace x := x.below hb
        replace hold := hold.trans (hb.mono hold.size)
        replace hrest := hrest.trans (hb.mono hrest.size)
        clear hb
        have d := N_d.aset
        clear N_d
        go_wp2_with fail
        refine (len_a d).mono ?_
        rintro e w' ⟨rfl, hw⟩
        obtain rfl := hw.symm
        rw [show (storeL A B [] o true).length = 0 from by rw [store_none]; rfl]
        clear d
        clear x
        go_wp2_with fail
        refine (news (store_new a b (T := []) (vt := .pointer none) (Or.inl ⟨rfl, rfl⟩) (o := o) (single := true) hi (by omega) (by omega) (by simp))).mono ?_
        rintro e w9 ⟨s_d, rfl, N_d⟩
        have hb := N_d.below
        replace a := a.below hb
        replace b := b.below hb
        replace c := c.below hb
        replace t := t.below hb
        replace hold := hold.trans (hb.mono hold.size)
        replace hrest := hrest.trans (hb.mono hrest.size)
        clear hb
        have d := N_d.aset
        clear N_d
        go_wp2_with fail
        refine (len_a d).mono ?_
        rintro e w' ⟨rfl, hw⟩
        obtain rfl := hw.symm
        rw [show (storeL A B [] o true).length = 0 from by rw [store_none]; rfl]
        clear d
        go_wp2_with fail
        refine (len_a t).mono ?_
        rintro e w' ⟨rfl, hw⟩
        obtain rfl := hw.symm
        go_wp2_with fail
        refine (news (store_new a b t (o := o) (single := true) hi (by omega) (by omega) (by omega))).mono ?_
        rintro e w10 ⟨s_d, rfl, N_d⟩
        have hb := N_d.below
        replace a := a.below hb
        replace b := b.below hb
        replace c := c.below hb
        replace t := t.below hb
        replace hold := hold.trans (hb.mono hold.size)
        replace hrest := hrest.trans (hb.mono hrest.size)
        clear hb
        have d := N_d.aset
        clear N_d
        rw [store_else hT.out hnot.out] at d
        go_wp2_with fail
        refine (same_a d a).mono ?_
        rintro e w11 ⟨rfl, hb⟩
        replace a := a.below hb
        replace b := b.below hb
        replace c := c.below hb
        replace t := t.below hb
        replace d := d.below hb
        replace hold := hold.trans (hb.mono hold.size)
        replace hrest := hrest.trans (hb.mono hrest.size)
        clear hb
        rw [alike_refl]
        clear d
        go_wp2_with fail
        refine (copy_new t (by omega)).mono ?_
        rintro e w12 ⟨s_m, rfl, N_m⟩
        go_wp2_with fail
        refine (new_add N_m hi (by omega)).mono ?_
        rintro e w13 ⟨⟨r13, rfl⟩, M_m⟩
        clear N_m
        have N_m := M_m
        clear M_m
        have hb := N_m.below
        replace a := a.below hb
        replace b := b.below hb
        replace c := c.below hb
        replace t := t.below hb
        replace hold := hold.trans (hb.mono hold.size)
        replace hrest := hrest.trans (hb.mono hrest.size)
        clear hb
        have m := N_m.aset
        clear N_m
        go_wp2_with fail
        go_roundw
        case rel => exact ⟨2, by omega, by go_num, hbr0.trans (hrest.mono hbr0.size)⟩
        case measure => simp [intOf]
    · have : k = 2 := by omega
      subst this
      go_wp2_with fail
      refine (uwakes_any _).mono ?_
      rintro e w7 ⟨rfl, hb⟩
      replace a := a.below hb
      replace b := b.below hb
      replace c := c.below hb
      replace t := t.below hb
      replace hold := hold.trans (hb.mono hold.size)
      clear hb
      go_wp2_with fail
      go_ret
      exact ⟨rfl, hold⟩

set_option maxRecDepth 20000 in
set_option maxHeartbeats 4000000 in
theorem cases_some_pos (ha : RdI w va xa) (hb : RdI w vb xb) (ht : RdI w vt xt) (xa63 : ∀ x ∈ xa, x < 9223372036854775808) (xb63 : ∀ x ∈ xb, x < 9223372036854775808) (xt63 : ∀ x ∈ xt, x < 9223372036854775808) (na : xa.length ≤ 300) (nb : xb.length ≤ 300) (nt : xt.length ≤ 300) (hi : o < 9223372036854775808)
    (hs : 0 ≤ o) (hT : lessN (numsOf xt) o ≠ []) : Calls Try.prog 4 #[va, vb, vt, .int .i64 o] w fun e w' => e = .returned (.bool true) ∧ Below w.heap.size w w' := by
  obtain ⟨a, c, rfl⟩ := ha.form
  obtain ⟨a', c', rfl⟩ := hb.form
  obtain ⟨a'', c'', rfl⟩ := ht.form
  rw [List.length_map] at ha hb ht ⊢
  rw [List.length_map, List.length_map]
  have hd : decide ((xa.length : Int) > 300) = false := by simp; omega
  have hd2 : decide ((xb.length : Int) > 300) = false := by simp; omega
  have hd3 : decide ((xt.length : Int) > 300) = false := by simp; omega
  have hold := Below.refl w.heap.size w
  have g1 : decide (o ≥ 0) = true := by simp; omega
  have g2 : decide (o < 0) = false := by simp; omega
  go_enter Try.func4, Try.ntmps4
  have hbx := hb
  have htx := ht
  clear hb ht
  go_wp2_with fail
  refine (of_new ha xa63 (by omega)).mono ?_
  rintro e w1 ⟨s_a, rfl, N_a⟩
  have hb := N_a.below
  replace hbx := hbx.below hb
  replace htx := htx.below hb
  replace hold := hold.trans (hb.mono hold.size)
  clear hb
  have a := N_a.aset
  clear N_a
  clear ha
  go_wp2_with fail
  refine (of_new hbx xb63 (by omega)).mono ?_
  rintro e w2 ⟨s_b, rfl, N_b⟩
  have hb := N_b.below
  replace a := a.below hb
  replace htx := htx.below hb
  replace hold := hold.trans (hb.mono hold.size)
  clear hb
  have b := N_b.aset
  clear N_b
  clear hbx
  have hA : (numsOf xa).length ≤ 300 := Nat.le_trans (numsOf_len xa) na
  have hB : (numsOf xb).length ≤ 300 := Nat.le_trans (numsOf_len xb) nb
  generalize numsOf xa = A at a hA
  generalize numsOf xb = B at b hB
  go_wp2_with fail
  refine (copy_new a (by omega)).mono ?_
  rintro e w3 ⟨s_c, rfl, N_c⟩
  go_wp2_with fail
  refine (new_union N_c b (by omega)).mono ?_
  rintro e w4 ⟨⟨r4, rfl⟩, M_c⟩
  clear N_c
  have N_c := M_c
  clear M_c
  have hb := N_c.below
  replace a := a.below hb
  replace b := b.below hb
  replace htx := htx.below hb
  replace hold := hold.trans (hb.mono hold.size)
  clear hb
  have c := N_c.aset
  clear N_c
  go_wp2_with fail
  refine (of_new htx xt63 (by omega)).mono ?_
  rintro e w5 ⟨s_t, rfl, N_t⟩
  have hn0 := N_t.nodup
  go_wp2_with fail
  refine (new_drop N_t hi (Nat.le_trans (numsOf_len xt) (by omega))).mono ?_
  rintro e w6 ⟨⟨r6, rfl⟩, M_t⟩
  clear N_t
  have N_t := M_t
  clear M_t
  have hb := N_t.below
  replace a := a.below hb
  replace b := b.below hb
  replace c := c.below hb
  replace hold := hold.trans (hb.mono hold.size)
  clear hb
  have t := N_t.aset
  clear N_t
  clear htx xa63 xb63 xt63 hd hd2 hd3
  have hTl : (lessN (numsOf xt) o).length ≤ 300 := Nat.le_trans (lessN_len _ _) (Nat.le_trans (numsOf_len xt) nt)
  have hnot := Lib.hid (less_not hn0 o)
  clear hn0
  replace hT := Lib.hid hT
  generalize lessN (numsOf xt) o = T at t hTl hnot hT
  have hT1 : 0 < T.length := List.length_pos_iff.2 hT.out
  have g3 : decide ((T.length : Int) > 0) = true := by simp; exact hT1
  go_wp2_with fail
  go_loopw [13] (fun i wr => ∃ k : Nat, k ≤ 2 ∧ i = .int .i64 k ∧ Below w6.heap.size w6 wr) (fun i _ => 2 - (intOf i).toNat)
  case atStart => exact ⟨0, by omega, rfl, Below.refl _ _⟩
  case round =>
    obtain ⟨k, hk, rfl, hbr⟩ := hrel
    have hbr0 := hbr
    replace a := a.below hbr
    replace b := b.below hbr
    replace c := c.below hbr
    replace t := t.below hbr
    replace hold := hold.trans (hbr.mono hold.size)
    clear hbr
    by_cases hlt : k < 2
    · rcases (show k = 0 ∨ k = 1 by omega) with rfl | rfl
      · skip
        have hrest : Below wr.heap.size wr wr := Below.refl _ _
        go_wp2_with fail
        refine (new_none _).mono ?_
        rintro e w7 ⟨s_x, rfl, N_x⟩
        have hb := N_x.below
        replace a := a.below hb
        replace b := b.below hb
        replace c := c.below hb
        replace t := t.below hb
        replace hold := hold.trans (hb.mono hold.size)
        replace hrest := hrest.trans (hb.mono hrest.size)
        clear hb
        have x := N_x.aset
        clear N_x
        go_wp2_with fail
        refine (news (store_new a b x (o := o) (single := false) hi (by omega) (by omega) (by simp))).mono ?_
        rintro e w8 ⟨s_d, rfl, N_d⟩
        have hb := N_d.below
        replace a := a.below hb
        replace b := b.below hb
        replace c := c.below hb
        replace t := t.below hb
        replace x := x.below hb
        replace hold := hold.trans (hb.mono hold.size)
        replace hrest := hrest.trans (hb.mono hrest.size)
        clear hb
        have d := N_d.aset
        clear N_d
        go_wp2_with fail
        refine (len_a d).mono ?_
        rintro e w' ⟨rfl, hw⟩
        obtain rfl := hw.symm
        rw [show (storeL A B [] o false).length = 0 from by rw [store_none]; rfl]
        clear d
        clear x
        go_wp2_with fail
        refine (news (store_new a b (T := []) (vt := .pointer none) (Or.inl ⟨rfl, rfl⟩) (o := o) (single := false) hi (by omega) (by omega) (by simp))).mono ?_
        rintro e w9 ⟨s_d, rfl, N_d⟩
        have hb := N_d.below
        replace a := a.below hb
        replace b := b.below hb
        replace c := c.below hb
        replace t := t.below hb
        replace hold := hold.trans (hb.mono hold.size)
        replace hrest := hrest.trans (hb.mono hrest.size)
        clear hb
        have d := N_d.aset
        clear N_d
        go_wp2_with fail
        refine (len_a d).mono ?_
        rintro e w' ⟨rfl, hw⟩
        obtain rfl := hw.symm
        rw [show (storeL A B [] o false).length = 0 from by rw [store_none]; rfl]
        clear d
        go_wp2_with fail
        refine (len_a t).mono ?_
        rintro e w' ⟨rfl, hw⟩
        obtain rfl := hw.symm
        go_wp2_with fail
        refine (news (store_new a b t (o := o) (single := false) hi (by omega) (by omega) (by omega))).mono ?_
        rintro e w10 ⟨s_d, rfl, N_d⟩
        have hb := N_d.below
        replace a := a.below hb
        replace b := b.below hb
        replace c := c.below hb
        replace t := t.below hb
        replace hold := hold.trans (hb.mono hold.size)
        replace hrest := hrest.trans (hb.mono hrest.size)
        clear hb
        have d := N_d.aset
        clear N_d
        rw [store_else hT.out hnot.out] at d
        go_wp2_with fail
        refine (same_a d a).mono ?_
        rintro e w11 ⟨rfl, hb⟩
        replace a := a.below hb
        replace b := b.below hb
        replace c := c.below hb
        replace t := t.below hb
        replace d := d.below hb
        replace hold := hold.trans (hb.mono hold.size)
        replace hrest := hrest.trans (hb.mono hrest.size)
        clear hb
        rw [alike_refl]
        clear d
        go_wp2_with fail
        refine (copy_new t (by omega)).mono ?_
        rintro e w12 ⟨s_m, rfl, N_m⟩
        go_wp2_with fail
        refine (new_add N_m hi (by omega)).mono ?_
        rintro e w13 ⟨⟨r13, rfl⟩, M_m⟩
        clear N_m
        have N_m := M_m
        clear M_m
        have hb := N_m.below
        replace a := a.below hb
        replace b := b.below hb
        replace c := c.below hb
        replace t := t.below hb
        replace hold := hold.trans (hb.mono hold.size)
        replace hrest := hrest.trans (hb.mono hrest.size)
        clear hb
        have m := N_m.aset
        clear N_m
        go_wp2_with fail
        refine (len_a t).mono ?_
        rintro e w' ⟨rfl, hw⟩
        obtain rfl := hw.symm
        have hml : (plusN T o).length ≤ 301 := Nat.le_trans (plusN_len T o) (by omega)
        go_wp2_with fail
        refine (news (store_new a b m (o := o) (single := false) hi (by omega) (by omega) (by omega))).mono ?_
        rintro e w14 ⟨s_d, rfl, N_d⟩
        have hb := N_d.below
        replace a := a.below hb
        replace b := b.below hb
        replace c := c.below hb
        replace t := t.below hb
        replace m := m.below hb
        replace hold := hold.trans (hb.mono hold.size)
        replace hrest := hrest.trans (hb.mono hrest.size)
        clear hb
        have d := N_d.aset
        clear N_d
        rw [store_more ⟨hs, (mem_plusN T o _).2 (Or.inr (by omega))⟩ (by unfold plusN; rw [if_pos ⟨hs, fun h => hnot.out ⟨hs, h⟩⟩, List.length_append, List.length_singleton]; omega)] at d
        go_wp2_with fail
        refine (same_a d c).mono ?_
        rintro e w15 ⟨rfl, hb⟩
        replace a := a.below hb
        replace b := b.below hb
        replace c := c.below hb
        replace t := t.below hb
        replace m := m.below hb
        replace d := d.below hb
        replace hold := hold.trans (hb.mono hold.size)
        replace hrest := hrest.trans (hb.mono hrest.size)
        clear hb
        rw [alike_refl]
        clear d
        go_wp2_with fail
        go_roundw
        case rel => exact ⟨1, by omega, by go_num, hbr0.trans (hrest.mono hbr0.size)⟩
        case measure => simp [intOf]
      · skip
        have hrest : Below wr.heap.size wr wr := Below.refl _ _
        go_wp2_with fail
        refine (new_none _).mono ?_
        rintro e w7 ⟨s_x, rfl, N_x⟩
        have hb := N_x.below
        replace a := a.below hb
        replace b := b.below hb
        replace c := c.below hb
        replace t := t.below hb
        replace hold := hold.trans (hb.mono hold.size)
        replace hrest := hrest.trans (hb.mono hrest.size)
        clear hb
        have x := N_x.aset
        clear N_x
        go_wp2_with fail
        refine (news (store_new a b x (o := o) (single := true) hi (by omega) (by omega) (by simp))).mono ?_
        rintro e w8 ⟨s_d, rfl, N_d⟩
        have hb := N_d.below
        replace a := a.below hb
        replace b := b.below hb
        replace c := c.below hb
        replace t := t.below hb
        replace x := x.below hb
        replace hold := hold.trans (hb.mono hold.size)
        replace hrest := hrest.trans (hb.mono hrest.size)
        clear hb
        have d := N_d.aset
        clear N_d
        go_wp2_with fail
        refine (len_a d).mono ?_
        rintro e w' ⟨rfl, hw⟩
        obtain rfl := hw.symm
        rw [show (storeL A B [] o true).length = 0 from by rw [store_none]; rfl]
        clear d
        clear x
        go_wp2_with fail
        refine (news (store_new a b (T := []) (vt := .pointer none) (Or.inl ⟨rfl, rfl⟩) (o := o) (single := true) hi (by omega) (by omega) (by simp))).mono ?_
        rintro e w9 ⟨s_d, rfl, N_d⟩
        have hb := N_d.below
        replace a := a.below hb
        replace b := b.below hb
        replace c := c.below hb
        replace t := t.below hb
        replace hold := hold.trans (hb.mono hold.size)
        replace hrest := hrest.trans (hb.mono hrest.size)
        clear hb
        have d := N_d.aset
        clear N_d
        go_wp2_with fail
        refine (len_a d).mono ?_
        rintro e w' ⟨rfl, hw⟩
        obtain rfl := hw.symm
        rw [show (storeL A B [] o true).length = 0 from by rw [store_none]; rfl]
        clear d
        go_wp2_with fail
        refine (len_a t).mono ?_
        rintro e w' ⟨rfl, hw⟩
        obtain rfl := hw.symm
        go_wp2_with fail
        refine (news (store_new a b t (o := o) (single := true) hi (by omega) (by omega) (by omega))).mono ?_
        rintro e w10 ⟨s_d, rfl, N_d⟩
        have hb := N_d.below
        replace a := a.below hb
        replace b := b.below hb
        replace c := c.below hb
        replace t := t.below hb
        replace hold := hold.trans (hb.mono hold.size)
        replace hrest := hrest.trans (hb.mono hrest.size)
        clear hb
        have d := N_d.aset
        clear N_d
        rw [store_else hT.out hnot.out] at d
        go_wp2_with fail
        refine (same_a d a).mono ?_
        rintro e w11 ⟨rfl, hb⟩
        replace a := a.below hb
        replace b := b.below hb
        replace c := c.below hb
        replace t := t.below hb
        replace d := d.below hb
        replace hold := hold.trans (hb.mono hold.size)
        replace hrest := hrest.trans (hb.mono hrest.size)
        clear hb
        rw [alike_refl]
        clear d
        go_wp2_with fail
        refine (copy_new t (by omega)).mono ?_
        rintro e w12 ⟨s_m, rfl, N_m⟩
        go_wp2_with fail
        refine (new_add N_m hi (by omega)).mono ?_
        rintro e w13 ⟨⟨r13, rfl⟩, M_m⟩
        clear N_m
        have N_m := M_m
        clear M_m
        have hb := N_m.below
        replace a := a.below hb
        replace b := b.below hb
        replace c := c.below hb
        replace t := t.below hb
        replace hold := hold.trans (hb.mono hold.size)
        replace hrest := hrest.trans (hb.mono hrest.size)
        clear hb
        have m := N_m.aset
        clear N_m
        go_wp2_with fail
        refine (len_a t).mono ?_
        rintro e w' ⟨rfl, hw⟩
        obtain rfl := hw.symm
        have hml : (plusN T o).length ≤ 301 := Nat.le_trans (plusN_len T o) (by omega)
        go_wp2_with fail
        refine (news (store_new a b m (o := o) (single := true) hi (by omega) (by omega) (by omega))).mono ?_
        rintro e w14 ⟨s_d, rfl, N_d⟩
        have hb := N_d.below
        replace a := a.below hb
        replace b := b.below hb
        replace c := c.below hb
        replace t := t.below hb
        replace m := m.below hb
        replace hold := hold.trans (hb.mono hold.size)
        replace hrest := hrest.trans (hb.mono hrest.size)
        clear hb
        have d := N_d.aset
        clear N_d
        rw [store_more ⟨hs, (mem_plusN T o _).2 (Or.inr (by omega))⟩ (by unfold plusN; rw [if_pos ⟨hs, fun h => hnot.out ⟨hs, h⟩⟩, List.length_append, List.length_singleton]; omega)] at d
        go_wp2_with fail
        refine (same_a d c).mono ?_
        rintro e w15 ⟨rfl, hb⟩
        replace a := a.below hb
        replace b := b.below hb
        replace c := c.below hb
        replace t := t.below hb
        replace m := m.below hb
        replace d := d.below hb
        replace hold := hold.trans (hb.mono hold.size)
        replace hrest := hrest.trans (hb.mono hrest.size)
        clear hb
        rw [alike_refl]
        clear d
        go_wp2_with fail
        go_roundw
        case rel => exact ⟨2, by omega, by go_num, hbr0.trans (hrest.mono hbr0.size)⟩
        case measure => simp [intOf]
    · have : k = 2 := by omega
      subst this
      go_wp2_with fail
      refine (of_lit wr (x := o) hi).mono ?_
      rintro e w7 ⟨s_x, rfl, N_x⟩
      rw [nums_one hs] at N_x
      have hb := N_x.below
      replace a := a.below hb
      replace b := b.below hb
      replace c := c.below hb
      replace t := t.below hb
      replace hold := hold.trans (hb.mono hold.size)
      clear hb
      have x := N_x.aset
      clear N_x
      go_wp2_with fail
      refine (news (store_new a b x (o := o) (single := true) hi (by omega) (by omega) (by simp))).mono ?_
      rintro e w8 ⟨s_d, rfl, N_d⟩
      rw [store_one ⟨hs, by simp⟩ rfl] at N_d
      have hb := N_d.below
      replace a := a.below hb
      replace b := b.below hb
      replace c := c.below hb
      replace t := t.below hb
      replace x := x.below hb
      replace hold := hold.trans (hb.mono hold.size)
      clear hb
      have d := N_d.aset
      clear N_d
      go_wp2_with fail
      refine (same_a d b).mono ?_
      rintro e w9 ⟨rfl, hb⟩
      replace a := a.below hb
      replace b := b.below hb
      replace c := c.below hb
      replace t := t.below hb
      replace x := x.below hb
      replace d := d.below hb
      replace hold := hold.trans (hb.mono hold.size)
      clear hb
      rw [alike_refl]
      clear d
      clear x
      go_wp2_with fail
      refine (of_lit w9 (x := o) hi).mono ?_
      rintro e w10 ⟨s_x, rfl, N_x⟩
      rw [nums_one hs] at N_x
      have hb := N_x.below
      replace a := a.below hb
      replace b := b.below hb
      replace c := c.below hb
      replace t := t.below hb
      replace hold := hold.trans (hb.mono hold.size)
      clear hb
      have x := N_x.aset
      clear N_x
      go_wp2_with fail
      refine (news (store_new a b x (o := o) (single := false) hi (by omega) (by omega) (by simp))).mono ?_
      rintro e w11 ⟨s_d, rfl, N_d⟩
      rw [store_weak ⟨hs, by simp⟩] at N_d
      have hb := N_d.below
      replace a := a.below hb
      replace b := b.below hb
      replace c := c.below hb
      replace t := t.below hb
      replace x := x.below hb
      replace hold := hold.trans (hb.mono hold.size)
      clear hb
      have d := N_d.aset
      clear N_d
      go_wp2_with fail
      refine (same_a d c).mono ?_
      rintro e w12 ⟨rfl, hb⟩
      replace a := a.below hb
      replace b := b.below hb
      replace c := c.below hb
      replace t := t.below hb
      replace x := x.below hb
      replace d := d.below hb
      replace hold := hold.trans (hb.mono hold.size)
      clear hb
      rw [alike_refl]
      clear d
      clear x
      go_wp2_with fail
      refine (uwakes_any _).mono ?_
      rintro e w13 ⟨rfl, hb⟩
      replace a := a.below hb
      replace b := b.below hb
      replace c := c.below hb
      replace t := t.below hb
      replace hold := hold.trans (hb.mono hold.size)
      clear hb
      go_wp2_with fail
      go_ret
      exact ⟨rfl, hold⟩
end
end Go.Proofs.Ytdpmpppafkefoaa
