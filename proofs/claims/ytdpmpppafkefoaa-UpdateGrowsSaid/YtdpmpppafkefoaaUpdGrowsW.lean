/- UpdateGrows: the walk. -/
import Derived.Test.YtdpmpppafkefoaaUpdT
import Derived.Deep.RegionHeld3
import Derived.Deep.AppendLies
namespace Go.Proofs.Ytdpmpppafkefoaa
open Go.RowKit Go.Maps

theorem exits_small {X : List Mx} {ls : List Lx} (h : X.map (fun x => (x.1, x.2.2)) = ls.map (fun x => (x.1, numsOf x.2.2))) {k : Nat} (nx : ∀ x ∈ ls, x.2.2.length ≤ k) : ∀ x ∈ X.map exOf, x.2.2.length ≤ k := by
  intro x hx
  obtain ⟨y, hy, rfl⟩ := List.mem_map.1 hx
  have h1 : (y.1, y.2.2) ∈ ls.map (fun x => (x.1, numsOf x.2.2)) := h ▸ List.mem_map.2 ⟨y, hy, rfl⟩
  obtain ⟨z, hz, e⟩ := List.mem_map.1 h1
  have h2 : numsOf z.2.2 = y.2.2 := congrArg Prod.snd e
  show y.2.2.length ≤ k
  rw [← h2]
  exact Nat.le_trans (numsOf_len _) (nx z hz)
theorem exits_len {X : List Mx} {ls : List Lx} (h : X.map (fun x => (x.1, x.2.2)) = ls.map (fun x => (x.1, numsOf x.2.2))) : (X.map exOf).length = ls.length := by
  have := congrArg List.length h
  simpa using this
theorem call_grows' {A A' : List Nat} {X Y : List Mx} {ls : List Lx} (hA : Sub A A') (hX : X.map (fun x => (x.1, x.2.2)) = ls.map (fun x => (x.1, numsOf x.2.2))) (hY : Y.map (fun x => (x.1, x.2.2)) = ls.map (fun x => (x.1, numsOf x.2.2))) : Sub (callL A (X.map exOf)) (callL A' (Y.map exOf)) :=
  call_grows hA (fun y hy => ⟨y, by rw [pairs_MX hY]; rw [pairs_MX hX] at hy; exact hy, rfl, Sub.refl _⟩)
theorem union_le {l o : List Nat} {a b : Nat} (h : l.length ≤ a) (g : o.length ≤ b) : (uni l o).length ≤ a + b := Nat.le_trans (uni_len l o) (Nat.add_le_add h g)

section
variable {w : World} {va vb vc vm vl : Value} {xa xb xc xm : List Int} {ls : List Lx} {o : Int} {single : Bool}

set_option maxRecDepth 20000 in
theorem grows_great (ha : RdI w va xa) (hb : RdI w vb xb) (hc : RdI w vc xc) (hm : RdI w vm xm) (hl : RowL w vl ls) (h : Great xa xb xc ls ∨ 300 < xm.length) : Calls Try.prog 3 #[va, vb, vc, .int .i64 o, .bool single, vl, vm] w fun e w' => e = .returned (.bool true) ∧ Below w.heap.size w w' := by
  have hw := Lib.hid (uwakes_any w)
  by_cases hG : Great xa xb xc ls
  · have hg := Lib.hid (great_yes ha hb hc hl hG)
    obtain ⟨a, c, rfl⟩ := ha.form
    obtain ⟨a', c', rfl⟩ := hb.form
    obtain ⟨a'', c'', rfl⟩ := hc.form
    obtain ⟨a4, c4, rfl⟩ := hm.form
    obtain ⟨a3, c3, rfl⟩ := hl.form
    rw [List.length_map, List.length_map, List.length_map] at hg ⊢
    rw [List.length_map]
    clear ha hb hc hm hl h hG
    go_enter Try.func3, Try.ntmps3
    go_wp2_with fail
    refine hg.out.mono ?_
    rintro e w' ⟨rfl, hw'⟩
    obtain rfl := hw'.symm
    go_wp2_with fail
    refine hw.out.mono ?_
    rintro e w' ⟨rfl, hb⟩
    go_wp2_with fail
    go_ret
    exact ⟨rfl, hb⟩
  · have hm0 : 300 < xm.length := h.resolve_left hG
    have hg := Lib.hid (great_no' ha hb hc hl hG)
    obtain ⟨a, c, rfl⟩ := ha.form
    obtain ⟨a', c', rfl⟩ := hb.form
    obtain ⟨a'', c'', rfl⟩ := hc.form
    obtain ⟨a4, c4, rfl⟩ := hm.form
    obtain ⟨a3, c3, rfl⟩ := hl.form
    rw [List.length_map, List.length_map, List.length_map] at hg ⊢
    rw [List.length_map]
    have d1 : decide ((xm.length : Int) > 300) = true := by simp; omega
    clear ha hb hc hm hl h hG
    go_enter Try.func3, Try.ntmps3
    go_wp2_with fail
    refine hg.out.mono ?_
    rintro e w' ⟨rfl, hw'⟩
    obtain rfl := hw'.symm
    go_wp2_with fail
    refine hw.out.mono ?_
    rintro e w' ⟨rfl, hb⟩
    go_wp2_with fail
    go_ret
    exact ⟨rfl, hb⟩

set_option maxRecDepth 20000 in
set_option maxHeartbeats 8000000 in
theorem grows_any (ha : RdI w va xa) (hb : RdI w vb xb) (hc : RdI w vc xc) (hm : RdI w vm xm) (hl : RowL w vl ls) (xa63 : ∀ x ∈ xa, x < 9223372036854775808) (xb63 : ∀ x ∈ xb, x < 9223372036854775808) (xc63 : ∀ x ∈ xc, x < 9223372036854775808) (xm63 : ∀ x ∈ xm, x < 9223372036854775808)
    (ho : o < 9223372036854775808) (ho2 : -9223372036854775808 ≤ o) (h : ¬ Great xa xb xc ls) (nm : xm.length ≤ 300) : Calls Try.prog 3 #[va, vb, vc, .int .i64 o, .bool single, vl, vm] w fun e w' => e = .returned (.bool true) ∧ Below w.heap.size w w' := by
  obtain ⟨j0, hj0, hy0, hy1, hy2⟩ := info_parts infoLX
  obtain ⟨na, nb, nc, nl, nx⟩ := great_not h
  have hg := Lib.hid (great_no' ha hb hc hl h)
  obtain ⟨a, c, rfl⟩ := ha.form
  obtain ⟨a', c', rfl⟩ := hb.form
  obtain ⟨a'', c'', rfl⟩ := hc.form
  obtain ⟨a4, c4, rfl⟩ := hm.form
  obtain ⟨a3, c3, rfl⟩ := hl.form
  rw [List.length_map] at ha hb hc hm
  rw [List.length_map, List.length_map, List.length_map] at hg ⊢
  rw [List.length_map]
  have d1 : decide ((xm.length : Int) > 300) = false := by simp; omega
  clear h
  have hold := Below.refl w.heap.size w
  go_enter Try.func3, Try.ntmps3
  go_wp2_with fail
  refine hg.out.mono ?_
  rintro e w' ⟨rfl, hw'⟩
  obtain rfl := hw'.symm
  clear hg
  have rb := hb
  have rc := hc
  have rm := hm
  have rl := hl
  have ra := ha
  clear ha hb hc hm hl
  replace nx := Lib.hid nx
  go_wp2_with fail
  refine (of_new ra xa63 (by omega)).mono ?_
  rintro e w1 ⟨s_a, rfl, N_a⟩
  have hb := N_a.below
  replace rb := rb.below hb
  replace rc := rc.below hb
  replace rm := rm.below hb
  replace rl := rl.below hb
  replace hold := hold.trans (hb.mono hold.size)
  clear hb
  have a := N_a.aset
  clear N_a
  clear ra
  clear xa63
  have hA : (numsOf xa).length ≤ 300 := Nat.le_trans (numsOf_len xa) na
  generalize numsOf xa = A at a hA
  go_wp2_with fail
  refine (of_new rb xb63 (by omega)).mono ?_
  rintro e w2 ⟨s_b, rfl, N_b⟩
  have hb := N_b.below
  replace a := a.below hb
  replace rc := rc.below hb
  replace rm := rm.below hb
  replace rl := rl.below hb
  replace hold := hold.trans (hb.mono hold.size)
  clear hb
  have b := N_b.aset
  clear N_b
  clear rb
  clear xb63
  have hB : (numsOf xb).length ≤ 300 := Nat.le_trans (numsOf_len xb) nb
  generalize numsOf xb = B at b hB
  go_wp2_with fail
  refine (of_new rc xc63 (by omega)).mono ?_
  rintro e w3 ⟨s_c, rfl, N_c⟩
  have hb := N_c.below
  replace a := a.below hb
  replace b := b.below hb
  replace rm := rm.below hb
  replace rl := rl.below hb
  replace hold := hold.trans (hb.mono hold.size)
  clear hb
  have c := N_c.aset
  clear N_c
  clear rc
  clear xc63
  have hC : (numsOf xc).length ≤ 300 := Nat.le_trans (numsOf_len xc) nc
  generalize numsOf xc = C at c hC
  go_wp2_with fail
  refine (of_new rm xm63 (by omega)).mono ?_
  rintro e w4 ⟨s_m, rfl, N_m⟩
  have hb := N_m.below
  replace a := a.below hb
  replace b := b.below hb
  replace c := c.below hb
  replace rl := rl.below hb
  replace rm := rm.below hb
  replace hold := hold.trans (hb.mono hold.size)
  clear hb
  have m := N_m.aset
  clear N_m
  have ym63 := Lib.hid xm63
  clear xm63
  have hM : (numsOf xm).length ≤ 300 := Nat.le_trans (numsOf_len xm) nm
  obtain ⟨M, hMe⟩ : ∃ M, M = numsOf xm := ⟨_, rfl⟩
  rw [← hMe] at m hM
  replace hMe := Lib.hid hMe
  have nC := Lib.hid c.nodup
  go_wp2_with fail
  refine (news (store_new a b c (o := o) (single := single) ho (by omega) (by omega) (by omega))).mono ?_
  rintro e w5 ⟨s_s, rfl, N_s⟩
  have hb := N_s.below
  replace a := a.below hb
  replace b := b.below hb
  replace c := c.below hb
  replace m := m.below hb
  replace rl := rl.below hb
  replace rm := rm.below hb
  replace hold := hold.trans (hb.mono hold.size)
  clear hb
  have s := N_s.aset
  clear N_s
  go_wp2_with fail
  refine (exits_any rl (by omega) (fun x hx => Nat.le_trans (nx.out x hx) (by decide))).mono ?_
  rintro e w6 ⟨vd, Xd, rfl, hE, hXd⟩
  have hbE := hE.2.old
  replace a := a.below hbE
  replace b := b.below hbE
  replace c := c.below hbE
  replace m := m.below hbE
  replace s := s.below hbE
  replace rl := rl.below hbE
  replace rm := rm.below hbE
  replace hold := hold.trans (hbE.mono hold.size)
  have hER := hE.rowX
  have hES := hE.setsX
  have hXsd := Lib.hid (exits_small hXd (fun x hx => Nat.le_trans (nx.out x hx) (show 300 ≤ 1000 by decide)))
  have hXn : (Xd.map exOf).length ≤ 60 := by rw [exits_len hXd]; exact nl
  replace hXd := Lib.hid hXd
  clear hE hbE
  go_wp2_with fail
  refine (news (call_new a hER hES (by omega) hXsd.out (by omega))).mono ?_
  rintro e w7 ⟨s_d, rfl, N_d⟩
  have hb := N_d.below
  replace a := a.below hb
  replace b := b.below hb
  replace c := c.below hb
  replace m := m.below hb
  replace s := s.below hb
  replace rl := rl.below hb
  replace rm := rm.below hb
  replace hold := hold.trans (hb.mono hold.size)
  clear hb
  have d := N_d.aset
  clear N_d
  clear hER hES hXsd hXn
  have a1 := a
  have m1 := m
  have d1f := d
  have rl1 := rl
  have rm1 := rm
  have hold1 := hold
  go_wp2_with fail
  refine (copy_new a (by omega)).mono ?_
  rintro e w8 ⟨s_f, rfl, N_f⟩
  go_wp2_with fail
  refine (new_union N_f b (by omega)).mono ?_
  rintro e w9 ⟨⟨r9, rfl⟩, M_f⟩
  clear N_f
  have N_f := M_f
  clear M_f
  have HF := N_f.hall
  have hb := N_f.below
  replace a := a.below hb
  replace b := b.below hb
  replace c := c.below hb
  replace m := m.below hb
  replace s := s.below hb
  replace d := d.below hb
  replace rl := rl.below hb
  replace rm := rm.below hb
  replace hold := hold.trans (hb.mono hold.size)
  clear hb
  have f := N_f.aset
  clear N_f
  go_wp2_with fail
  refine (in_a s f).mono ?_
  rintro e w10 ⟨rfl, hb⟩
  replace a := a.below hb
  replace b := b.below hb
  replace c := c.below hb
  replace m := m.below hb
  replace s := s.below hb
  replace d := d.below hb
  replace f := f.below hb
  replace rl := rl.below hb
  replace rm := rm.below hb
  replace HF := HF.below hb
  replace hold := hold.trans (hb.mono hold.size)
  clear hb
  rw [show decide (∀ n ∈ storeL A B C o single, n ∈ uni A B) = true from decide_eq_true store_within]
  go_wp2_with fail
  go_loopw [22] (fun i wr => ∃ k : Nat, 1 ≤ k ∧ k ≤ 8 ∧ i = .int .i64 k ∧ Below w10.heap.size w10 wr) (fun i _ => 8 - (intOf i).toNat)
  case atStart => exact ⟨1, by omega, by omega, rfl, Below.refl _ _⟩
  case round =>
    obtain ⟨k, hk1, hk, rfl, hbr⟩ := hrel
    have hbr0 := hbr
    replace a := a.below hbr
    replace b := b.below hbr
    replace c := c.below hbr
    replace m := m.below hbr
    replace s := s.below hbr
    replace d := d.below hbr
    replace f := f.below hbr
    replace rl := rl.below hbr
    replace rm := rm.below hbr
    replace HF := HF.below hbr
    replace hold := hold.trans (hbr.mono hold.size)
    clear hbr
    by_cases hlt : k < 8
    · rcases (show k = 1 ∨ k = 2 ∨ k = 3 ∨ k = 4 ∨ k = 5 ∨ k = 6 ∨ k = 7 by omega) with rfl | rfl | rfl | rfl | rfl | rfl | rfl
      · skip
        have hrest : Below wr.heap.size wr wr := Below.refl _ _
        have H0 := Hall.init wr
        go_wp2_with fail
        refine (hall_copy_old H0 a (by omega)).mono ?_
        rintro e w11 ⟨s_0, rfl, H1⟩
        change Hall wr w11 [(s_0, A)] _ at H1
        clear H0
        go_wp2_with fail
        refine (hall_copy_old H1 b (by omega)).mono ?_
        rintro e w12 ⟨s_1, rfl, H2⟩
        change Hall wr w12 [(s_0, A), (s_1, B)] _ at H2
        clear H1
        go_wp2_with fail
        refine (hall_copy_old H2 c (by omega)).mono ?_
        rintro e w13 ⟨s_2, rfl, H3⟩
        change Hall wr w13 [(s_0, A), (s_1, B), (s_2, C)] _ at H3
        clear H2
        go_wp2_with fail
        refine (hall_union_old H3 (i := 0) rfl m (by omega)).mono ?_
        rintro e w14 ⟨⟨r0, rfl⟩, H4, -⟩
        change Hall wr w14 [(s_0, uni A M), (s_1, B), (s_2, C)] _ at H4
        clear H3
        have hbH := H4.old
        have px := H4.aset (i := 0) rfl
        have py := H4.aset (i := 1) rfl
        have pz := H4.aset (i := 2) rfl
        replace a := a.below hbH
        replace b := b.below hbH
        replace c := c.below hbH
        replace m := m.below hbH
        replace s := s.below hbH
        replace d := d.below hbH
        replace f := f.below hbH
        replace rl := rl.below hbH
        replace rm := rm.below hbH
        replace HF := HF.below hbH
        replace hold := hold.trans (hbH.mono hold.size)
        replace hrest := hrest.trans (hbH.mono hrest.size)
        clear hbH H4
        have l0 := union_le hA hM
        have q0 := sub_uni_left A M
        have l1 := hB
        have q1 := Sub.refl B
        have l2 := hC
        have q2 := Sub.refl C
        go_wp2_with fail
        refine (news (store_new px py pz (o := o) (single := single) ho (by omega) (by omega) (by omega))).mono ?_
        rintro e w15 ⟨s_t, rfl, N_t⟩
        have hb := N_t.below
        replace a := a.below hb
        replace b := b.below hb
        replace c := c.below hb
        replace m := m.below hb
        replace s := s.below hb
        replace d := d.below hb
        replace f := f.below hb
        replace px := px.below hb
        replace py := py.below hb
        replace pz := pz.below hb
        replace rl := rl.below hb
        replace rm := rm.below hb
        replace HF := HF.below hb
        replace hold := hold.trans (hb.mono hold.size)
        replace hrest := hrest.trans (hb.mono hrest.size)
        clear hb
        have t := N_t.aset
        clear N_t
        go_wp2_with fail
        refine (in_a s t).mono ?_
        rintro e w16 ⟨rfl, hb⟩
        replace a := a.below hb
        replace b := b.below hb
        replace c := c.below hb
        replace m := m.below hb
        replace s := s.below hb
        replace d := d.below hb
        replace f := f.below hb
        replace px := px.below hb
        replace py := py.below hb
        replace pz := pz.below hb
        replace t := t.below hb
        replace rl := rl.below hb
        replace rm := rm.below hb
        replace HF := HF.below hb
        replace hold := hold.trans (hb.mono hold.size)
        replace hrest := hrest.trans (hb.mono hrest.size)
        clear hb
        rw [show decide (∀ n ∈ storeL A B C o single, n ∈ storeL (uni A M) B C o single) = true from decide_eq_true (store_grows q0 q1 q2 nC.out)]
        clear t
        clear py
        clear pz
        go_wp2_with fail
        refine (exits_any rl (by omega) (fun x hx => Nat.le_trans (nx.out x hx) (by decide))).mono ?_
        rintro e w17 ⟨vr, Xr, rfl, hE, hXr⟩
        have hbE := hE.2.old
        replace a := a.below hbE
        replace b := b.below hbE
        replace c := c.below hbE
        replace m := m.below hbE
        replace s := s.below hbE
        replace d := d.below hbE
        replace f := f.below hbE
        replace px := px.below hbE
        replace rl := rl.below hbE
        replace rm := rm.below hbE
        replace HF := HF.below hbE
        replace hold := hold.trans (hbE.mono hold.size)
        replace hrest := hrest.trans (hbE.mono hrest.size)
        have hER := hE.rowX
        have hES := hE.setsX
        have hXsr := Lib.hid (exits_small hXr (fun x hx => Nat.le_trans (nx.out x hx) (show 300 ≤ 1000 by decide)))
        have hXn : (Xr.map exOf).length ≤ 60 := by rw [exits_len hXr]; exact nl
        replace hXr := Lib.hid hXr
        clear hE hbE
        go_wp2_with fail
        refine (news (call_new px hER hES (by omega) hXsr.out (by omega))).mono ?_
        rintro e w18 ⟨s_u, rfl, N_u⟩
        have hb := N_u.below
        replace a := a.below hb
        replace b := b.below hb
        replace c := c.below hb
        replace m := m.below hb
        replace s := s.below hb
        replace d := d.below hb
        replace f := f.below hb
        replace px := px.below hb
        replace rl := rl.below hb
        replace rm := rm.below hb
        replace HF := HF.below hb
        replace hold := hold.trans (hb.mono hold.size)
        replace hrest := hrest.trans (hb.mono hrest.size)
        clear hb
        have u := N_u.aset
        clear N_u
        clear hER hES hXsr hXn
        go_wp2_with fail
        refine (in_a d u).mono ?_
        rintro e w19 ⟨rfl, hb⟩
        replace a := a.below hb
        replace b := b.below hb
        replace c := c.below hb
        replace m := m.below hb
        replace s := s.below hb
        replace d := d.below hb
        replace f := f.below hb
        replace px := px.below hb
        replace u := u.below hb
        replace rl := rl.below hb
        replace rm := rm.below hb
        replace HF := HF.below hb
        replace hold := hold.trans (hb.mono hold.size)
        replace hrest := hrest.trans (hb.mono hrest.size)
        clear hb
        rw [show decide (∀ n ∈ callL A (Xd.map exOf), n ∈ callL (uni A M) (Xr.map exOf)) = true from decide_eq_true (call_grows' q0 hXd.out hXr.out)]
        go_wp2_with fail
        go_roundw
        case rel => exact ⟨2, by omega, by omega, by go_num, hbr0.trans (hrest.mono hbr0.size)⟩
        case measure => simp [intOf]
      · skip
        have hrest : Below wr.heap.size wr wr := Below.refl _ _
        have H0 := Hall.init wr
        go_wp2_with fail
        refine (hall_copy_old H0 a (by omega)).mono ?_
        rintro e w11 ⟨s_0, rfl, H1⟩
        change Hall wr w11 [(s_0, A)] _ at H1
        clear H0
        go_wp2_with fail
        refine (hall_copy_old H1 b (by omega)).mono ?_
        rintro e w12 ⟨s_1, rfl, H2⟩
        change Hall wr w12 [(s_0, A), (s_1, B)] _ at H2
        clear H1
        go_wp2_with fail
        refine (hall_copy_old H2 c (by omega)).mono ?_
        rintro e w13 ⟨s_2, rfl, H3⟩
        change Hall wr w13 [(s_0, A), (s_1, B), (s_2, C)] _ at H3
        clear H2
        go_wp2_with fail
        refine (hall_union_old H3 (i := 1) rfl m (by omega)).mono ?_
        rintro e w14 ⟨⟨r1, rfl⟩, H4, -⟩
        change Hall wr w14 [(s_0, A), (s_1, uni B M), (s_2, C)] _ at H4
        clear H3
        have hbH := H4.old
        have px := H4.aset (i := 0) rfl
        have py := H4.aset (i := 1) rfl
        have pz := H4.aset (i := 2) rfl
        replace a := a.below hbH
        replace b := b.below hbH
        replace c := c.below hbH
        replace m := m.below hbH
        replace s := s.below hbH
        replace d := d.below hbH
        replace f := f.below hbH
        replace rl := rl.below hbH
        replace rm := rm.below hbH
        replace HF := HF.below hbH
        replace hold := hold.trans (hbH.mono hold.size)
        replace hrest := hrest.trans (hbH.mono hrest.size)
        clear hbH H4
        have l0 := hA
        have q0 := Sub.refl A
        have l1 := union_le hB hM
        have q1 := sub_uni_left B M
        have l2 := hC
        have q2 := Sub.refl C
        go_wp2_with fail
        refine (news (store_new px py pz (o := o) (single := single) ho (by omega) (by omega) (by omega))).mono ?_
        rintro e w15 ⟨s_t, rfl, N_t⟩
        have hb := N_t.below
        replace a := a.below hb
        replace b := b.below hb
        replace c := c.below hb
        replace m := m.below hb
        replace s := s.below hb
        replace d := d.below hb
        replace f := f.below hb
        replace px := px.below hb
        replace py := py.below hb
        replace pz := pz.below hb
        replace rl := rl.below hb
        replace rm := rm.below hb
        replace HF := HF.below hb
        replace hold := hold.trans (hb.mono hold.size)
        replace hrest := hrest.trans (hb.mono hrest.size)
        clear hb
        have t := N_t.aset
        clear N_t
        go_wp2_with fail
        refine (in_a s t).mono ?_
        rintro e w16 ⟨rfl, hb⟩
        replace a := a.below hb
        replace b := b.below hb
        replace c := c.below hb
        replace m := m.below hb
        replace s := s.below hb
        replace d := d.below hb
        replace f := f.below hb
        replace px := px.below hb
        replace py := py.below hb
        replace pz := pz.below hb
        replace t := t.below hb
        replace rl := rl.below hb
        replace rm := rm.below hb
        replace HF := HF.below hb
        replace hold := hold.trans (hb.mono hold.size)
        replace hrest := hrest.trans (hb.mono hrest.size)
        clear hb
        rw [show decide (∀ n ∈ storeL A B C o single, n ∈ storeL A (uni B M) C o single) = true from decide_eq_true (store_grows q0 q1 q2 nC.out)]
        clear t
        clear py
        clear pz
        go_wp2_with fail
        refine (exits_any rl (by omega) (fun x hx => Nat.le_trans (nx.out x hx) (by decide))).mono ?_
        rintro e w17 ⟨vr, Xr, rfl, hE, hXr⟩
        have hbE := hE.2.old
        replace a := a.below hbE
        replace b := b.below hbE
        replace c := c.below hbE
        replace m := m.below hbE
        replace s := s.below hbE
        replace d := d.below hbE
        replace f := f.below hbE
        replace px := px.below hbE
        replace rl := rl.below hbE
        replace rm := rm.below hbE
        replace HF := HF.below hbE
        replace hold := hold.trans (hbE.mono hold.size)
        replace hrest := hrest.trans (hbE.mono hrest.size)
        have hER := hE.rowX
        have hES := hE.setsX
        have hXsr := Lib.hid (exits_small hXr (fun x hx => Nat.le_trans (nx.out x hx) (show 300 ≤ 1000 by decide)))
        have hXn : (Xr.map exOf).length ≤ 60 := by rw [exits_len hXr]; exact nl
        replace hXr := Lib.hid hXr
        clear hE hbE
        go_wp2_with fail
        refine (news (call_new px hER hES (by omega) hXsr.out (by omega))).mono ?_
        rintro e w18 ⟨s_u, rfl, N_u⟩
        have hb := N_u.below
        replace a := a.below hb
        replace b := b.below hb
        replace c := c.below hb
        replace m := m.below hb
        replace s := s.below hb
        replace d := d.below hb
        replace f := f.below hb
        replace px := px.below hb
        replace rl := rl.below hb
        replace rm := rm.below hb
        replace HF := HF.below hb
        replace hold := hold.trans (hb.mono hold.size)
        replace hrest := hrest.trans (hb.mono hrest.size)
        clear hb
        have u := N_u.aset
        clear N_u
        clear hER hES hXsr hXn
        go_wp2_with fail
        refine (in_a d u).mono ?_
        rintro e w19 ⟨rfl, hb⟩
        replace a := a.below hb
        replace b := b.below hb
        replace c := c.below hb
        replace m := m.below hb
        replace s := s.below hb
        replace d := d.below hb
        replace f := f.below hb
        replace px := px.below hb
        replace u := u.below hb
        replace rl := rl.below hb
        replace rm := rm.below hb
        replace HF := HF.below hb
        replace hold := hold.trans (hb.mono hold.size)
        replace hrest := hrest.trans (hb.mono hrest.size)
        clear hb
        rw [show decide (∀ n ∈ callL A (Xd.map exOf), n ∈ callL A (Xr.map exOf)) = true from decide_eq_true (call_grows' q0 hXd.out hXr.out)]
        go_wp2_with fail
        go_roundw
        case rel => exact ⟨3, by omega, by omega, by go_num, hbr0.trans (hrest.mono hbr0.size)⟩
        case measure => simp [intOf]
      · skip
        have hrest : Below wr.heap.size wr wr := Below.refl _ _
        have H0 := Hall.init wr
        go_wp2_with fail
        refine (hall_copy_old H0 a (by omega)).mono ?_
        rintro e w11 ⟨s_0, rfl, H1⟩
        change Hall wr w11 [(s_0, A)] _ at H1
        clear H0
        go_wp2_with fail
        refine (hall_copy_old H1 b (by omega)).mono ?_
        rintro e w12 ⟨s_1, rfl, H2⟩
        change Hall wr w12 [(s_0, A), (s_1, B)] _ at H2
        clear H1
        go_wp2_with fail
        refine (hall_copy_old H2 c (by omega)).mono ?_
        rintro e w13 ⟨s_2, rfl, H3⟩
        change Hall wr w13 [(s_0, A), (s_1, B), (s_2, C)] _ at H3
        clear H2
        go_wp2_with fail
        refine (hall_union_old H3 (i := 0) rfl m (by omega)).mono ?_
        rintro e w14 ⟨⟨r0, rfl⟩, H4, -⟩
        change Hall wr w14 [(s_0, uni A M), (s_1, B), (s_2, C)] _ at H4
        clear H3
        go_wp2_with fail
        refine (hall_union_old H4 (i := 1) rfl m (by omega)).mono ?_
        rintro e w15 ⟨⟨r1, rfl⟩, H5, -⟩
        change Hall wr w15 [(s_0, uni A M), (s_1, uni B M), (s_2, C)] _ at H5
        clear H4
        have hbH := H5.old
        have px := H5.aset (i := 0) rfl
        have py := H5.aset (i := 1) rfl
        have pz := H5.aset (i := 2) rfl
        replace a := a.below hbH
        replace b := b.below hbH
        replace c := c.below hbH
        replace m := m.below hbH
        replace s := s.below hbH
        replace d := d.below hbH
        replace f := f.below hbH
        replace rl := rl.below hbH
        replace rm := rm.below hbH
        replace HF := HF.below hbH
        replace hold := hold.trans (hbH.mono hold.size)
        replace hrest := hrest.trans (hbH.mono hrest.size)
        clear hbH H5
        have l0 := union_le hA hM
        have q0 := sub_uni_left A M
        have l1 := union_le hB hM
        have q1 := sub_uni_left B M
        have l2 := hC
        have q2 := Sub.refl C
        go_wp2_with fail
        refine (news (store_new px py pz (o := o) (single := single) ho (by omega) (by omega) (by omega))).mono ?_
        rintro e w16 ⟨s_t, rfl, N_t⟩
        have hb := N_t.below
        replace a := a.below hb
        replace b := b.below hb
        replace c := c.below hb
        replace m := m.below hb
        replace s := s.below hb
        replace d := d.below hb
        replace f := f.below hb
        replace px := px.below hb
        replace py := py.below hb
        replace pz := pz.below hb
        replace rl := rl.below hb
        replace rm := rm.below hb
        replace HF := HF.below hb
        replace hold := hold.trans (hb.mono hold.size)
        replace hrest := hrest.trans (hb.mono hrest.size)
        clear hb
        have t := N_t.aset
        clear N_t
        go_wp2_with fail
        refine (in_a s t).mono ?_
        rintro e w17 ⟨rfl, hb⟩
        replace a := a.below hb
        replace b := b.below hb
        replace c := c.below hb
        replace m := m.below hb
        replace s := s.below hb
        replace d := d.below hb
        replace f := f.below hb
        replace px := px.below hb
        replace py := py.below hb
        replace pz := pz.below hb
        replace t := t.below hb
        replace rl := rl.below hb
        replace rm := rm.below hb
        replace HF := HF.below hb
        replace hold := hold.trans (hb.mono hold.size)
        replace hrest := hrest.trans (hb.mono hrest.size)
        clear hb
        rw [show decide (∀ n ∈ storeL A B C o single, n ∈ storeL (uni A M) (uni B M) C o single) = true from decide_eq_true (store_grows q0 q1 q2 nC.out)]
        clear t
        clear py
        clear pz
        go_wp2_with fail
        refine (exits_any rl (by omega) (fun x hx => Nat.le_trans (nx.out x hx) (by decide))).mono ?_
        rintro e w18 ⟨vr, Xr, rfl, hE, hXr⟩
        have hbE := hE.2.old
        replace a := a.below hbE
        replace b := b.below hbE
        replace c := c.below hbE
        replace m := m.below hbE
        replace s := s.below hbE
        replace d := d.below hbE
        replace f := f.below hbE
        replace px := px.below hbE
        replace rl := rl.below hbE
        replace rm := rm.below hbE
        replace HF := HF.below hbE
        replace hold := hold.trans (hbE.mono hold.size)
        replace hrest := hrest.trans (hbE.mono hrest.size)
        have hER := hE.rowX
        have hES := hE.setsX
        have hXsr := Lib.hid (exits_small hXr (fun x hx => Nat.le_trans (nx.out x hx) (show 300 ≤ 1000 by decide)))
        have hXn : (Xr.map exOf).length ≤ 60 := by rw [exits_len hXr]; exact nl
        replace hXr := Lib.hid hXr
        clear hE hbE
        go_wp2_with fail
        refine (news (call_new px hER hES (by omega) hXsr.out (by omega))).mono ?_
        rintro e w19 ⟨s_u, rfl, N_u⟩
        have hb := N_u.below
        replace a := a.below hb
        replace b := b.below hb
        replace c := c.below hb
        replace m := m.below hb
        replace s := s.below hb
        replace d := d.below hb
        replace f := f.below hb
        replace px := px.below hb
        replace rl := rl.below hb
        replace rm := rm.below hb
        replace HF := HF.below hb
        replace hold := hold.trans (hb.mono hold.size)
        replace hrest := hrest.trans (hb.mono hrest.size)
        clear hb
        have u := N_u.aset
        clear N_u
        clear hER hES hXsr hXn
        go_wp2_with fail
        refine (in_a d u).mono ?_
        rintro e w20 ⟨rfl, hb⟩
        replace a := a.below hb
        replace b := b.below hb
        replace c := c.below hb
        replace m := m.below hb
        replace s := s.below hb
        replace d := d.below hb
        replace f := f.below hb
        replace px := px.below hb
        replace u := u.below hb
        replace rl := rl.below hb
        replace rm := rm.below hb
        replace HF := HF.below hb
        replace hold := hold.trans (hb.mono hold.size)
        replace hrest := hrest.trans (hb.mono hrest.size)
        clear hb
        rw [show decide (∀ n ∈ callL A (Xd.map exOf), n ∈ callL (uni A M) (Xr.map exOf)) = true from decide_eq_true (call_grows' q0 hXd.out hXr.out)]
        go_wp2_with fail
        go_roundw
        case rel => exact ⟨4, by omega, by omega, by go_num, hbr0.trans (hrest.mono hbr0.size)⟩
        case measure => simp [intOf]
      · skip
        have hrest : Below wr.heap.size wr wr := Below.refl _ _
        have H0 := Hall.init wr
        go_wp2_with fail
        refine (hall_copy_old H0 a (by omega)).mono ?_
        rintro e w11 ⟨s_0, rfl, H1⟩
        change Hall wr w11 [(s_0, A)] _ at H1
        clear H0
        go_wp2_with fail
        refine (hall_copy_old H1 b (by omega)).mono ?_
        rintro e w12 ⟨s_1, rfl, H2⟩
        change Hall wr w12 [(s_0, A), (s_1, B)] _ at H2
        clear H1
        go_wp2_with fail
        refine (hall_copy_old H2 c (by omega)).mono ?_
        rintro e w13 ⟨s_2, rfl, H3⟩
        change Hall wr w13 [(s_0, A), (s_1, B), (s_2, C)] _ at H3
        clear H2
        go_wp2_with fail
        refine (hall_union_old H3 (i := 2) rfl m (by omega)).mono ?_
        rintro e w14 ⟨⟨r2, rfl⟩, H4, -⟩
        change Hall wr w14 [(s_0, A), (s_1, B), (s_2, uni C M)] _ at H4
        clear H3
        have hbH := H4.old
        have px := H4.aset (i := 0) rfl
        have py := H4.aset (i := 1) rfl
        have pz := H4.aset (i := 2) rfl
        replace a := a.below hbH
        replace b := b.below hbH
        replace c := c.below hbH
        replace m := m.below hbH
        replace s := s.below hbH
        replace d := d.below hbH
        replace f := f.below hbH
        replace rl := rl.below hbH
        replace rm := rm.below hbH
        replace HF := HF.below hbH
        replace hold := hold.trans (hbH.mono hold.size)
        replace hrest := hrest.trans (hbH.mono hrest.size)
        clear hbH H4
        have l0 := hA
        have q0 := Sub.refl A
        have l1 := hB
        have q1 := Sub.refl B
        have l2 := union_le hC hM
        have q2 := sub_uni_left C M
        go_wp2_with fail
        refine (news (store_new px py pz (o := o) (single := single) ho (by omega) (by omega) (by omega))).mono ?_
        rintro e w15 ⟨s_t, rfl, N_t⟩
        have hb := N_t.below
        replace a := a.below hb
        replace b := b.below hb
        replace c := c.below hb
        replace m := m.below hb
        replace s := s.below hb
        replace d := d.below hb
        replace f := f.below hb
        replace px := px.below hb
        replace py := py.below hb
        replace pz := pz.below hb
        replace rl := rl.below hb
        replace rm := rm.below hb
        replace HF := HF.below hb
        replace hold := hold.trans (hb.mono hold.size)
        replace hrest := hrest.trans (hb.mono hrest.size)
        clear hb
        have t := N_t.aset
        clear N_t
        go_wp2_with fail
        refine (in_a s t).mono ?_
        rintro e w16 ⟨rfl, hb⟩
        replace a := a.below hb
        replace b := b.below hb
        replace c := c.below hb
        replace m := m.below hb
        replace s := s.below hb
        replace d := d.below hb
        replace f := f.below hb
        replace px := px.below hb
        replace py := py.below hb
        replace pz := pz.below hb
        replace t := t.below hb
        replace rl := rl.below hb
        replace rm := rm.below hb
        replace HF := HF.below hb
        replace hold := hold.trans (hb.mono hold.size)
        replace hrest := hrest.trans (hb.mono hrest.size)
        clear hb
        rw [show decide (∀ n ∈ storeL A B C o single, n ∈ storeL A B (uni C M) o single) = true from decide_eq_true (store_grows q0 q1 q2 nC.out)]
        clear t
        clear py
        clear pz
        go_wp2_with fail
        refine (exits_any rl (by omega) (fun x hx => Nat.le_trans (nx.out x hx) (by decide))).mono ?_
        rintro e w17 ⟨vr, Xr, rfl, hE, hXr⟩
        have hbE := hE.2.old
        replace a := a.below hbE
        replace b := b.below hbE
        replace c := c.below hbE
        replace m := m.below hbE
        replace s := s.below hbE
        replace d := d.below hbE
        replace f := f.below hbE
        replace px := px.below hbE
        replace rl := rl.below hbE
        replace rm := rm.below hbE
        replace HF := HF.below hbE
        replace hold := hold.trans (hbE.mono hold.size)
        replace hrest := hrest.trans (hbE.mono hrest.size)
        have hER := hE.rowX
        have hES := hE.setsX
        have hXsr := Lib.hid (exits_small hXr (fun x hx => Nat.le_trans (nx.out x hx) (show 300 ≤ 1000 by decide)))
        have hXn : (Xr.map exOf).length ≤ 60 := by rw [exits_len hXr]; exact nl
        replace hXr := Lib.hid hXr
        clear hE hbE
        go_wp2_with fail
        refine (news (call_new px hER hES (by omega) hXsr.out (by omega))).mono ?_
        rintro e w18 ⟨s_u, rfl, N_u⟩
        have hb := N_u.below
        replace a := a.below hb
        replace b := b.below hb
        replace c := c.below hb
        replace m := m.below hb
        replace s := s.below hb
        replace d := d.below hb
        replace f := f.below hb
        replace px := px.below hb
        replace rl := rl.below hb
        replace rm := rm.below hb
        replace HF := HF.below hb
        replace hold := hold.trans (hb.mono hold.size)
        replace hrest := hrest.trans (hb.mono hrest.size)
        clear hb
        have u := N_u.aset
        clear N_u
        clear hER hES hXsr hXn
        go_wp2_with fail
        refine (in_a d u).mono ?_
        rintro e w19 ⟨rfl, hb⟩
        replace a := a.below hb
        replace b := b.below hb
        replace c := c.below hb
        replace m := m.below hb
        replace s := s.below hb
        replace d := d.below hb
        replace f := f.below hb
        replace px := px.below hb
        replace u := u.below hb
        replace rl := rl.below hb
        replace rm := rm.below hb
        replace HF := HF.below hb
        replace hold := hold.trans (hb.mono hold.size)
        replace hrest := hrest.trans (hb.mono hrest.size)
        clear hb
        rw [show decide (∀ n ∈ callL A (Xd.map exOf), n ∈ callL A (Xr.map exOf)) = true from decide_eq_true (call_grows' q0 hXd.out hXr.out)]
        go_wp2_with fail
        go_roundw
        case rel => exact ⟨5, by omega, by omega, by go_num, hbr0.trans (hrest.mono hbr0.size)⟩
        case measure => simp [intOf]
      · skip
        have hrest : Below wr.heap.size wr wr := Below.refl _ _
        have H0 := Hall.init wr
        go_wp2_with fail
        refine (hall_copy_old H0 a (by omega)).mono ?_
        rintro e w11 ⟨s_0, rfl, H1⟩
        change Hall wr w11 [(s_0, A)] _ at H1
        clear H0
        go_wp2_with fail
        refine (hall_copy_old H1 b (by omega)).mono ?_
        rintro e w12 ⟨s_1, rfl, H2⟩
        change Hall wr w12 [(s_0, A), (s_1, B)] _ at H2
        clear H1
        go_wp2_with fail
        refine (hall_copy_old H2 c (by omega)).mono ?_
        rintro e w13 ⟨s_2, rfl, H3⟩
        change Hall wr w13 [(s_0, A), (s_1, B), (s_2, C)] _ at H3
        clear H2
        go_wp2_with fail
        refine (hall_union_old H3 (i := 0) rfl m (by omega)).mono ?_
        rintro e w14 ⟨⟨r0, rfl⟩, H4, -⟩
        change Hall wr w14 [(s_0, uni A M), (s_1, B), (s_2, C)] _ at H4
        clear H3
        go_wp2_with fail
        refine (hall_union_old H4 (i := 2) rfl m (by omega)).mono ?_
        rintro e w15 ⟨⟨r2, rfl⟩, H5, -⟩
        change Hall wr w15 [(s_0, uni A M), (s_1, B), (s_2, uni C M)] _ at H5
        clear H4
        have hbH := H5.old
        have px := H5.aset (i := 0) rfl
        have py := H5.aset (i := 1) rfl
        have pz := H5.aset (i := 2) rfl
        replace a := a.below hbH
        replace b := b.below hbH
        replace c := c.below hbH
        replace m := m.below hbH
        replace s := s.below hbH
        replace d := d.below hbH
        replace f := f.below hbH
        replace rl := rl.below hbH
        replace rm := rm.below hbH
        replace HF := HF.below hbH
        replace hold := hold.trans (hbH.mono hold.size)
        replace hrest := hrest.trans (hbH.mono hrest.size)
        clear hbH H5
        have l0 := union_le hA hM
        have q0 := sub_uni_left A M
        have l1 := hB
        have q1 := Sub.refl B
        have l2 := union_le hC hM
        have q2 := sub_uni_left C M
        go_wp2_with fail
        refine (news (store_new px py pz (o := o) (single := single) ho (by omega) (by omega) (by omega))).mono ?_
        rintro e w16 ⟨s_t, rfl, N_t⟩
        have hb := N_t.below
        replace a := a.below hb
        replace b := b.below hb
        replace c := c.below hb
        replace m := m.below hb
        replace s := s.below hb
        replace d := d.below hb
        replace f := f.below hb
        replace px := px.below hb
        replace py := py.below hb
        replace pz := pz.below hb
        replace rl := rl.below hb
        replace rm := rm.below hb
        replace HF := HF.below hb
        replace hold := hold.trans (hb.mono hold.size)
        replace hrest := hrest.trans (hb.mono hrest.size)
        clear hb
        have t := N_t.aset
        clear N_t
        go_wp2_with fail
        refine (in_a s t).mono ?_
        rintro e w17 ⟨rfl, hb⟩
        replace a := a.below hb
        replace b := b.below hb
        replace c := c.below hb
        replace m := m.below hb
        replace s := s.below hb
        replace d := d.below hb
        replace f := f.below hb
        replace px := px.below hb
        replace py := py.below hb
        replace pz := pz.below hb
        replace t := t.below hb
        replace rl := rl.below hb
        replace rm := rm.below hb
        replace HF := HF.below hb
        replace hold := hold.trans (hb.mono hold.size)
        replace hrest := hrest.trans (hb.mono hrest.size)
        clear hb
        rw [show decide (∀ n ∈ storeL A B C o single, n ∈ storeL (uni A M) B (uni C M) o single) = true from decide_eq_true (store_grows q0 q1 q2 nC.out)]
        clear t
        clear py
        clear pz
        go_wp2_with fail
        refine (exits_any rl (by omega) (fun x hx => Nat.le_trans (nx.out x hx) (by decide))).mono ?_
        rintro e w18 ⟨vr, Xr, rfl, hE, hXr⟩
        have hbE := hE.2.old
        replace a := a.below hbE
        replace b := b.below hbE
        replace c := c.below hbE
        replace m := m.below hbE
        replace s := s.below hbE
        replace d := d.below hbE
        replace f := f.below hbE
        replace px := px.below hbE
        replace rl := rl.below hbE
        replace rm := rm.below hbE
        replace HF := HF.below hbE
        replace hold := hold.trans (hbE.mono hold.size)
        replace hrest := hrest.trans (hbE.mono hrest.size)
        have hER := hE.rowX
        have hES := hE.setsX
        have hXsr := Lib.hid (exits_small hXr (fun x hx => Nat.le_trans (nx.out x hx) (show 300 ≤ 1000 by decide)))
        have hXn : (Xr.map exOf).length ≤ 60 := by rw [exits_len hXr]; exact nl
        replace hXr := Lib.hid hXr
        clear hE hbE
        go_wp2_with fail
        refine (news (call_new px hER hES (by omega) hXsr.out (by omega))).mono ?_
        rintro e w19 ⟨s_u, rfl, N_u⟩
        have hb := N_u.below
        replace a := a.below hb
        replace b := b.below hb
        replace c := c.below hb
        replace m := m.below hb
        replace s := s.below hb
        replace d := d.below hb
        replace f := f.below hb
        replace px := px.below hb
        replace rl := rl.below hb
        replace rm := rm.below hb
        replace HF := HF.below hb
        replace hold := hold.trans (hb.mono hold.size)
        replace hrest := hrest.trans (hb.mono hrest.size)
        clear hb
        have u := N_u.aset
        clear N_u
        clear hER hES hXsr hXn
        go_wp2_with fail
        refine (in_a d u).mono ?_
        rintro e w20 ⟨rfl, hb⟩
        replace a := a.below hb
        replace b := b.below hb
        replace c := c.below hb
        replace m := m.below hb
        replace s := s.below hb
        replace d := d.below hb
        replace f := f.below hb
        replace px := px.below hb
        replace u := u.below hb
        replace rl := rl.below hb
        replace rm := rm.below hb
        replace HF := HF.below hb
        replace hold := hold.trans (hb.mono hold.size)
        replace hrest := hrest.trans (hb.mono hrest.size)
        clear hb
        rw [show decide (∀ n ∈ callL A (Xd.map exOf), n ∈ callL (uni A M) (Xr.map exOf)) = true from decide_eq_true (call_grows' q0 hXd.out hXr.out)]
        go_wp2_with fail
        go_roundw
        case rel => exact ⟨6, by omega, by omega, by go_num, hbr0.trans (hrest.mono hbr0.size)⟩
        case measure => simp [intOf]
      · skip
        have hrest : Below wr.heap.size wr wr := Below.refl _ _
        have H0 := Hall.init wr
        go_wp2_with fail
        refine (hall_copy_old H0 a (by omega)).mono ?_
        rintro e w11 ⟨s_0, rfl, H1⟩
        change Hall wr w11 [(s_0, A)] _ at H1
        clear H0
        go_wp2_with fail
        refine (hall_copy_old H1 b (by omega)).mono ?_
        rintro e w12 ⟨s_1, rfl, H2⟩
        change Hall wr w12 [(s_0, A), (s_1, B)] _ at H2
        clear H1
        go_wp2_with fail
        refine (hall_copy_old H2 c (by omega)).mono ?_
        rintro e w13 ⟨s_2, rfl, H3⟩
        change Hall wr w13 [(s_0, A), (s_1, B), (s_2, C)] _ at H3
        clear H2
        go_wp2_with fail
        refine (hall_union_old H3 (i := 1) rfl m (by omega)).mono ?_
        rintro e w14 ⟨⟨r1, rfl⟩, H4, -⟩
        change Hall wr w14 [(s_0, A), (s_1, uni B M), (s_2, C)] _ at H4
        clear H3
        go_wp2_with fail
        refine (hall_union_old H4 (i := 2) rfl m (by omega)).mono ?_
        rintro e w15 ⟨⟨r2, rfl⟩, H5, -⟩
        change Hall wr w15 [(s_0, A), (s_1, uni B M), (s_2, uni C M)] _ at H5
        clear H4
        have hbH := H5.old
        have px := H5.aset (i := 0) rfl
        have py := H5.aset (i := 1) rfl
        have pz := H5.aset (i := 2) rfl
        replace a := a.below hbH
        replace b := b.below hbH
        replace c := c.below hbH
        replace m := m.below hbH
        replace s := s.below hbH
        replace d := d.below hbH
        replace f := f.below hbH
        replace rl := rl.below hbH
        replace rm := rm.below hbH
        replace HF := HF.below hbH
        replace hold := hold.trans (hbH.mono hold.size)
        replace hrest := hrest.trans (hbH.mono hrest.size)
        clear hbH H5
        have l0 := hA
        have q0 := Sub.refl A
        have l1 := union_le hB hM
        have q1 := sub_uni_left B M
        have l2 := union_le hC hM
        have q2 := sub_uni_left C M
        go_wp2_with fail
        refine (news (store_new px py pz (o := o) (single := single) ho (by omega) (by omega) (by omega))).mono ?_
        rintro e w16 ⟨s_t, rfl, N_t⟩
        have hb := N_t.below
        replace a := a.below hb
        replace b := b.below hb
        replace c := c.below hb
        replace m := m.below hb
        replace s := s.below hb
        replace d := d.below hb
        replace f := f.below hb
        replace px := px.below hb
        replace py := py.below hb
        replace pz := pz.below hb
        replace rl := rl.below hb
        replace rm := rm.below hb
        replace HF := HF.below hb
        replace hold := hold.trans (hb.mono hold.size)
        replace hrest := hrest.trans (hb.mono hrest.size)
        clear hb
        have t := N_t.aset
        clear N_t
        go_wp2_with fail
        refine (in_a s t).mono ?_
        rintro e w17 ⟨rfl, hb⟩
        replace a := a.below hb
        replace b := b.below hb
        replace c := c.below hb
        replace m := m.below hb
        replace s := s.below hb
        replace d := d.below hb
        replace f := f.below hb
        replace px := px.below hb
        replace py := py.below hb
        replace pz := pz.below hb
        replace t := t.below hb
        replace rl := rl.below hb
        replace rm := rm.below hb
        replace HF := HF.below hb
        replace hold := hold.trans (hb.mono hold.size)
        replace hrest := hrest.trans (hb.mono hrest.size)
        clear hb
        rw [show decide (∀ n ∈ storeL A B C o single, n ∈ storeL A (uni B M) (uni C M) o single) = true from decide_eq_true (store_grows q0 q1 q2 nC.out)]
        clear t
        clear py
        clear pz
        go_wp2_with fail
        refine (exits_any rl (by omega) (fun x hx => Nat.le_trans (nx.out x hx) (by decide))).mono ?_
        rintro e w18 ⟨vr, Xr, rfl, hE, hXr⟩
        have hbE := hE.2.old
        replace a := a.below hbE
        replace b := b.below hbE
        replace c := c.below hbE
        replace m := m.below hbE
        replace s := s.below hbE
        replace d := d.below hbE
        replace f := f.below hbE
        replace px := px.below hbE
        replace rl := rl.below hbE
        replace rm := rm.below hbE
        replace HF := HF.below hbE
        replace hold := hold.trans (hbE.mono hold.size)
        replace hrest := hrest.trans (hbE.mono hrest.size)
        have hER := hE.rowX
        have hES := hE.setsX
        have hXsr := Lib.hid (exits_small hXr (fun x hx => Nat.le_trans (nx.out x hx) (show 300 ≤ 1000 by decide)))
        have hXn : (Xr.map exOf).length ≤ 60 := by rw [exits_len hXr]; exact nl
        replace hXr := Lib.hid hXr
        clear hE hbE
        go_wp2_with fail
        refine (news (call_new px hER hES (by omega) hXsr.out (by omega))).mono ?_
        rintro e w19 ⟨s_u, rfl, N_u⟩
        have hb := N_u.below
        replace a := a.below hb
        replace b := b.below hb
        replace c := c.below hb
        replace m := m.below hb
        replace s := s.below hb
        replace d := d.below hb
        replace f := f.below hb
        replace px := px.below hb
        replace rl := rl.below hb
        replace rm := rm.below hb
        replace HF := HF.below hb
        replace hold := hold.trans (hb.mono hold.size)
        replace hrest := hrest.trans (hb.mono hrest.size)
        clear hb
        have u := N_u.aset
        clear N_u
        clear hER hES hXsr hXn
        go_wp2_with fail
        refine (in_a d u).mono ?_
        rintro e w20 ⟨rfl, hb⟩
        replace a := a.below hb
        replace b := b.below hb
        replace c := c.below hb
        replace m := m.below hb
        replace s := s.below hb
        replace d := d.below hb
        replace f := f.below hb
        replace px := px.below hb
        replace u := u.below hb
        replace rl := rl.below hb
        replace rm := rm.below hb
        replace HF := HF.below hb
        replace hold := hold.trans (hb.mono hold.size)
        replace hrest := hrest.trans (hb.mono hrest.size)
        clear hb
        rw [show decide (∀ n ∈ callL A (Xd.map exOf), n ∈ callL A (Xr.map exOf)) = true from decide_eq_true (call_grows' q0 hXd.out hXr.out)]
        go_wp2_with fail
        go_roundw
        case rel => exact ⟨7, by omega, by omega, by go_num, hbr0.trans (hrest.mono hbr0.size)⟩
        case measure => simp [intOf]
      · skip
        have hrest : Below wr.heap.size wr wr := Below.refl _ _
        have H0 := Hall.init wr
        go_wp2_with fail
        refine (hall_copy_old H0 a (by omega)).mono ?_
        rintro e w11 ⟨s_0, rfl, H1⟩
        change Hall wr w11 [(s_0, A)] _ at H1
        clear H0
        go_wp2_with fail
        refine (hall_copy_old H1 b (by omega)).mono ?_
        rintro e w12 ⟨s_1, rfl, H2⟩
        change Hall wr w12 [(s_0, A), (s_1, B)] _ at H2
        clear H1
        go_wp2_with fail
        refine (hall_copy_old H2 c (by omega)).mono ?_
        rintro e w13 ⟨s_2, rfl, H3⟩
        change Hall wr w13 [(s_0, A), (s_1, B), (s_2, C)] _ at H3
        clear H2
        go_wp2_with fail
        refine (hall_union_old H3 (i := 0) rfl m (by omega)).mono ?_
        rintro e w14 ⟨⟨r0, rfl⟩, H4, -⟩
        change Hall wr w14 [(s_0, uni A M), (s_1, B), (s_2, C)] _ at H4
        clear H3
        go_wp2_with fail
        refine (hall_union_old H4 (i := 1) rfl m (by omega)).mono ?_
        rintro e w15 ⟨⟨r1, rfl⟩, H5, -⟩
        change Hall wr w15 [(s_0, uni A M), (s_1, uni B M), (s_2, C)] _ at H5
        clear H4
        go_wp2_with fail
        refine (hall_union_old H5 (i := 2) rfl m (by omega)).mono ?_
        rintro e w16 ⟨⟨r2, rfl⟩, H6, -⟩
        change Hall wr w16 [(s_0, uni A M), (s_1, uni B M), (s_2, uni C M)] _ at H6
        clear H5
        have hbH := H6.old
        have px := H6.aset (i := 0) rfl
        have py := H6.aset (i := 1) rfl
        have pz := H6.aset (i := 2) rfl
        replace a := a.below hbH
        replace b := b.below hbH
        replace c := c.below hbH
        replace m := m.below hbH
        replace s := s.below hbH
        replace d := d.below hbH
        replace f := f.below hbH
        replace rl := rl.below hbH
        replace rm := rm.below hbH
        replace HF := HF.below hbH
        replace hold := hold.trans (hbH.mono hold.size)
        replace hrest := hrest.trans (hbH.mono hrest.size)
        clear hbH H6
        have l0 := union_le hA hM
        have q0 := sub_uni_left A M
        have l1 := union_le hB hM
        have q1 := sub_uni_left B M
        have l2 := union_le hC hM
        have q2 := sub_uni_left C M
        go_wp2_with fail
        refine (news (store_new px py pz (o := o) (single := single) ho (by omega) (by omega) (by omega))).mono ?_
        rintro e w17 ⟨s_t, rfl, N_t⟩
        have hb := N_t.below
        replace a := a.below hb
        replace b := b.below hb
        replace c := c.below hb
        replace m := m.below hb
        replace s := s.below hb
        replace d := d.below hb
        replace f := f.below hb
        replace px := px.below hb
        replace py := py.below hb
        replace pz := pz.below hb
        replace rl := rl.below hb
        replace rm := rm.below hb
        replace HF := HF.below hb
        replace hold := hold.trans (hb.mono hold.size)
        replace hrest := hrest.trans (hb.mono hrest.size)
        clear hb
        have t := N_t.aset
        clear N_t
        go_wp2_with fail
        refine (in_a s t).mono ?_
        rintro e w18 ⟨rfl, hb⟩
        replace a := a.below hb
        replace b := b.below hb
        replace c := c.below hb
        replace m := m.below hb
        replace s := s.below hb
        replace d := d.below hb
        replace f := f.below hb
        replace px := px.below hb
        replace py := py.below hb
        replace pz := pz.below hb
        replace t := t.below hb
        replace rl := rl.below hb
        replace rm := rm.below hb
        replace HF := HF.below hb
        replace hold := hold.trans (hb.mono hold.size)
        replace hrest := hrest.trans (hb.mono hrest.size)
        clear hb
        rw [show decide (∀ n ∈ storeL A B C o single, n ∈ storeL (uni A M) (uni B M) (uni C M) o single) = true from decide_eq_true (store_grows q0 q1 q2 nC.out)]
        clear t
        clear py
        clear pz
        go_wp2_with fail
        refine (exits_any rl (by omega) (fun x hx => Nat.le_trans (nx.out x hx) (by decide))).mono ?_
        rintro e w19 ⟨vr, Xr, rfl, hE, hXr⟩
        have hbE := hE.2.old
        replace a := a.below hbE
        replace b := b.below hbE
        replace c := c.below hbE
        replace m := m.below hbE
        replace s := s.below hbE
        replace d := d.below hbE
        replace f := f.below hbE
        replace px := px.below hbE
        replace rl := rl.below hbE
        replace rm := rm.below hbE
        replace HF := HF.below hbE
        replace hold := hold.trans (hbE.mono hold.size)
        replace hrest := hrest.trans (hbE.mono hrest.size)
        have hER := hE.rowX
        have hES := hE.setsX
        have hXsr := Lib.hid (exits_small hXr (fun x hx => Nat.le_trans (nx.out x hx) (show 300 ≤ 1000 by decide)))
        have hXn : (Xr.map exOf).length ≤ 60 := by rw [exits_len hXr]; exact nl
        replace hXr := Lib.hid hXr
        clear hE hbE
        go_wp2_with fail
        refine (news (call_new px hER hES (by omega) hXsr.out (by omega))).mono ?_
        rintro e w20 ⟨s_u, rfl, N_u⟩
        have hb := N_u.below
        replace a := a.below hb
        replace b := b.below hb
        replace c := c.below hb
        replace m := m.below hb
        replace s := s.below hb
        replace d := d.below hb
        replace f := f.below hb
        replace px := px.below hb
        replace rl := rl.below hb
        replace rm := rm.below hb
        replace HF := HF.below hb
        replace hold := hold.trans (hb.mono hold.size)
        replace hrest := hrest.trans (hb.mono hrest.size)
        clear hb
        have u := N_u.aset
        clear N_u
        clear hER hES hXsr hXn
        go_wp2_with fail
        refine (in_a d u).mono ?_
        rintro e w21 ⟨rfl, hb⟩
        replace a := a.below hb
        replace b := b.below hb
        replace c := c.below hb
        replace m := m.below hb
        replace s := s.below hb
        replace d := d.below hb
        replace f := f.below hb
        replace px := px.below hb
        replace u := u.below hb
        replace rl := rl.below hb
        replace rm := rm.below hb
        replace HF := HF.below hb
        replace hold := hold.trans (hb.mono hold.size)
        replace hrest := hrest.trans (hb.mono hrest.size)
        clear hb
        rw [show decide (∀ n ∈ callL A (Xd.map exOf), n ∈ callL (uni A M) (Xr.map exOf)) = true from decide_eq_true (call_grows' q0 hXd.out hXr.out)]
        go_wp2_with fail
        go_roundw
        case rel => exact ⟨8, by omega, by omega, by go_num, hbr0.trans (hrest.mono hbr0.size)⟩
        case measure => simp [intOf]
    · have : k = 8 := by omega
      subst this
      go_wp2_with (at_builtin; refine wpList_append_rowL _ rfl _ _ 23 rfl j0 _ Try.underlying23 hj0 hy0 hy1 hy2 rfl rfl _ rfl rl (by omega) ?_)
      intro v5 w20 hown5 hb5
      have hb5s := hb5.size
      go_wp2_with (at_builtin; go_must (refine wpList_append_own_at _ rfl _ _ 23 rfl wr.heap.size 35 j0 _ 2 32 Try.underlying23 hj0 hy0 hy1 hy2 rfl (by decide) _ _ _ rfl (hown5.alloc _) ⟨w20.heap.size, 0, none⟩ 1 1 [.bool (o.tmod 2 == 0), .slice a4 xm.length c4] rfl rfl ?c1 ?c2 ?c3 ?c4 ?c5 ?_))
      case c1 => exact World.news_of_block (cs := #[.bool (o.tmod 2 == 0), .slice a4 xm.length c4]) (t := 35) (fr := (0, 0)) (heap_alloc_new w20 _)
      case c2 => simp [Value.oneCell']
      case c3 => unfold maxLen; omega
      case c4 => omega
      case c5 => have := hb5s; simp; omega
      intro v6 w21 hown6 hgrow6 _ _
      have hb6 : Below wr.heap.size w20 w21 := ((Below.refl _ w20).alloc hb5s (.cells #[.bool (o.tmod 2 == 0), .slice a4 xm.length c4] 35)).trans ((Touch.of_grown hgrow6 (S := fun k => v5.ownBlock = some k) (fun k e => e)).below (by simp; omega) (fun k hk e => by have := (hown5.lt k e).1; omega))
      replace hb5 := hb5.trans hb6
      clear hb6 hgrow6 hown5 hb5s
      replace a := a.below hb5
      replace b := b.below hb5
      replace c := c.below hb5
      replace m := m.below hb5
      replace s := s.below hb5
      replace d := d.below hb5
      replace f := f.below hb5
      replace rl := rl.below hb5
      replace rm := rm.below hb5
      replace HF := HF.below hb5
      replace hold := hold.trans (hb5.mono hold.size)
      clear hb5
      have rz : RowL w21 v6 (ls ++ [(o.tmod 2 == 0, .slice a4 xm.length c4, xm)]) := by
        refine rowL_of_own (by rw [List.flatMap_append]; exact hown6) (by simp) (fun m p l hx => ?_)
        rcases List.mem_append.1 hx with hx | hx
        · exact rl.2 m p l hx
        · simp at hx
          obtain ⟨-, rfl, rfl⟩ := hx
          exact ⟨rm, ym63.out⟩
      obtain ⟨z, hz⟩ : ∃ z : Lx, z = (o.tmod 2 == 0, .slice a4 xm.length c4, xm) := ⟨_, rfl⟩
      rw [← hz] at rz
      have hzl : z.2.2.length ≤ 300 := by rw [hz]; exact nm
      clear hown6 hz
      have nz : ∀ x ∈ ls ++ [z], x.2.2.length ≤ 300 := by
        intro x hx
        rcases List.mem_append.1 hx with hx | hx
        · exact nx.out x hx
        · rw [List.mem_singleton] at hx
          subst hx
          exact hzl
      replace nz := Lib.hid nz
      clear hzl
      go_wp2_with fail
      refine (exits_any rz (by simp; omega) (fun x hx => Nat.le_trans (nz.out x hx) (by decide))).mono ?_
      rintro e w22 ⟨v7, Y, rfl, hE, hY⟩
      have hYn : Y.length = ls.length + 1 := by
        have := congrArg List.length hY
        simpa using this
      have hY1 : ls.length < Y.length := by omega
      have hY2 : Y.length ≤ ls.length + 1 := by omega
      clear hYn
      have hYs := Lib.hid (exits_small hY nz.out)
      have HJ := HF.join hE.2
      have hrow := hE.1
      clear hE rz HF
      replace hY := Lib.hid hY
      obtain ⟨av, cv, rfl⟩ := own_form hrow
      have hkeep : ∀ b, (Value.slice av Y.length cv).ownBlock = some b → ((Value.slice av Y.length cv).ownBlock = some b ∧ w21.heap.size ≤ b) := fun b e => ⟨e, (hrow.lt b e).1⟩
      replace hkeep := Lib.hid hkeep
      rw [show [(s_f, uni A B)] ++ Y.map (·.2) = (s_f, allL (uni A B) (ls.take 0)) :: (turned Y M 0).map (·.2) from by rw [turned_none]; rfl] at HJ
      have hAB : (uni A B).length ≤ 600 := union_le hA hB
      clear a b c m s d f rl rm
      go_wp2_with fail
      go_loopw [27] (fun i wq => ∃ j : Nat, j ≤ ls.length ∧ i = .int .i64 j ∧ wq.ownsRow w21.heap.size 37 2 (.slice av Y.length cv) Y.length (Y.flatMap cellsM) ∧ Hall w7 wq ((s_f, allL (uni A B) (ls.take j)) :: (turned Y M j).map (·.2)) (fun b => (Value.slice av Y.length cv).ownBlock = some b ∧ w21.heap.size ≤ b)) (fun i _ => ls.length - (intOf i).toNat)
      case atStart => exact ⟨0, Nat.zero_le _, rfl, hrow, HJ⟩
      case round =>
        clear hrow HJ hold
        obtain ⟨j, hj, rfl, hrow, HJ⟩ := hrel
        by_cases hlt2 : j < ls.length
        · obtain ⟨⟨my, sy, ly⟩, hyj⟩ : ∃ x, Y[j]? = some x := ⟨_, List.getElem?_eq_getElem (by omega)⟩
          obtain ⟨⟨ml, pl, ll⟩, hlj⟩ : ∃ x, ls[j]? = some x := ⟨_, List.getElem?_eq_getElem hlt2⟩
          have hrx := rowX_of_own (xs := Y.map exOf) (by rw [← cells_MX]; exact hrow) (by simp)
          obtain ⟨b, off, cap, e, hb, c0, c1⟩ := hrx.at (i := j) (m := my) (p := some ⟨sy, 0, none⟩) (l := ly) (by rw [List.getElem?_map, hyj]; rfl)
          simp only [Value.slice.injEq] at e
          obtain ⟨rfl, -, rfl⟩ := e
          have hly : ly.length ≤ 300 := hYs.out (exOf (my, sy, ly)) (List.mem_map.2 ⟨_, List.mem_of_getElem? hyj, rfl⟩)
          have hll : ll.length ≤ 300 := nx.out _ (List.mem_of_getElem? hlj)
          have hst := turned_set (M := M) hyj
          have hat := turned_at (M := M) hyj
          have i1 : (j : Int) < (Y.length : Int) := by omega
          have htk := take_snoc hlj
          replace hst := Lib.hid hst
          replace hat := Lib.hid hat
          replace htk := Lib.hid htk
          replace hyj := Lib.hid hyj
          clear hrx c0
          go_wp2_with fail
          refine (hall_union_old HJ (i := j + 1) (s := sy) (l := ly) (by rw [List.getElem?_cons_succ, List.getElem?_map, hat.out]; rfl) m1 (by omega)).mono ?_
          rintro e w31 ⟨⟨r31, rfl⟩, HK, hkp⟩
          rw [List.set_cons_succ, hst.out] at HK
          replace hrow := own_kept hrow hkp hkeep.out
          clear HJ hkp c1
          obtain ⟨b', off', cap', e, hb', k0, k1⟩ := (rl1.below HK.old).at hlj
          simp only [Value.slice.injEq] at e
          obtain ⟨rfl, -, rfl⟩ := e
          obtain ⟨hp, hp63⟩ := (rl1.below HK.old).2 ml pl ll (List.mem_of_getElem? hlj)
          obtain ⟨pa, pc, rfl⟩ := hp.form
          rw [List.length_map] at k1 hp
          replace hlj := Lib.hid hlj
          clear k0
          go_wp2_with fail
          refine (hall_of HK hp hp63 (by omega)).mono ?_
          rintro e w32 ⟨s32, rfl, HL, hb32, -⟩
          replace hrow := own_below' hrow hb32
          clear HK hp hp63 hb32 k1
          go_wp2_with fail
          have hGl := allL_len hAB (ls.take j) (b := 300) (fun x hx => nx.out x (List.mem_of_mem_take hx))
          have htl : (ls.take j).length ≤ j := List.length_take_le _ _
          have hnl : (numsOf ll).length ≤ 300 := Nat.le_trans (numsOf_len ll) hll
          refine (hall_union HL (i := 0) (j := ((s_f, allL (uni A B) (ls.take j)) :: (turned Y M (j + 1)).map (·.2)).length) rfl (List.getElem?_concat_length) (by simp) (by omega)).mono ?_
          rintro e w33 ⟨rfl, HM, hkp⟩
          replace hrow := own_kept hrow hkp hkeep.out
          rw [List.cons_append, List.set_cons_zero, ← List.cons_append] at HM
          have HN := HM.part
          rw [show uni (allL (uni A B) (ls.take j)) (numsOf ll) = allL (uni A B) (ls.take (j + 1)) from by rw [htk.out, allL_snoc]] at HN
          clear HL HM hkp
          replace hrow := Lib.hid hrow
          replace HN := Lib.hid HN
          clear hGl
          go_wp2_with fail
          go_roundw
          case rel => exact ⟨j + 1, by omega, by go_num, hrow.out, HN.out⟩
          case measure => simp [intOf]; omega
        · have : j = ls.length := by omega
          subst this
          rw [List.take_length] at HJ
          have hold := hold1.trans (HJ.old.mono hold1.size)
          have a := a1.below HJ.old
          have d := d1f.below HJ.old
          have f := HJ.aset (i := 0) rfl
          have hRx : RowX wr (.slice av Y.length cv) ((turned Y M ls.length).map exOf) := rowX_of_own (by rw [← cells_MX, turned_cells]; exact hrow) (by rw [List.length_map, turned_len])
          have hSx := setsX_tail HJ
          have hTs := turned_small (M := M) (j := ls.length) hYs.out hM
          clear hrow HJ
          go_wp2_with fail
          refine (news (call_new a hRx hSx (by omega) (fun x hx => Nat.le_trans (hTs x hx) (by decide)) (by rw [List.length_map, turned_len]; omega))).mono ?_
          rintro e w41 ⟨s_u, rfl, N_u⟩
          have hb := N_u.below
          replace a := a.below hb
          replace d := d.below hb
          replace f := f.below hb
          replace hold := hold.trans (hb.mono hold.size)
          clear hb
          have u := N_u.aset
          clear N_u
          clear hRx hSx hTs
          go_wp2_with fail
          refine (in_a d u).mono ?_
          rintro e w42 ⟨rfl, hb⟩
          replace a := a.below hb
          replace d := d.below hb
          replace f := f.below hb
          replace u := u.below hb
          replace hold := hold.trans (hb.mono hold.size)
          clear hb
          rw [show decide (∀ n ∈ callL A (Xd.map exOf), n ∈ callL A ((turned Y M ls.length).map exOf)) = true from decide_eq_true (last_grows hXd.out hY.out)]
          clear u
          go_wp2_with fail
          refine (in_a d f).mono ?_
          rintro e w43 ⟨rfl, hb⟩
          replace a := a.below hb
          replace d := d.below hb
          replace f := f.below hb
          replace hold := hold.trans (hb.mono hold.size)
          clear hb
          rw [show decide (∀ n ∈ callL A (Xd.map exOf), n ∈ allL (uni A B) ls) = true from decide_eq_true (call_within' (sub_uni_left A B) hXd.out)]
          go_wp2_with fail
          refine (uwakes_any _).mono ?_
          rintro e w44 ⟨rfl, hb⟩
          replace a := a.below hb
          replace d := d.below hb
          replace f := f.below hb
          replace hold := hold.trans (hb.mono hold.size)
          clear hb
          go_wp2_with fail
          go_ret
          exact ⟨rfl, hold⟩
end
end Go.Proofs.Ytdpmpppafkefoaa
