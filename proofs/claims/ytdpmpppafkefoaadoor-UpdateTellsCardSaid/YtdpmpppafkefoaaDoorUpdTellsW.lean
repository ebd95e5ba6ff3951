/- UpdateTells: the walk. -/
import Derived.Test.YtdpmpppafkefoaaDoorTellN
namespace Go.Proofs.YtdpmpppafkefoaaDoor
open Go.RowKit Go.Maps

theorem exits_smallN {X : List Mx} {ls : List Lx} (h : X.map (fun x => (x.1, x.2.2)) = ls.map (fun x => (x.1, numsOf x.2.2))) {k : Nat} (nx : ∀ x ∈ ls, x.2.2.length ≤ k) : ∀ x ∈ X.map exOf, x.2.2.length ≤ k := by
  intro x hx
  obtain ⟨y, hy, rfl⟩ := List.mem_map.1 hx
  have h1 : (y.1, y.2.2) ∈ ls.map (fun x => (x.1, numsOf x.2.2)) := h ▸ List.mem_map.2 ⟨y, hy, rfl⟩
  obtain ⟨z, hz, e⟩ := List.mem_map.1 h1
  have h2 : numsOf z.2.2 = y.2.2 := congrArg Prod.snd e
  show y.2.2.length ≤ k
  rw [← h2]
  exact Nat.le_trans (numsOf_len _) (nx z hz)
theorem rs_small {rs ls : List Lx} (h : rs.map (fun x => (x.1, x.2.2)) = ls.map (fun x => (x.1, ofL x.2.2))) {k : Nat} (nx : ∀ x ∈ ls, x.2.2.length ≤ k) : ∀ x ∈ rs, x.2.2.length ≤ k := by
  intro y hy
  have h1 : (y.1, y.2.2) ∈ ls.map (fun x => (x.1, ofL x.2.2)) := h ▸ List.mem_map.2 ⟨y, hy, rfl⟩
  obtain ⟨z, hz, e⟩ := List.mem_map.1 h1
  have h2 : ofL z.2.2 = y.2.2 := congrArg Prod.snd e
  rw [← h2]
  exact Nat.le_trans (ofL_len _) (nx z hz)
theorem rs_63 {rs ls : List Lx} (h : rs.map (fun x => (x.1, x.2.2)) = ls.map (fun x => (x.1, ofL x.2.2))) (nx : ∀ x ∈ ls, ∀ z ∈ x.2.2, z < 9223372036854775808) : ∀ x ∈ rs, ∀ z ∈ x.2.2, z < 9223372036854775808 := by
  intro y hy
  have h1 : (y.1, y.2.2) ∈ ls.map (fun x => (x.1, ofL x.2.2)) := h ▸ List.mem_map.2 ⟨y, hy, rfl⟩
  obtain ⟨z, hz, e⟩ := List.mem_map.1 h1
  have h2 : ofL z.2.2 = y.2.2 := congrArg Prod.snd e
  rw [← h2]
  exact ofL_small (nx z hz)

theorem hall_add' {w0 w : World} {L : List (Nat × List Nat)} {keep : Nat → Prop} {i s : Nat} {l : List Nat} (B : Hall w0 w L keep) (hi : L[i]? = some (s, l)) {x : Int} (hx : x < 9223372036854775808) (hlen : l.length ≤ 1000000) : Calls Tryd.prog 15 #[ptr s, .int .i64 x] w fun e w' => (∃ q, e = .returned (.bool q)) ∧ Hall w0 w' (L.set i (s, plusN l x)) keep ∧ Keeps keep w w' :=
  (hall_add B hi hx hlen).mono fun _ _ ⟨he, h⟩ => ⟨⟨_, he⟩, h⟩

section
variable {w : World} {va vb vc vl : Value} {xa xb xc : List Int} {ls : List Lx} {o : Int} {single : Bool}

set_option maxRecDepth 20000 in
theorem tells_great (ha : RdI w va xa) (hb : RdI w vb xb) (hc : RdI w vc xc) (hl : RowL w vl ls) (h : Great xa xb xc ls) : Calls Tryd.prog 3 #[va, vb, vc, .int .i64 o, .bool single, vl] w fun e w' => e = .returned (.bool true) ∧ Below w.heap.size w w' := by
  have hw := Lib.hid (uwakes_any w)
  have hg := Lib.hid (great_yes ha hb hc hl h)
  obtain ⟨a, c, rfl⟩ := ha.form
  obtain ⟨a', c', rfl⟩ := hb.form
  obtain ⟨a'', c'', rfl⟩ := hc.form
  obtain ⟨a3, c3, rfl⟩ := hl.form
  rw [List.length_map, List.length_map, List.length_map] at hg ⊢
  clear ha hb hc hl h
  go_enter Tryd.func3, Tryd.ntmps3
  go_wp2_with fail
  refine hg.out.mono ?_
  rintro e w' ⟨rfl, hw'⟩
  obtain rfl := hw'.symm
  go_wp2_with fail
  refine hw.out.mono ?_
  rintro e w' ⟨rfl, hb⟩
  go_wp2_with fail
  go_ret
  exact ⟨rfl, hb⟩

set_option maxRecDepth 20000 in
set_option maxHeartbeats 8000000 in
theorem tells_any (G : Gl w) (ha : RdI w va xa) (hb : RdI w vb xb) (hc : RdI w vc xc) (hl : RowL w vl ls) (xa63 : ∀ x ∈ xa, x < 9223372036854775808) (xb63 : ∀ x ∈ xb, x < 9223372036854775808) (xc63 : ∀ x ∈ xc, x < 9223372036854775808)
    (ho : o < 9223372036854775808) (h : ¬ Great xa xb xc ls) : Calls Tryd.prog 3 #[va, vb, vc, .int .i64 o, .bool single, vl] w fun e w' => e = .returned (.bool true) ∧ Below w.heap.size w w' := by
  obtain ⟨i0, hi0, hz0, hz1, hz2⟩ := info_parts infoRX
  obtain ⟨na, nb, nc, nl, nx⟩ := great_not h
  have hg := Lib.hid (great_no' ha hb hc hl h)
  obtain ⟨a, c, rfl⟩ := ha.form
  obtain ⟨a', c', rfl⟩ := hb.form
  obtain ⟨a'', c'', rfl⟩ := hc.form
  obtain ⟨a3, c3, rfl⟩ := hl.form
  rw [List.length_map] at ha hb hc
  rw [List.length_map, List.length_map, List.length_map] at hg ⊢
  clear h
  have hold := Below.refl w.heap.size w
  go_enter Tryd.func3, Tryd.ntmps3
  go_wp2_with fail
  refine hg.out.mono ?_
  rintro e w' ⟨rfl, hw'⟩
  obtain rfl := hw'.symm
  clear hg
  have rb := hb
  have rc := hc
  have rl := hl
  have ra := ha
  clear ha hb hc hl
  replace nx := Lib.hid nx
  go_wp2_with fail
  refine (of_new ra xa63 (by omega)).mono ?_
  rintro e w1 ⟨s_a, rfl, N_a⟩
  have hb := N_a.below
  replace ra := ra.below hb
  replace rb := rb.below hb
  replace rc := rc.below hb
  replace rl := rl.below hb
  replace hold := hold.trans (hb.mono hold.size)
  clear hb
  have a := N_a.aset
  clear N_a
  clear xa63
  have hA : (numsOf xa).length ≤ 300 := Nat.le_trans (numsOf_len xa) na
  have tA := Lib.hid (tells_of xa)
  generalize numsOf xa = A at a hA tA
  go_wp2_with fail
  refine (of_new rb xb63 (by omega)).mono ?_
  rintro e w2 ⟨s_b, rfl, N_b⟩
  have hb := N_b.below
  replace a := a.below hb
  replace ra := ra.below hb
  replace rb := rb.below hb
  replace rc := rc.below hb
  replace rl := rl.below hb
  replace hold := hold.trans (hb.mono hold.size)
  clear hb
  have b := N_b.aset
  clear N_b
  clear xb63
  have hB : (numsOf xb).length ≤ 300 := Nat.le_trans (numsOf_len xb) nb
  have tB := Lib.hid (tells_of xb)
  generalize numsOf xb = B at b hB tB
  go_wp2_with fail
  refine (of_new rc xc63 (by omega)).mono ?_
  rintro e w3 ⟨s_c, rfl, N_c⟩
  have hb := N_c.below
  replace a := a.below hb
  replace b := b.below hb
  replace ra := ra.below hb
  replace rb := rb.below hb
  replace rc := rc.below hb
  replace rl := rl.below hb
  replace hold := hold.trans (hb.mono hold.size)
  clear hb
  have c := N_c.aset
  clear N_c
  clear xc63
  have hC : (numsOf xc).length ≤ 300 := Nat.le_trans (numsOf_len xc) nc
  have tC := Lib.hid (tells_of xc)
  generalize numsOf xc = C at c hC tC
  have nC := Lib.hid c.nodup
  have la := a.lt
  have lb := b.lt
  have a3 := a
  have b3 := b
  have c3x := c
  have ra3 := ra
  have rb3 := rb
  have rc3 := rc
  have rl3 := rl
  have hold3 := hold
  go_wp2_with fail
  refine (news (store_new a b c (o := o) (single := single) ho (by omega) (by omega) (by omega))).mono ?_
  rintro e w4 ⟨s_s, rfl, N_s⟩
  have HS := N_s.hall
  have lows := N_s.low
  have hb := N_s.below
  replace a := a.below hb
  replace b := b.below hb
  replace c := c.below hb
  replace ra := ra.below hb
  replace rb := rb.below hb
  replace rc := rc.below hb
  replace rl := rl.below hb
  replace hold := hold.trans (hb.mono hold.size)
  clear hb
  have s := N_s.aset
  clear N_s
  have tS := Lib.hid (tells_store (o := o) (single := single) tA.out tB.out tC.out nC.out)
  have hS := storeL_len (T := C) (o := o) (single := single) hA hB
  have hSR := storeR_len (xt := ofL xc) (o := o) (single := single) (Nat.le_trans (ofL_len xa) na) (Nat.le_trans (ofL_len xb) nb)
  go_wp2_with fail
  go_loopw [17, 18] (fun bk i wr => ∃ (j : Nat) (v' : Value) (rs : List Lx), j ≤ ls.length ∧ i = .int .i64 j ∧ bk = v' ∧ wr.ownsRow w4.heap.size 34 2 v' rs.length (rs.flatMap cellsL) ∧ Out wr v' rs ∧ rs.map (fun x => (x.1, x.2.2)) = (ls.take j).map (fun x => (x.1, ofL x.2.2)) ∧ Below w4.heap.size w4 wr) (fun _ i _ => ls.length - (intOf i).toNat)
  case atStart => exact ⟨0, _, [], Nat.zero_le _, rfl, rfl, World.ownsRow_nil _ _ _ _, (fun _ _ _ h => by cases h), rfl, Below.refl _ _⟩
  case round =>
    obtain ⟨j, v', rs, hj, rfl, rfl, hrow, hout, hrs, hbr⟩ := hrel
    by_cases hlt : j < ls.length
    · obtain ⟨⟨m, p, l⟩, hxj⟩ : ∃ x, ls[j]? = some x := ⟨_, List.getElem?_eq_getElem hlt⟩
      have rlr := rl.below hbr
      obtain ⟨b, off, cap, e, hbl, d0, d1⟩ := rlr.at hxj
      simp only [Value.slice.injEq] at e
      obtain ⟨rfl, -, rfl⟩ := e
      have hmem := List.mem_of_getElem? hxj
      obtain ⟨hp, hp63⟩ := rlr.2 m p l hmem
      have hpl : l.length ≤ 300 := nx.out _ hmem
      have hrn : rs.length ≤ 60 := by
        have := congrArg List.length hrs
        simp at this
        omega
      obtain ⟨pa, pc, rfl⟩ := hp.form
      rw [List.length_map] at d1 hp
      have hts := Lib.hid (take_snoc hxj)
      replace hrs := Lib.hid hrs
      have hblo : b < w4.heap.size := by
        obtain ⟨b2, off2, cap2, e2, hb2, -⟩ := rl.at hxj
        simp only [Value.slice.injEq, Option.some.injEq, Addr.mk.injEq] at e2
        omega
      have hne : u17.ownBlock ≠ some b := fun e => by have := (hrow.lt b e).1; omega
      clear hxj hmem rlr
      have hc := Lib.hid (rof_any (w := wr.drew) (hp.below (w' := wr.drew) ⟨rfl, rfl, rfl, Nat.le_refl _, fun _ _ => rfl⟩) (by omega))
      have hrz := hbr.size
      have hown1 := hrow
      go_wp2_with fail
      go_region_held3 (fun w' => w'.cell? ⟨b, off + j * 2, none⟩ = some (.bool m) ∧ w'.cell? ⟨b, off + j * 2 + 1, none⟩ = some (.slice pa l.length pc))
        (first
          | go_keep
          | (go_split_ands
             refine ⟨?_, ?_⟩
             · (rw [hgrow.cell_far _ (by simp; omega) (Ne.symm hne)]; assumption)
             · (rw [hgrow.cell_far _ (by simp; omega) (Ne.symm hne)]; assumption)))
        (first
          | (go_at_call 8; refine hc.out.mono ?_; rintro e w1 ⟨pv, rfl, hT, hfr, hb1⟩; have r0 := (hb1.cell (p := ⟨b, off + j * 2, none⟩) hbl).trans d0; have r1 := (hb1.cell (p := ⟨b, off + j * 2 + 1, none⟩) hbl).trans d1; clear hown1; have hown1 := ownsRow_touch hrow.drew (Touch.of_below hb1 (fun _ => False)) (fun _ _ h => h); have hbs : wr.heap.size ≤ w1.heap.size := hb1.size; obtain ⟨pva, pvc, rfl⟩ := own_form hT)
          | (refine step_append_lies _ (by rfl) _ _ _ (by rfl) w4.heap.size 34 i0 _ 2 32 Tryd.underlying29 hi0 hz0 hz1 hz2 rfl (by omega) u17 rs.length _ (by rfl) (hown1.alloc _)
              ⟨w1.heap.size, 0, none⟩ 1 1 [.bool m, .slice pva (ofL l).length pvc] (by rfl) (by rfl) (World.news_of_block (cs := #[.bool m, .slice pva (ofL l).length pvc]) (t := 34) (fr := (0, 0)) (heap_alloc_new w1 _)) (by simp [Value.oneCell'])
              (by omega) (by unfold maxLen; omega) (by omega) (by simp; omega) (w1.heap.size + 1) (by simp) ?_; intro gg cap' w2 hown2 hgrow hat hlt2))
      have hb1' : Below wr.heap.size wr w1 := Below.trans (b := wr.drew) ⟨rfl, rfl, rfl, Nat.le_refl _, fun _ _ => rfl⟩ hb1
      have ho2 := Lib.hid (out_step (m := m) (k := rs.length + 1) (c := cap') hrow hout hb1' hT hfr hgrow hat)
      have hb2 : Below w4.heap.size wr w2 := (hb1'.mono hrz).trans (((Below.refl _ w1).alloc (by omega) _).trans ((Touch.of_grown hgrow (S := fun k => u17.ownBlock = some k) (fun k e => e)).below (by simp; omega) (fun k hk e => by have := (hrow.lt k e).1; omega)))
      have hrow2 : w2.ownsRow w4.heap.size 34 2 (.slice (some ⟨gg, 0, none⟩) (rs.length + 1) cap') (rs ++ [((m, Value.slice pva (ofL l).length pvc, ofL l) : Lx)]).length ((rs ++ [((m, Value.slice pva (ofL l).length pvc, ofL l) : Lx)]).flatMap cellsL) := by
        rw [List.flatMap_append, List.length_append]
        exact hown2
      replace hb2 := Lib.hid (hbr.trans hb2)
      replace hrow2 := Lib.hid hrow2
      clear hrow hout hown1 hown2 hgrow hat d0 d1 r0 r1 hb1 hb1' hT hfr hc hp
      go_wp2_with fail
      go_roundw
      case rel => exact ⟨j + 1, _, _, by omega, by go_num, rfl, hrow2.out, ho2.out, by rw [hts.out, List.map_append, List.map_append, hrs.out]; rfl, hb2.out⟩
      case measure => simp [intOf]; omega
    · have : j = ls.length := by omega
      subst this
      rw [List.take_length] at hrs
      obtain ⟨bv, cvv, rfl⟩ := own_form hrow
      have hn60 : rs.length ≤ 60 := by
        have := congrArg List.length hrs
        simp at this
        omega
      have rr : RowL wr _ rs := rowL_of_own hrow rfl (fun m p l hm => ⟨(hout m p l hm).1, rs_63 hrs (fun x hx => (rl.2 _ _ _ hx).2) _ hm⟩)
      have nrs := Lib.hid (rs_small hrs nx.out)
      replace hrs := Lib.hid hrs
      clear hrow hout
      replace a := a.below hbr
      replace b := b.below hbr
      replace c := c.below hbr
      replace s := s.below hbr
      replace ra := ra.below hbr
      replace rb := rb.below hbr
      replace rc := rc.below hbr
      replace rl := rl.below hbr
      replace HS := HS.below hbr
      replace hold := hold.trans (hbr.mono hold.size)
      clear hbr
      have HS0 := HS
      clear HS
      go_wp2_with fail
      refine (exits_any rl (by omega) (fun x hx => Nat.le_trans (nx.out x hx) (by decide))).mono ?_
      rintro e w11 ⟨vx, X, rfl, hE, hX⟩
      have hbE := hE.2.old
      replace a := a.below hbE
      replace b := b.below hbE
      replace c := c.below hbE
      replace s := s.below hbE
      replace ra := ra.below hbE
      replace rb := rb.below hbE
      replace rc := rc.below hbE
      replace rl := rl.below hbE
      replace rr := rr.below hbE
      replace hold := hold.trans (hbE.mono hold.size)
      have hER := hE.rowX
      have hES := hE.setsX
      have hXs := Lib.hid (exits_smallN hX nx.out)
      have hXn : X.length = ls.length := by
        have := congrArg List.length hX
        simpa using this
      have hX1 : X.length ≤ 60 := by omega
      have hX2 : ls.length ≤ X.length := by omega
      have hX3 : X.length ≤ ls.length := by omega
      clear hXn
      have HJ := HS0.join hE.2
      clear HS0
      have hrow := hE.1
      have hXt := hX
      obtain ⟨av, cv, rfl⟩ := own_form hrow
      have hkeep : ∀ b, (Value.slice av X.length cv).ownBlock = some b → ((Value.slice av X.length cv).ownBlock = some b ∧ wr.heap.size ≤ b) := fun b e => ⟨e, (hrow.lt b e).1⟩
      replace hkeep := Lib.hid hkeep
      have tD := Lib.hid (tells_call tA.out (tellsX_of hX hrs.out))
      replace hX := Lib.hid hX
      clear hE hbE hXt
      have hD := callL_len A (k := 300) hA (X.map exOf) hXs.out
      rw [List.length_map] at hD
      have hDR := callR_len (ofL xa) (k := 300) (Nat.le_trans (ofL_len xa) na) rs nrs.out
      have hoa := ofL_len xa
      have hob := ofL_len xb
      have hoc := ofL_len xc
      go_wp2_with fail
      refine (hall_new HJ (call_new a hER hES (by omega) (fun x hx => Nat.le_trans (hXs.out x hx) (by decide)) (by rw [List.length_map]; omega))).mono ?_
      rintro e w30 ⟨s_d, rfl, HJ2, hb30, lowd⟩
      clear HJ hER hES
      have hw2a := a.lt
      replace a := a.below hb30
      replace b := b.below hb30
      replace c := c.below hb30
      replace s := s.below hb30
      replace ra := ra.below hb30
      replace rb := rb.below hb30
      replace rc := rc.below hb30
      replace rl := rl.below hb30
      replace rr := rr.below hb30
      replace hrow := own_below' hrow hb30
      replace hold := hold.trans (hb30.mono hold.size)
      clear hb30
      have d := HJ2.aset (i := X.length + 1) (s := s_d) (l := callL A (X.map exOf)) (by simp)
      go_wp2_with fail
      refine (list_tells s (G.below hold G.lt) tS.out (by omega)).mono ?_
      rintro e w31 ⟨v_1, rfl, r_1, hb⟩
      replace a := a.below hb
      replace b := b.below hb
      replace c := c.below hb
      replace s := s.below hb
      replace d := d.below hb
      replace ra := ra.below hb
      replace rb := rb.below hb
      replace rc := rc.below hb
      replace rl := rl.below hb
      replace rr := rr.below hb
      replace HJ2 := HJ2.below hb
      replace hrow := own_below' hrow hb
      replace hold := hold.trans (hb.mono hold.size)
      clear hb
      go_wp2_with fail
      refine (rof_any ra (by omega)).mono ?_
      rintro e w32 ⟨v_2, rfl, T_2, -, hb⟩
      replace a := a.below hb
      replace b := b.below hb
      replace c := c.below hb
      replace s := s.below hb
      replace d := d.below hb
      replace ra := ra.below hb
      replace rb := rb.below hb
      replace rc := rc.below hb
      replace rl := rl.below hb
      replace rr := rr.below hb
      replace HJ2 := HJ2.below hb
      replace r_1 := r_1.below hb
      replace hrow := own_below' hrow hb
      replace hold := hold.trans (hb.mono hold.size)
      clear hb
      go_wp2_with fail
      refine (rof_any rb (by omega)).mono ?_
      rintro e w33 ⟨v_3, rfl, T_3, -, hb⟩
      replace a := a.below hb
      replace b := b.below hb
      replace c := c.below hb
      replace s := s.below hb
      replace d := d.below hb
      replace ra := ra.below hb
      replace rb := rb.below hb
      replace rc := rc.below hb
      replace rl := rl.below hb
      replace rr := rr.below hb
      replace HJ2 := HJ2.below hb
      replace r_1 := r_1.below hb
      replace hrow := own_below' hrow hb
      replace T_2 := strip_below T_2 hb
      replace hold := hold.trans (hb.mono hold.size)
      clear hb
      go_wp2_with fail
      refine (rof_any rc (by omega)).mono ?_
      rintro e w34 ⟨v_4, rfl, T_4, -, hb⟩
      replace a := a.below hb
      replace b := b.below hb
      replace c := c.below hb
      replace s := s.below hb
      replace d := d.below hb
      replace ra := ra.below hb
      replace rb := rb.below hb
      replace rc := rc.below hb
      replace rl := rl.below hb
      replace rr := rr.below hb
      replace HJ2 := HJ2.below hb
      replace r_1 := r_1.below hb
      replace hrow := own_below' hrow hb
      replace T_2 := strip_below T_2 hb
      replace T_3 := strip_below T_3 hb
      replace hold := hold.trans (hb.mono hold.size)
      clear hb
      go_wp2_with fail
      refine (rstore_any (o := o) (single := single) T_2 T_3 (strip_rd T_4) (by omega) (by omega) (by omega)).mono ?_
      rintro e w35 ⟨v_5, rfl, r_5, hb⟩
      replace a := a.below hb
      replace b := b.below hb
      replace c := c.below hb
      replace s := s.below hb
      replace d := d.below hb
      replace ra := ra.below hb
      replace rb := rb.below hb
      replace rc := rc.below hb
      replace rl := rl.below hb
      replace rr := rr.below hb
      replace HJ2 := HJ2.below hb
      replace r_1 := r_1.below hb
      replace hrow := own_below' hrow hb
      replace T_2 := strip_below T_2 hb
      replace T_3 := strip_below T_3 hb
      replace T_4 := strip_below T_4 hb
      replace hold := hold.trans (hb.mono hold.size)
      clear hb
      clear T_2
      clear T_3
      clear T_4
      go_wp2_with fail
      refine (same_eq r_1 r_5 (by omega)).mono ?_
      rintro e w36 ⟨rfl, hb⟩
      replace a := a.below hb
      replace b := b.below hb
      replace c := c.below hb
      replace s := s.below hb
      replace d := d.below hb
      replace ra := ra.below hb
      replace rb := rb.below hb
      replace rc := rc.below hb
      replace rl := rl.below hb
      replace rr := rr.below hb
      replace HJ2 := HJ2.below hb
      replace r_1 := r_1.below hb
      replace r_5 := r_5.below hb
      replace hrow := own_below' hrow hb
      replace hold := hold.trans (hb.mono hold.size)
      clear hb
      clear r_1
      clear r_5
      go_wp2_with fail
      refine (list_tells d (G.below hold G.lt) tD.out (by omega)).mono ?_
      rintro e w37 ⟨v_6, rfl, r_6, hb⟩
      replace a := a.below hb
      replace b := b.below hb
      replace c := c.below hb
      replace s := s.below hb
      replace d := d.below hb
      replace ra := ra.below hb
      replace rb := rb.below hb
      replace rc := rc.below hb
      replace rl := rl.below hb
      replace rr := rr.below hb
      replace HJ2 := HJ2.below hb
      replace hrow := own_below' hrow hb
      replace hold := hold.trans (hb.mono hold.size)
      clear hb
      go_wp2_with fail
      refine (rof_any ra (by omega)).mono ?_
      rintro e w38 ⟨v_7, rfl, T_7, -, hb⟩
      replace a := a.below hb
      replace b := b.below hb
      replace c := c.below hb
      replace s := s.below hb
      replace d := d.below hb
      replace ra := ra.below hb
      replace rb := rb.below hb
      replace rc := rc.below hb
      replace rl := rl.below hb
      replace rr := rr.below hb
      replace HJ2 := HJ2.below hb
      replace r_6 := r_6.below hb
      replace hrow := own_below' hrow hb
      replace hold := hold.trans (hb.mono hold.size)
      clear hb
      go_wp2_with fail
      refine (rcall_any (strip_rd T_7) rr (by omega) (fun x hx => Nat.le_trans (nrs.out x hx) (by decide)) hn60).mono ?_
      rintro e w39 ⟨v_8, rfl, r_8, hb⟩
      replace a := a.below hb
      replace b := b.below hb
      replace c := c.below hb
      replace s := s.below hb
      replace d := d.below hb
      replace ra := ra.below hb
      replace rb := rb.below hb
      replace rc := rc.below hb
      replace rl := rl.below hb
      replace rr := rr.below hb
      replace HJ2 := HJ2.below hb
      replace r_6 := r_6.below hb
      replace hrow := own_below' hrow hb
      replace T_7 := strip_below T_7 hb
      replace hold := hold.trans (hb.mono hold.size)
      clear hb
      clear T_7
      go_wp2_with fail
      refine (same_eq r_6 r_8 (by omega)).mono ?_
      rintro e w40 ⟨rfl, hb⟩
      replace a := a.below hb
      replace b := b.below hb
      replace c := c.below hb
      replace s := s.below hb
      replace d := d.below hb
      replace ra := ra.below hb
      replace rb := rb.below hb
      replace rc := rc.below hb
      replace rl := rl.below hb
      replace rr := rr.below hb
      replace HJ2 := HJ2.below hb
      replace r_6 := r_6.below hb
      replace r_8 := r_8.below hb
      replace hrow := own_below' hrow hb
      replace hold := hold.trans (hb.mono hold.size)
      clear hb
      clear r_6
      clear r_8
      have e1 := eq_sets s a (by omega)
      have e2 := eq_sets s b (by omega)
      have e3 := eq_sets d a (by omega)
      go_wp2_with fail
      refine (hall_add' HJ2 (i := 0) rfl (x := 1125899906842624) (by decide) (by omega)).mono ?_
      rintro e w50 ⟨⟨q1, rfl⟩, HJ3, hkp⟩
      change Hall w3 w50 ((s_s, plusN (storeL A B C o single) 1125899906842624) :: (X.map (·.2) ++ [(s_d, callL A (X.map exOf))])) _ at HJ3
      replace hrow := own_kept hrow hkp hkeep.out
      clear HJ2 hkp e1 e2 e3
      go_wp2_with fail
      refine (hall_add' HJ3 (i := X.length + 1) (s := s_d) (l := callL A (X.map exOf)) (by simp) (x := 2251799813685248) (by decide) (by omega)).mono ?_
      rintro e w51 ⟨⟨q2, rfl⟩, HJ4, hkp⟩
      rw [List.set_cons_succ, List.set_append_right _ _ (by simp), List.length_map, Nat.sub_self, List.set_cons_zero, ← List.cons_append] at HJ4
      have HK := HJ4.part
      replace hrow := own_kept hrow hkp hkeep.out
      clear HJ3 HJ4 hkp
      have hold := hold3.trans (HK.old.mono hold3.size)
      clear a b c s d ra rb rc rl rr
      have a := a3.below HK.old
      have b := b3.below HK.old
      have c := c3x.below HK.old
      have ra := ra3.below HK.old
      have rb := rb3.below HK.old
      have rc := rc3.below HK.old
      have rl := rl3.below HK.old
      go_wp2_with fail
      go_loopw [21] (fun i wr => ∃ j : Nat, j ≤ X.length ∧ i = .int .i64 j ∧ Below w51.heap.size w51 wr) (fun i _ => X.length - (intOf i).toNat)
      case atStart => exact ⟨0, Nat.zero_le _, rfl, Below.refl _ _⟩
      case round =>
        obtain ⟨j, hj, rfl, hbr⟩ := hrel
        have hbr0 := hbr
        replace a := a.below hbr
        replace b := b.below hbr
        replace c := c.below hbr
        replace ra := ra.below hbr
        replace rb := rb.below hbr
        replace rc := rc.below hbr
        replace rl := rl.below hbr
        replace HK := HK.below hbr
        replace hrow := own_below' hrow hbr
        replace hold := hold.trans (hbr.mono hold.size)
        clear hbr
        by_cases hlt : j < X.length
        · obtain ⟨⟨mx, sx, lx⟩, hxj⟩ : ∃ x, X[j]? = some x := ⟨_, List.getElem?_eq_getElem hlt⟩
          obtain ⟨⟨ml, pl, ll⟩, hlj⟩ : ∃ x, ls[j]? = some x := ⟨_, List.getElem?_eq_getElem (by omega)⟩
          have hlx : lx = numsOf ll := by
            have h1 : (X.map (fun x => (x.1, x.2.2)))[j]? = (ls.map (fun x => (x.1, numsOf x.2.2)))[j]? := by rw [hX.out]
            rw [List.getElem?_map, List.getElem?_map, hxj, hlj] at h1
            simp at h1
            exact h1.2
          subst hlx
          have hset := HK.aset (i := j + 1) (s := sx) (l := numsOf ll) (by rw [List.getElem?_cons_succ, List.getElem?_map, hxj]; rfl)
          have hrx := rowX_of_own (xs := X.map exOf) (by rw [← cells_MX]; exact hrow) (by simp)
          obtain ⟨bx, ofx, cpx, e, hbx, -, c1⟩ := hrx.at (i := j) (m := mx) (p := some ⟨sx, 0, none⟩) (l := numsOf ll) (by rw [List.getElem?_map, hxj]; rfl)
          simp only [Value.slice.injEq] at e
          obtain ⟨rfl, -, rfl⟩ := e
          obtain ⟨bl, ofl, cpl, e, hbl, -, d1⟩ := rl.at hlj
          simp only [Value.slice.injEq] at e
          obtain ⟨rfl, -, rfl⟩ := e
          obtain ⟨hp, hp63⟩ := rl.2 ml pl ll (List.mem_of_getElem? hlj)
          have hll : ll.length ≤ 300 := nx.out _ (List.mem_of_getElem? hlj)
          obtain ⟨pa, pc, rfl⟩ := hp.form
          rw [List.length_map] at d1 hp
          have i1 : (j : Int) < (X.length : Int) := by omega
          have i2 : (j : Int) < (ls.length : Int) := by omega
          have hnl : (numsOf ll).length ≤ 300 := Nat.le_trans (numsOf_len ll) hll
          have hol := Nat.le_trans (ofL_len ll) hll
          have hdr : Below wr.heap.size wr wr.drew := ⟨rfl, rfl, rfl, Nat.le_refl _, fun _ _ => rfl⟩
          have hL := Lib.hid (list_tells (w := wr.drew) (hset.below hdr) (G.below (hold.trans (hdr.mono hold.size)) G.lt) (tells_of ll) (by omega))
          have hpd := hp.below hdr
          replace hdr := Lib.hid hdr
          clear hrx hxj hlj hset hp
          go_wp2_with fail
          go_region_held3 (fun w' => w'.cell? ⟨bx, ofx + j * 2 + 1, none⟩ = some (ptr sx) ∧ w'.cell? ⟨bl, ofl + j * 2 + 1, none⟩ = some (.slice pa ll.length pc)) (go_keep)
            (first
              | (go_at_call 12; refine hL.out.mono ?_; rintro e w71 ⟨v71, rfl, r71, hb71⟩; have r0 := (hb71.cell (p := ⟨bx, ofx + j * 2 + 1, none⟩) hbx).trans c1; have r1 := (hb71.cell (p := ⟨bl, ofl + j * 2 + 1, none⟩) hbl).trans d1; have hp71 := hpd.below hb71; have hz71 : wr.heap.size ≤ w71.heap.size := hb71.size)
              | (go_at_call 8; refine (rof_any hp71 (by omega)).mono ?_; rintro e w72 ⟨v72, rfl, T72, -, hb72⟩; have q0 := (hb72.cell (p := ⟨bx, ofx + j * 2 + 1, none⟩) (Nat.lt_of_lt_of_le hbx hz71)).trans r0; have q1 := (hb72.cell (p := ⟨bl, ofl + j * 2 + 1, none⟩) (Nat.lt_of_lt_of_le hbl hz71)).trans r1; have r72 := r71.below hb72)
              | (go_at_call 11; refine (same_eq r72 (strip_rd T72) (by omega)).mono ?_; rintro e w73 ⟨rfl, hb73⟩; have p0 := (hb73.cell (p := ⟨bx, ofx + j * 2 + 1, none⟩) (Nat.lt_of_lt_of_le (Nat.lt_of_lt_of_le hbx hz71) hb72.size)).trans q0; have p1 := (hb73.cell (p := ⟨bl, ofl + j * 2 + 1, none⟩) (Nat.lt_of_lt_of_le (Nat.lt_of_lt_of_le hbl hz71) hb72.size)).trans q1))
          have hb9 : Below wr.heap.size wr w73 := (hdr.out.trans hb71).trans ((hb72.mono hz71).trans (hb73.mono (Nat.le_trans hz71 hb72.size)))
          replace hb9 := Lib.hid (hbr0.trans (hb9.mono hbr0.size))
          clear hb71 hb72 hb73 c1 d1 r0 r1 q0 q1 p0 p1 hL hpd hp71 r71 T72 r72
          go_wp2_with fail
          go_roundw
          case rel => exact ⟨j + 1, by omega, by go_num, hb9.out⟩
          case measure => simp [intOf]; omega
        · have : j = X.length := by omega
          subst this
          clear rl HK hrow
          go_wp2_with fail
          refine (list_tells a (G.below hold G.lt) tA.out (by omega)).mono ?_
          rintro e w81 ⟨v_1, rfl, r_1, hb⟩
          replace a := a.below hb
          replace b := b.below hb
          replace c := c.below hb
          replace ra := ra.below hb
          replace rb := rb.below hb
          replace rc := rc.below hb
          replace hold := hold.trans (hb.mono hold.size)
          clear hb
          go_wp2_with fail
          refine (rof_any ra (by omega)).mono ?_
          rintro e w82 ⟨v_2, rfl, T_2, -, hb⟩
          replace a := a.below hb
          replace b := b.below hb
          replace c := c.below hb
          replace ra := ra.below hb
          replace rb := rb.below hb
          replace rc := rc.below hb
          replace r_1 := r_1.below hb
          replace hold := hold.trans (hb.mono hold.size)
          clear hb
          go_wp2_with fail
          refine (same_eq r_1 (strip_rd T_2) (by omega)).mono ?_
          rintro e w83 ⟨rfl, hb⟩
          replace a := a.below hb
          replace b := b.below hb
          replace c := c.below hb
          replace ra := ra.below hb
          replace rb := rb.below hb
          replace rc := rc.below hb
          replace r_1 := r_1.below hb
          replace T_2 := strip_below T_2 hb
          replace hold := hold.trans (hb.mono hold.size)
          clear hb
          clear r_1
          clear T_2
          go_wp2_with fail
          refine (list_tells b (G.below hold G.lt) tB.out (by omega)).mono ?_
          rintro e w84 ⟨v_1, rfl, r_1, hb⟩
          replace a := a.below hb
          replace b := b.below hb
          replace c := c.below hb
          replace ra := ra.below hb
          replace rb := rb.below hb
          replace rc := rc.below hb
          replace hold := hold.trans (hb.mono hold.size)
          clear hb
          go_wp2_with fail
          refine (rof_any rb (by omega)).mono ?_
          rintro e w85 ⟨v_2, rfl, T_2, -, hb⟩
          replace a := a.below hb
          replace b := b.below hb
          replace c := c.below hb
          replace ra := ra.below hb
          replace rb := rb.below hb
          replace rc := rc.below hb
          replace r_1 := r_1.below hb
          replace hold := hold.trans (hb.mono hold.size)
          clear hb
          go_wp2_with fail
          refine (same_eq r_1 (strip_rd T_2) (by omega)).mono ?_
          rintro e w86 ⟨rfl, hb⟩
          replace a := a.below hb
          replace b := b.below hb
          replace c := c.below hb
          replace ra := ra.below hb
          replace rb := rb.below hb
          replace rc := rc.below hb
          replace r_1 := r_1.below hb
          replace T_2 := strip_below T_2 hb
          replace hold := hold.trans (hb.mono hold.size)
          clear hb
          clear r_1
          clear T_2
          go_wp2_with fail
          refine (list_tells c (G.below hold G.lt) tC.out (by omega)).mono ?_
          rintro e w87 ⟨v_1, rfl, r_1, hb⟩
          replace a := a.below hb
          replace b := b.below hb
          replace c := c.below hb
          replace ra := ra.below hb
          replace rb := rb.below hb
          replace rc := rc.below hb
          replace hold := hold.trans (hb.mono hold.size)
          clear hb
          go_wp2_with fail
          refine (rof_any rc (by omega)).mono ?_
          rintro e w88 ⟨v_2, rfl, T_2, -, hb⟩
          replace a := a.below hb
          replace b := b.below hb
          replace c := c.below hb
          replace ra := ra.below hb
          replace rb := rb.below hb
          replace rc := rc.below hb
          replace r_1 := r_1.below hb
          replace hold := hold.trans (hb.mono hold.size)
          clear hb
          go_wp2_with fail
          refine (same_eq r_1 (strip_rd T_2) (by omega)).mono ?_
          rintro e w89 ⟨rfl, hb⟩
          replace a := a.below hb
          replace b := b.below hb
          replace c := c.below hb
          replace ra := ra.below hb
          replace rb := rb.below hb
          replace rc := rc.below hb
          replace r_1 := r_1.below hb
          replace T_2 := strip_below T_2 hb
          replace hold := hold.trans (hb.mono hold.size)
          clear hb
          clear r_1
          clear T_2
          go_wp2_with fail
          refine (uwakes_any _).mono ?_
          rintro e w90 ⟨rfl, hb⟩
          replace a := a.below hb
          replace b := b.below hb
          replace c := c.below hb
          replace ra := ra.below hb
          replace rb := rb.below hb
          replace rc := rc.below hb
          replace hold := hold.trans (hb.mono hold.size)
          clear hb
          go_wp2_with fail
          go_ret
          exact ⟨rfl, hold⟩
end
end Go.Proofs.YtdpmpppafkefoaaDoor
