/- dom.Tree, walked. -/
import Derived.Test.YteipncggndefmaaDTreeB
import Derived.Test.YteipncggndefmaaGPostW
namespace Go.Proofs.Yteipncggndefmaa
open Go.RowKit Go.Maps

theorem post_row {L : List (List Int)} {y : Nat} {o : List Nat} (h : PostOf L (y : Int) o) (hy : y < L.length) : Row L y o := by
  obtain ⟨s, hk⟩ := h
  have hr := hk.row (by rw [normL_len]; exact hy)
  exact ⟨hr.nodup, fun x => by rw [hr.mem, way_norm], hr.head, fun i x h0 hx => by
    obtain ⟨j, z, h1, h2, h3⟩ := hr.led i x h0 hx
    exact ⟨j, z, h1, h2, edge_norm.1 h3⟩⟩
theorem post_none {L : List (List Int)} {y : Int} {o : List Nat} (h : PostOf L y o) (hy : ¬ (0 ≤ y ∧ y < L.length)) : o = [] := by
  obtain ⟨s, hk⟩ := h
  have h1 := hk.left.2.1
  have h2 := hk.reached
  rcases List.eq_nil_or_concat o with e | ⟨l, x, e⟩
  · exact e
  · exfalso
    have hx : x ∈ o := by rw [e]; simp
    obtain ⟨f, hf, hw⟩ := (h2 x).1 ((h1 x).1 hx)
    have hl := hw.lt.1
    rw [normL_len] at hl
    have := List.mem_singleton.1 hf
    omega
theorem back_low (L : List (List Int)) (hL : L.length ≤ 100000) : ∀ r ∈ backL L, r.length ≤ 100000 := by
  intro r hr
  have h := back_form L r hr
  rw [backL_len] at h
  have h1 : (r.map Int.toNat).Nodup := by
    rw [List.Nodup, List.pairwise_map]
    refine h.1.imp_of_mem (fun {a b} ha hb hab => ?_)
    have := h.2 a ha
    have := h.2 b hb
    omega
  have h2 := h1.length_le_of_subset (l₂ := List.range L.length) (fun x hx => by
    obtain ⟨z, hz, rfl⟩ := List.mem_map.1 hx
    have := h.2 z hz
    exact List.mem_range.2 (by omega))
  simp at h2
  omega

/-- What Tree tells. -/
def DomTree (L : List (List Int)) (root : Int) (t : List Int) : Prop :=
  (∃ (y : Nat) (o : List Nat) (T : Nat → Nat), root = y ∧ Tree L y o T t) ∨ (¬ (0 ≤ root ∧ root < L.length) ∧ t = List.replicate L.length (-2))
def measW (n : Nat) (o : List Nat) (w : World) (TB : Nat) : Nat := match w.heap[TB]? with
  | some (.cells cs _ _) => (cs.toList.map (fun v => wtI n o (intOf v))).sum
  | _ => 0
theorem meas_eq {w : World} {TB n : Nat} {o : List Nat} {t : List Int} (h : Ints w TB t) : measW n o w TB = measI n o t := by
  unfold measW
  rw [show w.heap[TB]? = _ from h]
  simp only [List.map_map, measI]
  rfl
def chN (v : Value) : Nat := match v with
  | .bool true => 1
  | _ => 0

set_option maxRecDepth 20000 in
set_option maxHeartbeats 4000000 in
theorem tree_any {w : World} {v : Value} {L : List (List Int)} {root : Int} (h : RdG w v L) (hL : L.length ≤ 100000) (hr : ∀ r ∈ L, r.length ≤ 100000) :
    Calls Try.prog 10 #[v, .int .i64 root] w fun e w' => ∃ TB t, e = .returned (.slice (some ⟨TB, 0, none⟩) L.length L.length) ∧ Ints w' TB t ∧ DomTree L root t ∧ t.length = L.length ∧ w.heap.size ≤ TB ∧ Below w.heap.size w w' := by
  obtain ⟨av, c0, rfl⟩ := h.form
  obtain ⟨n, hn⟩ : ∃ n, n = L.length := ⟨_, rfl⟩
  have hPost := Lib.hid (fun (w2 : World) (hb : Below w.heap.size w w2) => post_any (y := root) (h.below hb) hL hr)
  have hBack := Lib.hid (fun (w2 : World) (hb : Below w.heap.size w w2) => back_any (h.below hb) hL hr)
  have hmk := make_intsD n (by omega) w
  rw [← hn] at hPost hBack ⊢
  have hn2 : n ≤ 100000 := by omega
  have hrow := Lib.hid (back_low L hL)
  replace hn := Lib.hid hn
  clear h hL hr
  go_enter Try.func10, Try.ntmps10
  go_wp2_with fail
  have hI0 : Ints (w.alloc (.cells (Array.replicate n (encI 0)) 3)) w.heap.size (List.replicate n 0) := by
    unfold Ints
    rw [at_newD rfl]
    simp
  have hb0 : Below w.heap.size w (w.alloc (.cells (Array.replicate n (encI 0)) 3)) := (Below.refl _ _).alloc (Nat.le_refl _) _
  generalize (w.alloc (.cells (Array.replicate n (encI 0)) 3)) = w1 at hI0 hb0 ⊢
  clear hmk
  go_loopw [6, 21] (fun _ i wr => ∃ k : Nat, k ≤ n ∧ i = .int .i64 k ∧ (∃ t, Ints wr w.heap.size t ∧ t.length = n ∧ ∀ x, x < k → t[x]? = some (-2)) ∧ Below w.heap.size w wr) (fun _ i _ => n - (intOf i).toNat)
  case atStart => exact ⟨0, Nat.zero_le _, rfl, ⟨_, hI0, by simp, fun x h => by omega⟩, hb0⟩
  case round =>
    clear hI0 hb0
    obtain ⟨k, hk, rfl, ⟨t, hI, htl, ht⟩, hb⟩ := hrel
    by_cases hlt : k < n
    · have j1 : decide ((k : Int) < (n : Int)) = true := by simpa using hlt
      have j0 : (k : Int) < (n : Int) := by omega
      have f1 := hI.frozen k
      have c1 := hI.cell (i := k) (List.getElem?_eq_getElem (by omega))
      have hI2 := Lib.hid (hI.set k (-2))
      have hb2 : Hid (Below w.heap.size w (wr.setCell ⟨w.heap.size, k, none⟩ (.int .i64 (-2)))) := Lib.hid (hb.setCell (Nat.le_refl _) _)
      clear hI hb
      go_wp2_with fail
      exact ⟨⟨k + 1, by omega, by go_num, ⟨_, hI2.out, by simpa using htl, fun x hx => by
        by_cases e : x = k
        · subst e; rw [List.getElem?_set_self (by omega)]
        · rw [List.getElem?_set_ne (fun e' => e e'.symm)]; exact ht x (by omega)⟩, hb2.out⟩, by simp [intOf]; omega⟩
    · obtain rfl : k = n := by omega
      have j1 : decide ((k : Int) < (k : Int)) = false := by simp
      obtain rfl : t = List.replicate k (-2) := by
        apply List.ext_getElem?
        intro x
        by_cases hx : x < k
        · rw [ht x hx, List.getElem?_replicate, if_pos hx]
        · rw [List.getElem?_eq_none (by omega), List.getElem?_replicate, if_neg hx]
      have hlt2 := hI.lt
      have hP := Lib.hid (hPost.out wr hb)
      replace hI := Lib.hid hI
      replace hb := Lib.hid hb
      clear ht htl hPost
      go_wp2_with fail
      refine hP.out.mono ?_
      rintro e w2 ⟨lv, o, rfl, hown, hO, hb2⟩
      obtain ⟨ao, co, rfl⟩ := own_form hown
      have hI2 : Ints w2 w.heap.size (List.replicate k (-2)) := (hb2.block _ hlt2).trans hI.out
      have hB2 := hb.out.trans (hb2.mono hb.out.size)
      by_cases hy : 0 ≤ root ∧ root < L.length
      · obtain ⟨y, rfl⟩ : ∃ y : Nat, root = y := ⟨root.toNat, by omega⟩
        have hyn : y < k := by have := hn.out; omega
        have hrw := post_row hO (by omega)
        have ho0 := (List.getElem?_eq_some_iff.1 hrw.head).1
        obtain ⟨g, cg, eg⟩ := row_form hown ho0
        simp only [Value.slice.injEq] at eg
        obtain ⟨rfl, -, rfl⟩ := eg
        have hgl := hown.lt g rfl
        have hsmall := hrw.small
        rw [← hn.out] at hsmall
        have hown' : w2.ownsRow wr.heap.size 3 1 (.slice (some ⟨g, 0, none⟩) o.length co) (o.map fun x : Nat => (x : Int)).length ((o.map fun x : Nat => (x : Int)).map encI) := by
          rw [List.length_map, List.map_map]
          exact hown
        have hRo := strip_rd hown'
        have j1 : (((o.length : Nat) : Int) == 0) = false := by simp only [beq_eq_false_iff_ne]; omega
        have j2 : (y : Int) < (k : Int) := by omega
        have f1 := hI2.frozen y
        have c1 := hI2.cell (i := y) (List.getElem?_eq_getElem (by simpa using hyn))
        have hI3 := hI2.set y (-1)
        have hT3 : Touch w2 (w2.setCell ⟨w.heap.size, y, none⟩ (.int .i64 (-1))) (fun b => b = w.heap.size) := (Touch.refl w2 (fun b => b = w.heap.size)).setCell (a := ⟨w.heap.size, y, none⟩) (fun _ => rfl) _
        have hB3 : Below w.heap.size w (w2.setCell ⟨w.heap.size, y, none⟩ (.int .i64 (-1))) := hB2.setCell (Nat.le_refl _) _
        have hcap : Hid (o.length ≤ co) := by
          rcases hown.2 with ⟨e, _⟩ | ⟨g', cap', cur', e, _, _, h6, _⟩
          · cases e
          · simp only [Value.slice.injEq] at e
            obtain ⟨-, -, rfl⟩ := e
            exact Lib.hid h6
        have hgne : g ≠ w.heap.size := by omega
        have hRo3 := Rd.touch hRo hT3 (fun b hb e => by
          have : g = b := by simpa [Value.ownBlock] using hb
          omega)
        have hgl3 : g < (w2.setCell ⟨w.heap.size, y, none⟩ (.int .i64 (-1))).heap.size := Nat.lt_of_lt_of_le hgl.2 hT3.size
        have hK := Lib.hid (hBack.out _ hB3)
        replace hRo3 := Lib.hid hRo3
        replace hI3 := Lib.hid hI3
        replace hB3 := Lib.hid hB3
        replace hgl3 := Lib.hid hgl3
        replace hrw := Lib.hid hrw
        clear hRo hown hown' hI2 hT3 hB2 hb2 hO hBack
        go_wp2_with fail
        generalize (w2.setCell ⟨w.heap.size, y, none⟩ (.int .i64 (-1))) = w3 at hRo3 hI3 hB3 hgl3 hK ⊢
        refine hK.out.mono ?_
        rintro e w4 ⟨BG, vs, rfl, M4, hb4⟩
        have hI4 : Ints w4 w.heap.size ((List.replicate k (-2)).set y (-1)) := (hb4.block _ hI3.out.lt).trans hI3.out
        have hRo4 := Rd.below hRo3.out hb4
        have hB4 := hB3.out.trans (hb4.mono hB3.out.size)
        have hgl4 := Nat.lt_of_lt_of_le hgl3.out hb4.size
        have hMt := Lib.hid (meeting_any (TB := w.heap.size) hRo4 hn2 hrw.out.nodup (fun x hx => by
          obtain ⟨p, hp, e⟩ := List.getElem_of_mem hx
          rw [hn.out]
          exact hrw.out.lt (p := p) (by rw [List.getElem?_eq_getElem hp, e])) (by omega))
        have hbase := hI3.out.lt
        replace hI4 := Lib.hid hI4
        replace hRo4 := Lib.hid hRo4
        replace hB4 := Lib.hid hB4
        replace M4 := Lib.hid M4
        clear hK hRo3 hI3 hgl3 hb4
        go_wp2_with fail
        refine hMt.out.mono ?_
        rintro e w5 ⟨pb, tb, PB, pl, rfl, hpb, htb, hPB, hpl, l1, l2, l3, hb5⟩
        have hI5 : Ints w5 w.heap.size ((List.replicate k (-2)).set y (-1)) := (hb5.block _ hI4.out.lt).trans hI4.out
        have hW5 : TW w5 pb tb PB w.heap.size g w3.heap.size BG k L o pl vs := by
          have hI4l := hI4.out.lt
          have hRo5 := Rd.below hRo4.out hb5
          refine ⟨hpb, htb, hPB, hpl, M4.out.below hb5, fun p x hp => ?_, Nat.lt_of_lt_of_le hgl4 hb5.size, ⟨by omega, by omega, by omega, hgne⟩, hbase⟩
          obtain ⟨bb, oo, cc, e, -, hc⟩ := Rd.at hRo5 (i := p) (u := .int .i64 (x : Nat)) (by simp [hp, encI])
          simp only [Value.slice.injEq, Option.some.injEq, Addr.mk.injEq] at e
          obtain ⟨⟨rfl, rfl, -⟩, -, -⟩ := e
          rw [Nat.zero_add] at hc
          exact hc
        have hB5 := hB4.out.trans (hb5.mono hB4.out.size)
        obtain ⟨d, hd⟩ := hrw.out.exLed
        have hR5 := Rnd.begin hrw.out hd
        rw [hn.out] at hI5
        replace hI5 := Lib.hid hI5
        replace hW5 := Lib.hid hW5
        replace hB5 := Lib.hid hB5
        replace hR5 := Lib.hid hR5
        clear hMt hI4 hRo4 hB4 M4 hpb htb hPB hpl l1 l2 l3 hb5 hgl4 hbase
        go_wp2_with fail
        go_loopw [10, 12, 13, 15] (fun c _ _ _ wr => ∃ (K : Nat) (T : Nat → Nat) (t : List Int) (ch : Bool), c = .bool ch ∧ Hid (Ints wr w.heap.size t) ∧ Hid (TW wr pb tb PB w.heap.size g w3.heap.size BG k L o pl vs) ∧ Hid (Below w.heap.size w wr) ∧ Hid (ch = true → Rnd L y o d K 1 T t (measI L.length o t) false) ∧ Hid (ch = false → Tree L y o T t)) (fun c _ _ _ wr => 2 * measW L.length o wr w.heap.size + chN c)
        case atStart => exact ⟨1, _, _, true, rfl, hI5, hW5, hB5, Lib.hid (fun _ => hR5.out), Lib.hid (fun h => by cases h)⟩
        case round =>
          clear hI5 hW5 hB5 hR5
          obtain ⟨K, T, t, ch, rfl, hI, hW, hB, hR, hD⟩ := hrel
          cases ch with
          | false =>
            have ht := Lib.hid (hD.out rfl)
            clear hD hR
            go_wp2_with fail
            go_ret
            exact ⟨_, t, rfl, hI.out, .inl ⟨y, o, T, rfl, ht.out⟩, by rw [ht.out.is.len, hn.out], Nat.le_refl _, hB.out⟩
          | true =>
            have hR0 := Lib.hid (hR.out rfl)
            clear hR hD
            have ho1 : (1 : Int) ≤ (o.length : Int) := by omega
            go_upto_block 4 with fail
            refine dtree4 (by kernel_rfl) (w := wr) (K := K) (y := y) (L := L) (o := o) (d := d) (T := T) (pl := pl) (t := t) (vs := vs) (PB := PB) hR0.out hI.out hW.out hn.out hn2 hrow.out (fun h1 => ?_) (Lib.hid ?_)
            · have := hcap.out; rw [if_neg (by omega)]
            intros
            rename_i wx _ _ _ _ _ _ _ _ _ _ _ _ _ _ _ _ _ _ _ _ _ _ _ _ _ _ _ _ _ _ _ _ _ _ _ _ _ _ _ _ _ hx
            obtain ⟨K', T', t', ch', hE10, hR', hI', hW', hB'⟩ := hx
            subst hE10
            have hIm := meas_eq (n := L.length) (o := o) hI.out
            have hIm' := meas_eq (n := L.length) (o := o) hI'
            have hle := hR'.le
            have hlt3 := hR'.lt
            have hRf := Lib.hid (fun (e : ch' = true) => by subst e; exact (hR'.next rfl).1)
            have hDf := Lib.hid (fun (e : ch' = false) => by subst e; exact hR'.done rfl)
            have hm1 : Hid (2 * measW L.length o wx w.heap.size + chN (.bool ch') < 2 * measW L.length o wr w.heap.size + 1) := by
              rw [hIm, hIm']
              cases ch' with
              | true => have := hlt3 rfl; exact Lib.hid (by simp only [chN]; omega)
              | false => exact Lib.hid (by simp only [chN]; omega)
            have hBx := Lib.hid (hB.out.trans hB')
            replace hI' := Lib.hid hI'
            replace hW' := Lib.hid hW'
            clear hR' hB' hR0 hI hW hB hIm hIm' hle hlt3
            go_wp2_with fail
            exact ⟨⟨K', T', t', ch', rfl, hI', hW', hBx, hRf, hDf⟩, hm1.out⟩
      · obtain rfl := post_none hO hy
        have hfin := Lib.hid hI2
        have hB3 := Lib.hid hB2
        replace hy := Lib.hid hy
        clear hI2 hB2 hown hO hb2
        go_wp2_with fail
        go_ret
        refine ⟨_, _, rfl, hfin.out, .inr ⟨hy.out, by rw [← hn.out]⟩, by simp [hn.out], Nat.le_refl _, hB3.out⟩
end Go.Proofs.Yteipncggndefmaa
