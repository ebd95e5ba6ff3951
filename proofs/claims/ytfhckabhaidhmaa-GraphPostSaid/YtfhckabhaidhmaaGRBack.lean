/- The document's own graph that is turned round. -/
import Derived.Test.YtfhckabhaidhmaaGRWalk
namespace Go.Proofs.Ytfhckabhaidhmaa
open Go.RowKit Go.Maps Go.Shelf

set_option maxRecDepth 20000 in
set_option maxHeartbeats 4000000 in
theorem rback_any {w : World} {v : Value} {L : List (List Int)} (h : RdG w v L) (hL : L.length ≤ 50000) (hr : ∀ r ∈ L, r.length ≤ 100000) : Calls Try.prog 16 #[v] w fun e w' => ∃ G vs, e = .returned (.slice (some ⟨G, 0, none⟩) L.length L.length) ∧ Mat w' w.heap.size G vs (backL L) ∧ Below w.heap.size w w' := by
  obtain ⟨av, cap, rfl⟩ := h.form
  obtain ⟨i0, hi0, hz0, hz1, hz2⟩ := info_parts infoI1
  have hmk := Lib.hid (fun w' => make_rows L.length (by omega) w')
  have hN := Lib.hid (rnorm_any h (by omega) hr)
  have hnr := norm_rise L
  have hnl := norm_low L
  have hnf := norm_form L
  have hlens : ∀ r ∈ normL L, r.length ≤ 100000 := by
    intro r hr'
    obtain ⟨s, hs, rfl⟩ := List.mem_map.1 hr'
    exact Nat.le_trans (rowL_len _ _) (hr s hs)
  have hlow := Lib.hid (Low.back hlens)
  replace hlens := Lib.hid hlens
  replace hnf := Lib.hid hnf
  clear hr hnr hnl
  go_enter Try.func16, Try.ntmps16
  go_wp2_with fail
  refine hN.out.mono ?_
  rintro e wn ⟨vn, rfl, hX0, hbn⟩
  obtain ⟨N, hNe⟩ : ∃ N, Hid (normL L = N) := ⟨_, Lib.hid rfl⟩
  have hNl : N.length = L.length := by rw [← hNe.out, normL_len]
  rw [hNe.out] at hX0 hlens hlow hnf
  have hfm := hX0.rd.form
  rw [hNl] at hfm
  obtain ⟨an, cn, rfl⟩ := hfm
  have hmk1 := hmk.out wn
  have hF0 := Lib.hid (fill_new (w := wn) (n := L.length))
  go_wp2_with fail
  clear hmk1
  obtain ⟨w1, hw1⟩ : ∃ w1, Hid (wn.alloc (.cells (Array.replicate L.length (Value.slice none 0 0)) 28) = w1) := ⟨_, Lib.hid rfl⟩
  have hb1 : Below wn.heap.size wn w1 := by rw [← hw1.out]; exact (Below.refl _ _).alloc (Nat.le_refl _) _
  have hb2 : Below w.heap.size w w1 := hbn.trans (hb1.mono hbn.size)
  obtain ⟨G, hG⟩ : ∃ G, G = wn.heap.size := ⟨_, rfl⟩
  have hX : RdX (fun b => b = G) w1 (.slice an L.length cn) N := by
    have hold := hX0.rd.off (U := fun b => b = G) (fun b e => by rw [e, hG]; exact Nat.le_refl _)
    exact RdX.below hold hb1
  have hbG : w.heap.size ≤ G := by rw [hG]; exact hbn.size
  have hF1 : Fill w1 w1 w.heap.size G (List.replicate L.length (Value.slice none 0 0)) (backTo N 0) := by
    have h1 := hF0.out
    rw [hw1.out, ← hG] at h1
    obtain ⟨M, fr, T⟩ := h1
    refine ⟨?_, fr, T⟩
    rw [backTo, hNl]
    exact ⟨M.len, M.blk, hbG, fun i u l hu hl => own_mono (M.row i u l hu hl) (by rw [hG]; exact hbn.size), M.notG, M.apart⟩
  rw [hw1.out, ← hG]
  clear hF0 hN hb1 hbn hX0 hw1 hmk h
  replace hF1 := Lib.hid hF1
  replace hG := Lib.hid hG
  obtain ⟨n, hn⟩ : ∃ n, n = L.length := ⟨_, rfl⟩
  rw [← hn] at hNl hX hL hF1 ⊢
  replace hn := Lib.hid hn
  go_loopw [4, 5] (fun i _ wr => BackOut w w1 wr G N i) (fun i _ _ => n - (intOf i).toNat)
  case atStart => exact ⟨0, _, Nat.zero_le _, rfl, hF1.out⟩
  case round =>
    obtain ⟨k, vs, hk, rfl, hF⟩ := hrel
    by_cases hlt : k < n
    · obtain ⟨r, hrk⟩ : ∃ r, N[k]? = some r := ⟨_, List.getElem?_eq_getElem (by omega)⟩
      have hrl : r.length ≤ 100000 := hlens.out r (List.mem_of_getElem? hrk)
      have hrf := hnf.out r (List.mem_of_getElem? hrk)
      obtain ⟨b, off, cap', u, e, hbl, hbG2, hcell1, hrd1, hoff⟩ := hX.at hrk
      rw [hNl] at e
      simp only [Value.slice.injEq] at e
      obtain ⟨rfl, -, rfl⟩ := e
      obtain ⟨ar, cr, rfl⟩ := hrd1.shape
      have i1 : (k : Int) < (n : Int) := by omega
      replace hrf := Lib.hid hrf
      replace hrd1 := Lib.hid hrd1
      go_wp2_with fail
      go_loopw [5] (fun j wx => BackIn w w1 wx G k N r j) (fun j _ => r.length - (intOf j).toNat)
      case atStart => exact ⟨0, vs, Nat.zero_le _, rfl, hF⟩
      case round =>
        clear hF
        obtain ⟨m, vs1, hm, rfl, hF⟩ := hrel
        have hcell := (cell_off hF.T hbl hbG2).trans hcell1
        by_cases hltm : m < r.length
        · obtain ⟨x, hx⟩ : ∃ x, r[m]? = some x := ⟨_, List.getElem?_eq_getElem hltm⟩
          obtain ⟨hx0, hxn⟩ := hrf.out.2 x (List.mem_of_getElem? hx)
          obtain ⟨y, rfl⟩ : ∃ y : Nat, x = y := ⟨x.toNat, by omega⟩
          obtain ⟨b2, off2, cap2, e2, hc2⟩ := RdI.cell (Rd.off hrd1.out hF.T (by rw [List.length_map]; exact hoff)) hx
          obtain ⟨b2', off2', cap2', e2', hb2l⟩ := Rd.lt hrd1.out (by rw [List.length_map]; omega)
          simp only [Value.slice.injEq] at e2 e2'
          obtain ⟨rfl, -, rfl⟩ := e2
          obtain ⟨e3, -, -⟩ := e2'
          simp only [Option.some.injEq, Addr.mk.injEq] at e3
          obtain ⟨rfl, -, -⟩ := e3
          have i2 : (m : Int) < (r.length : Int) := by omega
          have hyn : y < n := by rw [hNl] at hxn; omega
          have i3 : (y : Int) < (n : Int) := by omega
          obtain ⟨F, hFy⟩ : ∃ F, (pushRow (backTo N k) k (r.take m))[y]? = some F := ⟨_, List.getElem?_eq_getElem (by rw [pushRow_len, backTo_len]; omega)⟩
          have hfl : F.length ≤ k * 100000 + 100000 := by
            have := (Low.row (i := k) (r := r.take m) (hlow.out k)) F (List.mem_of_getElem? hFy)
            rw [List.length_take] at this
            omega
          have hfl2 : k * 100000 ≤ 10000000000 := by omega
          obtain ⟨u1, hu1, hrow⟩ := hF.M.at hFy
          have hgc := hF.M.cell hu1
          have htk := Lib.hid (take_snoc hx)
          have hle := Nat.le_trans hb2.size hF.T.size
          have hrow' := hrow
          have hfr := hF.fresh y u1
          have hne1 : u1.ownBlock ≠ some b := fun e => by have := hfr b hu1 e; omega
          have hne2 : u1.ownBlock ≠ some b2 := fun e => by have := hfr b2 hu1 e; omega
          have hne3 : u1.ownBlock ≠ some G := hF.M.notG y u1 hu1
          have hGl := hF.M.lt
          have hble : b < wr.heap.size := Nat.lt_of_lt_of_le hbl hF.T.size
          have hb2le : b2 < wr.heap.size := Nat.lt_of_lt_of_le hb2l hF.T.size
          obtain ⟨au, cu, rfl⟩ := own_form hrow
          have hk1 : ∀ o, (wr.alloc o).drew.cell? ⟨b, off + k, none⟩ = some (.slice (some ⟨b2, off2, none⟩) r.length cr) := fun o => (World.cell?_alloc_past _ _ _ hble).trans hcell
          have hk2 : ∀ o, (wr.alloc o).drew.cell? ⟨b2, off2 + m, none⟩ = some (.int .i64 y) := fun o => (World.cell?_alloc_past _ _ _ hb2le).trans hc2
          have hk3 : ∀ o, (wr.alloc o).drew.cell? ⟨G, y, none⟩ = some (.slice au F.length cu) := fun o => (World.cell?_alloc_past _ _ _ hGl).trans hgc
          have hfz : ∀ o, (wr.alloc o).drew.frozen? ⟨G, y, none⟩ = false := fun o => (World.frozen?_alloc_past _ _ _ hGl).trans (hF.M.free y)
          replace htk := Lib.hid htk.out
          replace hFy := Lib.hid hFy
          replace hu1 := Lib.hid hu1
          replace hF := Lib.hid hF
          have hnext : Hid (∀ (gg cap' : Nat) (w3 : World), w3.ownsRow w.heap.size 3 1 (.slice (some ⟨gg, 0, none⟩) (F.length + 1) cap') (F.length + 1) (F.map encI ++ [.int .i64 k]) → (wr.alloc (.cells #[.int .i64 k] 3)).grownBy w3 (Value.slice au F.length cu).ownBlock →
              ((Value.slice au F.length cu).ownBlock = some gg ∨ gg = wr.heap.size + 1) → Hid (BackIn w w1 (w3.setCell ⟨G, y, none⟩ (.slice (some ⟨gg, 0, none⟩) (F.length + 1) cap')) G k N r (.int .i64 ((m : Int) + 1)))) := Lib.hid (fun gg cap' w3 hown2 hg' hat => by
            obtain ⟨-, -, -, hF2⟩ := hF.out.appended hu1.out hFy.out hown2 hg' (by rcases hat with e | e; exact .inl e.symm; exact .inr (by rw [e]; rfl))
            refine Lib.hid ⟨m + 1, vs1.set y (.slice (some ⟨gg, 0, none⟩) (F.length + 1) cap'), by omega, by go_num, ?_⟩
            rw [htk.out, pushRow_snoc]
            unfold push
            rw [Int.toNat_natCast, hFy.out, Option.getD_some]
            exact hF2)
          clear hfr hx hrow'
          go_wp2_with fail
          go_region_law
            (refine step_append_lies _ (by rfl) _ _ _ (by rfl) w.heap.size 3 i0 _ 1 8 Try.underlying28 hi0 hz0 hz1 hz2 rfl (by omega) (.slice au F.length cu) F.length _ (by rfl) ((hrow.alloc _).drew)                 ⟨wr.heap.size, 0, none⟩ 1 1 [.int .i64 k] (by rfl) (by rfl) (World.news_of_block (cs := #[.int .i64 k]) (t := 3) (fr := (0, 0)) (heap_alloc_new wr _)) (by simp [Value.oneCell'])                 (by omega) (by unfold maxLen; omega) (by omega) (by simp; omega) (wr.heap.size + 1) (by simp) ?_
             intro gg cap' w3 hown2 hgrow hat hlt2
             have u4 : w3.frozen? ⟨G, y, none⟩ = false := (hgrow.frozen_far ⟨G, y, none⟩ (by simp; omega) (Ne.symm hne3)).trans (hfz _)
             have u1 : w3.cell? ⟨b, off + k, none⟩ = some (.slice (some ⟨b2, off2, none⟩) r.length cr) := (hgrow.cell_far ⟨b, off + k, none⟩ (by simp; omega) (Ne.symm hne1)).trans (hk1 _)
             have u2 : w3.cell? ⟨b2, off2 + m, none⟩ = some (.int .i64 y) := (hgrow.cell_far ⟨b2, off2 + m, none⟩ (by simp; omega) (Ne.symm hne2)).trans (hk2 _)
             have u3 : w3.cell? ⟨G, y, none⟩ = some (.slice au F.length cu) := (hgrow.cell_far ⟨G, y, none⟩ (by simp; omega) (Ne.symm hne3)).trans (hk3 _)
             have hg' : (wr.alloc (.cells #[.int .i64 k] 3)).grownBy w3 (Value.slice au F.length cu).ownBlock := ⟨hgrow.os, hgrow.tape, hgrow.output, hgrow.size, hgrow.block⟩
             have hfin := hnext.out gg cap' w3 hown2 hg' hat)
          all_goals
            go_wp2_with fail
            exact ⟨hfin.out, by simp [intOf]; omega⟩
        · obtain rfl : m = r.length := by omega
          rw [List.take_length] at hF
          have i2 : decide ((r.length : Int) < (r.length : Int)) = false := by simp
          replace hF := Lib.hid hF
          go_wp2_with fail
          refine ⟨⟨k + 1, vs1, by omega, by go_num, ?_⟩, by simp [intOf]; omega⟩
          rw [backTo, hrk, Option.getD_some]
          exact hF.out
    · obtain rfl : k = n := by omega
      have i1 : decide ((k : Int) < (k : Int)) = false := by simp
      have hfin : Hid (Mat wr w.heap.size G vs (backL L)) := by
        have := hF.M
        rw [← hNe.out] at this
        unfold backL
        rw [← hn.out]
        exact Lib.hid this
      have hb3 : Below w.heap.size w wr := hb2.trans (hF.T.below hb2.size (fun b hb e => by omega))
      clear hF
      go_wp2_with fail
      go_ret
      exact ⟨G, vs, by rw [← hn.out]; rfl, hfin.out, hb3⟩
end Go.Proofs.Ytfhckabhaidhmaa
