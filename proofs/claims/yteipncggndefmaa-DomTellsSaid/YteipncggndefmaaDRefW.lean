/- The document's Frontier, walked; the law DomTells. -/
import Derived.Test.YteipncggndefmaaDRefA
import Derived.Test.YteipncggndefmaaDRefT
namespace Go.Proofs.Yteipncggndefmaa
open Go.RowKit Go.Maps Go.Shelf

set_option maxRecDepth 20000 in
set_option maxHeartbeats 4000000 in
theorem rfront_any {w : World} {v : Value} {L : List (List Int)} {root : Int} (h : RdG w v L) (hL : L.length ≤ 100000) (hr : ∀ r ∈ L, r.length ≤ 100000) :
    Calls Try.prog 17 #[v, .int .i64 root] w fun e w' => ∃ v' B, e = .returned v' ∧ RdG w' v' B ∧ FrontOf L (rootN L root) B ∧ Below w.heap.size w w' := by
  obtain ⟨ag, cg, rfl⟩ := h.form
  obtain ⟨n, hn⟩ : ∃ n, n = L.length := ⟨_, rfl⟩
  have hNo := Lib.hid (rnorm_any h hL hr)
  have hDo := Lib.hid (fun (w2 : World) (hb : Below w.heap.size w w2) (a b : Nat) (q : Bool) (ha : a < L.length) (hq : q = true ↔ Dmn L (rootN L root) a b) => dominates_any (h.below hb) hL hr ha hq)
  have hmk := fun w' => make_rows n (by omega) w'
  rw [← hn] at h hL hNo hDo ⊢
  replace h := Lib.hid h
  replace hn := Lib.hid hn
  replace hr := Lib.hid hr
  go_enter Try.func17, Try.ntmps17
  go_wp2_with fail
  refine hNo.out.mono ?_
  rintro e w1 ⟨vN, rfl, hN1, hb1⟩
  obtain ⟨an, cn, rfl⟩ := hN1.rd.form
  rw [show (normL L).length = n by rw [normL_len]; exact hn.out.symm] at hN1 ⊢
  have hF0 := fill_new (w := w1) (n := n)
  have hba : Below w1.heap.size w1 (w1.alloc (.cells (Array.replicate n (Value.slice none 0 0)) 25)) := (Below.refl _ _).alloc (Nat.le_refl _) _
  have hN2 : RdX (fun b => b = w1.heap.size) (w1.alloc (.cells (Array.replicate n (Value.slice none 0 0)) 25)) (.slice an n cn) (normL L) := RdX.mono (hN1.plus.below hba) (fun b e => .inr (by omega))
  have hB2 := hb1.trans (hba.mono hb1.size)
  have hlt2 : w1.heap.size ≤ (w1.alloc (.cells (Array.replicate n (Value.slice none 0 0)) 25)).heap.size := by simp
  have hG0 := hb1.size
  clear hN1 hb1 hba hNo
  replace hF0 := Lib.hid hF0
  go_wp2_with fail
  generalize (w1.alloc (.cells (Array.replicate n (Value.slice none 0 0)) 25)) = w2 at hF0 hN2 hB2 hlt2 ⊢
  obtain ⟨G, hG⟩ : ∃ G, G = w1.heap.size := ⟨_, rfl⟩
  rw [← hG] at hF0 hN2 hlt2 hG0 ⊢
  have hA0 : Hid (RfAt L (rootN L root) 0 (fun _ _ => False) (List.replicate n [])) := Lib.hid (by
    refine ⟨by simp [hn.out], fun i r hri => ?_⟩
    obtain rfl := List.eq_of_mem_replicate (List.mem_of_getElem? hri)
    refine ⟨List.Pairwise.nil, fun z => ?_⟩
    simp)
  replace hG := Lib.hid hG
  replace hN2 := Lib.hid hN2
  replace hB2 := Lib.hid hB2
  clear hmk
  have hBw : Hid (∀ wr, Touch w2 wr (fun b => b = G) → Below w.heap.size w wr) := Lib.hid (fun wr hT => hB2.out.trans (hT.below hB2.out.size (fun k hk e => by omega)))
  go_loopw [7, 8, 9, 10] (fun i _ _ _ wr => ∃ (a : Nat) (vs : List Value) (B : List (List Int)), a ≤ n ∧ i = .int .i64 a ∧ Hid (Fill w2 wr G G vs B) ∧ Hid (RfAt L (rootN L root) a (fun _ _ => False) B)) (fun i _ _ _ _ => n - (intOf i).toNat)
  case atStart => exact ⟨0, _, _, Nat.zero_le _, rfl, hF0, hA0⟩
  case round =>
    clear hF0 hA0
    obtain ⟨a, vs, B, ha, rfl, hF, hA⟩ := hrel
    by_cases hlta : a < n
    · have j1 : decide ((a : Int) < (n : Int)) = true := by simpa using hlta
      have hA0 : Hid (RfAt L (rootN L root) a (fun x y => x < 0 ∧ Edge L x y) B) := Lib.hid (hA.out.same (fun x y _ => by simp))
      clear hA
      go_wp2_with fail
      go_loopw [8, 9, 10] (fun i _ _ wx => ∃ (x : Nat) (vs : List Value) (B : List (List Int)), x ≤ n ∧ i = .int .i64 x ∧ Hid (Fill w2 wx G G vs B) ∧ Hid (RfAt L (rootN L root) a (fun x' y => x' < x ∧ Edge L x' y) B)) (fun i _ _ _ => n - (intOf i).toNat)
      case atStart => exact ⟨0, vs, B, Nat.zero_le _, rfl, hF, hA0⟩
      case round =>
        clear hF hA0
        obtain ⟨x, vs, B, hx, rfl, hF, hA⟩ := hrel
        by_cases hltx : x < n
        · have j2 : decide ((x : Int) < (n : Int)) = true := by simpa using hltx
          obtain ⟨q, hq⟩ : ∃ q : Bool, q = true ↔ Dmn L (rootN L root) a x := by
            classical
            exact ⟨decide (Dmn L (rootN L root) a x), by simp⟩
          have hd := Lib.hid (hDo.out wr (hBw.out wr hF.out.T) a x q hlta hq)
          cases q with
          | false =>
            have hA2 : Hid (RfAt L (rootN L root) a (fun x' y => x' < x + 1 ∧ Edge L x' y) B) := Lib.hid (hA.out.same (fun x' y hb => by
              have hne : x' ≠ x := fun e => by
                subst e
                have := hq.2 hb.1
                cases this
              constructor
              · exact fun h => ⟨by omega, h.2⟩
              · exact fun h => ⟨by omega, h.2⟩))
            clear hq hA
            go_wp2_with fail
            refine hd.out.mono ?_
            rintro e w4 ⟨rfl, hb4⟩
            have hF2 := Lib.hid (fill_more hF.out hb4)
            clear hb4 hd hF
            go_wp2_with fail
            exact ⟨⟨x + 1, vs, B, by omega, by go_num, hF2, hA2⟩, by simp [intOf]; omega⟩
          | true =>
            have hda := Lib.hid (hq.1 rfl)
            clear hq
            go_wp2_with fail
            refine hd.out.mono ?_
            rintro e w4 ⟨rfl, hb4⟩
            have hF2 := Lib.hid (fill_more hF.out hb4)
            clear hb4 hd hF
            obtain ⟨r, hrx⟩ : ∃ r, (normL L)[x]? = some r := ⟨_, List.getElem?_eq_getElem (by rw [normL_len]; have := hn.out; omega)⟩
            have hform := norm_form L r (List.mem_of_getElem? hrx)
            rw [normL_len, ← hn.out] at hform
            have hedge : ∀ y : Nat, (y : Int) ∈ r ↔ Edge L x y := fun y => by
              rw [← edge_norm]
              unfold Edge
              rw [normL_len]
              constructor
              · intro hz
                have := hform.2 _ hz
                exact ⟨by have := hn.out; omega, r, hrx, hz⟩
              · rintro ⟨-, r', hr', hz⟩
                obtain rfl := Option.some.inj (hrx.symm.trans hr')
                exact hz
            have hrr : r.length ≤ 100000 := by
              obtain ⟨s, hs, rfl⟩ := List.mem_map.1 (List.mem_of_getElem? hrx)
              exact Nat.le_trans (rowL_len _ _) (hr.out s hs)
            replace hrx := Lib.hid hrx
            replace hform := Lib.hid hform
            replace hedge := Lib.hid hedge
            go_upto_block 4 with fail
            refine rfront4 (by kernel_rfl) (w := w4) (w0 := w) (w1 := w2) (L := L) (B := B) (r := r) (vs := vs) (base := G) hF2.out hA.out hN2.out hrx.out hform.out hedge.out hrr h.out hB2.out hG0 hn.out hL hr.out hlta hltx hda.out hlt2 (Lib.hid ?_)
            intros
            rename_i hx2
            obtain ⟨vs2, B2, hF3, hA3⟩ := hx2
            replace hF3 := Lib.hid hF3
            replace hA3 := Lib.hid hA3
            clear hF2 hA hda
            go_wp2_with fail
            exact ⟨⟨x + 1, vs2, B2, by omega, by go_num, hF3, hA3⟩, by simp [intOf]; omega⟩
        · obtain rfl : x = n := by omega
          have j2 : decide ((x : Int) < (x : Int)) = false := by simp
          have hA2 : Hid (RfAt L (rootN L root) (a + 1) (fun _ _ => False) B) := Lib.hid (RfAt.next (hA.out.same (fun x' y hb => ⟨fun h => h.2, fun h => ⟨by have := h.lt.1; have := hn.out; omega, h⟩⟩)))
          clear hA
          go_wp2_with fail
          exact ⟨⟨a + 1, vs, B, by omega, by go_num, hF, hA2⟩, by simp [intOf]; omega⟩
    · obtain rfl : a = n := by omega
      have j1 : decide ((a : Int) < (a : Int)) = false := by simp
      have hfr : Hid (FrontOf L (rootN L root) B) := Lib.hid (by
        have h1 := hA.out
        rw [hn.out] at h1
        exact h1.front)
      have hrd : Hid (RdG wr (.slice (some ⟨G, 0, none⟩) a a) B) := Lib.hid (hF.out.M.rd (by rw [hA.out.1]; exact hn.out))
      have hbx := Lib.hid (hBw.out wr hF.out.T)
      clear hF hA
      go_wp2_with fail
      go_ret
      exact ⟨_, B, rfl, hrd.out, hfr.out, hbx.out⟩
end Go.Proofs.Yteipncggndefmaa
