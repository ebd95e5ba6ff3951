/- The document's own Fold, walked. -/
import Derived.Test.YtppkponnopnmdaaSRCyc
import Derived.StillTailTactics
namespace Go.Proofs.Ytppkponnopnmdaa
open Go.RowKit Go.Maps Go.Shelf

theorem wp_tailF {P : Program} {id : Nat} {Q : Exit → Act → World → Prop} {a : Act} {w : World} {l : List Oper} (n : Nat) (hm : P.follows .mixedOrders = true) (hB : Region.lexTailB .any l.toArray n = true)
    (h : wpStill P l.toArray w.drew (fun a' => wpList P l.toArray Q (l.drop n) a' w.drew) (l.take n) a) : (Code.region id l.toArray true).wp P Q a w :=
  wp_region_still_tail n hm hB h
theorem FI.padd {N G : List (List Int)} {f : Nat → Nat} {c n k j : Nat} (H : FI N f c n k j G) {r F : List Int} {x : Nat} (hr : N[k]? = some r) (hx : r[j]? = some (x : Int)) (hne : f k ≠ f x) (hF : G[f k]? = some F) (hc : f x < c) : FI N f c n k (j + 1) (G.set (f k) (addL F (f x : Int))) := by
  have hlt := (List.getElem?_eq_some_iff.1 hF).1
  refine ⟨by rw [List.length_set, H.len], fun a b => ?_, fun s hs y hy => ?_, fun s hs => ?_⟩
  · have key : (∃ s, (G.set (f k) (addL F (f x : Int)))[a]? = some s ∧ (b : Int) ∈ s) ↔ (∃ s, G[a]? = some s ∧ (b : Int) ∈ s) ∨ (a = f k ∧ b = f x) := by
      by_cases ha : f k = a
      · subst ha
        rw [List.getElem?_set_self hlt, hF]
        constructor
        · rintro ⟨s, hs, hm⟩
          obtain rfl := Option.some.inj hs
          rcases mem_addL.1 hm with h | ⟨h, _⟩
          · exact .inl ⟨F, rfl, h⟩
          · exact .inr ⟨rfl, Int.ofNat_inj.1 h⟩
        · rintro (⟨s, hs, hm⟩ | ⟨_, rfl⟩)
          · obtain rfl := Option.some.inj hs
            exact ⟨_, rfl, mem_addL.2 (.inl hm)⟩
          · exact ⟨_, rfl, mem_addL.2 (.inr ⟨rfl, by omega⟩)⟩
      · rw [List.getElem?_set_ne ha]
        constructor
        · exact .inl
        · rintro (h | ⟨rfl, _⟩)
          · exact h
          · exact absurd rfl ha
    rw [key, H.edge]
    constructor
    · rintro (⟨h1, i, y, h2, h3⟩ | ⟨rfl, rfl⟩)
      · exact ⟨h1, i, y, (done_succ hr hx i y).2 (.inl h2), h3⟩
      · exact ⟨hne, k, x, (done_succ hr hx k x).2 (.inr ⟨rfl, rfl⟩), rfl, rfl⟩
    · rintro ⟨h1, i, y, h2, h3, h4⟩
      rcases (done_succ hr hx i y).1 h2 with h | ⟨rfl, rfl⟩
      · exact .inl ⟨h1, i, y, h, h3, h4⟩
      · exact .inr ⟨h3.symm, h4.symm⟩
  · rcases List.mem_or_eq_of_mem_set hs with h | rfl
    · exact H.val s h y hy
    · rcases mem_addL.1 hy with h | ⟨rfl, _⟩
      · exact H.val F (List.mem_of_getElem? hF) y h
      · omega
  · rcases List.mem_or_eq_of_mem_set hs with h | rfl
    · have := H.low s h; omega
    · have := H.low F (List.mem_of_getElem? hF)
      have := (addL_len F (f x : Int)).1
      omega
theorem FI.same {L G : List (List Int)} {m : Nat → Int} {f : Nat → Nat} {n : Nat} (H : FI (normL L) f (cntM m L.length) n L.length 0 G) (hf : ∀ x, x < L.length → numF L.length m x = (f x : Nat)) (hrise : ∀ r ∈ G, r.Pairwise (· < ·)) : FoldOf L m G := by
  have h1 := H.fold hf
  refine ⟨H.len, fun r hr => ⟨hrise r hr, fun x hx => by have := H.val r hr x hx; have := H.len; omega⟩, fun a b => ?_⟩
  rw [← edge_norm, h1.edge]
/-- The rows of the graph of components, so far. -/
structure FR (w3 wr : World) (G : Nat) (vs : List Value) (B : List (List Int)) : Prop where
  blk : wr.heap[G]? = some (.cells vs.toArray 26 (0, 0))
  len : vs.length = B.length
  row : ∀ (a : Nat) (F : List Int), B[a]? = some F → ∃ u, vs[a]? = some u ∧ Strip wr u F ∧ u.ownBlock ≠ some G
  rise : ∀ r ∈ B, r.Pairwise (· < ·)
  T : Touch w3 wr (fun b => b = G)
theorem FR.drewN {w3 wr : World} {G : Nat} {vs : List Value} {B : List (List Int)} (H : FR w3 wr G vs B) (n : Nat) : FR w3 (wr.drewN n) G vs B :=
  ⟨H.blk, H.len, fun a F h => by
    obtain ⟨u, h1, h2, h3⟩ := H.row a F h
    exact ⟨u, h1, ownsRow_touch h2 (Touch.drewN wr n (fun _ => False)) (fun _ _ h => h), h3⟩, H.rise, H.T.trans (Touch.drewN wr n _)⟩
/-- One more is added to a row. -/
theorem FR.add {w3 wr w5 : World} {G a : Nat} {vs : List Value} {B : List (List Int)} {F : List Int} {u u' : Value} {d : Int} (H : FR w3 wr G vs B) (hF : B[a]? = some F) (hu : vs[a]? = some u) (hs : Strip w5 u' (addL F d)) (hnew : u' = u ∨ ∀ b, u'.ownBlock = some b → wr.heap.size ≤ b) (hb : Below wr.heap.size wr w5) :
    FR w3 (w5.setCell ⟨G, a, none⟩ u') G (vs.set a u') (B.set a (addL F d)) := by
  have hGl := (Array.getElem?_eq_some_iff.1 H.blk).1
  have hG5 := (hb.block G hGl).trans H.blk
  have T5 : Touch w5 (w5.setCell ⟨G, a, none⟩ u') (fun b => b = G) := (Touch.refl w5 (fun b => b = G)).setCell (a := ⟨G, a, none⟩) (fun _ => rfl) _
  have hal := (List.getElem?_eq_some_iff.1 hF).1
  have hne : u'.ownBlock ≠ some G := fun e => by
    rcases hnew with rfl | h
    · obtain ⟨u2, h1, _, h3⟩ := H.row a F hF
      rw [hu] at h1
      obtain rfl := Option.some.inj h1
      exact h3 e
    · have := h G e; omega
  refine ⟨?_, by rw [List.length_set, List.length_set, H.len], fun x E hE => ?_, fun r hr => ?_, (H.T.trans (Touch.of_below hb _)).trans T5⟩
  · rw [blk_set _ hG5]
    simp
  · by_cases hx : a = x
    · subst hx
      rw [List.getElem?_set_self hal] at hE
      obtain rfl := Option.some.inj hE
      exact ⟨u', by rw [List.getElem?_set_self (by rw [H.len]; exact hal)], ownsRow_touch hs T5 (fun b hb' e => hne (by rw [← e]; exact hb')), hne⟩
    · rw [List.getElem?_set_ne hx] at hE
      obtain ⟨u2, h1, h2, h3⟩ := H.row x E hE
      refine ⟨u2, by rw [List.getElem?_set_ne hx]; exact h1, ownsRow_touch (ownsRow_touch h2 (Touch.of_below hb (fun _ => False)) (fun _ _ h => h)) T5 (fun b hb' e => h3 (by rw [← e]; exact hb')), h3⟩
  · rcases List.mem_or_eq_of_mem_set hr with h | rfl
    · exact H.rise r h
    · exact rise_addL (H.rise F (List.mem_of_getElem? hF))
theorem FR.rd {w3 wr : World} {G n cap : Nat} {vs : List Value} {B : List (List Int)} (H : FR w3 wr G vs B) (hn : n = B.length) : RdG wr (.slice (some ⟨G, 0, none⟩) n cap) B := by
  subst hn
  refine ⟨vs, Or.inr ⟨G, 0, cap, by rw [H.len], (Array.getElem?_eq_some_iff.1 H.blk).1, fun i u hu => ?_⟩, H.len, fun i u l hu hl => ?_⟩
  · rw [blk_cell H.blk, Nat.zero_add]
    simpa using hu
  · obtain ⟨u2, h1, h2, _⟩ := H.row i l hl
    rw [hu] at h1
    obtain rfl := Option.some.inj h1
    exact strip_rd h2
def RF1 (L N : List (List Int)) (f : Nat → Nat) (c n G : Nat) (w3 wr : World) (i : Value) : Prop := ∃ (k : Nat) (vs : List Value) (B : List (List Int)), k ≤ n ∧ i = .int .i64 k ∧ FR w3 wr G vs B ∧ FI N f c n k 0 B
def RF2 (N : List (List Int)) (f : Nat → Nat) (c n G k : Nat) (r : List Int) (w3 wr : World) (j : Value) : Prop := ∃ (q : Nat) (vs : List Value) (B : List (List Int)), q ≤ r.length ∧ j = .int .i64 q ∧ FR w3 wr G vs B ∧ FI N f c n k q B

set_option maxRecDepth 20000 in
set_option maxHeartbeats 8000000 in
theorem rfold_any {w : World} {v : Value} {L : List (List Int)} {m : Nat → Int} (h : RdG w v L) (hL : L.length ≤ 300) (hr : ∀ r ∈ L, r.length ≤ 100000) (hm : Marks L m) :
    Calls Try.prog 18 #[v] w fun e w' => ∃ G F, e = .returned (.slice (some ⟨G, 0, none⟩) F.length F.length) ∧ FoldOf L m F ∧ RdG w' (.slice (some ⟨G, 0, none⟩) F.length F.length) F ∧ Below w.heap.size w w' := by
  obtain ⟨av, cap, rfl⟩ := h.form
  obtain ⟨n, hn⟩ : ∃ n, n = L.length := ⟨_, rfl⟩
  rw [← hn] at h hL ⊢
  have hC := Lib.hid (rcomps_any h (by omega) hr hm)
  rw [← hn] at hC
  have hr' := Lib.hid hr
  replace hn := Lib.hid hn
  clear hr
  go_enter Try.func18, Try.ntmps18
  go_wp2_with fail
  refine hC.out.mono ?_
  rintro e w1 ⟨R, rfl, hR, hRl, hb1⟩
  have hN := Lib.hid (rnorm_any (h.below hb1) (by rw [← hn.out]; omega) hr'.out)
  have hRs := (Array.getElem?_eq_some_iff.1 hR).1
  replace hR := Lib.hid hR
  clear hC
  go_wp2_with fail
  refine hN.out.mono ?_
  rintro e w2 ⟨nv, rfl, hX, hb2⟩
  have hgN := hX.rd
  obtain ⟨an, cn, rfl⟩ : ∃ a c, nv = .slice a n c := by
    obtain ⟨a, c, e⟩ := hgN.form
    exact ⟨a, c, by rw [e, normL_len, ← hn.out]⟩
  have hR2 := (hb2.block R hRs).trans hR.out
  have hRs2 := (Array.getElem?_eq_some_iff.1 hR2).1
  have hb12 := hb1.trans (hb2.mono hb1.size)
  have hR2' := Lib.hid hR2
  have hgN' := Lib.hid hgN
  clear hN hX hR hR2 hgN hRl
  go_wp2_with fail
  go_loopw [5, 6] (fun t i wx => ∃ k : Nat, k ≤ n ∧ i = .int .i64 k ∧ t = .int .i64 (cntM m k : Nat) ∧ wx = w2) (fun _ i _ => n - (intOf i).toNat)
  case atStart => exact ⟨0, Nat.zero_le _, by rfl, by rfl, by first | rfl | exact trivial⟩
  case round =>
    obtain ⟨k, hk, rfl, rfl, rfl⟩ := hrel
    by_cases hlt : k < n
    · have i1 : (k : Int) < (n : Int) := by omega
      have hnl := numF_lt (m := m) (Nat.le_refl n) hlt
      obtain ⟨a, ha⟩ : ∃ a : Nat, numF n m k = a := ⟨(numF n m k).toNat, by omega⟩
      have cR : wr.cell? ⟨R, k, none⟩ = some (.int .i64 a) := by rw [blk_cell hR2'.out, markA_at hlt, ha]
      have hcl := cntM_le m k
      have hcn := cntM_le m n
      have hmax : max ((cntM m k : Nat) : Int) ((a : Int) + 1) = (cntM m (k + 1) : Nat) := by
        by_cases hx : ∃ j, j < k ∧ m j = m k
        · obtain ⟨j, h1, h2⟩ := hx
          rw [cntM_old h1 h2]
          have h3 := numF_lt (m := m) (Nat.le_of_lt hlt) h1
          rw [(numF_eq (by omega) hlt).2 h2, ha] at h3
          omega
        · have h1 : ∀ j, j < k → m j ≠ m k := fun j h1 h2 => hx ⟨j, h1, h2⟩
          have h2 := numF_new hlt h1
          rw [cntM_new h1]
          omega
      have ha300 : (a : Int) + 1 ≤ 301 := by omega
      clear ha hnl
      go_wp2_with fail
      exact ⟨⟨k + 1, by omega, by go_num, by rfl, by first | rfl | exact trivial⟩, by simp [intOf]; omega⟩
    · obtain rfl : k = n := by omega
      have i1 : decide ((k : Int) < (k : Int)) = false := by simp
      obtain ⟨c, hc⟩ : ∃ c, Hid (c = cntM m k) := ⟨_, Lib.hid rfl⟩
      have hcn : c ≤ k := by rw [hc.out]; exact cntM_le m k
      rw [← hc.out]
      have hmk := make_rows c (by omega) wr
      obtain ⟨G, hG⟩ : ∃ G, G = wr.heap.size := ⟨_, rfl⟩
      obtain ⟨w3, hw3⟩ : ∃ u, u = wr.alloc (.cells (Array.replicate c (Value.slice none 0 0)) 26) := ⟨_, rfl⟩
      rw [← hG, ← hw3] at hmk
      have hb3 : Below G wr w3 := by rw [hw3, hG]; exact (Below.refl _ _).alloc (Nat.le_refl _) _
      have hG3 : w3.heap[G]? = some (.cells (Array.replicate c (Value.slice none 0 0)) 26 (0, 0)) := by rw [hw3, hG]; exact heap_alloc_new wr _
      have hGl := (Array.getElem?_eq_some_iff.1 hG3).1
      obtain ⟨f, hf⟩ : ∃ f : Nat → Nat, Hid (∀ x, x < k → numF k m x = (f x : Nat) ∧ f x < c) := ⟨fun x => (numF k m x).toNat, Lib.hid (fun x hx => by
        have := numF_lt (m := m) (Nat.le_refl k) hx
        show numF k m x = ((numF k m x).toNat : Int) ∧ (numF k m x).toNat < c
        rw [hc.out]
        omega)⟩
      have hFR0 : Hid (FR w3 w3 G (List.replicate c (.slice none 0 0)) (List.replicate c [])) := Lib.hid ⟨by rw [hG3]; simp, by simp, fun a F hF => by
        have hac : a < c := by have := (List.getElem?_eq_some_iff.1 hF).1; simpa using this
        obtain rfl := List.eq_of_mem_replicate (List.mem_of_getElem? hF)
        exact ⟨.slice none 0 0, by simp [hac], strip_nil _, fun e => by cases e⟩, fun r hr => by
        rw [List.eq_of_mem_replicate hr]; exact List.Pairwise.nil, Touch.refl _ _⟩
      have hFI0 : Hid (FI (normL L) f c k 0 0 (List.replicate c [])) := Lib.hid FI.start
      have hK : Hid (∀ wx : World, Touch w3 wx (fun b => b = G) → wx.heap[R]? = some (.cells (markA k (numF k m)) 3 (0, 0)) ∧ RdG wx (.slice an k cn) (normL L) ∧ Below w.heap.size w wx) := Lib.hid (fun wx hT => by
        have hbx : Below wr.heap.size wr wx := hG ▸ (hb3.trans (hT.below (by omega) (fun b hb e => by omega)))
        exact ⟨(hbx.block R hRs2).trans hR2'.out, hgN'.out.below hbx, hb12.trans (hbx.mono hb12.size)⟩)
      replace hw3 := Lib.hid hw3
      replace hG := Lib.hid hG
      clear hb3 hG3
      go_wp2_with fail
      clear hmk
      go_loopw [8, 9] (fun i _ wx => RF1 L (normL L) f c k G w3 wx i) (fun i _ _ => k - (intOf i).toNat)
      case atStart => exact ⟨0, _, _, Nat.zero_le _, by rfl, hFR0.out, hFI0.out⟩
      case round =>
        clear hFR0 hFI0
        obtain ⟨i, vs, B, hi, rfl, hF, hI⟩ := hrel
        by_cases hlti : i < k
        · have i2 : (i : Int) < (k : Int) := by omega
          obtain ⟨r, hri⟩ : ∃ r, (normL L)[i]? = some r := ⟨_, List.getElem?_eq_getElem (by rw [normL_len, ← hn.out]; exact hlti)⟩
          have hrf := norm_form L r (List.mem_of_getElem? hri)
          have hrl : r.length ≤ k := by
            have := rise_lenN hrf.1 hrf.2
            rwa [normL_len, ← hn.out] at this
          replace hrf := Lib.hid hrf
          replace hri := Lib.hid hri
          replace hF := Lib.hid hF
          replace hI := Lib.hid hI
          go_wp2_with fail
          go_loopw [9] (fun j wx => RF2 (normL L) f c k G i r w3 wx j) (fun j _ => r.length - (intOf j).toNat)
          case atStart => exact ⟨0, vs, B, Nat.zero_le _, by rfl, hF.out, hI.out⟩
          case round =>
            clear hF hI
            obtain ⟨q, vs1, B1, hq, rfl, hF, hI⟩ := hrel
            obtain ⟨hRx, hNx, hbw⟩ := hK.out _ hF.T
            obtain ⟨bn, on, kn, un, en, _, cN, hrn⟩ := hNx.at hri.out
            rw [normL_len, ← hn.out] at en
            simp only [Value.slice.injEq] at en
            obtain ⟨rfl, -, rfl⟩ := en
            obtain ⟨ar, cr, rfl⟩ := hrn.shape
            by_cases hltq : q < r.length
            · obtain ⟨x, hx⟩ : ∃ x, r[q]? = some x := ⟨_, List.getElem?_eq_getElem hltq⟩
              obtain ⟨hx0, hxn⟩ := hrf.out.2 x (List.mem_of_getElem? hx)
              obtain ⟨y, rfl⟩ : ∃ y : Nat, x = y := ⟨x.toNat, by omega⟩
              have hyn : y < k := by rw [normL_len, ← hn.out] at hxn; omega
              obtain ⟨b2, o2, cap2, e2, hc2⟩ := RdI.cell hrn hx
              simp only [Value.slice.injEq] at e2
              obtain ⟨rfl, -, rfl⟩ := e2
              have i3 : (q : Int) < (r.length : Int) := by omega
              have i4 : (y : Int) < (k : Int) := by omega
              have cR1 : wr.cell? ⟨R, i, none⟩ = some (.int .i64 (f i)) := by rw [blk_cell hRx, markA_at hlti, (hf.out i hlti).1]
              have cR2 : wr.cell? ⟨R, y, none⟩ = some (.int .i64 (f y)) := by rw [blk_cell hRx, markA_at hyn, (hf.out y hyn).1]
              have hfi := (hf.out i hlti).2
              have hfy := (hf.out y hyn).2
              by_cases hne : f i = f y
              · have hI2 := Lib.hid (hI.skip hri.out hx hne)
                have d1 : ((f i : Int) != (f y : Int)) = false := by simp [hne]
                replace hne := Lib.hid hne
                replace hF := Lib.hid hF
                clear hI hRx hNx hbw hrn
                go_wp2_with fail
                go_quiet (fail)
                have hF2 := Lib.hid (hF.out.drewN nq)
                clear hF
                go_wp2_with fail
                exact ⟨⟨q + 1, vs1, B1, by omega, by go_num, hF2.out, hI2.out⟩, by simp [intOf]; omega⟩
              · have d1 : ((f i : Int) != (f y : Int)) = true := by simp; omega
                obtain ⟨E, hE⟩ : ∃ E, B1[f i]? = some E := ⟨_, List.getElem?_eq_getElem (by rw [hI.len]; exact hfi)⟩
                obtain ⟨u, hu, hst, hug⟩ := hF.row _ E hE
                have hEl : E.length ≤ 100000 := by
                  have h1 := hI.low E (List.mem_of_getElem? hE)
                  have h2 : i * k ≤ 299 * k := Nat.mul_le_mul_right _ (by omega)
                  omega
                have hI2 := Lib.hid (hI.padd hri.out hx hne hE hfy)
                have cG : wr.cell? ⟨G, f i, none⟩ = some u := by
                  rw [blk_cell hF.blk]
                  simpa using hu
                obtain ⟨au, cu, rfl⟩ := own_form hst
                have i5 : (f i : Int) < (c : Int) := by omega
                have hadd : Hid (∀ wq : World, Below wr.heap.size wr wq → Calls Try.prog 34 #[.slice au E.length cu, .int .i64 (f y : Nat)] wq fun e w' => ∃ u', e = .returned u' ∧ Strip w' u' (addL E (f y : Nat)) ∧ (u' = .slice au E.length cu ∨ ∀ b, u'.ownBlock = some b → wq.heap.size ≤ b) ∧ Below wq.heap.size wq w') := Lib.hid (fun wq hb =>
                  radd_any (ownsRow_touch hst (Touch.of_below hb (fun _ => False)) (fun _ _ h => h)) hEl)
                have hFx := Lib.hid (fun (w5 : World) (u' : Value) (hb : Below wr.heap.size wr w5) (hs : Strip w5 u' (addL E (f y : Nat))) (hnew : u' = .slice au E.length cu ∨ ∀ b, u'.ownBlock = some b → wr.heap.size ≤ b) => hF.add hE hu hs hnew hb)
                have hcf : Hid (∀ w5 : World, Below wr.heap.size wr w5 → w5.cell? ⟨G, f i, none⟩ = some (.slice au E.length cu) ∧ w5.frozen? ⟨G, f i, none⟩ = false) := Lib.hid (fun w5 hb => by
                  have h5 := (hb.block G (Array.getElem?_eq_some_iff.1 hF.blk).1).trans hF.blk
                  exact ⟨by rw [blk_cell h5]; simpa using hu, by simp [World.frozen?, h5]⟩)
                replace hne := Lib.hid hne
                have hRl2 : R < wr.heap.size := (Array.getElem?_eq_some_iff.1 hRx).1
                clear hI hRx hNx hbw hrn hE hu hst hug hF
                go_wp2_with fail
                go_quiet (fail)
                obtain ⟨wq, hwq⟩ : ∃ u, u = wr.drewN nq := ⟨_, rfl⟩
                have hbq : Below wr.heap.size wr wq := by rw [hwq]; exact below_drawn (Below.refl _ _) nq
                have q1 : wq.cell? ⟨R, i, none⟩ = some (.int .i64 (f i)) := by rw [hwq]; exact cR1
                have q2 : wq.cell? ⟨R, y, none⟩ = some (.int .i64 (f y)) := by rw [hwq]; exact cR2
                have q3 : wq.cell? ⟨bn, on + i, none⟩ = some (.slice (some ⟨b2, o2, none⟩) r.length cr) := by rw [hwq]; exact cN
                have q4 : wq.cell? ⟨b2, o2 + q, none⟩ = some (.int .i64 y) := by rw [hwq]; exact hc2
                have q5 : wq.cell? ⟨G, f i, none⟩ = some (.slice au E.length cu) := by rw [hwq]; exact cG
                have hsq : wr.heap.size ≤ wq.heap.size := hbq.size
                have hadd2 := Lib.hid (hadd.out wq.drew (hbq.drew))
                have hzq : wq.drew.heap.size = wr.heap.size := by rw [hwq]; rfl
                have cR1' := cR1
                rw [← hwq]
                clear hwq cR1 cR2 cN hc2 cG hadd
                go_wp2_with fail
                have hRw : R < wr.heap.size := hRl2
                go_region_with (go_at_call 34; refine hadd2.out.mono ?_; rintro e w5 ⟨u', rfl, hs5, hn5, hb5⟩; have hb5' : Below wr.heap.size wr w5 := (hbq.drew).trans (hzq ▸ hb5); obtain ⟨c5, f5⟩ := hcf.out w5 hb5'; have hF5 := Lib.hid (hFx.out w5 u' hb5' hs5 (by rw [hzq] at hn5; exact hn5)); obtain ⟨au2, cu2, rfl⟩ := own_form hs5; have r1 : w5.cell? ⟨R, i, none⟩ = some (.int .i64 (f i)) := (hb5'.cell (p := ⟨R, i, none⟩) hRw).trans cR1')
                all_goals
                  go_wp2_with fail
                  exact ⟨⟨q + 1, _, _, by omega, by go_num, hF5.out, hI2.out⟩, by simp [intOf]; omega⟩
            · obtain rfl : q = r.length := by omega
              have i3 : decide ((r.length : Int) < (r.length : Int)) = false := by simp
              have hI2 := Lib.hid (hI.next hri.out rfl hrl)
              replace hF := Lib.hid hF
              clear hI hRx hNx hbw hrn
              go_wp2_with fail
              exact ⟨⟨i + 1, vs1, B1, by omega, by go_num, hF.out, hI2.out⟩, by simp [intOf]; omega⟩
        · obtain rfl : i = k := by omega
          have i2 : decide ((i : Int) < (i : Int)) = false := by simp
          have hbw := (hK.out _ hF.T).2.2
          have hfold : Hid (FoldOf L m B) := by
            rw [hc.out] at hI
            have e : i = L.length := hn.out
            subst e
            exact Lib.hid (FI.same hI (fun x hx => (hf.out x hx).1) hF.rise)
          have hlen := hI.len
          have hrd : Hid (RdG wr (.slice (some ⟨G, 0, none⟩) c c) B) := Lib.hid (hF.rd hlen.symm)
          replace hlen := Lib.hid hlen
          clear hF hI
          go_wp2_with fail
          go_ret
          exact ⟨G, B, by rw [hlen.out]; rfl, hfold.out, by rw [hlen.out]; exact hrd.out, hbw⟩
end Go.Proofs.Ytppkponnopnmdaa
