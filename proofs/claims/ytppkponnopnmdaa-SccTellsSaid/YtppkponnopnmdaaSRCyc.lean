/- The document's own Cyclic, walked. -/
import Derived.Test.YtppkponnopnmdaaSRComps
namespace Go.Proofs.Ytppkponnopnmdaa
open Go.RowKit Go.Maps Go.Shelf

theorem leads_qc (L : List (List Int)) (a b : Int) : ∃ q : Bool, (q = true ↔ leadsP L a b) := ⟨@decide (leadsP L a b) (Classical.propDecidable _), by simp⟩
theorem leadsP_natc {L : List (List Int)} {a b : Nat} : leadsP L a b ↔ Way L a b := by
  unfold leadsP
  rw [Int.toNat_natCast, Int.toNat_natCast]
  exact ⟨fun h => h.2.2, fun h => ⟨by omega, by omega, h⟩⟩
/-- Does a way lead back from one of the first ends of edges? -/
def backP (L : List (List Int)) (r : List Int) (i k : Nat) : Prop := ∃ y : Nat, (y : Int) ∈ r.take k ∧ Way L y i
noncomputable def cyOut (L : List (List Int)) (i : Nat) (t : Bool) (x : Nat) : Bool := if x < i then cycB L x else if x = i then t else false
def YC1 (L : List (List Int)) (n A : Nat) (w2 wr : World) (i : Value) : Prop := ∃ k : Nat, k ≤ n ∧ i = .int .i64 k ∧ wr.heap[A]? = some (.cells (boolA n (cyOut L k false)) 4 (0, 0)) ∧ Touch w2 wr (fun b => b = A)
def YC2 (L : List (List Int)) (r : List Int) (n A i : Nat) (w2 wr : World) (j : Value) : Prop := ∃ (k : Nat) (t : Bool), k ≤ r.length ∧ j = .int .i64 k ∧ (t = true ↔ backP L r i k) ∧ wr.heap[A]? = some (.cells (boolA n (cyOut L i t)) 4 (0, 0)) ∧ Touch w2 wr (fun b => b = A)

set_option maxRecDepth 20000 in
set_option maxHeartbeats 8000000 in
theorem rcyclic_any {w : World} {v : Value} {L : List (List Int)} (h : RdG w v L) (hL : L.length ≤ 300) (hr : ∀ r ∈ L, r.length ≤ 100000) :
    Calls Try.prog 15 #[v] w fun e w' => ∃ A, e = .returned (.slice (some ⟨A, 0, none⟩) L.length L.length) ∧ w'.heap[A]? = some (.cells (boolA L.length (cycB L)) 4 (0, 0)) ∧ w.heap.size ≤ A ∧ Below w.heap.size w w' := by
  obtain ⟨av, cap, rfl⟩ := h.form
  obtain ⟨n, hn⟩ : ∃ n, n = L.length := ⟨_, rfl⟩
  rw [← hn] at h hL ⊢
  have hN := Lib.hid (rnorm_any h (by omega) hr)
  have hr' := Lib.hid hr
  replace hn := Lib.hid hn
  clear hr
  go_enter Try.func15, Try.ntmps15
  go_wp2_with fail
  refine hN.out.mono ?_
  rintro e w1 ⟨nv, rfl, hX, hb1⟩
  have hg1 := hX.rd
  obtain ⟨an, cn, rfl⟩ : ∃ a c, nv = .slice a n c := by
    obtain ⟨a, c, e⟩ := hg1.form
    exact ⟨a, c, by rw [e, normL_len, ← hn.out]⟩
  have hmk := make_bools n (by omega) w1
  obtain ⟨A, hA⟩ : ∃ A, A = w1.heap.size := ⟨_, rfl⟩
  obtain ⟨w2, hw2⟩ : ∃ u, u = w1.alloc (.cells (seenA n []) 4) := ⟨_, rfl⟩
  rw [← hA, ← hw2] at hmk
  have hA2 : Hid (w2.heap[A]? = some (.cells (boolA n (cyOut L 0 false)) 4 (0, 0))) := Lib.hid (by
    rw [hw2, hA, heap_alloc_new w1 _, seenA_bool]
    congr 2
    unfold boolA
    congr 1
    apply List.map_congr_left
    intro x _
    simp [cyOut])
  have hb2 : Below A w1 w2 := by rw [hw2, hA]; exact (Below.refl _ _).alloc (Nat.le_refl _) _
  have hAl : A < w2.heap.size := (Array.getElem?_eq_some_iff.1 hA2.out).1
  have hK : Hid (∀ wx : World, Touch w2 wx (fun b => b = A) → RdG wx (.slice an n cn) (normL L) ∧ RdG wx (.slice av n cap) L ∧ Below w.heap.size w wx) := Lib.hid (fun wx hT => by
    have hbx : Below w1.heap.size w1 wx := hA ▸ (hb2.trans (hT.below (by omega) (fun b hb e => by omega)))
    exact ⟨hg1.below hbx, h.below (hb1.trans (hbx.mono hb1.size)), hb1.trans (hbx.mono hb1.size)⟩)
  have hAw : w.heap.size ≤ A := by have := hb1.size; omega
  replace hw2 := Lib.hid hw2
  replace hA := Lib.hid hA
  clear hN hX hg1 h hb1 hb2
  go_wp2_with fail
  clear hmk
  go_loopw [5, 6] (fun i _ wr => YC1 L n A w2 wr i) (fun i _ _ => n - (intOf i).toNat)
  case atStart => exact ⟨0, Nat.zero_le _, by rfl, hA2.out, Touch.refl _ _⟩
  case round =>
    clear hA2
    obtain ⟨i, hi, rfl, hAi, hT⟩ := hrel
    by_cases hlt : i < n
    · have i1 : (i : Int) < (n : Int) := by omega
      obtain ⟨r, hri⟩ : ∃ r, (normL L)[i]? = some r := ⟨_, List.getElem?_eq_getElem (by rw [normL_len, ← hn.out]; exact hlt)⟩
      have hrf := norm_form L r (List.mem_of_getElem? hri)
      have hrl : r.length ≤ n := by
        have := rise_lenN hrf.1 hrf.2
        rwa [normL_len, ← hn.out] at this
      have hcy : backP L r i r.length ↔ cycP L i := by
        rw [cycP_iff]
        unfold backP
        rw [List.take_length]
        constructor
        · rintro ⟨y, hm, hw⟩
          exact ⟨y, edge_norm.1 ⟨by rw [normL_len]; exact hw.lt.1, r, hri, hm⟩, hw⟩
        · rintro ⟨y, e, hw⟩
          obtain ⟨_, r', hr', hm⟩ := edge_norm.2 e
          rw [hri] at hr'
          exact ⟨y, Option.some.inj hr' ▸ hm, hw⟩
      replace hri := Lib.hid hri
      replace hrf := Lib.hid hrf
      replace hcy := Lib.hid hcy
      replace hAi := Lib.hid hAi
      replace hT := Lib.hid hT
      go_wp2_with fail
      go_loopw [6] (fun j wx => YC2 L r n A i w2 wx j) (fun j _ => r.length - (intOf j).toNat)
      case atStart => exact ⟨0, false, Nat.zero_le _, by rfl, ⟨fun h => (by cases h), fun ⟨y, h, _⟩ => (by simp at h)⟩, hAi.out, hT.out⟩
      case round =>
        clear hAi hT
        obtain ⟨k, t, hk, rfl, ht, hAk, hT⟩ := hrel
        obtain ⟨hgN, hgL, hbw⟩ := hK.out _ hT
        obtain ⟨bn, on, kn, un, en, _, cN, hrn⟩ := hgN.at hri.out
        rw [normL_len, ← hn.out] at en
        simp only [Value.slice.injEq] at en
        obtain ⟨rfl, -, rfl⟩ := en
        obtain ⟨ar, cr, rfl⟩ := hrn.shape
        by_cases hltk : k < r.length
        · obtain ⟨x, hx⟩ : ∃ x, r[k]? = some x := ⟨_, List.getElem?_eq_getElem hltk⟩
          obtain ⟨hx0, hxn⟩ := hrf.out.2 x (List.mem_of_getElem? hx)
          obtain ⟨y, rfl⟩ : ∃ y : Nat, x = y := ⟨x.toNat, by omega⟩
          obtain ⟨b2, o2, cap2, e2, hc2⟩ := RdI.cell hrn hx
          simp only [Value.slice.injEq] at e2
          obtain ⟨rfl, -, rfl⟩ := e2
          have i2 : (k : Int) < (r.length : Int) := by omega
          obtain ⟨q, hq⟩ := leads_qc L y i
          have htk : r.take (k + 1) = r.take k ++ [(y : Int)] := take_snoc hx
          have hnx : ∀ t', t' = (t || q) → (t' = true ↔ backP L r i (k + 1)) := fun t' e => by
            rw [e, Bool.or_eq_true, ht, hq, leadsP_natc]
            unfold backP
            rw [htk]
            constructor
            · rintro (⟨z, h1, h2⟩ | h)
              · exact ⟨z, List.mem_append_left _ h1, h2⟩
              · exact ⟨y, by simp, h⟩
            · rintro ⟨z, h1, h2⟩
              rcases List.mem_append.1 h1 with h | h
              · exact .inl ⟨z, h, h2⟩
              · obtain rfl : z = y := Int.ofNat_inj.1 (List.mem_singleton.1 h)
                exact .inr h2
          have cA : wr.cell? ⟨A, i, none⟩ = some (.bool t) := by rw [blk_cell hAk, boolA_at hlt]; simp [cyOut]
          have fA : wr.frozen? ⟨A, i, none⟩ = false := by simp [World.frozen?, hAk]
          have hset : Hid (∀ (wx : World) (t' : Bool), Below wr.heap.size wr wx → (wx.setCell ⟨A, i, none⟩ (.bool t')).heap[A]? = some (.cells (boolA n (cyOut L i t')) 4 (0, 0)) ∧ Touch w2 (wx.setCell ⟨A, i, none⟩ (.bool t')) (fun b => b = A) ∧ wx.cell? ⟨A, i, none⟩ = some (.bool t) ∧ wx.frozen? ⟨A, i, none⟩ = false) := Lib.hid (fun wx t' hb => by
            have hAx := (hb.block A (Array.getElem?_eq_some_iff.1 hAk).1).trans hAk
            refine ⟨?_, (hT.trans (Touch.of_below hb _)).trans ((Touch.refl wx (fun b => b = A)).setCell (a := ⟨A, i, none⟩) (fun _ => rfl) _), by rw [blk_cell hAx, boolA_at hlt]; simp [cyOut], by simp [World.frozen?, hAx]⟩
            rw [blk_set _ hAx, boolA_set hlt (q' := cyOut L i t')]
            · simp [cyOut]
            · intro z hz
              simp [cyOut, hz])
          have hle := Lib.hid (rleads_any hgL (by rw [← hn.out]; omega) hr'.out hq)
          replace hnx := Lib.hid hnx
          replace ht := Lib.hid ht
          clear hgN hgL hrn hx hAk hT hbw htk hq
          cases t with
          | true =>
            have h0 := Lib.hid (hset.out wr true (Below.refl _ _))
            go_wp2_with fail
            exact ⟨⟨k + 1, true, by omega, by go_num, hnx.out _ (by simp), h0.out.1, h0.out.2.1⟩, by simp [intOf]; omega⟩
          | false =>
            go_wp2_with fail
            refine hle.out.mono ?_
            rintro e w5 ⟨rfl, hb5⟩
            obtain ⟨h1, h2, c5, f5⟩ := hset.out w5 q hb5
            have h1' := Lib.hid h1
            have h2' := Lib.hid h2
            clear h1 h2 hle hb5 cA fA
            go_wp2_with fail
            exact ⟨⟨k + 1, q, by omega, by go_num, hnx.out _ (by simp), h1'.out, h2'.out⟩, by simp [intOf]; omega⟩
        · obtain rfl : k = r.length := by omega
          have i2 : decide ((r.length : Int) < (r.length : Int)) = false := by simp
          have hAn : Hid (wr.heap[A]? = some (.cells (boolA n (cyOut L (i + 1) false)) 4 (0, 0))) := Lib.hid (by
            have htc : t = cycB L i := by rw [Bool.eq_iff_iff, cycB_iff, ht, hcy.out]
            rw [hAk]
            congr 2
            unfold boolA
            congr 1
            apply List.map_congr_left
            intro x _
            unfold cyOut
            by_cases h1 : x < i
            · simp [h1, show x < i + 1 from by omega]
            · by_cases h2 : x = i
              · subst h2; simp [htc]
              · simp [h1, h2, show ¬ x < i + 1 from by omega])
          replace hT := Lib.hid hT
          clear hgN hgL hrn hAk hbw
          go_wp2_with fail
          exact ⟨⟨i + 1, by omega, by go_num, hAn.out, hT.out⟩, by simp [intOf]; omega⟩
    · obtain rfl : i = n := by omega
      have i1 : decide ((i : Int) < (i : Int)) = false := by simp
      have hbw := (hK.out _ hT).2.2
      have hfin : Hid (wr.heap[A]? = some (.cells (boolA i (cycB L)) 4 (0, 0))) := Lib.hid (by
        rw [hAi]
        congr 2
        unfold boolA
        congr 1
        apply List.map_congr_left
        intro x hx
        simp [cyOut, List.mem_range.1 hx])
      clear hAi hT
      go_wp2_with fail
      go_ret
      exact ⟨A, rfl, hfin.out, hAw, hbw⟩
end Go.Proofs.Ytppkponnopnmdaa
