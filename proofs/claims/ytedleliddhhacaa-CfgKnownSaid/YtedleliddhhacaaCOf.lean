/- cfg.Of, walked. -/
import Derived.Test.YtedleliddhhacaaCMath
namespace Go.Proofs.Ytedleliddhhacaa
open Go.RowKit Go.Maps Go.WideMaps

theorem Fill.more {w1 w w' : World} {base G : Nat} {vs : List Value} {B : List (List Int)} (h : Fill w1 w base G vs B) (hb : Below w.heap.size w w') : Fill w1 w' base G vs B :=
  ⟨h.M.below hb, h.fresh, h.T.trans (Touch.of_below hb _)⟩
theorem Mat.lower {w : World} {base b0 G : Nat} {vs : List Value} {L : List (List Int)} (M : Mat w base G vs L) (h : b0 ≤ base) : Mat w b0 G vs L :=
  ⟨M.len, M.blk, Nat.le_trans h M.low, fun i u l hu hl => own_lower (M.row i u l hu hl) h, M.notG, M.apart⟩
theorem Mat.set {w : World} {base G : Nat} {vs : List Value} {L : List (List Int)} (M : Mat w base G vs L) {a : Addr} (h : a.block < base) (x : Value) : Mat (w.setCell a x) base G vs L := by
  have hT : Touch w (w.setCell a x) (fun b => b = a.block) := (Touch.refl w (fun b => b = a.block)).setCell (a := a) (fun _ => rfl) x
  refine M.kept hT (fun e => ?_) (fun i u b hu hb e => ?_)
  · have := M.low; omega
  · obtain ⟨l, hl⟩ : ∃ l, L[i]? = some l := ⟨_, List.getElem?_eq_getElem (by rw [← M.len]; exact (List.getElem?_eq_some_iff.1 hu).1)⟩
    have := ((M.row i u l hu hl).lt b hb).1
    omega
theorem Mat.top {w : World} {base G : Nat} {vs : List Value} {L : List (List Int)} (M : Mat w base G vs L) (i : Nat) (u : Value) (b : Nat) (hu : vs[i]? = some u) (hb : u.ownBlock = some b) : b < w.heap.size := by
  obtain ⟨l, hl⟩ : ∃ l, L[i]? = some l := ⟨_, List.getElem?_eq_getElem (by rw [← M.len]; exact (List.getElem?_eq_some_iff.1 hu).1)⟩
  exact ((M.row i u l hu hl).lt b hb).2
/-- What a map of first places is in memory. -/
def MapF (w : World) (b : Nat) (ls : List ByteArray) : Prop := ∃ D : DataW Unit, w.ownsMap Try.prog 9 (plainElem Try.prog 3) b ls.length D ∧ FirstMap D ls
theorem MapF.block {w w' : World} {b : Nat} {ls : List ByteArray} (h : MapF w b ls) (hb : w'.heap[b]? = w.heap[b]?) : MapF w' b ls := by
  obtain ⟨D, h1, h2⟩ := h
  exact ⟨D, ownsMap_block h1 hb, h2⟩
theorem MapF.lt {w : World} {b : Nat} {ls : List ByteArray} (h : MapF w b ls) : b < w.heap.size := by
  obtain ⟨D, h1, h2⟩ := h
  exact h1.lt

def OfPost (w : World) (d : Fun) (e : Ending) (w' : World) : Prop :=
  (ofOk d = true → ∃ m G1 vs1 G2 vs2, e = .returned (.tuple #[.agg #[.slice (some ⟨G1, 0, none⟩) d.blocks.length d.blocks.length, .slice (some ⟨G2, 0, none⟩) d.blocks.length d.blocks.length], .int .i64 0]) ∧
    Mat w' w.heap.size G1 vs1 (normL (rowsF d)) ∧ Mat w' m G2 vs2 (backL (rowsF d)) ∧ w.heap.size ≤ m ∧ G1 < m ∧ ∀ (i : Nat) (u : Value) (b : Nat), vs1[i]? = some u → u.ownBlock = some b → b < m) ∧
  (ofOk d = false → e = .returned (.tuple #[.agg #[.slice none 0 0, .slice none 0 0], .int .i64 4])) ∧ Below w.heap.size w w'

def SmallF (d : Fun) : Prop := d.blocks.length ≤ 1000 ∧ (∀ b ∈ d.blocks, b.label.size ≤ maxLen ∧ b.code.length ≤ 1000000 ∧ (waysL b).length ≤ 10000 ∧ ∀ s ∈ waysL b, s.size ≤ maxLen)

set_option maxRecDepth 20000 in
set_option maxHeartbeats 8000000 in
theorem of_any {w : World} {cs : List Value} {d : Fun} (h : RdFun w cs d) (hs : SmallF d) : Calls Try.prog 13 #[.agg cs.toArray] w (OfPost w d) := by
  obtain ⟨vp, vb, rfl, hp, hb⟩ := h
  obtain ⟨n, hn⟩ : ∃ n, n = d.blocks.length := ⟨_, rfl⟩
  obtain ⟨ap, cp, rfl⟩ := hp.form
  obtain ⟨ab, cb, rfl⟩ := hb.form
  rw [List.length_map] at hp ⊢
  clear hp
  rw [← hn] at hb ⊢
  have hn1 : n ≤ 1000 := by rw [hn]; exact hs.1
  have hs' := Lib.hid hs.2
  replace hb := Lib.hid hb
  replace hn := Lib.hid hn
  have hmm := @run_makeMap Try.prog
  have hlab : d.labels.length = n := by simp [Fun.labels, hn.out]
  replace hlab := Lib.hid hlab
  clear hs
  go_enter Try.func13, Try.ntmps13
  go_wp2_with fail
  have hM0 : MapF (((w.alloc (.cells #[.string d.name, .slice ap d.params.length cp, .slice ab n cb] 32)).alloc (.cells #[.slice none 0 0, .slice none 0 0] 36)).alloc (.map #[] 0)) (w.heap.size + 1 + 1) [] :=
    ⟨.map [], by have := World.ownsMap_made ((w.alloc (.cells #[.string d.name, .slice ap d.params.length cp, .slice ab n cb] 32)).alloc (.cells #[.slice none 0 0, .slice none 0 0] 36)) Try.prog 9 (plainElem (H := Unit) Try.prog 3); simpa using this, FirstMap.nil⟩
  have hB0 : Below w.heap.size w (((w.alloc (.cells #[.string d.name, .slice ap d.params.length cp, .slice ab n cb] 32)).alloc (.cells #[.slice none 0 0, .slice none 0 0] 36)).alloc (.map #[] 0)) := (((Below.refl _ _).alloc (Nat.le_refl _) _).alloc (by simp) _).alloc (by simp; omega) _
  have hF0 : (((w.alloc (.cells #[.string d.name, .slice ap d.params.length cp, .slice ab n cb] 32)).alloc (.cells #[.slice none 0 0, .slice none 0 0] 36)).alloc (.map #[] 0)).heap[w.heap.size]? = some (.cells #[.string d.name, .slice ap d.params.length cp, .slice ab n cb] 32 (0, 0)) := by
    rw [Below.heap_alloc _ _ _ (by simp; omega), Below.heap_alloc _ _ _ (by simp), heap_alloc_new]
  have hL0 : (((w.alloc (.cells #[.string d.name, .slice ap d.params.length cp, .slice ab n cb] 32)).alloc (.cells #[.slice none 0 0, .slice none 0 0] 36)).alloc (.map #[] 0)).heap[w.heap.size + 1]? = some (.cells #[.slice none 0 0, .slice none 0 0] 36 (0, 0)) := by
    rw [Below.heap_alloc _ _ _ (by simp)]
    have := heap_alloc_new (w.alloc (.cells #[.string d.name, .slice ap d.params.length cp, .slice ab n cb] 32)) (.cells #[.slice none 0 0, .slice none 0 0] 36)
    simpa using this
  generalize (((w.alloc (.cells #[.string d.name, .slice ap d.params.length cp, .slice ab n cb] 32)).alloc (.cells #[.slice none 0 0, .slice none 0 0] 36)).alloc (.map #[] 0)) = w0 at hM0 hB0 hF0 hL0 ⊢
  obtain ⟨S, hS⟩ : ∃ S, S = w.heap.size := ⟨_, rfl⟩
  rw [← hS] at hM0 hF0 hL0 ⊢
  have hSw : w.heap.size ≤ S := by omega
  have hlt0 := hM0.lt
  replace hS := Lib.hid hS
  replace hF0 := Lib.hid hF0
  replace hL0 := Lib.hid hL0
  go_loopw [5, 6, 7, 8, 22] (fun _ _ _ _ i wr => ∃ k, k ≤ n ∧ i = .int .i64 k ∧ Hid (MapF wr (S + 1 + 1) (d.labels.take k)) ∧ Touch w0 wr (fun b => b = S + 1 + 1)) (fun _ _ _ _ i _ => n - (intOf i).toNat)
  case atStart => exact ⟨0, Nat.zero_le _, rfl, Lib.hid hM0, Touch.refl _ _⟩
  case round =>
    clear hM0
    obtain ⟨k, hk, rfl, hM, hT⟩ := hrel
    by_cases hlt : k < n
    · obtain ⟨x, hx⟩ : ∃ x, d.blocks[k]? = some x := ⟨_, List.getElem?_eq_getElem (by rw [← hn.out]; exact hlt)⟩
      obtain ⟨b, off, cap, cs, e, hbl, ⟨vc, rfl, hcode⟩, -, hcell⟩ := hb.out.at hx
      rw [← hn.out] at e
      simp only [Value.slice.injEq] at e
      obtain ⟨rfl, -, rfl⟩ := e
      obtain ⟨ac, cc, rfl⟩ := hcode.form
      have hbT : ∀ j, wr.cell? ⟨b, off + k * 2 + j, none⟩ = w.cell? ⟨b, off + k * 2 + j, none⟩ := fun j => by
        rw [World.cell?_of_block (w := w0) (hT.block b (by have := hB0.size; omega) (by omega)), hB0.cell (p := ⟨b, off + k * 2 + j, none⟩) (by simp; omega)]
      have c0 : wr.cell? ⟨b, off + k * 2, none⟩ = some (.string x.label) := (hbT 0).trans (hcell 0 _ rfl)
      have c1 := (hbT 1).trans (hcell 1 _ rfl)
      have i1 : (k : Int) < (n : Int) := by omega
      have hlx : d.labels[k]? = some x.label := by simp [Fun.labels, hx]
      have htk := Lib.hid (take_snoc hlx)
      obtain ⟨D, hown0, hD⟩ := hM.out
      have hown := hown0.alloc (.cells #[.string x.label, .slice ac x.code.length cc] 44)
      have hkey := keyOf_string_mk Try.underlying9 (hs'.out x (List.mem_of_getElem? hx)).1
      have hlk : (d.labels.take k).length = k := by rw [List.length_take, hlab.out]; omega
      rw [hlk] at hown
      replace hlk := Lib.hid hlk
      clear hcell hbT hx hlx hM hown0 hcode
      by_cases hin : x.label ∈ d.labels.take k
      · have hhas : Maps.has D (.string x.label.data.toList) = true := by have := hD.has x.label; simpa [litS, hin] using this
        have hM2 : Hid (MapF (wr.alloc (.cells #[.string x.label, .slice ac x.code.length cc] 44)) (S + 1 + 1) (d.labels.take (k + 1))) := Lib.hid (by rw [htk.out]; exact ⟨D, by rw [List.length_append, hlk.out]; exact hown.mono (Nat.le_succ _), hD.hit hin⟩)
        have hT2 := Lib.hid (hT.alloc (.cells #[.string x.label, .slice ac x.code.length cc] 44))
        replace hT := Lib.hid hT
        clear hD hin
        go_wp2_with (first
          | (at_lookup; refine wpList_lookup_own_ok_int _ rfl _ _ 55 rfl 9 3 .i64 lawS Try.underlying55 Try.underlying3 (zeroI _) (S + 1 + 1) _ _ rfl hown _ _ rfl hkey ?_; intro c hc hwc; rw [hhas])
          | (at_mapUpdate; refine wpList_mapUpdate_own _ rfl _ _ _ 55 rfl 9 3 lawS Try.underlying55 _ (S + 1 + 1) k D rfl hown hkm _ _ _ rfl rfl hkey _ [] (plainElem_int Try.underlying3 hwf) ?_; intro w1 hown1 hgrow1)
          | go_in)
        exact ⟨⟨k + 1, by omega, by go_num, hM2.out, hT2.out⟩, by simp [intOf]; omega⟩
      · have hhas : Maps.has D (.string x.label.data.toList) = false := by have := hD.has x.label; simpa [litS, hin] using this
        have hkm : k < maxLen := by unfold maxLen; omega
        have hwf : (Lit.int .i64 (k : Int)).wf = true := WalkArith.wf_i64 (by omega)
        have hD2 := hD.miss hin
        rw [hlk.out] at hD2
        replace hD2 := Lib.hid hD2
        replace hT := Lib.hid hT
        clear hD hin
        go_wp2_with (first
          | (at_lookup; refine wpList_lookup_own_ok_int _ rfl _ _ 55 rfl 9 3 .i64 lawS Try.underlying55 Try.underlying3 (zeroI _) (S + 1 + 1) _ _ rfl hown _ _ rfl hkey ?_; intro c hc hwc; rw [hhas])
          | (at_mapUpdate; refine wpList_mapUpdate_own _ rfl _ _ _ 55 rfl 9 3 lawS Try.underlying55 _ (S + 1 + 1) k D rfl hown hkm _ _ _ rfl rfl hkey _ [] (plainElem_int Try.underlying3 hwf) ?_; intro w1 hown1 hgrow1)
          | go_in)
        have hM2 : Hid (MapF w1 (S + 1 + 1) (d.labels.take (k + 1))) := Lib.hid (by rw [htk.out]; exact ⟨_, by rw [List.length_append, hlk.out]; exact hown1, hD2.out⟩)
        have hT2 := Lib.hid ((hT.out.alloc (.cells #[.string x.label, .slice ac x.code.length cc] 44)).trans (Touch.of_grown (S := fun b => b = S + 1 + 1) hgrow1 (fun b e => (Option.some.inj e).symm)))
        clear hown1 hgrow1
        go_wp2_with fail
        exact ⟨⟨k + 1, by omega, by go_num, hM2.out, hT2.out⟩, by simp [intOf]; omega⟩
    · obtain rfl : k = n := by omega
      have i1 : decide ((k : Int) < (k : Int)) = false := by simp
      have htl : d.labels.take k = d.labels := by rw [← hlab.out]; exact List.take_length
      rw [htl] at hM
      have hbF := (hT.block S (by omega) (by omega)).trans hF0.out
      have hbL := (hT.block (S + 1) (by omega) (by omega)).trans hL0.out
      have hBw : Below w.heap.size w wr := hB0.trans (hT.below hB0.size (fun b hb e => by omega))
      have hMs := hM.out.lt
      have hmk := make_rows k (by omega) wr
      have hFl := Lib.hid (fill_new (w := wr) (n := k))
      have hbe : Below wr.heap.size wr (wr.alloc (.cells (Array.replicate k (Value.slice none 0 0)) 45)) := (Below.refl _ _).alloc (Nat.le_refl _) _
      have hlt1 : wr.heap.size < (wr.alloc (.cells (Array.replicate k (Value.slice none 0 0)) 45)).heap.size := by simp
      have hbF2 := Lib.hid ((hbe.block S (by omega)).trans hbF)
      have hbL2 := Lib.hid ((hbe.block (S + 1) (by omega)).trans hbL)
      have hM2 := Lib.hid (hM.out.block (hbe.block (S + 1 + 1) hMs))
      have hBw2 := hBw.trans (hbe.mono hBw.size)
      have cF : (wr.alloc (.cells (Array.replicate k (Value.slice none 0 0)) 45)).cell? ⟨S, 2, none⟩ = some (.slice ab k cb) := by rw [blk_cell hbF2.out]; rfl
      have cF1 : wr.cell? ⟨S, 2, none⟩ = some (.slice ab k cb) := by rw [blk_cell hbF]; rfl
      generalize hw1 : (wr.alloc (.cells (Array.replicate k (Value.slice none 0 0)) 45)) = w1 at *
      obtain ⟨G, hG⟩ : ∃ G, G = wr.heap.size := ⟨_, rfl⟩
      rw [← hG] at hFl hbe hlt1 hmk
      have hGb : S + 1 + 1 < G ∧ w.heap.size ≤ G := by have := hBw.size; omega
      replace hG := Lib.hid hG
      clear hw1 hM htl hT hMs hBw hB0 hL0 hF0 hlt0
      go_wp2_with fail
      obtain ⟨R, hR⟩ : ∃ R, Hid (rowsF d = R) := ⟨_, Lib.hid rfl⟩
      have hRl : Hid (R.length = k) := Lib.hid (by rw [← hR.out, rowsF, List.length_map]; exact hn.out.symm)
      have hlow : Hid (∀ r ∈ R, r.length ≤ 10000) := Lib.hid (fun r hr => by
        rw [← hR.out] at hr
        obtain ⟨x, hx, rfl⟩ := List.mem_map.1 hr
        rw [rowB, List.length_map]
        exact (hs'.out x hx).2.2.1)
      have hFs : Hid (Fill w1 w1 G G (List.replicate k (Value.slice none 0 0)) (someRows R 0 0)) := Lib.hid (by rw [someRows_start, hRl.out]; exact hFl.out)
      clear hFl hbF hbL cF cF1 hmk hbe
      go_loopw [10, 11, 12, 13, 15, 16, 17, 48, 61, 62, 63] (fun _ _ _ _ _ _ _ i _ _ _ wr => ∃ (m : Nat) (vs : List Value), m ≤ k ∧ i = .int .i64 m ∧ Hid (Fill w1 wr G G vs (someRows R m 0)) ∧ Hid (∀ x ∈ d.blocks.take m, okB d.labels x = true)) (fun _ _ _ _ _ _ _ i _ _ _ _ => k - (intOf i).toNat)
      case atStart => exact ⟨0, _, Nat.zero_le _, rfl, hFs, Lib.hid (fun x hx => by simp at hx)⟩
      case round =>
        clear hFs
        obtain ⟨m, vs, hm, rfl, hF, hok⟩ := hrel
        have hT := hF.out.T
        have hBr : Below w.heap.size w wr := hBw2.trans (hT.below hBw2.size (fun b hb e => by omega))
        by_cases hltm : m < k
        · obtain ⟨x, hx⟩ : ∃ x, d.blocks[m]? = some x := ⟨_, List.getElem?_eq_getElem (by rw [← hn.out]; exact hltm)⟩
          obtain ⟨b, off, cap, cs, e, hbl, ⟨vc, rfl, hcode⟩, -, hcell⟩ := hb.out.at hx
          rw [← hn.out] at e
          simp only [Value.slice.injEq] at e
          obtain ⟨rfl, -, rfl⟩ := e
          obtain ⟨ac, cc, rfl⟩ := hcode.form
          have c0 : wr.cell? ⟨b, off + m * 2, none⟩ = some (.string x.label) := (hBr.cell (p := ⟨b, off + m * 2, none⟩) hbl).trans (hcell 0 _ rfl)
          have c1 := (hBr.cell (p := ⟨b, off + m * 2 + 1, none⟩) hbl).trans (hcell 1 _ rfl)
          have i2 : (m : Int) < (k : Int) := by omega
          have hxm := List.mem_of_getElem? hx
          have hsx := hs'.out x hxm
          have htk := Lib.hid (take_snoc hx)
          have hRm : Hid (R[m]? = some (rowB d.labels x)) := Lib.hid (by rw [← hR.out, rowsF, List.getElem?_map, hx]; rfl)
          have hbe2 : Below wr.heap.size wr (wr.alloc (.cells #[.string x.label, .slice ac x.code.length cc] 44)) := (Below.refl _ _).alloc (Nat.le_refl _) _
          have hW := Lib.hid (ways_any ⟨.slice ac x.code.length cc, rfl, hcode⟩ (hBr.trans (hbe2.mono hBr.size)) hsx.2.1)
          have hF2 := Lib.hid (hF.out.more hbe2)
          have hBr2 := hBr.trans (hbe2.mono hBr.size)
          have hle2 := hbe2.size
          replace hsx := Lib.hid hsx
          replace hxm := Lib.hid hxm
          clear hcell hx hcode hF hbe2 hBr
          go_wp2_with fail
          refine hW.out.mono ?_
          rintro e w2 ⟨hsome, hnone, hbw⟩
          have hF3 := Lib.hid (hF2.out.more hbw)
          have hBr3 := hBr2.trans (hbw.mono hBr2.size)
          have hT3 := hF3.out.T
          have hbL3 := (hT3.block (S + 1) (by omega) (by omega)).trans hbL2.out
          have cL0 : w2.cell? ⟨S + 1, 0, none⟩ = some (.slice none 0 0) := by rw [blk_cell hbL3]; rfl
          have cL1 : w2.cell? ⟨S + 1, 1, none⟩ = some (.slice none 0 0) := by rw [blk_cell hbL3]; rfl
          have fL0 : w2.frozen? ⟨S + 1, 0, none⟩ = false := by simp [World.frozen?, hbL3]
          have fL1 : w2.frozen? ⟨S + 1, 1, none⟩ = false := by simp [World.frozen?, hbL3]
          have hsz3 := hT3.size
          clear hW hF2 hBr2 hle2 hT
          rcases hwx : waysB x with _ | ls
          · obtain rfl := hnone hwx
            have hno : Hid (ofOk d = false) := Lib.hid (by
              unfold ofOk
              rw [List.all_eq_false]
              exact ⟨x, hxm.out, by simp [okB, hwx]⟩)
            clear hsome hnone hwx hbL3
            go_wp2_with fail
            refine bodyPost_ret (by simp [results, Try.results13, go_sem, *]; exact rfl) rfl ?_
            exact ⟨(fun h => absurd h (by rw [hno.out]; simp)), (fun _ => rfl), (hBr3.setCell (show _ ≤ S + 1 by omega) _).setCell (show _ ≤ S + 1 by omega) _⟩
          · obtain ⟨v, rfl, hv⟩ := hsome ls hwx
            obtain ⟨av, cv, rfl⟩ := hv.form
            rw [List.length_map]
            clear cL0 cL1 fL0 fL1 hbL3 hsome hnone
            have hwl : waysL x = ls := by simp [waysL, hwx]
            have hll : ls.length ≤ 10000 := by rw [← hwl]; exact hsx.out.2.2.1
            have hls : Hid (∀ s ∈ ls, s.size ≤ maxLen) := Lib.hid (by rw [← hwl]; exact hsx.out.2.2.2)
            obtain ⟨r, hr⟩ : ∃ r, r = ls.map fun s => (place d.labels s : Int) := ⟨_, rfl⟩
            have hRm2 : Hid (R[m]? = some r) := Lib.hid (by rw [hRm.out, rowB, hwl, hr])
            have hrl : Hid (r.length = ls.length) := Lib.hid (by rw [hr, List.length_map])
            have hrv : Hid (∀ q s, ls[q]? = some s → r[q]? = some (place d.labels s : Int)) := Lib.hid (fun q s h => by rw [hr, List.getElem?_map, h]; rfl)
            clear hr
            replace hwx := Lib.hid hwx
            replace hv := Lib.hid hv
            clear hwl hRm hT3
            go_wp2_with fail
            go_loopw [15, 16, 17, 63] (fun _ _ _ i wr => ∃ (q : Nat) (vs : List Value), q ≤ ls.length ∧ i = .int .i64 q ∧ Hid (Fill w1 wr G G vs (someRows R m q)) ∧ Hid (∀ s ∈ ls.take q, s ∈ d.labels)) (fun _ _ _ i _ => ls.length - (intOf i).toNat)
            case atStart => exact ⟨0, vs, Nat.zero_le _, rfl, hF3, Lib.hid (fun s hs => by simp at hs)⟩
            case round =>
              clear hF3 hBr3 hsz3 hbw
              obtain ⟨q, vs, hq, rfl, hF, hin⟩ := hrel
              have hT := hF.out.T
              have hBr : Below w.heap.size w wr := hBw2.trans (hT.below hBw2.size (fun b hb e => by omega))
              by_cases hltq : q < ls.length
              · obtain ⟨s, hsq⟩ : ∃ s, ls[q]? = some s := ⟨_, List.getElem?_eq_getElem hltq⟩
                obtain ⟨b3, off3, cap3, e3, hbl3, hc30⟩ := Rd.at hv.out (i := q) (u := .string s) (by simp [hsq])
                simp only [Value.slice.injEq] at e3
                obtain ⟨rfl, -, rfl⟩ := e3
                have hc3 := (hBr.cell (p := ⟨b3, off3 + q, none⟩) hbl3).trans hc30
                have i3 : (q : Int) < (ls.length : Int) := by omega
                have htq := Lib.hid (take_snoc hsq)
                obtain ⟨D, hown, hD⟩ := hM2.out.block (hT.block (S + 1 + 1) (by have := hM2.out.lt; omega) (by omega))
                have hkey := keyOf_string_mk Try.underlying9 (hls.out s (List.mem_of_getElem? hsq))
                by_cases hsin : s ∈ d.labels
                · have hhas : Maps.has D (.string s.data.toList) = true := by have := hD.has s; simpa [litS, hsin] using this
                  obtain ⟨a, ha⟩ : ∃ a, a = place d.labels s := ⟨_, rfl⟩
                  have hat : Hid (∀ z, D.atKey (.string s.data.toList) z = num a) := Lib.hid (fun z => by rw [ha]; exact hD.at_ s hsin z)
                  have hrq : Hid (r[q]? = some (a : Int)) := Lib.hid (by rw [ha]; exact hrv.out q s hsq)
                  have hin2 := Lib.hid (show ∀ t ∈ ls.take (q + 1), t ∈ d.labels by
                    rw [htq.out]
                    intro t ht
                    rcases List.mem_append.1 ht with h | h
                    · exact hin.out t h
                    · rw [List.mem_singleton.1 h]; exact hsin)
                  have hle := hT.size
                  obtain ⟨i0, hi0, hz0, hz1, hz2⟩ := info_parts infoI1
                  obtain ⟨u1, hu1, hrow⟩ := hF.out.M.at (someRows_at hRm2.out)
                  have hgc := hF.out.M.cell hu1
                  obtain ⟨au, cu, rfl⟩ := own_form hrow
                  rw [List.length_take, hrl.out, Nat.min_eq_left hq] at hrow hgc hu1
                  have i4 : (m : Int) < (k : Int) := by omega
                  replace hu1 := Lib.hid hu1
                  replace hle := Lib.hid hle
                  clear hsq hc30 hD ha hsin hin hT
                  go_wp2_with (first
                    | (at_lookup; refine wpList_lookup_own_ok_int _ rfl _ _ 55 rfl 9 3 .i64 lawS Try.underlying55 Try.underlying3 (zeroI _) (S + 1 + 1) _ _ rfl hown _ _ rfl hkey ?_; intro c hc hwc; rw [hhas]; obtain rfl : c = (a : Int) := (by have := hat.out (.lit (.int .i64 0)); rw [hc] at this; simpa [num] using this); clear hc)
                    | (at_builtin; refine wpList_append_own_at _ rfl _ _ 45 rfl G 3 i0 _ 1 8 Try.underlying45 hi0 hz0 hz1 hz2 rfl (by decide) _ _ _ rfl (hrow.alloc _) ⟨wr.heap.size, 0, none⟩ 1 1 [.int .i64 a] rfl rfl (World.news_of_block (cs := #[.int .i64 a]) (t := 3) (fr := (0, 0)) (heap_alloc_new wr _)) (by simp [Value.oneCell']) (by unfold maxLen; omega) (by omega) (by have := hle.out; simp; omega) ?_)
                    | go_in)
                  intro v' w3 hown3 hgrow hnil hat3
                  have hFq := hF.out.appended (x := a) hu1.out (someRows_at hRm2.out) (by rw [List.length_take, hrl.out, Nat.min_eq_left hq, List.map_take]; exact hown3) hgrow hat3
                  rw [someRows_push hRm2.out hrq.out, List.length_take, hrl.out, Nat.min_eq_left hq] at hFq
                  obtain ⟨⟨av2, cv2, rfl⟩, hc5, hf5, hF5⟩ := hFq
                  replace hF5 := Lib.hid hF5
                  clear hown3 hgrow hnil hat3 hgc hrow hu1 hF hown
                  go_wp2_with fail
                  exact ⟨⟨q + 1, _, by omega, by go_num, hF5, hin2⟩, by simp [intOf]; omega⟩
                · have hhas : Maps.has D (.string s.data.toList) = false := by have := hD.has s; simpa [litS, hsin] using this
                  have hno : Hid (ofOk d = false) := Lib.hid (by
                    unfold ofOk
                    rw [List.all_eq_false]
                    refine ⟨x, hxm.out, ?_⟩
                    simp only [okB, hwx.out]
                    rw [Bool.not_eq_true, List.all_eq_false]
                    exact ⟨s, List.mem_of_getElem? hsq, by simpa using hsin⟩)
                  have hbL3 := (hT.block (S + 1) (by omega) (by omega)).trans hbL2.out
                  have cL0 : wr.cell? ⟨S + 1, 0, none⟩ = some (.slice none 0 0) := by rw [blk_cell hbL3]; rfl
                  have cL1 : wr.cell? ⟨S + 1, 1, none⟩ = some (.slice none 0 0) := by rw [blk_cell hbL3]; rfl
                  have fL0 : wr.frozen? ⟨S + 1, 0, none⟩ = false := by simp [World.frozen?, hbL3]
                  have fL1 : wr.frozen? ⟨S + 1, 1, none⟩ = false := by simp [World.frozen?, hbL3]
                  have hsz := hT.size
                  clear hsq hc30 hD hsin hin hT hbL3 hF
                  go_wp2_with (first
                    | (at_lookup; refine wpList_lookup_own_ok_int _ rfl _ _ 55 rfl 9 3 .i64 lawS Try.underlying55 Try.underlying3 (zeroI _) (S + 1 + 1) _ _ rfl hown _ _ rfl hkey ?_; intro c hc hwc; rw [hhas])
                    | go_in)
                  refine bodyPost_ret (by simp [results, Try.results13, go_sem, *]; exact rfl) rfl ?_
                  exact ⟨(fun h => absurd h (by rw [hno.out]; simp)), (fun _ => rfl), (hBr.setCell (show _ ≤ S + 1 by omega) _).setCell (show _ ≤ S + 1 by omega) _⟩
              · obtain rfl : q = ls.length := by omega
                have i3 : decide ((ls.length : Int) < (ls.length : Int)) = false := by simp
                have hF5 : Hid (Fill w1 wr G G vs (someRows R (m + 1) 0)) := Lib.hid (by rw [← someRows_next hRm2.out, hrl.out]; exact hF.out)
                have hok5 : Hid (∀ y ∈ d.blocks.take (m + 1), okB d.labels y = true) := Lib.hid (by
                  rw [htk.out]
                  intro y hy
                  rcases List.mem_append.1 hy with h | h
                  · exact hok.out y h
                  · rw [List.mem_singleton.1 h]
                    simp only [okB, hwx.out]
                    rw [List.all_eq_true]
                    intro s hs
                    have := hin.out s (by rw [List.take_length]; exact hs)
                    simpa using this)
                clear hF hin hT
                go_wp2_with fail
                exact ⟨⟨m + 1, vs, by omega, by go_num, hF5, hok5⟩, by simp [intOf]; omega⟩
        · obtain rfl : m = k := by omega
          have i1 : decide ((m : Int) < (m : Int)) = false := by simp
          have hRe : someRows R m 0 = R := by rw [← hRl.out]; exact someRows_end
          rw [hRe] at hF
          have hgd : RdG wr (.slice (some ⟨G, 0, none⟩) m m) R := hF.out.M.rd hRl.out.symm
          have hN := Lib.hid (norm_any hgd (by rw [hRl.out]; omega) (fun r hr => Nat.le_trans (hlow.out r hr) (by omega)))
          rw [hRl.out] at hN
          have hyes : Hid (ofOk d = true) := Lib.hid (by
            unfold ofOk
            rw [List.all_eq_true]
            rw [hn.out, List.take_length] at hok
            exact hok.out)
          have hbL3 := (hT.block (S + 1) (by omega) (by omega)).trans hbL2.out
          replace hgd := Lib.hid hgd
          have hszr := hT.size
          clear hF hT hok hRe
          go_wp2_with fail
          refine hN.out.mono ?_
          rintro e w3 ⟨G1, vs1, rfl, M1, hb1⟩
          have hB := Lib.hid (back_any (hgd.out.below hb1) (by rw [hRl.out]; omega) (fun r hr => Nat.le_trans (hlow.out r hr) (by omega)))
          rw [hRl.out] at hB
          replace M1 := Lib.hid M1
          have hB3 := hBr.trans (hb1.mono hBr.size)
          have hbL4 := (hb1.block (S + 1) (by omega)).trans hbL3
          have hsz3 := hb1.size
          clear hN hgd
          go_wp2_with fail
          refine hB.out.mono ?_
          rintro e w4 ⟨G2, vs2, rfl, M2, hb2⟩
          have hB4 := hB3.trans (hb2.mono hB3.size)
          have hbL5 := (hb2.block (S + 1) (by omega)).trans hbL4
          have cL0 : w4.cell? ⟨S + 1, 0, none⟩ = some (.slice none 0 0) := by rw [blk_cell hbL5]; rfl
          have cL1 : w4.cell? ⟨S + 1, 1, none⟩ = some (.slice none 0 0) := by rw [blk_cell hbL5]; rfl
          have fL0 : w4.frozen? ⟨S + 1, 0, none⟩ = false := by simp [World.frozen?, hbL5]
          have fL1 : w4.frozen? ⟨S + 1, 1, none⟩ = false := by simp [World.frozen?, hbL5]
          replace M2 := Lib.hid M2
          clear hB hbL3 hbL4 hbL5
          go_wp2_with fail
          refine bodyPost_ret (by simp [results, Try.results13, go_sem, *]; exact rfl) rfl ?_
          unfold OfPost
          rw [← hn.out, hR.out]
          have hwr := hBr.size
          refine ⟨fun _ => ⟨w3.heap.size, G1, vs1, G2, vs2, rfl, ?_, ?_, ?_, M1.out.lt, M1.out.top⟩, (fun h => absurd h (by rw [hyes.out]; simp)), (hB4.setCell (show _ ≤ S + 1 by omega) _).setCell (show _ ≤ S + 1 by omega) _⟩
          · exact (((M1.out.below hb2).set (show S + 1 < _ by omega) _).set (show S + 1 < _ by omega) _).lower hwr
          · exact ((M2.out.set (show S + 1 < _ by omega) _).set (show S + 1 < _ by omega) _)
          · omega
end Go.Proofs.Ytedleliddhhacaa
