/- dom.Frontier, walked. -/
import Derived.Test.YteipncggndefmaaDFrontA
namespace Go.Proofs.Yteipncggndefmaa
open Go.RowKit Go.Maps Go.Shelf

/-- The root as a node; the count of nodes where it is none. -/
def rootN (L : List (List Int)) (root : Int) : Nat := if 0 ≤ root ∧ root < L.length then root.toNat else L.length
def DT (L : List (List Int)) (y0 : Nat) (t : List Int) : Prop := (∃ (o : List Nat) (T : Nat → Nat), Tree L y0 o T t) ∨ (L.length ≤ y0 ∧ t = List.replicate L.length (-2))
theorem DomTree.dt {L : List (List Int)} {root : Int} {t : List Int} (h : DomTree L root t) : DT L (rootN L root) t := by
  rcases h with ⟨y, o, T, rfl, ht⟩ | ⟨h1, h2⟩
  · have hy := ht.row.lt ht.row.head
    refine .inl ⟨o, T, ?_⟩
    unfold rootN
    rw [if_pos ⟨by omega, by omega⟩, Int.toNat_natCast]
    exact ht
  · refine .inr ⟨?_, h2⟩
    unfold rootN
    rw [if_neg h1]
    exact Nat.le_refl _
theorem DT.domL {L : List (List Int)} {y0 : Nat} {t : List Int} (h : DT L y0 t) {m : Nat} (hm : L.length ≤ m) (a b : Nat) : Go.Proofs.Yteipncggndefmaa.domL m t a b = true ↔ Dmn L y0 a b := by
  rcases h with ⟨o, T, ht⟩ | ⟨h1, rfl⟩
  · exact ht.domL hm a b
  · constructor
    · intro h2
      unfold Go.Proofs.Yteipncggndefmaa.domL at h2
      simp only [Bool.and_eq_true, Bool.not_eq_true', decide_eq_false_iff_not, Int.toNat_natCast, List.length_replicate, validI, decide_eq_true_eq] at h2
      obtain ⟨⟨⟨-, h3⟩, h4⟩, -⟩ := h2
      rw [List.getElem?_replicate, if_pos (by omega)] at h4
      exact absurd rfl h4
    · intro hd
      have := hd.1.lt.1
      omega
/-- What Frontier tells. -/
def FrontOf (L : List (List Int)) (y0 : Nat) (B : List (List Int)) : Prop :=
  B.length = L.length ∧ ∀ (a : Nat) (r : List Int), B[a]? = some r → r.Pairwise (· < ·) ∧ ∀ z : Int, z ∈ r ↔ ∃ y : Nat, z = y ∧ FrP L y0 a y
theorem FrAt.front {L : List (List Int)} {y0 n : Nat} {B : List (List Int)} (hn : n = L.length) (h : FrAt n (FrP L y0) n (fun _ => False) B) : FrontOf L y0 B := by
  refine ⟨by rw [h.1, hn], fun a r hr => ?_⟩
  obtain ⟨h1, h2⟩ := h.2 a r hr
  refine ⟨h1, fun z => ?_⟩
  rw [h2]
  constructor
  · rintro ⟨y, e, h3 | h3⟩
    · exact ⟨y, e, h3.2⟩
    · exact h3.2.elim
  · rintro ⟨y, e, x, h3, h4⟩
    have := h3.lt.2
    exact ⟨y, e, .inl ⟨by omega, x, h3, h4⟩⟩

set_option maxRecDepth 20000 in
set_option maxHeartbeats 4000000 in
theorem frontier_any {w : World} {v : Value} {L : List (List Int)} {root : Int} (h : RdG w v L) (hL : L.length ≤ 100000) (hr : ∀ r ∈ L, r.length ≤ 100000) :
    Calls Try.prog 16 #[v, .int .i64 root] w fun e w' => ∃ G vs B, e = .returned (.slice (some ⟨G, 0, none⟩) L.length L.length) ∧ Mat w' w.heap.size G vs B ∧ FrontOf L (rootN L root) B ∧ Below w.heap.size w w' := by
  obtain ⟨av, c0, rfl⟩ := h.form
  obtain ⟨n, hn⟩ : ∃ n, n = L.length := ⟨_, rfl⟩
  have hTr := Lib.hid (tree_any (root := root) h hL hr)
  have hBack := Lib.hid (fun (w2 : World) (hb : Below w.heap.size w w2) => back_any (h.below hb) hL hr)
  have hmk := fun w' => make_rows n (by omega) w'
  rw [← hn] at hTr hBack ⊢
  have hn2 : n ≤ 100000 := by omega
  have hrow := Lib.hid (back_low L hL)
  have hform := Lib.hid (back_form L)
  have hbl := backL_len L
  rw [← hn] at hbl
  replace hn := Lib.hid hn
  clear h hL hr
  go_enter Try.func16, Try.ntmps16
  go_wp2_with fail
  refine hTr.out.mono ?_
  rintro e w1 ⟨TB, t, rfl, hI1, hD, htl, hTB, hb1⟩
  have hDT := Lib.hid hD.dt
  replace hI1 := Lib.hid hI1
  replace hb1 := Lib.hid hb1
  replace htl := Lib.hid htl
  obtain ⟨y0, hy0⟩ : ∃ y0, Hid (rootN L root = y0) := ⟨_, Lib.hid rfl⟩
  rw [hy0.out] at hDT
  clear hTr hD
  go_wp2_with fail
  have hF0 := Lib.hid (fill_new (w := w1) (n := n))
  have hb2 : Below w1.heap.size w1 (w1.alloc (.cells (Array.replicate n (Value.slice none 0 0)) 25)) := (Below.refl _ _).alloc (Nat.le_refl _) _
  have hI2 : Ints (w1.alloc (.cells (Array.replicate n (Value.slice none 0 0)) 25)) TB t := (hb2.block _ hI1.out.lt).trans hI1.out
  have hB2 := hb1.out.trans (hb2.mono hb1.out.size)
  have hTlt := hI1.out.lt
  have hG2 : w1.heap.size < (w1.alloc (.cells (Array.replicate n (Value.slice none 0 0)) 25)).heap.size := by simp
  have hK := Lib.hid (hBack.out _ hB2)
  have hle1 := hb1.out.size
  clear hb2 hI1 hb1 hBack hmk
  generalize (w1.alloc (.cells (Array.replicate n (Value.slice none 0 0)) 25)) = w2 at hF0 hI2 hB2 hG2 hK ⊢
  refine hK.out.mono ?_
  rintro e w3 ⟨BG, vsB, rfl, M3, hb3⟩
  have hX := M3.off (U := fun b => b = w1.heap.size) (fun b e => by rw [e]; exact hG2) (cap := n) hbl.symm
  have hI3 : Ints w3 TB t := (hb3.block _ hI2.lt).trans hI2
  have hB3 := Lib.hid (hB2.trans (hb3.mono hB2.size))
  have hF3 : Fill w3 w3 w1.heap.size w1.heap.size (List.replicate n (Value.slice none 0 0)) (List.replicate n []) := by
    have h1 := hF0.out.M.below hb3
    refine ⟨h1, fun i u b hu hb => ?_, Touch.refl _ _⟩
    obtain rfl := List.eq_of_mem_replicate (List.mem_of_getElem? hu)
    cases hb
  have hlt3 : w1.heap.size ≤ w3.heap.size := by have := hb3.size; omega
  obtain ⟨G, hG⟩ : ∃ G, G = w1.heap.size := ⟨_, rfl⟩
  have hA3 := FrAt.new n (FrP L y0)
  have hTG : TB ≠ G := by omega
  replace hF3 := Lib.hid hF3
  replace hA3 := Lib.hid hA3
  replace hI3 := Lib.hid hI3
  rw [← hG] at hX hF3 hlt3 ⊢
  replace hG := Lib.hid hG
  clear hF0 hI2 hB2 hG2 hK M3 hb3 hTlt
  go_wp2_with fail
  go_loopw [7, 8, 10, 11, 21] (fun _ _ _ _ i wr => ∃ (k : Nat) (vs : List Value) (B : List (List Int)), k ≤ n ∧ i = .int .i64 k ∧ Hid (Fill w3 wr G G vs B) ∧ Hid (FrAt n (FrP L y0) k (fun _ => False) B)) (fun _ _ _ _ i _ => n - (intOf i).toNat)
  case atStart => exact ⟨0, _, _, Nat.zero_le _, rfl, hF3, hA3⟩
  case round =>
    clear hF3 hA3
    obtain ⟨k, vs, B, hk, rfl, hF, hA⟩ := hrel
    by_cases hlt : k < n
    · obtain ⟨r, hrk⟩ : ∃ r, (backL L)[k]? = some r := ⟨_, List.getElem?_eq_getElem (by omega)⟩
      have hrl : r.length ≤ 100000 := hrow.out r (List.mem_of_getElem? hrk)
      have hrf := hform.out r (List.mem_of_getElem? hrk)
      obtain ⟨b, off, cap', u, e, hblk, hbG, hcell1, hrd1, hoff⟩ := hX.at hrk
      rw [hbl] at e hrf
      simp only [Value.slice.injEq, Option.some.injEq, Addr.mk.injEq] at e
      obtain ⟨⟨rfl, rfl, -⟩, -, rfl⟩ := e
      obtain ⟨ar, cr, rfl⟩ := hrd1.shape
      rw [Nat.zero_add] at hcell1
      have hcell := (cell_off hF.out.T hblk hbG).trans hcell1
      have hedge : Hid (∀ z : Nat, (z : Int) ∈ r ↔ Edge L z k) := Lib.hid (fun z => by
        rw [← edge_back]
        unfold Edge
        rw [backL_len]
        constructor
        · intro hz
          have := hrf.2 _ hz
          exact ⟨by have := hn.out; omega, r, hrk, hz⟩
        · rintro ⟨-, r', hr', hz⟩
          obtain rfl := Option.some.inj (hrk.symm.trans hr')
          exact hz)
      have i1 : (k : Int) < (n : Int) := by omega
      have hA0 := Lib.hid (hA.out.same (D' := FrJ L y0 k r 0) (fun a _ => ⟨fun h => h.elim, fun h => FrJ.zero k r a h⟩))
      obtain ⟨rl, hrl2⟩ : ∃ rl, rl = r.length := ⟨_, rfl⟩
      rw [← hrl2] at hrl hoff hcell hrd1
      rw [show (Value.slice ar r.length cr) = .slice ar rl cr from by rw [hrl2]] at *
      replace hrl2 := Lib.hid hrl2
      replace hrf := Lib.hid hrf
      replace hrd1 := Lib.hid hrd1
      replace hoff := Lib.hid hoff
      clear hcell1 hA hrk
      go_wp2_with fail
      go_loopw [10, 11, 28] (fun _ _ i wr => ∃ (j : Nat) (vs : List Value) (B : List (List Int)), j ≤ rl ∧ i = .int .i64 j ∧ Hid (Fill w3 wr G G vs B) ∧ Hid (FrAt n (FrP L y0) k (FrJ L y0 k r j) B)) (fun _ _ i _ => rl - (intOf i).toNat)
      case atStart => exact ⟨0, _, _, Nat.zero_le _, rfl, hF, hA0⟩
      case round =>
        clear hF hA0 hcell
        obtain ⟨j, vs, B, hj, rfl, hF, hA⟩ := hrel
        by_cases hltj : j < rl
        · obtain ⟨x0, hx⟩ : ∃ x, r[j]? = some x := ⟨_, List.getElem?_eq_getElem (by have := hrl2.out; omega)⟩
          obtain ⟨hx0, hxn⟩ := hrf.out.2 x0 (List.mem_of_getElem? hx)
          obtain ⟨x, rfl⟩ : ∃ x : Nat, x0 = x := ⟨x0.toNat, by omega⟩
          obtain ⟨b2, off2, cap2, e2, hc2⟩ := RdI.cell (Rd.off hrd1.out hF.out.T (by rw [List.length_map, ← hrl2.out]; exact hoff.out)) hx
          rw [← hrl2.out] at e2
          simp only [Value.slice.injEq] at e2
          obtain ⟨rfl, -, rfl⟩ := e2
          have i2 : (j : Int) < (rl : Int) := by omega
          have i3 : (x : Int) < (n : Int) := by omega
          obtain ⟨tv, htv⟩ : ∃ tv, t[x]? = some tv := ⟨_, List.getElem?_eq_getElem (by have := htl.out; omega)⟩
          have ct : wr.cell? ⟨TB, x, none⟩ = some (.int .i64 tv) := (World.cell?_of_block (w := w3) (hF.out.T.block TB hI3.out.lt hTG)).trans (hI3.out.cell htv)
          by_cases hf : tv = -2
          · have d1 : (tv == -2) = true := by simp [hf]
            have hnw : ¬ Way L y0 x := by
              intro hw
              rcases hDT.out with ⟨o, T, ht⟩ | ⟨h1, -⟩
              · obtain ⟨p, hp, e⟩ := List.getElem_of_mem ((ht.row.mem x).2 hw)
                have hp' : o[p]? = some x := by rw [List.getElem?_eq_getElem hp, e]
                rcases Nat.eq_zero_or_pos p with rfl | h0
                · have := ht.is.first x hp' (by omega)
                  rw [htv] at this
                  have := Option.some.inj this
                  omega
                · obtain ⟨z, -, h2⟩ := ht.at_ hp' h0
                  rw [htv] at h2
                  have := Option.some.inj h2
                  omega
              · have := hw.lt.1; omega
            have hA2 := Lib.hid (hA.out.same (D' := FrJ L y0 k r (j + 1)) (fun a _ => (FrJ.far hx hnw a).symm))
            replace hf := Lib.hid hf
            replace htv := Lib.hid htv
            replace hnw := Lib.hid hnw
            clear hx hA
            go_wp2_with fail
            exact ⟨⟨j + 1, vs, B, by omega, by go_num, hF, hA2⟩, by simp [intOf]; omega⟩
          · have d1 : (tv == -2) = false := by simp [hf]
            rcases hDT.out with ⟨o, T, ht⟩ | ⟨-, h1⟩
            · obtain ⟨p, hp⟩ : ∃ p, o[p]? = some x := by
                by_cases hxo : x ∈ o
                · obtain ⟨p, hp, e⟩ := List.getElem_of_mem hxo
                  exact ⟨p, by rw [List.getElem?_eq_getElem hp, e]⟩
                · exfalso
                  have := ht.is.far x (by have := hn.out; omega) (fun p hp => absurd (List.mem_of_getElem? hp) hxo)
                  rw [htv] at this
                  exact hf (Option.some.inj this)
              have he := (hedge.out x).1 (List.mem_of_getElem? hx)
              obtain ⟨q, hq⟩ : ∃ q, o[q]? = some k := by
                obtain ⟨q, hq, e⟩ := List.getElem_of_mem ((ht.row.mem k).2 (.step ((ht.row.mem x).1 (List.mem_of_getElem? hp)) he))
                exact ⟨q, by rw [List.getElem?_eq_getElem hq, e]⟩
              replace hf := Lib.hid hf
              replace htv := Lib.hid htv
              replace ht := Lib.hid ht
              replace hp := Lib.hid hp
              replace hq := Lib.hid hq
              replace hx := Lib.hid hx
              clear he
              go_upto_block 4 with fail
              refine dfront4 (by kernel_rfl) (w := wr) (w1 := w3) (o := o) (T := T) (t := t) (r := r) (vs := vs) (B := B) (q := q) (p := p) (j := j) hF.out ht.out hI3.out hTG hn.out hn2 hq.out hp.out hx.out hedge.out hA.out hlt3 (Lib.hid ?_)
              intros
              rename_i hx2
              obtain ⟨vs2, B2, hF2, hA2⟩ := hx2
              replace hF2 := Lib.hid hF2
              replace hA2 := Lib.hid hA2
              clear hF hA ct hc2
              go_wp2_with fail
              exact ⟨⟨j + 1, vs2, B2, by omega, by go_num, hF2, hA2⟩, by simp [intOf]; omega⟩
            · exfalso
              rw [h1, List.getElem?_replicate, if_pos (by have := hn.out; omega)] at htv
              exact hf (Option.some.inj htv).symm
        · obtain rfl : j = rl := by omega
          have i2 : decide ((j : Int) < (j : Int)) = false := by simp
          have hA2 : Hid (FrAt n (FrP L y0) (k + 1) (fun _ => False) B) := Lib.hid (hA.out.next (fun a _ => by rw [hrl2.out]; exact FrJ.all hedge.out a))
          clear hA
          go_wp2_with fail
          exact ⟨⟨k + 1, vs, B, by omega, by go_num, hF, hA2⟩, by simp [intOf]; omega⟩
    · obtain rfl : k = n := by omega
      have i1 : decide ((k : Int) < (k : Int)) = false := by simp
      have hfin : Hid (Mat wr w.heap.size G vs B) := Lib.hid (by
        have M := hF.out.M
        have := hG.out
        exact ⟨M.len, M.blk, by omega, fun i u l hu hl => own_mono (M.row i u l hu hl) (by omega), M.notG, M.apart⟩)
      have hb4 : Hid (Below w.heap.size w wr) := Lib.hid (hB3.out.trans (hF.out.T.below hB3.out.size (fun b hb e => by have := hG.out; omega)))
      have hfr := Lib.hid (hA.out.front hn.out)
      clear hF hA
      go_wp2_with fail
      go_ret
      exact ⟨G, vs, B, rfl, hfin.out, by rw [hy0.out]; exact hfr.out, hb4.out⟩
end Go.Proofs.Yteipncggndefmaa
