/- scc.Order, walked. -/
import Derived.Test.YtppkponnopnmdaaSNextW
namespace Go.Proofs.Ytppkponnopnmdaa
open Go.RowKit Go.Maps Go.Shelf

open Classical in
/-- Who is ahead, while it is reckoned. -/
noncomputable def cntI (F : List (List Int)) (k : Nat) (p : List Int) (y : Nat) : Int := (indegK F k y : Nat) + (if (y : Int) ∈ p then 1 else 0)
section
variable {F : List (List Int)} {k x y : Nat} {p r : List Int}
theorem cntI_nil : cntI F k [] y = (indegK F k y : Nat) := by simp [cntI]
theorem cntI_here (hx : (x : Int) ∉ p) : cntI F k p x = (indegK F k x : Nat) := by simp [cntI, hx]
theorem cntI_next (hx : (x : Int) ∉ p) : cntI F k (p ++ [(x : Int)]) x = (indegK F k x : Nat) + 1 := by simp [cntI]
theorem cntI_other (hy : y ≠ x) : cntI F k (p ++ [(x : Int)]) y = cntI F k p y := by
  have : ((y : Int) ∈ p ++ [(x : Int)]) ↔ (y : Int) ∈ p := by
    rw [List.mem_append, List.mem_singleton]
    exact ⟨fun h => h.resolve_right (fun e => hy (Int.ofNat_inj.1 e)), .inl⟩
  simp only [cntI, this]
theorem cntI_done (hr : F[k]? = some r) (hv : ∀ z ∈ r, 0 ≤ z ∧ z < F.length) : cntI F k r y = (indegK F (k + 1) y : Nat) := by
  have h2 : Edge F k y ↔ (y : Int) ∈ r := by
    constructor
    · rintro ⟨_, r', hr', hm⟩
      rw [hr] at hr'
      exact Option.some.inj hr' ▸ hm
    · exact fun hm => ⟨by have := hv _ hm; omega, r, hr, hm⟩
  unfold cntI
  rw [indegK_succ]
  by_cases he : (y : Int) ∈ r
  · rw [if_pos (h2.2 he), if_pos he]; omega
  · rw [if_neg (fun h => he (h2.1 h)), if_neg he]; omega
end
/-- Who is free from the first, among the first ones. -/
def InitH (F : List (List Int)) (k : Nat) (l : List Int) : Prop := l.Nodup ∧ ∀ z : Int, z ∈ l ↔ ∃ x : Nat, z = x ∧ x < k ∧ indeg F [] x = 0
theorem InitH.free {F : List (List Int)} {l : List Int} (h : InitH F F.length l) : FreeH F [] l := by
  refine ⟨h.1, fun z => ?_⟩
  rw [h.2]
  constructor
  · rintro ⟨x, rfl, h1, h2⟩
    exact ⟨x, rfl, h1, by simp, indeg_zero.1 h2⟩
  · rintro ⟨x, rfl, h1, _, h2⟩
    exact ⟨x, rfl, h1, indeg_zero.2 h2⟩
theorem InitH.skip {F : List (List Int)} {k : Nat} {l : List Int} (h : InitH F k l) (hk : indeg F [] k ≠ 0) : InitH F (k + 1) l := by
  refine ⟨h.1, fun z => ?_⟩
  rw [h.2]
  constructor
  · rintro ⟨x, rfl, h1, h2⟩; exact ⟨x, rfl, by omega, h2⟩
  · rintro ⟨x, rfl, h1, h2⟩
    refine ⟨x, rfl, ?_, h2⟩
    by_cases e : x = k
    · subst e; exact absurd h2 hk
    · omega
theorem InitH.push {F : List (List Int)} {k : Nat} {l l' : List Int} (h : InitH F k l) (hk : indeg F [] k = 0) (hl : l'.Perm ((k : Int) :: l)) : InitH F (k + 1) l' := by
  have hno : (k : Int) ∉ l := fun hm => by
    obtain ⟨x, e, h1, _⟩ := (h.2 _).1 hm
    have := Int.ofNat_inj.1 e
    omega
  refine ⟨hl.nodup_iff.2 (List.nodup_cons.2 ⟨hno, h.1⟩), fun z => ?_⟩
  rw [hl.mem_iff, List.mem_cons, h.2]
  constructor
  · rintro (rfl | ⟨x, rfl, h1, h2⟩)
    · exact ⟨k, rfl, by omega, hk⟩
    · exact ⟨x, rfl, by omega, h2⟩
  · rintro ⟨x, rfl, h1, h2⟩
    by_cases e : x = k
    · subst e; exact .inl rfl
    · exact .inr ⟨x, rfl, by omega, h2⟩
/-- The order, as far as it is. -/
def OrdP (F : List (List Int)) (o : List Nat) : Prop := ∀ i c, o[i]? = some c → Free F (o.take i) c ∧ ∀ c', c' < c → ¬ Free F (o.take i) c'
theorem OrdP.more {F : List (List Int)} {o : List Nat} {x : Nat} (h : OrdP F o) (hf : Free F o x) (hl : ∀ y, y < x → ¬ Free F o y) : OrdP F (o ++ [x]) := by
  intro i c hi
  rcases Nat.lt_or_ge i o.length with hlt | hge
  · rw [List.getElem?_append_left hlt] at hi
    rw [List.take_append_of_le_length (by omega)]
    exact h i c hi
  · rw [List.getElem?_append_right hge] at hi
    have h0 : i - o.length = 0 := by
      have := (List.getElem?_eq_some_iff.1 hi).1
      simp at this
      omega
    rw [h0] at hi
    obtain rfl := Option.some.inj hi
    rw [show i = o.length from by omega, List.take_append_of_le_length (Nat.le_refl _), List.take_length]
    exact ⟨hf, hl⟩
theorem out_one {F : List (List Int)} {o : List Nat} (h : o.length < F.length) : ∃ b, b < F.length ∧ b ∉ o := by
  classical
  by_cases hb : ∃ b, b < F.length ∧ b ∉ o
  · exact hb
  · have h1 := nodup_sub ((List.range F.length).map (fun x : Nat => (x : Int))) (o.map (fun x : Nat => (x : Int))) (List.pairwise_map.2 (List.Pairwise.imp (fun {a b} hab e => hab (Int.ofNat_inj.1 e)) List.nodup_range)) (fun z hz => by
      obtain ⟨x, hx, rfl⟩ := List.mem_map.1 hz
      have hx' := List.mem_range.1 hx
      by_cases hxo : x ∈ o
      · exact List.mem_map.2 ⟨x, hxo, rfl⟩
      · exact absurd ⟨x, hx', hxo⟩ hb)
    simp at h1
    omega

set_option maxRecDepth 20000 in
set_option maxHeartbeats 8000000 in
theorem order_any {w : World} {v : Value} {L : List (List Int)} (h : RdG w v L) (hL : L.length ≤ 300) (hr : ∀ r ∈ L, r.length ≤ 100000) :
    Calls Try.prog 19 #[v] w fun e w' => ∃ rv F m o, e = .returned rv ∧ Marks L m ∧ FoldOf L m F ∧ OrdOf F o ∧ RdI w' rv (o.map fun x : Nat => (x : Int)) ∧ Below w.heap.size w w' := by
  obtain ⟨av, c0, rfl⟩ := h.form
  have hFo := Lib.hid (fold_any h hL hr)
  clear h hr
  go_enter Try.func19, Try.ntmps19
  go_wp2_with fail
  refine hFo.out.mono ?_
  rintro e w1 ⟨fv, F, m, rfl, hker, hfold, hg, hb1⟩
  obtain ⟨c, hc⟩ : ∃ c, c = F.length := ⟨_, rfl⟩
  have hc3 : c ≤ 300 := by have := cntM_le m L.length; have := hfold.len; omega
  obtain ⟨af, cf, rfl⟩ : ∃ a k, fv = .slice a c k := by rw [hc]; exact hg.form
  have hap : ∀ a b, Way F a b → Way F b a → a = b := fun a b => hfold.apart hker
  have hself : ∀ a, ¬ Edge F a a := fun a e => ((hfold.edge a a).1 e).1 rfl
  have hfm := hfold.form
  replace hker := Lib.hid hker
  replace hfold := Lib.hid hfold
  replace hc := Lib.hid hc
  clear hFo
  obtain ⟨b0, hb0⟩ : ∃ b, b = w1.heap.size := ⟨_, rfl⟩
  have hX := Lib.hid (hg.off (U := fun b => b0 ≤ b) (fun b e => by omega))
  obtain ⟨w2, hw2⟩ : ∃ u, u = w1.alloc (.cells #[.slice af c cf] 36) := ⟨_, rfl⟩
  have hz2 : w2.heap.size = b0 + 1 := by rw [hw2, hb0]; simp
  have hA2 : w2.heap[b0]? = some (.cells #[.slice af c cf] 36 (0, 0)) := by rw [hw2, hb0]; exact heap_alloc_new w1 _
  have hmk := make_ints c (by omega) w2
  rw [hz2] at hmk
  obtain ⟨w2', hw2'⟩ : ∃ u, u = w2.alloc (.cells (markA c (fun _ => 0)) 3) := ⟨_, rfl⟩
  have hz2' : w2'.heap.size = b0 + 2 := by rw [hw2']; simp [hz2]
  obtain ⟨w3, hw3⟩ : ∃ u, u = w2'.alloc (.cells #[.slice (some ⟨b0 + 1, 0, none⟩) c c] 26) := ⟨_, rfl⟩
  have hz3 : w3.heap.size = b0 + 3 := by rw [hw3]; simp [hz2']
  have hBe12 : Below w1.heap.size w1 w2 := by rw [hw2]; exact (Below.refl _ _).alloc (Nat.le_refl _) _
  have hBe22 : Below w2.heap.size w2 w2' := by rw [hw2']; exact (Below.refl _ _).alloc (Nat.le_refl _) _
  have hBe23 : Below w2'.heap.size w2' w3 := by rw [hw3]; exact (Below.refl _ _).alloc (Nat.le_refl _) _
  have hf3 : w3.heap[b0]? = some (.cells #[.slice af c cf] 36 (0, 0)) := (hBe23.block b0 (by omega)).trans ((hBe22.block b0 (by omega)).trans hA2)
  have ha3 : w3.heap[b0 + 1]? = some (.cells (markA c (fun _ => 0)) 3 (0, 0)) := (hBe23.block (b0 + 1) (by omega)).trans (by rw [hw2', ← hz2]; exact heap_alloc_new w2 _)
  have hbb3 : w3.heap[b0 + 2]? = some (.cells #[.slice (some ⟨b0 + 1, 0, none⟩) c c] 26 (0, 0)) := by rw [hw3, ← hz2']; exact heap_alloc_new w2' _
  have hB13 : Below b0 w1 w3 := (hb0 ▸ hBe12).trans ((hBe22.mono (by omega)).trans (hBe23.mono (by omega)))
  have cw2 : w2.cell? ⟨b0, 0, none⟩ = some (.slice af c cf) := by rw [blk_cell hA2]; rfl
  have cw3 : w3.cell? ⟨b0, 0, none⟩ = some (.slice af c cf) := by rw [blk_cell hf3]; rfl
  have hX3 : Hid (RdX (fun b => b0 ≤ b) w3 (.slice af c cf) F) := Lib.hid (hX.out.below (hb0 ▸ hB13))
  have hsz := Lib.hid (size_any (w := w2) (v := .slice af c cf) rfl)
  rw [← hw2'] at hmk
  rw [hw3] at cw3
  replace hz2 := Lib.hid hz2
  replace hw2' := Lib.hid hw2'
  replace hw3 := Lib.hid hw3
  clear hBe12 hBe22 hBe23
  go_wp2_with fail
  rw [← hw2, ← hb0]
  refine hsz.out.mono ?_
  rintro e wq ⟨rfl, rfl⟩
  replace hw2 := Lib.hid hw2
  replace hb0 := Lib.hid hb0
  go_wp2_with fail
  rw [← hw3.out]
  clear cw3 cw2 hmk
  go_loopw [6, 8, 21, 25, 26, 27] (fun _ _ i _ _ _ wr => ∃ k : Nat, k ≤ c ∧ i = .int .i64 k ∧ wr.heap[b0 + 1]? = some (.cells (markA c (fun x => (indegK F k x : Nat))) 3 (0, 0)) ∧ Touch w3 wr (fun b => b = b0 + 1)) (fun _ _ i _ _ _ _ => c - (intOf i).toNat)
  case atStart => exact ⟨0, Nat.zero_le _, rfl, by simpa [indegK] using ha3, Touch.refl _ _⟩
  case round =>
    clear ha3
    obtain ⟨k, hk, rfl, hAk, hT⟩ := hrel
    by_cases hlt : k < c
    · obtain ⟨r, hrk⟩ : ∃ r, F[k]? = some r := ⟨_, List.getElem?_eq_getElem (by rw [← hc.out]; exact hlt)⟩
      have hrf := hfm r (List.mem_of_getElem? hrk)
      have hrl : r.length ≤ c := by rw [hc.out]; exact rise_lenN hrf.1 hrf.2
      obtain ⟨b, off, cap', u, e, hbl, hbG, hcell1, hrd1, hoff⟩ := hX3.out.at hrk
      rw [← hc.out] at e
      simp only [Value.slice.injEq] at e
      obtain ⟨rfl, -, rfl⟩ := e
      obtain ⟨ar, cr, rfl⟩ := hrd1.shape
      have hTU : Touch w3 wr (fun b => b0 ≤ b) := Touch.mono hT (fun _ _ e => by omega)
      have hcell := (cell_off hTU hbl hbG).trans hcell1
      have i1 : (k : Int) < (c : Int) := by omega
      have hAk0 : Hid (wr.heap[b0 + 1]? = some (.cells (markA c (cntI F k [])) 3 (0, 0))) := Lib.hid (by rw [hAk, markA_congr (fun x _ => cntI_nil.symm)])
      replace hrf := Lib.hid hrf
      replace hrd1 := Lib.hid hrd1
      replace hoff := Lib.hid hoff
      replace hT := Lib.hid hT
      clear hcell1 hAk
      go_wp2_with fail
      clear hcell
      go_loopw [8, 27] (fun _ j wx => ∃ q : Nat, q ≤ r.length ∧ j = .int .i64 q ∧ wx.heap[b0 + 1]? = some (.cells (markA c (cntI F k (r.take q))) 3 (0, 0)) ∧ Touch w3 wx (fun b => b = b0 + 1)) (fun _ j _ => r.length - (intOf j).toNat)
      case atStart => exact ⟨0, Nat.zero_le _, rfl, hAk0.out, hT.out⟩
      case round =>
        clear hAk0 hT
        obtain ⟨q, hq, rfl, hAq, hT⟩ := hrel
        by_cases hltq : q < r.length
        · obtain ⟨z, hz⟩ : ∃ z, r[q]? = some z := ⟨_, List.getElem?_eq_getElem hltq⟩
          obtain ⟨hz0, hzn⟩ := hrf.out.2 z (List.mem_of_getElem? hz)
          obtain ⟨y, rfl⟩ : ∃ y : Nat, z = y := ⟨z.toNat, by omega⟩
          have hyc : y < c := by rw [hc.out]; omega
          have ht : r.take (q + 1) = r.take q ++ [(y : Int)] := take_snoc hz
          have hnew : (y : Int) ∉ r.take q := by
            have h1 := hrf.out.1
            intro hm
            rw [← List.take_append_drop (q + 1) r, ht, List.pairwise_append, List.pairwise_append] at h1
            have := h1.1.2.2 _ hm _ (List.mem_singleton.2 rfl)
            omega
          have hTU2 : Touch w3 wr (fun b => b0 ≤ b) := Touch.mono hT (fun _ _ e => by omega)
          obtain ⟨b2, off2, cap2, e2, hc2⟩ := RdI.cell (Rd.off hrd1.out hTU2 (by rw [List.length_map]; exact hoff.out)) hz
          simp only [Value.slice.injEq] at e2
          obtain ⟨rfl, -, rfl⟩ := e2
          have i2 : (q : Int) < (r.length : Int) := by omega
          have i3 : (y : Int) < (c : Int) := by omega
          have cb : wr.cell? ⟨b0 + 2, 0, none⟩ = some (.slice (some ⟨b0 + 1, 0, none⟩) c c) := by rw [blk_cell ((hT.block (b0 + 2) (by omega) (by omega)).trans hbb3)]; rfl
          have ca : wr.cell? ⟨b0 + 1, y, none⟩ = some (.int .i64 (indegK F k y : Nat)) := by rw [blk_cell hAq, markA_at hyc, cntI_here hnew]
          have fa : wr.frozen? ⟨b0 + 1, y, none⟩ = false := by simp [World.frozen?, hAq]
          have hil := indegK_le (F := F) (k := k) (x := y)
          have hb : (wr.setCell ⟨b0 + 1, y, none⟩ (.int .i64 ((indegK F k y : Nat) + 1))).heap[b0 + 1]? = some (.cells (markA c (cntI F k (r.take q ++ [(y : Int)]))) 3 (0, 0)) := by
            rw [blk_set _ hAq, markA_set hyc (m' := cntI F k (r.take q ++ [(y : Int)])) (cntI_next hnew) (fun y' hy' => cntI_other hy')]
          have hT2 := hT.trans ((Touch.refl wr (fun b => b = b0 + 1)).setCell (a := ⟨b0 + 1, y, none⟩) (fun _ => rfl) (.int .i64 ((indegK F k y : Nat) + 1)))
          replace hb := Lib.hid hb
          replace hT2 := Lib.hid hT2
          replace ht := Lib.hid ht
          clear hAq hT hnew hTU2
          go_wp2_with fail
          exact ⟨⟨q + 1, by omega, by go_num, by rw [ht.out]; exact hb.out, hT2.out⟩, by simp [intOf]; omega⟩
        · obtain rfl : q = r.length := by omega
          have i2 : decide ((r.length : Int) < (r.length : Int)) = false := by simp
          rw [List.take_length] at hAq
          have hAn : Hid (wr.heap[b0 + 1]? = some (.cells (markA c (fun x => (indegK F (k + 1) x : Nat))) 3 (0, 0))) := Lib.hid (by rw [hAq, markA_congr (fun x _ => cntI_done hrk hrf.out.2)])
          replace hT := Lib.hid hT
          clear hAq
          go_wp2_with fail
          exact ⟨⟨k + 1, by omega, by go_num, hAn.out, hT.out⟩, by simp [intOf]; omega⟩
    · obtain rfl : k = c := by omega
      have i1 : decide ((k : Int) < (k : Int)) = false := by simp
      have hall : wr.heap[b0 + 1]? = some (.cells (markA k (fun x => (indeg F [] x : Nat))) 3 (0, 0)) := by
        rw [hAk, markA_congr (fun x _ => by rw [hc.out, indegK_all])]
      have hfr : wr.heap[b0]? = some (.cells #[.slice af k cf] 36 (0, 0)) := (hT.block b0 (by omega) (by omega)).trans hf3
      have hbr : wr.heap[b0 + 2]? = some (.cells #[.slice (some ⟨b0 + 1, 0, none⟩) k k] 26 (0, 0)) := (hT.block (b0 + 2) (by omega) (by omega)).trans hbb3
      have hXr : RdX (fun b => b0 ≤ b) wr (.slice af k cf) F := hX3.out.touch (Touch.mono hT (fun _ _ e => by omega))
      have hBr : Below b0 w1 wr := hB13.trans (hT.below (by omega) (fun b hb e => by omega))
      have hzr : b0 + 3 ≤ wr.heap.size := by have := hT.size; omega
      obtain ⟨z, hz⟩ : ∃ z, z = wr.heap.size := ⟨_, rfl⟩
      have hbz : b0 + 3 ≤ z := by omega
      obtain ⟨wE, hwE⟩ : ∃ u, u = wr.alloc (.cells #[] 3) := ⟨_, rfl⟩
      have hzE : wE.heap.size = z + 1 := by rw [hwE, hz]; simp
      obtain ⟨wH, hwH⟩ : ∃ u, u = wE.alloc (.cells #[.slice (some ⟨z, 0, none⟩) 0 0] 48) := ⟨_, rfl⟩
      have hzH : wH.heap.size = z + 2 := by rw [hwH]; simp [hzE]
      obtain ⟨wX, hwX⟩ : ∃ u, u = wH.alloc (.cells #[.pointer (some ⟨z + 1, 0, none⟩)] 47) := ⟨_, rfl⟩
      have hzX : wX.heap.size = z + 3 := by rw [hwX]; simp [hzH]
      have hBe1 : Below z wr wE := by rw [hwE, hz]; exact (Below.refl _ _).alloc (Nat.le_refl _) _
      have hBe2 : Below (z + 1) wE wH := by rw [hwH, ← hzE]; exact (Below.refl _ _).alloc (Nat.le_refl _) _
      have hBe3 : Below (z + 2) wH wX := by rw [hwX, ← hzH]; exact (Below.refl _ _).alloc (Nat.le_refl _) _
      have hE : wX.heap[z]? = some (.cells #[] 3 (0, 0)) := (hBe3.block z (by omega)).trans ((hBe2.block z (by omega)).trans (by rw [hwE, hz]; exact heap_alloc_new wr _))
      have hH : wX.heap[z + 1]? = some (.cells #[.slice (some ⟨z, 0, none⟩) 0 0] 48 (0, 0)) := (hBe3.block (z + 1) (by omega)).trans (by rw [hwH, ← hzE]; exact heap_alloc_new wE _)
      have hXX : wX.heap[z + 2]? = some (.cells #[.pointer (some ⟨z + 1, 0, none⟩)] 47 (0, 0)) := by rw [hwX, ← hzH]; exact heap_alloc_new wH _
      have hBx : Below z wr wX := hBe1.trans ((hBe2.mono (by omega)).trans (hBe3.mono (by omega)))
      have hO0 : OB b0 b0 (b0 + 2) (z + 2) (b0 + 1) (z + 1) k (.slice af k cf) F wX (.slice (some ⟨z, 0, none⟩) 0 0) (fun x => (indeg F [] x : Nat)) [] := by
        refine ⟨(hBx.block b0 (by omega)).trans hfr, (hBx.block (b0 + 2) (by omega)).trans hbr, hXX, (hBx.block (b0 + 1) (by omega)).trans hall, ⟨hH, ⟨rfl, .inr ⟨z, 0, #[], rfl, Nat.zero_le _, hE, Nat.le_refl _, by decide, rfl, rfl⟩⟩, fun e => by have : z = z + 1 := Option.some.inj e; omega⟩, fun q h1 h2 => by simp at h2, fun b e => ?_, ?_, ⟨by omega, by omega, by omega⟩, by omega⟩
        · have : z = b := Option.some.inj e
          omega
        · exact hXr.below (hz ▸ hBx)
      have hB1x : Below b0 w1 wX := hBr.trans (hBx.mono (by omega))
      have cwX : wX.cell? ⟨b0, 0, none⟩ = some (.slice af k cf) := by rw [blk_cell hO0.f]; rfl
      rw [hwX] at cwX
      have hsz2 := Lib.hid (size_any (w := wX) (v := .slice af k cf) rfl)
      replace hO0 := Lib.hid hO0
      replace hwE := Lib.hid hwE
      replace hwH := Lib.hid hwH
      replace hwX := Lib.hid hwX
      replace hz := Lib.hid hz
      clear hAk hT hall hfr hbr hXr hBr hBe1 hBe2 hBe3 hE hH hXX hBx hf3 hbb3 hX3 hzr hB13
      go_upto_region 13 with fail
      rw [← hz.out, ← hwE.out, ← hwH.out, ← hwX.out]
      rw [← hwX.out] at cwX
      go_wp2_with fail
      refine hsz2.out.mono ?_
      rintro e wq ⟨rfl, rfl⟩
      clear cwX hsz2
      have hI0 : Hid (InitH F 0 []) := Lib.hid ⟨List.nodup_nil, fun z => by simp⟩
      go_wp2_with fail
      go_loopw [10, 43] (fun _ i wx => ∃ (q : Nat) (v2 : Value) (l2 : List Int), q ≤ k ∧ i = .int .i64 q ∧ OB b0 b0 (b0 + 2) (z + 2) (b0 + 1) (z + 1) k (.slice af k cf) F wx v2 (fun x => (indeg F [] x : Nat)) l2 ∧ InitH F q l2 ∧ Touch wX wx (fun b => b0 ≤ b)) (fun _ i _ => k - (intOf i).toNat)
      case atStart => exact ⟨0, _, _, Nat.zero_le _, rfl, hO0.out, hI0.out, Touch.refl _ _⟩
      case round =>
        clear hO0 hI0
        obtain ⟨q, v2, l2, hq, rfl, O2, hI, hTx⟩ := hrel
        by_cases hltq : q < k
        · have i2 : (q : Int) < (k : Int) := by omega
          have cb : wr.cell? ⟨b0 + 2, 0, none⟩ = some (.slice (some ⟨b0 + 1, 0, none⟩) k k) := by rw [blk_cell O2.b]; rfl
          obtain ⟨s, hse⟩ : ∃ s, s = indeg F [] q := ⟨_, rfl⟩
          have ca : wr.cell? ⟨b0 + 1, q, none⟩ = some (.int .i64 s) := by rw [blk_cell O2.a, markA_at hltq, hse]
          have cx : wr.cell? ⟨z + 2, 0, none⟩ = some (.pointer (some ⟨z + 1, 0, none⟩)) := by rw [blk_cell O2.x]; rfl
          have hl2 : l2.length ≤ 90000 := by
            have := nodup_len (n := k) hI.1 (fun z hz => by
              obtain ⟨x', rfl, g, _⟩ := (hI.2 z).1 hz
              omega)
            omega
          by_cases hs0 : s = 0
          · have hI2 := Lib.hid (fun (l' : List Int) (hp : l'.Perm ((q : Int) :: l2)) => hI.push (by rw [← hse]; exact hs0) hp)
            have d2 : ((s : Int) == 0) = true := by simp [hs0]
            have hpu := Lib.hid (hpush_any O2.H (q : Int) hl2 O2.ord)
            replace hs0 := Lib.hid hs0
            replace hse := Lib.hid hse
            replace O2 := Lib.hid O2
            replace hTx := Lib.hid hTx
            clear hI
            go_wp2_with fail
            refine hpu.out.mono ?_
            rintro e w4 ⟨rfl, v4, l4, hp4, ho4, H4, T4⟩
            have O4 := Lib.hid (O2.out.heap H4 ho4 T4)
            have hT4 : Hid (Touch wX w4 (fun b => b0 ≤ b)) := Lib.hid (hTx.out.trans (Touch.mono T4.T (fun k _ e => by
              have h1 := O2.out.at0
              rcases e with e | e
              · omega
              · exact (O2.out.own k e).1)))
            have hI4 := Lib.hid (hI2.out l4 hp4)
            clear hpu H4 T4 ho4 hp4 hI2
            go_wp2_with fail
            go_roundw
            case rel => exact ⟨q + 1, v4, l4, by omega, by go_num, O4.out, hI4.out, hT4.out⟩
            case measure => simp [intOf]; omega
          · have hI2 := Lib.hid (hI.skip (by rw [← hse]; exact hs0))
            have d2 : ((s : Int) == 0) = false := by simp; omega
            replace hs0 := Lib.hid hs0
            replace hse := Lib.hid hse
            replace O2 := Lib.hid O2
            replace hTx := Lib.hid hTx
            clear hI
            go_wp2_with fail
            exact ⟨⟨q + 1, v2, l2, by omega, by go_num, O2.out, hI2.out, hTx.out⟩, by simp [intOf]; omega⟩
        · obtain rfl : q = k := by omega
          have i2 : decide ((q : Int) < (q : Int)) = false := by simp
          have hF0 : Hid (FreeH F [] l2) := by
            have e := hc.out
            subst e
            exact Lib.hid hI.free
          have cf0 : wr.cell? ⟨b0, 0, none⟩ = some (.slice af q cf) := by rw [blk_cell O2.f]; rfl
          have hBr : Below b0 w1 wr := hB1x.trans (hTx.below (by omega) (fun b hb e => by omega))
          have hsz3 := Lib.hid (size_any (w := wr) (v := .slice af q cf) rfl)
          have hmk := make_ints q (by omega) wr
          obtain ⟨Ob, hOb⟩ : ∃ u, u = wr.heap.size := ⟨_, rfl⟩
          rw [← hOb] at hmk
          obtain ⟨wO, hwO⟩ : ∃ u, u = wr.alloc (.cells (markA q (fun _ => 0)) 3) := ⟨_, rfl⟩
          rw [← hwO] at hmk
          have hzO : wO.heap.size = Ob + 1 := by rw [hwO, hOb]; simp
          have hBO : Below Ob wr wO := by rw [hwO, hOb]; exact (Below.refl _ _).alloc (Nat.le_refl _) _
          have hOO : wO.heap[Ob]? = some (.cells (markA q (fun _ => 0)) 3 (0, 0)) := by rw [hwO, hOb]; exact heap_alloc_new wr _
          have TO : Touch wr wO (fun _ => False) := Touch.of_below (hOb ▸ hBO) _
          have hO3 : OB b0 b0 (b0 + 2) (z + 2) (b0 + 1) (z + 1) q (.slice af q cf) F wO v2 (fun x => (indeg F [] x : Nat)) l2 := by
            obtain ⟨l1, l2', l3, l4⟩ := O2.lts
            exact ⟨(TO.block _ l1 (fun h => h)).trans O2.f, (TO.block _ l2' (fun h => h)).trans O2.b, (TO.block _ l3 (fun h => h)).trans O2.x, (TO.block _ l4 (fun h => h)).trans O2.a, O2.H.kept TO (fun _ h => h.elim), O2.ord, O2.own, O2.rows.touch (Touch.mono TO (fun _ _ h => h.elim)), ⟨O2.at0.1, O2.at0.2.1, Nat.le_trans O2.at0.2.2 TO.size⟩, O2.ne⟩
          have hown : ∀ b, v2.ownBlock = some b → b ≠ Ob := fun b hb => by have := (O2.H.row.lt b hb).2; omega
          have hObz : z + 3 ≤ Ob := by have := hTx.size; omega
          have hB1O : Below b0 w1 wO := hBr.trans (hBO.mono (by omega))
          have cfO : wO.cell? ⟨b0, 0, none⟩ = some (.slice af q cf) := by rw [blk_cell hO3.f]; rfl
          have hsz4 := Lib.hid (size_any (w := wO) (v := .slice af q cf) rfl)
          have ee : Enters Try.prog 36 := enters_of Try.func36 (by kernel_rfl) rfl
          replace hO3 := Lib.hid hO3
          replace hwO := Lib.hid hwO
          replace hOO := Lib.hid hOO
          replace hown := Lib.hid hown
          replace hOb := Lib.hid hOb
          clear O2 hI hTx hBr hBO TO
          go_wp2_with fail
          refine hsz3.out.mono ?_
          rintro e wq ⟨rfl, rfl⟩
          clear hsz3 cf0
          go_wp2_with fail
          refine hsz4.out.mono ?_
          rintro e wq ⟨rfl, rfl⟩
          clear hsz4 hmk cfO
          have hP0 : Hid (OrdP F [] ∧ OutOk F []) := Lib.hid ⟨fun i c h => by simp at h, OutOk.nil F⟩
          go_wp2_with fail
          go_loopw [13, 63] (fun _ i wx => ∃ (k : Nat) (o : List Nat) (v3 : Value) (l3 : List Int), k ≤ q ∧ o.length = k ∧ i = .int .i64 k ∧ OB b0 b0 (b0 + 2) (z + 2) (b0 + 1) (z + 1) q (.slice af q cf) F wx v3 (fun x => (indeg F o x : Nat)) l3 ∧ FreeH F o l3 ∧ (OrdP F o ∧ OutOk F o) ∧ wx.heap[Ob]? = some (.cells (markA q (fun i => ((o[i]?.getD 0 : Nat) : Int))) 3 (0, 0)) ∧ (∀ b, v3.ownBlock = some b → b ≠ Ob) ∧ Touch wO wx (fun b => b0 ≤ b)) (fun _ i _ => q - (intOf i).toNat)
          case atStart => exact ⟨0, [], v2, l2, Nat.zero_le _, rfl, rfl, hO3.out, hF0.out, hP0.out, by simpa using hOO.out, hown.out, Touch.refl _ _⟩
          case round =>
            clear hO3 hF0 hP0 hOO hown
            obtain ⟨k, o, v3, l3, hk, hol, rfl, O3, hF3, ⟨hP3, hK3⟩, hOb3, hown3, hT3⟩ := hrel
            by_cases hltk : k < q
            · have i3 : (k : Int) < (q : Int) := by omega
              have hl0 : 0 < l3.length := by
                obtain ⟨b, hb, hbo⟩ := out_one (F := F) (o := o) (by rw [hol, ← hc.out]; exact hltk)
                obtain ⟨x, hx⟩ := free_one hap hself hb hbo
                exact List.length_pos_of_mem ((hF3.2 (x : Int)).2 ⟨x, rfl, hx⟩)
              have hnx := Lib.hid (next_any O3 hF3 hK3 hself hfm hc.out hc3 hl0)
              have hObl : Ob < wr.heap.size := (Array.getElem?_eq_some_iff.1 hOb3).1
              replace O3 := Lib.hid O3
              replace hT3 := Lib.hid hT3
              replace hown3 := Lib.hid hown3
              replace hOb3 := Lib.hid hOb3
              replace hol := Lib.hid hol
              clear hl0
              go_wp2_with fail
              refine hnx.out.mono ?_
              rintro e w5 ⟨x, v5, l5, rfl, hf5, hl5, O5, hF5, N5⟩
              have hOb5 : w5.heap[Ob]? = some (.cells (markA q (fun i => ((o[i]?.getD 0 : Nat) : Int))) 3 (0, 0)) := (N5.T.block Ob hObl (fun e => by
                rcases e with e | e | e
                · omega
                · omega
                · exact hown3.out _ e rfl)).trans hOb3.out
              have cO5 : w5.cell? ⟨Ob, k, none⟩ = some (.int .i64 0) := by rw [blk_cell hOb5, markA_at hltk, List.getElem?_eq_none (by rw [hol.out]; exact Nat.le_refl _)]; rfl
              have fO5 : w5.frozen? ⟨Ob, k, none⟩ = false := by simp [World.frozen?, hOb5]
              have T6 : Touch w5 (w5.setCell ⟨Ob, k, none⟩ (.int .i64 x)) (fun b => b = Ob) := (Touch.refl w5 (fun b => b = Ob)).setCell (a := ⟨Ob, k, none⟩) (fun _ => rfl) _
              have hown5 : ∀ b, v5.ownBlock = some b → b ≠ Ob := fun b hb => by
                rcases N5.new b hb with e | e
                · exact hown3.out b e
                · omega
              have O6 : OB b0 b0 (b0 + 2) (z + 2) (b0 + 1) (z + 1) q (.slice af q cf) F (w5.setCell ⟨Ob, k, none⟩ (.int .i64 x)) v5 (fun y => (indeg F (o ++ [x]) y : Nat)) l5 := by
                obtain ⟨l1, l2', l3', l4⟩ := O5.lts
                exact ⟨(T6.block _ l1 (by omega)).trans O5.f, (T6.block _ l2' (by omega)).trans O5.b, (T6.block _ l3' (by omega)).trans O5.x, (T6.block _ l4 (by omega)).trans O5.a, O5.H.kept T6 (fun b e => ⟨by omega, fun h => hown5 b h e⟩), O5.ord, O5.own, O5.rows.touch (Touch.mono T6 (fun _ _ e => by omega)), ⟨O5.at0.1, O5.at0.2.1, Nat.le_trans O5.at0.2.2 T6.size⟩, O5.ne⟩
              have hOb6 : (w5.setCell ⟨Ob, k, none⟩ (.int .i64 x)).heap[Ob]? = some (.cells (markA q (fun i => (((o ++ [x])[i]?.getD 0 : Nat) : Int))) 3 (0, 0)) := by
                rw [blk_set _ hOb5, markA_set hltk (m' := fun i => (((o ++ [x])[i]?.getD 0 : Nat) : Int))]
                · rw [List.getElem?_append_right (by rw [hol.out]; exact Nat.le_refl _), hol.out]; simp
                · intro y hy
                  by_cases hyk : y < k
                  · rw [List.getElem?_append_left (by rw [hol.out]; exact hyk)]
                  · have h1 : (o ++ [x])[y]? = none := List.getElem?_eq_none (by rw [List.length_append, hol.out]; simp; omega)
                    have h2 : o[y]? = none := List.getElem?_eq_none (by rw [hol.out]; omega)
                    rw [h1, h2]
              have hT6 : Touch wO (w5.setCell ⟨Ob, k, none⟩ (.int .i64 x)) (fun b => b0 ≤ b) := (hT3.out.trans (Touch.mono N5.T (fun j _ e => by
                have h1 := O3.out.at0
                rcases e with e | e | e
                · omega
                · omega
                · exact (O3.out.own j e).1))).trans (Touch.mono T6 (fun _ _ e => by omega))
              have hP6 := Lib.hid (And.intro (hP3.more hf5 hl5) (hK3.more hf5))
              have hl6 : Hid ((o ++ [x]).length = k + 1) := Lib.hid (by rw [List.length_append, hol.out]; rfl)
              replace O6 := Lib.hid O6
              replace hOb6 := Lib.hid hOb6
              replace hT6 := Lib.hid hT6
              replace hF5 := Lib.hid hF5
              replace hown5 := Lib.hid hown5
              clear hnx O5 N5 T6 hOb5 hf5 hl5 O3 hT3 hF3
              go_wp2_with fail
              go_roundw
              case rel => exact ⟨k + 1, o ++ [x], v5, l5, by omega, hl6.out, by go_num, O6.out, hF5.out, hP6.out, hOb6.out, hown5.out, hT6.out⟩
              case measure => simp [intOf]; omega
            · obtain rfl : k = q := by omega
              have i3 : decide ((k : Int) < (k : Int)) = false := by simp
              have hrd : RdI wr (.slice (some ⟨Ob, 0, none⟩) k k) (o.map fun x : Nat => (x : Int)) := markA_rd hOb3 (by
                apply List.ext_getElem?
                intro i
                by_cases hi : i < k
                · have h1 : o[i]? = some (o[i]'(by rw [hol]; exact hi)) := List.getElem?_eq_getElem (by rw [hol]; exact hi)
                  rw [List.getElem?_map, List.getElem?_map, List.getElem?_range hi, h1]
                  simp [h1]
                · rw [List.getElem?_eq_none (by simp; omega), List.getElem?_eq_none (by simp; omega)])
              have hord : Hid (OrdOf F o) := Lib.hid ⟨by rw [hol, ← hc.out], hP3⟩
              have hfin : Below w.heap.size w wr := hb1.trans ((hB1O.trans (hT3.below (by omega) (fun b hb e => by omega))).mono (by have := hb0.out; have := hb1.size; omega))
              replace hrd := Lib.hid hrd
              clear O3 hF3 hOb3 hT3 hown3
              go_wp2_with fail
              go_ret
              exact ⟨_, F, m, o, rfl, hker.out, hfold.out, hord.out, hrd.out, hfin⟩
end Go.Proofs.Ytppkponnopnmdaa
