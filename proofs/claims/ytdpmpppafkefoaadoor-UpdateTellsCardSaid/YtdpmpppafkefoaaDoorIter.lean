/- The iterator over a set's words, rising: its contract. -/
import Derived.Test.YtdpmpppafkefoaaDoorRise
import Derived.RangeFuncNested
import Derived.RangeFuncBound
import Derived.RangeFuncCalls
import Derived.RangeFuncLeaves
import Derived.Shelf.RegionOpen
import Derived.OwnWalkIn
import Derived.TacticsInMore
import Derived.LoopNIn
import Derived.LoopIn
namespace Go.Proofs.YtdpmpppafkefoaaDoor
open Go.RowKit Go.Maps Go.Sort Go.Shelf

attribute [local go_sem] Oper.semAt_some

/-- The block in which the slice lies that the box Bo holds. -/
def rowOf (Bo : Nat) (W : World) : Option Nat := (W.cell? ⟨Bo, 0, none⟩).bind Value.ownBlock

/-- What a round keeps: all cells but the box Bo and its slice's; whatever lay below n1 but those. -/
structure Kp (Bo n1 : Nat) (W W' : World) : Prop where
  size : W.heap.size ≤ W'.heap.size
  same : ∀ k o, W.heap[k]? = some o → k ≠ Bo → rowOf Bo W ≠ some k → (o.isCells = true ∨ k < n1) → W'.heap[k]? = some o
  row : ∀ g, rowOf Bo W' = some g → rowOf Bo W = some g ∨ W.heap.size ≤ g

theorem Kp.refl (Bo n1 : Nat) (W : World) : Kp Bo n1 W W := ⟨Nat.le_refl _, fun _ _ h _ _ _ => h, fun _ h => Or.inl h⟩
theorem Kp.trans {Bo n1 : Nat} {A B C : World} (h : Kp Bo n1 A B) (g : Kp Bo n1 B C) : Kp Bo n1 A C := by
  refine ⟨Nat.le_trans h.size g.size, fun k o hk h1 h2 h3 => ?_, fun b hb => ?_⟩
  · refine g.same k o (h.same k o hk h1 h2 h3) h1 (fun e => ?_) h3
    rcases h.row k e with h4 | h4
    · exact h2 h4
    · have := (Array.getElem?_eq_some_iff.1 hk).1
      omega
  · rcases g.row b hb with h4 | h4
    · exact h.row b h4
    · exact Or.inr (Nat.le_trans h.size h4)
theorem Kp.put {Bo n1 : Nat} (hB : Bo < n1) (W : World) (l : Nat) (o o' : Obj) (hl : n1 ≤ l) (h : W.heap[l]? = some o) (hc : o.isCells = false) (_ : o.isWalk = false) : Kp Bo n1 W (W.putObj l o') := by
  have hg := grownBy_putObj' W l o'
  have hr : rowOf Bo (W.putObj l o') = rowOf Bo W := by
    unfold rowOf
    by_cases hlt : Bo < W.heap.size
    · rw [World.cell?_of_block (w := W) (hg.block Bo hlt (by simp; omega))]
    · have := (Array.getElem?_eq_some_iff.1 h).1; omega
  refine ⟨hg.size, fun k ob hk h1 h2 h3 => ?_, fun g hgr => Or.inl (hr ▸ hgr)⟩
  by_cases e : k = l
  · subst e
    rw [h] at hk
    cases hk
    rw [hc] at h3
    rcases h3 with h3 | h3
    · cases h3
    · omega
  · exact (hg.block k (Array.getElem?_eq_some_iff.1 hk).1 (by simp; exact e)).trans hk

/-- A word and its key, as they come (each within its kind). -/
def encP (x : Nat × Nat) : Array Value := #[.int .i64 ((x.1 % 144115188075855872 : Nat) : Int), .int .u64 ((x.2 % 18446744073709551616 : Nat) : Int)]

theorem row_same {W W' : World} {base : Nat} {v : Value} {n : Nat} {xs : List Value} (h : W.ownsRow base 3 1 v n xs) (hs : ∀ g o, v.ownBlock = some g → W.heap[g]? = some o → o.isCells = true → W'.heap[g]? = some o) : W'.ownsRow base 3 1 v n xs := by
  obtain ⟨h1, h2⟩ := h
  refine ⟨h1, or_map h2 id ?_⟩
  rintro ⟨g, cap, cur, rfl, h3, h4, h5⟩
  exact ⟨g, cap, cur, rfl, h3, hs g _ rfl h4 rfl, h5⟩

theorem own_form {W : World} {base e size : Nat} {v : Value} {n : Nat} {xs : List Value} (h : W.ownsRow base e size v n xs) : ∃ a cap, v = .slice a n cap := by
  rcases h.2 with ⟨rfl, h0⟩ | ⟨g, cap, cur, rfl, _⟩
  · exact ⟨none, 0, by rw [h0]⟩
  · exact ⟨_, cap, rfl⟩

section
variable {w : World} {sb bm Bs Bo n1 : Nat} {D : DataW Unit} {l : List Nat}

set_option maxRecDepth 100000 in
set_option maxHeartbeats 2000000 in
theorem rising_in (n : Nat) (hn : 1 ≤ n) (r : Nat) (J Jx : List (Nat × Nat) → World → Prop) (hlen : l.length ≤ 1000000)
    (hY : ∀ pre x W, J pre W → pre.length < l.length → YieldAt Fence.wide (n - 1) Tryd.prog r (encP x) W fun e W' =>
      (e = .returned (.bool true) ∧ J (pre ++ [x]) W' ∧ Kp Bo n1 W W') ∨ (e = .returned (.bool false) ∧ Jx (pre ++ [x]) W'))
    (W : World) (hJ : AbidesFrom W.heap.size J) (hb : W.heap[Bs]? = some (.cells #[.pointer (some ⟨sb, 0, none⟩)] 26 (0, 0))) (S : SetAt W sb bm D l) (hBs : Bs ≠ Bo ∧ rowOf Bo W ≠ some Bs ∧ Bs < n1)
    (hsb : sb ≠ Bo ∧ rowOf Bo W ≠ some sb ∧ sb < n1) (hbm : bm ≠ Bo ∧ rowOf Bo W ≠ some bm ∧ bm < n1) (hBo : Bo < W.heap.size) (hrow : ∀ g, rowOf Bo W = some g → g < W.heap.size) (h0 : J [] W) :
    CallsIn Fence.wide n Tryd.prog 27 #[.func (.yield r) #[] #[], .pointer (some ⟨Bs, 0, none⟩)] W fun e W' => (∃ v, e = .returned v) ∧
      ((∃ xs, (∃ ks : List Nat, ks.Pairwise (· < ·) ∧ (∀ k, k ∈ ks ↔ has D (key k) = true) ∧ xs = ks.map (fun k => (k, wordOf l k))) ∧ J xs W') ∨ (∃ pre, True ∧ Jx pre W')) := by
  obtain ⟨mo, hbl⟩ := S.blk
  have b0 : W.cell? ⟨Bs, 0, none⟩ = some (.pointer (some ⟨sb, 0, none⟩)) := blk_cell hb 0
  have c0 : W.cell? ⟨sb, 0, none⟩ = some (.map (some bm)) := blk_cell hbl 0
  have hsz := S.size_le
  have hK := Lib.hid (callsIn_wide (n := n - 1).2 (keys_call (some bm) W))
  have hS := Lib.hid (callsIn_wide (n := n - 1).2 (sorted_call S.map (Nat.le_trans hsz hlen)))
  refine callsIn_of_wp Tryd.func27 rfl trivial ?_ rfl
  simp only [Tryd.ntmps27, List.size_toArray, List.length_cons, List.length_nil, Nat.reduceAdd, Nat.reduceSub, Array.replicate_succ, Array.replicate_zero, List.push_toArray, List.append_toArray, List.nil_append, List.cons_append]
  have hfK : Fence.wide.fn 29 := trivial
  have hfS : Fence.wide.fn 28 := trivial
  gi_wp2_with (first
    | (gi_at_call 29; refine hK.out.mono ?_; rintro e w' ⟨rfl, rfl⟩)
    | (gi_at_call 28; refine hS.out.mono ?_; rintro e w2 ⟨v, ss, rfl, hperm, hrow2, hnil, hb2⟩; obtain ⟨a, cap, rfl⟩ := own_form hrow2))
  obtain ⟨ks, hks, hkr, hkm⟩ := keys_rise S.words (S.map.canon law) hperm
  have hlk : ss.length = ks.length := by
    have h1 := congrArg List.length hks
    rwa [List.length_mergeSort, List.length_map] at h1
  have hkl : ks.length ≤ l.length := by
    have h2 : l.length = (l.map (fun n => n / 64)).length := by simp
    rw [h2]
    refine nodup_len_le (hkr.imp (fun h => Nat.ne_of_lt h)) (fun k hk => ?_)
    obtain ⟨c, hbc, h3, _⟩ := S.words.word k
    rw [(hkm k).1 hk] at h3
    have hc : c ≠ 0 := of_decide_eq_true h3.symm
    have h4 : ¬ ∀ n ∈ l, n / 64 ≠ k := fun e => hc (hbc.zero.2 e)
    obtain ⟨n, hn, he⟩ : ∃ n, n ∈ l ∧ n / 64 = k := by
      apply Classical.byContradiction
      intro hne
      exact h4 (fun n hn e => hne ⟨n, hn, e⟩)
    exact List.mem_map.2 ⟨n, hn, he⟩
  have hbW : Below W.heap.size W w2 := ((Below.refl _ W).alloc (Nat.le_refl _) (.cells #[.map (some bm)] 48)).trans (hb2.mono (by simp))
  have hJ2 : J [] w2 := hJ [] W w2 none h0 ⟨hbW.os, hbW.tape, hbW.output, hbW.size, fun k hk _ => hbW.block k hk⟩ (fun r e => by cases e)
  have hbo2 : w2.heap[Bo]? = W.heap[Bo]? := hbW.block Bo hBo
  have hro2 : rowOf Bo w2 = rowOf Bo W := by unfold rowOf; rw [World.cell?_of_block (w := W) hbo2]
  have hlts := S.lts
  have hltm := S.ltm
  have hbk2 : w2.heap[Bs]? = some (.cells #[.pointer (some ⟨sb, 0, none⟩)] 26 (0, 0)) := (hbW.block Bs (Array.getElem?_eq_some_iff.1 hb).1).trans hb
  have S2 := S.below hbW
  rw [hks, hlk, List.map_map] at hrow2
  rw [hlk]
  have hkp : ∀ wr, Kp Bo n1 w2 wr → wr.cell? ⟨Bs, 0, none⟩ = some (.pointer (some ⟨sb, 0, none⟩)) ∧ SetAt wr sb bm D l ∧ wr.ownsRow (W.heap.size + 1) 3 1 (.slice a ks.length cap) ks.length (ks.map (encZ ∘ fun k : Nat => (k : Int))) := fun wr hk => by
    obtain ⟨m2, hbl2⟩ := S2.blk
    obtain ⟨es, clock, hbm2, hrest⟩ := S2.map
    have e1 := hk.same Bs _ hbk2 hBs.1 (hro2 ▸ hBs.2.1) (Or.inl rfl)
    have e2 := hk.same sb _ hbl2 hsb.1 (hro2 ▸ hsb.2.1) (Or.inl rfl)
    have e3 := hk.same bm _ hbm2 hbm.1 (hro2 ▸ hbm.2.1) (Or.inr hbm.2.2)
    refine ⟨blk_cell e1 0, ⟨⟨m2, e2⟩, ⟨es, clock, e3, hrest⟩, S.words, S.nodup, S.small⟩, row_same hrow2 (fun g o hg ho hc => ?_)⟩
    have hge : W.heap.size + 1 ≤ g := (hrow2.lt g hg).1
    exact hk.same g o ho (by omega) (fun e => by rw [hro2] at e; have := hrow g e; omega) (Or.inl hc)
  clear hb2 hrow2 hK hS hb hbl b0 c0 hbk2 S2 hperm hks hnil
  gi_loopw [14] (fun i wr => ∃ j : Nat, j ≤ ks.length ∧ i = .int .i64 j ∧ J ((ks.take j).map (fun k => (k, wordOf l k))) wr ∧ Kp Bo n1 w2 wr) (fun i _ => ks.length - (intOf i).toNat)
  case atStart => exact ⟨0, Nat.zero_le _, rfl, by simpa using hJ2, Kp.refl _ _ _⟩
  case round =>
    obtain ⟨j, hj, rfl, hJs, hkw⟩ := hrel
    obtain ⟨b1, S3, hrow3⟩ := hkp wr hkw
    obtain ⟨m3, hbl3⟩ := S3.blk
    have c1 : wr.cell? ⟨sb, 0, none⟩ = some (.map (some bm)) := blk_cell hbl3 0
    by_cases hlt : j < ks.length
    · obtain ⟨k, hk⟩ : ∃ k, ks[j]? = some k := ⟨_, List.getElem?_eq_getElem hlt⟩
      obtain ⟨g, cap', hv⟩ := row_form hrow3 (by omega)
      simp only [Value.slice.injEq] at hv
      obtain ⟨rfl, -, rfl⟩ := hv
      have hcell : wr.cell? ⟨g, j, none⟩ = some (.int .i64 k) := by
        have := hrow3.cells (g := g) rfl j (.int .i64 k) (by simp [hk])
        rwa [add0] at this
      have hts := Lib.hid (take_snoc hk)
      have hkb : k < 144115188075855872 := by
        obtain ⟨c, hbc, h3, _⟩ := S.words.word k
        rw [(hkm k).1 (List.mem_of_getElem? hk)] at h3
        have hc : c ≠ 0 := of_decide_eq_true h3.symm
        have h4 : ¬ ∀ n ∈ l, n / 64 ≠ k := fun e => hc (hbc.zero.2 e)
        obtain ⟨n, hn, he⟩ : ∃ n, n ∈ l ∧ n / 64 = k := by
          apply Classical.byContradiction
          intro hne
          exact h4 (fun n hn e => hne ⟨n, hn, e⟩)
        have := S.small n hn
        omega
      have hlook := S3.look (wordOf_bit l k) (by omega)
      obtain ⟨fn, tmps, assign, body, hy, hR⟩ := hY _ (k, wordOf l k) wr hJs (by rw [List.length_map, List.length_take]; omega)
      simp only [encP] at hy
      rw [Nat.mod_eq_of_lt hkb, Nat.mod_eq_of_lt (wordOf_bit l k).1] at hy
      clear hk hrow3 hbl3 S3 hkp hY
      replace hJs := Lib.hid hJs
      gi_wp2
      refine hR.mono ?_
      rintro e W3 (⟨rfl, hJ3, hk3⟩ | ⟨rfl, hJx3⟩)
      · gi_wp2
        go_roundw
        case rel => exact ⟨j + 1, by omega, by go_num, by rw [hts.out, List.map_append]; exact hJ3, hkw.trans hk3⟩
        case measure => simp [intOf]; omega
      · gi_wp2
        refine bodyPost_ret (results_none rfl _ _ _) rfl ?_
        exact ⟨⟨_, rfl⟩, .inr ⟨_, trivial, hJx3⟩⟩
    · obtain rfl : j = ks.length := by omega
      rw [List.take_length] at hJs
      clear hkp hY
      gi_wp2
      go_end0
      exact ⟨⟨_, rfl⟩, .inl ⟨_, ⟨ks, hkr, hkm, rfl⟩, hJs⟩⟩

/-- What comes: the words of the keys ks, rising. -/
def Comes (D : DataW Unit) (l : List Nat) (xs : List (Nat × Nat)) : Prop := ∃ ks : List Nat, ks.Pairwise (· < ·) ∧ (∀ k, k ∈ ks ↔ has D (key k) = true) ∧ xs = ks.map (fun k => (k, wordOf l k))

theorem rising_stops (n : Nat) (hn : 1 ≤ n) (hlen : l.length ≤ 1000000) (hb : w.heap[Bs]? = some (.cells #[.pointer (some ⟨sb, 0, none⟩)] 26 (0, 0))) (S : SetAt w sb bm D l) (hn1 : w.heap.size ≤ n1)
    (h1 : Bs ≠ Bo ∧ rowOf Bo w ≠ some Bs) (h2 : sb ≠ Bo ∧ rowOf Bo w ≠ some sb) (h3 : bm ≠ Bo ∧ rowOf Bo w ≠ some bm) (hBo : Bo < w.heap.size) (hrow : ∀ g, rowOf Bo w = some g → g < w.heap.size) :
    SeqStopsK Fence.wide n Tryd.prog 27 #[.pointer (some ⟨Bs, 0, none⟩)] encP (Kp Bo n1) (Comes D l) (fun _ => True) l.length w := fun r J Jx W hW hJ _ hY h0 => by
  have hr : rowOf Bo W = rowOf Bo w := by unfold rowOf; rw [World.cell?_of_block (w := w) (hW.block Bo hBo)]
  have hlt := (Array.getElem?_eq_some_iff.1 hb).1
  refine rising_in n hn r J Jx hlen hY W hJ ((hW.block Bs hlt).trans hb) (S.below hW) ⟨h1.1, hr ▸ h1.2, by omega⟩ ⟨h2.1, hr ▸ h2.2, by have := S.lts; omega⟩ ⟨h3.1, hr ▸ h3.2, by have := S.ltm; omega⟩
    (Nat.lt_of_lt_of_le hBo hW.size) (fun g hg => Nat.lt_of_lt_of_le (hrow g (hr ▸ hg)) hW.size) h0
end
end Go.Proofs.YtdpmpppafkefoaaDoor
