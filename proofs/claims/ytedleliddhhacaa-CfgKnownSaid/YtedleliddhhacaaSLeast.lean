/- scc's byLeast, walked. -/
import Derived.Test.YtedleliddhhacaaSLeav
import Derived.Maps.OwnSet
namespace Go.Proofs.Ytedleliddhhacaa
open Go.RowKit Go.Maps Go.Shelf

theorem tidy_tabD (ls : List Lit) (hk : ∀ x ∈ ls, WideAt.IsKeyLit x) : Tidy (tabD (H := Unit) ls) := by
  refine snoc_ind (Q := fun ls => (∀ x ∈ ls, WideAt.IsKeyLit x) → Tidy (tabD (H := Unit) ls)) (fun _ => tidy_empty) (fun l x h hk => ?_) ls hk
  rw [tabD_snoc]
  exact (h (fun y hy => hk y (by simp [hy]))).put (hk x (by simp)) _
theorem size_tabD (ls : List Lit) (hk : ∀ x ∈ ls, WideAt.IsKeyLit x) (hn : ls.Nodup) : size (tabD (H := Unit) ls) = ls.length := by
  refine snoc_ind (Q := fun ls => (∀ x ∈ ls, WideAt.IsKeyLit x) → ls.Nodup → size (tabD (H := Unit) ls) = ls.length) (fun _ _ => rfl) (fun l x ih hk hn => ?_) ls hk hn
  rw [List.nodup_append] at hn
  rw [tabD_snoc, size_put (tidy_tabD l (fun y hy => hk y (by simp [hy]))), has_tabD_out (fun y hy => hk y (by simp [hy])) (fun h => hn.2.2 x h x (by simp) rfl), ih (fun y hy => hk y (by simp [hy])) hn.1]
  simp

def litI (x : Int) : Lit := .int .i64 x
theorem litI_keys (ks : List Int) : ∀ x ∈ ks.map litI, WideAt.IsKeyLit x := by
  intro x hx
  obtain ⟨s, _, rfl⟩ := List.mem_map.1 hx
  trivial
theorem litI_mem {k : Int} {ks : List Int} : litI k ∈ ks.map litI ↔ k ∈ ks :=
  ⟨fun h => by obtain ⟨a, ha, e⟩ := List.mem_map.1 h; unfold litI at e; simp at e; rw [← e]; exact ha, fun h => List.mem_map.2 ⟨k, h, rfl⟩⟩
theorem litI_nodup {ks : List Int} (h : ks.Nodup) : (ks.map litI).Nodup := List.pairwise_map.2 (List.Pairwise.imp (fun {a b} hab e => hab (by unfold litI at e; simpa using e)) h)
theorem lawI : Keyed Try.prog 3 := int_keyed Try.underlying3
theorem zeroI (w : World) : (zeroValue 3).run Try.prog w = .ok (.int .i64 0) w := by kernel_rfl
/-- Numbers by the first place. -/
def numF (n : Nat) (m : Nat → Int) (x : Nat) : Int := (place (keysOf ((List.range n).map m)) (m x) : Nat)
abbrev MapI (w : World) (bm : Nat) (ks : List Int) : Prop := w.ownsMap Try.prog 3 (plainElem (H := Unit) Try.prog 3) bm ks.length (tabD (ks.map litI))
theorem take_range {n j : Nat} {m : Nat → Int} (hj : j < n) : ((List.range n).map m).take (j + 1) = ((List.range n).map m).take j ++ [m j] := by
  rw [List.take_add_one, List.getElem?_map, List.getElem?_range hj]
  rfl

set_option maxRecDepth 20000 in
set_option maxHeartbeats 4000000 in
theorem byleast_any {w : World} {v : Value} {C n : Nat} {m : Nat → Int} (hv : v = .slice (some ⟨C, 0, none⟩) n n) (hC : w.heap[C]? = some (.cells (markA n m) 3 (0, 0))) (hn : n ≤ 90000) (hwf : ∀ x, x < n → (Lit.int .i64 (m x)).wf = true) :
    Calls Try.prog 35 #[v] w fun e w' => ∃ R, e = .returned (.slice (some ⟨R, 0, none⟩) n n) ∧ w'.heap[R]? = some (.cells (markA n (numF n m)) 3 (0, 0)) ∧ w.heap.size ≤ R ∧ Below w.heap.size w w' := by
  subst hv
  have hmm := @run_makeMap Try.prog
  have hmk := make_ints n (by omega) (w.alloc (.map #[] 0))
  rw [World.size_alloc] at hmk
  have hCl : C < w.heap.size := (Array.getElem?_eq_some_iff.1 hC).1
  have hb0 : Below w.heap.size w ((w.alloc (.map #[] 0)).alloc (.cells (markA n (fun _ => 0)) 3)) := ((Below.refl _ _).alloc (Nat.le_refl _) _).alloc (by simp) _
  have hM0 : Hid (MapI ((w.alloc (.map #[] 0)).alloc (.cells (markA n (fun _ => 0)) 3)) w.heap.size []) := Lib.hid ((World.ownsMap_made w Try.prog 3 _).alloc _)
  have hR0 : Hid (((w.alloc (.map #[] 0)).alloc (.cells (markA n (fun _ => 0)) 3)).heap[w.heap.size + 1]? = some (.cells (markA n (fun _ => 0)) 3 (0, 0))) := Lib.hid (by have := heap_alloc_new (w.alloc (.map #[] 0)) (.cells (markA n (fun _ => 0)) 3); rwa [World.size_alloc] at this)
  have hC0 := Lib.hid hC
  clear hC
  generalize hw1 : ((w.alloc (.map #[] 0)).alloc (.cells (markA n (fun _ => 0)) 3)) = w1 at *
  clear hw1
  have hwf' := Lib.hid hwf
  clear hwf
  obtain ⟨bm, hbm⟩ : ∃ b, b = w.heap.size := ⟨_, rfl⟩
  rw [← hbm] at hM0 hR0 hmk
  replace hbm := Lib.hid hbm
  go_enter Try.func35, Try.ntmps35
  go_wp2_with fail
  rw [← hbm.out]
  clear hmm hmk
  obtain ⟨cs, hcs⟩ : ∃ cs, Hid (cs = (List.range n).map m) := ⟨_, Lib.hid rfl⟩
  obtain ⟨K, hK⟩ : ∃ K, Hid (K = keysOf cs) := ⟨_, Lib.hid rfl⟩
  go_loopw [5, 6, 7, 8, 15, 20] (fun _ _ _ _ i _ wr => ∃ j : Nat, j ≤ n ∧ i = .int .i64 j ∧ MapI wr bm (keysOf (cs.take j)) ∧ wr.heap[bm + 1]? = some (.cells (markA n (fun x => if x < j then (place K (m x) : Nat) else 0)) 3 (0, 0)) ∧ Touch w1 wr (fun b => b = bm ∨ b = bm + 1)) (fun _ _ _ _ i _ _ => n - (intOf i).toNat)
  case atStart => exact ⟨0, Nat.zero_le _, rfl, hM0.out, by simpa using hR0.out, Touch.refl _ _⟩
  case round =>
    clear hM0 hR0
    obtain ⟨j, hj, rfl, hM, hR, hT⟩ := hrel
    have hbl := hbm.out
    have c0 : ∀ x, x < n → wr.cell? ⟨C, x, none⟩ = some (.int .i64 (m x)) := fun x hx => by
      rw [cell_off hT (by have := hb0.size; omega) (by omega), blk_cell ((hb0.block C hCl).trans hC0.out)]
      exact markA_at hx
    by_cases hlt : j < n
    · obtain ⟨z, hz⟩ : ∃ z, z = m j := ⟨_, rfl⟩
      have c1 := c0 j hlt
      have hwz := hwf'.out j hlt
      rw [← hz] at c1 hwz
      have hsn : cs.take (j + 1) = cs.take j ++ [z] := by rw [hcs.out, take_range hlt, hz]
      have hlen : (keysOf (cs.take j)).length ≤ 90000 := by
        have h1 := keysOf_len (cs.take j)
        rw [List.length_take] at h1
        omega
      have i1 : (j : Int) < (n : Int) := by omega
      have hkey : keyOf Try.prog 3 (.int .i64 z) = some (litI z) := keyOf_int_mk Try.underlying3 hwz
      have cf : wr.frozen? ⟨bm + 1, j, none⟩ = false := by simp [World.frozen?, hR]
      obtain ⟨old, cR⟩ : ∃ old, wr.cell? ⟨bm + 1, j, none⟩ = some (.int .i64 old) := ⟨_, by rw [blk_cell hR]; exact markA_at hlt⟩
      have hplace : place (keysOf (cs.take (j + 1))) z = place K z := by
        rw [hK.out, place_app (a := cs.take (j + 1)) (b := cs.drop (j + 1)) (by rw [hsn]; simp), List.take_append_drop]
      have hstep : (fun x => if x < j + 1 then ((place K (m x) : Nat) : Int) else 0) j = (place K z : Nat) := by simp [hz]
      have hstep2 : ∀ y, y ≠ j → (fun x => if x < j + 1 then ((place K (m x) : Nat) : Int) else 0) y = (fun x => if x < j then ((place K (m x) : Nat) : Int) else 0) y := by
        intro y hy
        by_cases h : y < j
        · simp [h, show y < j + 1 from by omega]
        · simp [h, show ¬ y < j + 1 from by omega]
      clear hbl
      replace hstep := Lib.hid hstep
      replace hstep2 := Lib.hid hstep2
      replace hplace := Lib.hid hplace
      clear c0
      by_cases hin : z ∈ keysOf (cs.take j)
      · have hks : keysOf (cs.take (j + 1)) = keysOf (cs.take j) := by rw [hsn, keysOf_snoc, if_pos hin]
        have hhas : has (tabD (H := Unit) ((keysOf (cs.take j)).map litI)) (litI z) = true := has_tabD_in (litI_keys _) (litI_mem.2 hin)
        have hat := Lib.hid (at_tabD (H := Unit) _ (litI_keys (keysOf (cs.take j))) (litI_nodup (nodup_keysOf _)) (litI z) (.lit (.int .i64 0)) (place (keysOf (cs.take j)) z) (by rw [List.getElem?_map, place_get hin]; rfl))
        have hM' := Lib.hid hM
        have hR' := Lib.hid hR
        replace hks := Lib.hid hks
        replace hin := Lib.hid hin
        replace hsn := Lib.hid hsn
        clear hR hz
        go_wp2_with (first
          | (at_lookup; refine wpList_lookup_own_ok_int _ rfl _ _ 91 rfl 3 3 .i64 lawI Try.underlying91 Try.underlying3 (zeroI _) bm _ _ rfl hM'.out _ _ rfl hkey ?_; intro c hc hwc)
          | (at_lookup; refine wpList_lookup_own_int _ rfl _ _ 91 rfl 3 3 .i64 lawI Try.underlying91 Try.underlying3 (zeroI _) bm _ _ rfl hM'.out _ _ rfl hkey ?_; intro c2 hc2 hwc2))
        obtain rfl : c2 = (place K z : Nat) := by
          have h1 := hat.out
          rw [hc2] at h1
          rw [← hplace.out, hks.out]
          simpa [num] using h1
        have hb1 : (wr.setCell ⟨bm + 1, j, none⟩ (.int .i64 (place K z : Nat))).heap[bm + 1]? = some (.cells (markA n (fun x => if x < j + 1 then (place K (m x) : Nat) else 0)) 3 (0, 0)) := by
          rw [blk_set _ hR'.out, markA_set hlt hstep.out hstep2.out]
        refine ⟨⟨j + 1, by omega, by go_num, ?_, hb1, hT.trans ((Touch.refl wr (fun b => b = bm ∨ b = bm + 1)).setCell (a := ⟨bm + 1, j, none⟩) (fun _ => .inr rfl) _)⟩, by simp [intOf]; omega⟩
        rw [hks.out]
        exact World.ownsMap.setCell hM'.out (a := ⟨bm + 1, j, none⟩) (fun e => by simp at e) _
      · have hks : keysOf (cs.take (j + 1)) = keysOf (cs.take j) ++ [z] := by rw [hsn, keysOf_snoc, if_neg hin]
        have hhas : has (tabD (H := Unit) ((keysOf (cs.take j)).map litI)) (litI z) = false := has_tabD_out (litI_keys _) (fun h => hin (litI_mem.1 h))
        have hsize : size (tabD (H := Unit) ((keysOf (cs.take j)).map litI)) = (keysOf (cs.take j)).length := by rw [size_tabD _ (litI_keys _) (litI_nodup (nodup_keysOf _)), List.length_map]
        have hM' := Lib.hid hM
        have hR' := Lib.hid hR
        obtain ⟨q, hq⟩ : ∃ q, q = (keysOf (cs.take j)).length := ⟨_, rfl⟩
        rw [← hq] at hsize hlen
        have hwq : (Lit.int .i64 (q : Int)).wf = true := WalkArith.wf_i64 (by omega)
        have heq := fun (w : World) (r : Option Nat) => run_eql_map_nil (P := Try.prog) w 91 3 3 r Try.underlying91
        have hq' : Hid (place K z = q) := Lib.hid (by rw [← hplace.out, hks, place_new hin, hq])
        have hMq : Hid (wr.ownsMap Try.prog 3 (plainElem (H := Unit) Try.prog 3) bm q (tabD ((keysOf (cs.take j)).map litI))) := Lib.hid (by rw [hq]; exact hM)
        have hg2 : Hid (∀ (w2 : World), wr.grownBy w2 (some bm) → w2.heap[bm + 1]? = some (.cells (markA n (fun x => if x < j then (place K (m x) : Nat) else 0)) 3 (0, 0))) :=
          Lib.hid (fun w2 hg => (hg.block (bm + 1) (Array.getElem?_eq_some_iff.1 hR).1 (fun e => by simp at e)).trans hR)
        have hcR : Hid ((markA n (fun x => if x < j then ((place K (m x) : Nat) : Int) else 0))[j]? = some (.int .i64 0)) := Lib.hid (by rw [markA_at hlt]; simp)
        replace hq := Lib.hid hq
        replace hks := Lib.hid hks
        replace hin := Lib.hid hin
        replace hsn := Lib.hid hsn
        clear hR hz cR cf
        go_wp2_with (first
          | (at_lookup; refine wpList_lookup_own_ok_int _ rfl _ _ 91 rfl 3 3 .i64 lawI Try.underlying91 Try.underlying3 (zeroI _) bm _ _ rfl hM'.out _ _ rfl hkey ?_; intro c hc hwc)
          | (at_len; refine wpList_len_own _ rfl _ 91 rfl 3 3 Try.underlying91 _ bm _ _ rfl hM'.out ?_; rw [hsize])
          | (at_mapUpdate; go_loud (refine wpList_mapUpdate_own _ rfl _ _ _ 91 rfl 3 3 lawI Try.underlying91 _ bm q _ rfl hMq.out (by unfold maxLen; omega) _ _ _ rfl rfl hkey _ [] (plainElem_int Try.underlying3 hwq) ?_); intro w2 hown2 hgrow2; go_loud (have cR2 : w2.cell? ⟨bm + 1, j, none⟩ = some (.int .i64 0) := (blk_cell (hg2.out _ hgrow2) j).trans hcR.out); go_loud (have cf2 : w2.frozen? ⟨bm + 1, j, none⟩ = false := by simp [World.frozen?, hg2.out _ hgrow2]))
          | (at_lookup; go_loud (refine wpList_lookup_own_int _ rfl _ _ 91 rfl 3 3 .i64 lawI Try.underlying91 Try.underlying3 (zeroI _) bm _ _ rfl hown2 _ _ rfl hkey ?_); intro c2 hc2 hwc2))
        obtain rfl : c2 = (place K z : Nat) := by
          rw [atKey_put_same (isMap_tabD _) (show WideAt.IsKeyLit (litI z) from trivial)] at hc2
          rw [hq'.out]
          simpa [num] using hc2.symm
        have hR2 := hg2.out _ hgrow2
        have hb1 : (w2.setCell ⟨bm + 1, j, none⟩ (.int .i64 (place K z : Nat))).heap[bm + 1]? = some (.cells (markA n (fun x => if x < j + 1 then (place K (m x) : Nat) else 0)) 3 (0, 0)) := by
          rw [blk_set _ hR2, markA_set hlt hstep.out hstep2.out]
        refine ⟨⟨j + 1, by omega, by go_num, ?_, hb1, (hT.trans (Touch.of_grown hgrow2 (fun k hk => .inl (Option.some.inj hk).symm))).trans ((Touch.refl w2 (fun b => b = bm ∨ b = bm + 1)).setCell (a := ⟨bm + 1, j, none⟩) (fun _ => .inr rfl) _)⟩, by simp [intOf]; omega⟩
        rw [hks.out]
        unfold MapI
        rw [List.length_append, List.length_singleton, ← hq.out, List.map_append, List.map_singleton, tabD_snoc, List.length_map, ← hq.out]
        exact World.ownsMap.setCell hown2 (a := ⟨bm + 1, j, none⟩) (fun e => by simp at e) _
    · obtain rfl : j = n := by omega
      have i1 : decide ((j : Int) < (j : Int)) = false := by simp
      have hfin : Hid (wr.heap[bm + 1]? = some (.cells (markA j (numF j m)) 3 (0, 0))) := by
        rw [hR]
        refine Lib.hid ?_
        congr 2
        unfold markA
        congr 1
        apply List.map_congr_left
        intro x hx
        simp only [List.mem_range.1 hx, if_pos]
        rw [hK.out, hcs.out]
        rfl
      have hbz : Below w.heap.size w wr := hb0.trans (hT.below hb0.size (fun b hb e => by omega))
      clear hM hR hT c0 hbl
      go_wp2_with fail
      go_ret
      exact ⟨bm + 1, by rfl, hfin.out, by rw [hbm.out]; omega, hbz⟩
end Go.Proofs.Ytedleliddhhacaa
