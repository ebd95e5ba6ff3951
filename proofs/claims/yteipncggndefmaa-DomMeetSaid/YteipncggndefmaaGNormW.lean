/- The contract of graph.Norm, walked. -/
import Derived.Test.YteipncggndefmaaGNorm
namespace Go.Proofs.Yteipncggndefmaa
open Go.RowKit Go.Maps Go.Shelf
theorem infoI1 : (Try.prog.info? 3).map (fun i => (i.zero, i.size, i.bytes)) = some (some (.int .i64 0), 1, 8) := by kernel_rfl
theorem infoL1 : (Try.prog.info? 25).map (fun i => (i.zero, i.size, i.bytes)) = some (some (.slice none 0 0), 1, 24) := by kernel_rfl

theorem made_one (z : Value) (n : Nat) : madeCells #[z] n = (List.replicate n z).toArray := by
  apply Array.ext'
  unfold madeCells
  apply List.ext_getElem
  · simp
  · intro i h1 h2
    simp [Nat.mod_one]
theorem make_rows (n : Nat) (hn : n ≤ 100000) (w : World) : (Instr.makeSlice 22 (.int .i64 (n : Int)) (.int .i64 (n : Int))).run Try.prog w = .ok (.slice (some ⟨w.heap.size, 0, none⟩) n n) (w.alloc (.cells (Array.replicate n (Value.slice none 0 0)) 25)) := by
  obtain ⟨i0, hi0, hz0, hz1, hz2⟩ := info_parts infoL1
  have hb : (i0.bytes : Int) * (n : Int) ≤ 281474976710656 := by rw [hz2]; omega
  have hr := run_make (P := Try.prog) w 22 25 i0 _ Try.underlying22 hi0 hz0 .i64 .i64 n n (by omega) (by omega) hb (by omega)
  rw [hr, hz1, Nat.mul_one, Int.toNat_natCast, show (Value.slice none 0 0).cells = #[Value.slice none 0 0] from rfl, made_one]
  simp

def NormRel (w wr : World) (G : Nat) (L : List (List Int)) (i : Value) : Prop :=
  ∃ (k : Nat) (vs : List Value), k ≤ L.length ∧ i = .int .i64 k ∧ Mat wr w.heap.size G vs (curL L k) ∧ Below w.heap.size w wr
def NormIn (w wr : World) (G k : Nat) (L : List (List Int)) (r : List Int) (j : Value) : Prop :=
  ∃ (m : Nat) (vs : List Value), m ≤ r.length ∧ j = .int .i64 m ∧ Mat wr w.heap.size G vs ((curL L k).set k ((r.take m).filter (validI L.length))) ∧ Below w.heap.size w wr

set_option maxRecDepth 20000 in
set_option maxHeartbeats 4000000 in
theorem norm_any {w : World} {v : Value} {L : List (List Int)} (h : RdG w v L) (hL : L.length ≤ 100000) (hr : ∀ r ∈ L, r.length ≤ 100000) : Calls Try.prog 22 #[v] w fun e w' => ∃ G vs, e = .returned (.slice (some ⟨G, 0, none⟩) L.length L.length) ∧ Mat w' w.heap.size G vs (normL L) ∧ Below w.heap.size w w' := by
  obtain ⟨av, cap, rfl⟩ := h.form
  obtain ⟨i0, hi0, hz0, hz1, hz2⟩ := info_parts infoI1
  have hr' := Lib.hid hr
  clear hr
  go_enter Try.func22, Try.ntmps22
  have hmk := make_rows L.length hL w
  go_wp2_with fail
  have hM0 : Mat (w.alloc (.cells (Array.replicate L.length (Value.slice none 0 0)) 25)) w.heap.size w.heap.size (List.replicate L.length (Value.slice none 0 0)) (curL L 0) := by
    rw [curL_zero]
    refine ⟨by simp, by rw [heap_alloc_new]; simp, Nat.le_refl _, fun i u l hu hl => ?_, fun i u hu => ?_, fun i j u v b _ hu _ hb => ?_⟩
    · obtain rfl := List.eq_of_mem_replicate (List.mem_of_getElem? hu)
      obtain rfl := List.eq_of_mem_replicate (List.mem_of_getElem? hl)
      exact World.ownsRow_nil _ _ _ _
    · obtain rfl := List.eq_of_mem_replicate (List.mem_of_getElem? hu)
      exact fun e => by cases e
    · obtain rfl := List.eq_of_mem_replicate (List.mem_of_getElem? hu)
      cases hb
  have hlt0 : w.heap.size < (w.alloc (.cells (Array.replicate L.length (Value.slice none 0 0)) 25)).heap.size := by simp
  have hbe0 : Below w.heap.size w (w.alloc (.cells (Array.replicate L.length (Value.slice none 0 0)) 25)) := (Below.refl _ _).alloc (Nat.le_refl _) _
  generalize (w.alloc (.cells (Array.replicate L.length (Value.slice none 0 0)) 25)) = wa at *
  replace hM0 := Lib.hid hM0
  obtain ⟨G, hG⟩ : ∃ G, G = w.heap.size := ⟨_, rfl⟩
  rw [← hG] at hM0 ⊢
  replace hG := Lib.hid hG
  clear hmk
  go_loopw [4, 5, 7, 13, 18, 19, 20] (fun _ _ _ i _ _ _ wr => NormRel w wr G L i) (fun _ _ _ i _ _ _ _ => L.length - (intOf i).toNat)
  case atStart => exact ⟨0, _, Nat.zero_le _, rfl, by rw [hG.out] at hM0 ⊢; exact hM0.out, hbe0⟩
  case round =>
    obtain ⟨k, vs, hk, rfl, M, hbw⟩ := hrel
    by_cases hlt : k < L.length
    · obtain ⟨r, hrk⟩ : ∃ r, L[k]? = some r := ⟨_, List.getElem?_eq_getElem hlt⟩
      have hrl : r.length ≤ 100000 := hr'.out r (List.mem_of_getElem? hrk)
      obtain ⟨b, off, cap', u, e, hbl, hcell0, hrd0⟩ := h.at hrk
      simp only [Value.slice.injEq] at e
      obtain ⟨rfl, -, rfl⟩ := e
      obtain ⟨ar, cr, rfl⟩ := hrd0.shape
      have hcell := (hbw.cell (p := ⟨b, off + k, none⟩) hbl).trans hcell0
      have i1 : (k : Int) < (L.length : Int) := by omega
      clear hcell0
      replace hrd0 := Lib.hid hrd0
      go_wp2_with fail
      clear hcell
      go_loopw [7, 20] (fun _ j wx => NormIn w wx G k L r j) (fun _ j _ => r.length - (intOf j).toNat)
      case atStart =>
        refine ⟨0, vs, Nat.zero_le _, rfl, ?_, hbw⟩
        obtain ⟨hh, e⟩ := List.getElem_of_getElem? (curL_at hlt)
        rw [List.take_zero, List.filter_nil, ← e, List.set_getElem_self]
        exact M
      case round =>
        clear M
        obtain ⟨m, vs1, hm, rfl, M1, hb1⟩ := hrel
        by_cases hltm : m < r.length
        · obtain ⟨x, hx⟩ : ∃ x, r[m]? = some x := ⟨_, List.getElem?_eq_getElem hltm⟩
          obtain ⟨b2, off2, cap2, e2, hc2⟩ := RdI.cell (Rd.below hrd0.out hb1) hx
          simp only [Value.slice.injEq] at e2
          obtain ⟨rfl, -, rfl⟩ := e2
          have i2 : (m : Int) < (r.length : Int) := by omega
          have hfl : ((r.take m).filter (validI L.length)).length ≤ 100000 := Nat.le_trans (List.length_filter_le _ _) (by rw [List.length_take]; omega)
          obtain ⟨F, hF⟩ : ∃ F, Hid ((r.take m).filter (validI L.length) = F) := ⟨_, Lib.hid rfl⟩
          rw [hF.out] at M1 hfl
          have hcl : ((curL L k).set k F)[k]? = some F := by
            rw [List.getElem?_set_self (by rw [curL_len hk]; exact hlt)]
          obtain ⟨u1, hu1, hrow⟩ := M1.at hcl
          have hgc := M1.cell hu1
          have htk := Lib.hid (take_snoc hx)
          have hiN := Lib.hid (fun w => isnode_any (w := w) (v := .slice (some ⟨b, off, none⟩) L.length cap) (x := x) rfl)
          cases hq : validI L.length x with
          | false =>
            rw [hq] at hiN
            replace hq := Lib.hid hq
            clear hgc
            go_wp2_with (go_at_call 32; refine (hiN.out _).mono ?_; rintro e w' ⟨rfl, rfl⟩)
            refine ⟨⟨m + 1, vs1, by omega, by go_num, ?_, hb1⟩, by simp [intOf]; omega⟩
            rw [htk.out, List.filter_append, hF.out]
            simp [hq.out]
            exact M1
          | true =>
            rw [hq] at hiN
            replace hq := Lib.hid hq
            obtain ⟨au, cu, rfl⟩ := own_form hrow
            go_wp2_with (first | (go_at_call 32; refine (hiN.out _).mono ?_; rintro e w' ⟨rfl, rfl⟩) | (at_builtin; refine wpList_append_own_at _ rfl _ _ 25 rfl w.heap.size 3 i0 _ 1 8 Try.underlying25 hi0 hz0 hz1 hz2 rfl (by decide) _ _ _ rfl (hrow.alloc _) ⟨wr.heap.size, 0, none⟩ 1 1 [.int .i64 x] rfl rfl (World.news_of_block (cs := #[.int .i64 x]) (t := 3) (fr := (0, 0)) (heap_alloc_new wr _)) (by simp [Value.oneCell']) (by unfold maxLen; omega) (by omega) (by have := hb1.size; simp at this ⊢; omega) ?_))
            intro v' w2 hown2 hgrow hnil hat
            obtain ⟨av2, cv2, rfl⟩ := own_form hown2
            have T := Touch.trans ((Touch.refl wr (fun b => (Value.slice au F.length cu).ownBlock = some b)).alloc (.cells #[.int .i64 x] 3)) ((Touch.of_grown hgrow (fun k hk => hk)))
            have hGlt := M1.lt
            have hb2 : Below w.heap.size w w2 := (hb1.alloc hb1.size _).grown hgrow (by have := hb1.size; simp; omega) (fun b hb => (hrow.lt b hb).1)
            have hblk2 := (T.block G hGlt (M1.notG k _ hu1)).trans M1.blk
            have hc2 : w2.cell? ⟨G, k, none⟩ = some (.slice au F.length cu) := by rw [blk_cell hblk2]; simpa using hu1
            have hf2 : w2.frozen? ⟨G, k, none⟩ = false := by simp [World.frozen?, hblk2]
            have hown3 : w2.ownsRow w.heap.size 3 1 (.slice av2 (F.length + 1) cv2) (F ++ [x]).length ((F ++ [x]).map encI) := by simpa [encI] using hown2
            have M2 := M1.turn hu1 hcl T hown3 (fun b hb => by
              rcases hat with e | e
              · exact .inl (e ▸ hb)
              · rw [e] at hb; exact .inr (by injection hb with hb; omega))
            rw [List.set_set] at M2
            have hGb : w.heap.size ≤ G := M1.low
            replace M2 := Lib.hid M2
            clear T hgrow hown2 hown3 hnil hat hgc hrow hcl M1 hblk2 hu1
            go_wp2_with fail
            refine ⟨⟨m + 1, vs1.set k (.slice av2 (F.length + 1) cv2), by omega, by go_num, ?_, hb2.setCell (p := ⟨G, k, none⟩) hGb _⟩, by simp [intOf]; omega⟩
            rw [htk.out, List.filter_append, hF.out]
            simp only [List.filter_cons, hq.out, List.filter_nil, if_true]
            exact M2.out
        · obtain rfl : m = r.length := by omega
          rw [List.take_length] at M1
          obtain ⟨F, hF⟩ : ∃ F, Hid (r.filter (validI L.length) = F) := ⟨_, Lib.hid rfl⟩
          have hfl : (r.filter (validI L.length)).length ≤ 100000 := Nat.le_trans (List.length_filter_le _ _) (by omega)
          rw [hF.out] at M1 hfl
          have hcl : ((curL L k).set k F)[k]? = some F := by
            rw [List.getElem?_set_self (by rw [curL_len hk]; exact hlt)]
          obtain ⟨u1, hu1, hrow⟩ := M1.at hcl
          have hgc := M1.cell hu1
          have i2 : decide ((r.length : Int) < (r.length : Int)) = false := by simp
          obtain ⟨au, cu, rfl⟩ := own_form hrow
          have hS := Lib.hid (sort_own (by omega) hrow)
          obtain ⟨F2, hF2⟩ : ∃ F2, Hid ((F.mergeSort fun x y => decide (x ≤ y)) = F2) := ⟨_, Lib.hid rfl⟩
          have hF2l : F2.length = F.length := by rw [← hF2.out]; exact List.length_mergeSort F
          rw [hF2.out] at hS
          have hGlt := M1.lt
          have hGb : w.heap.size ≤ G := M1.low
          go_wp2_with fail
          refine hS.out.mono ?_
          rintro e w1 ⟨rfl, hrow1, T1⟩
          have M2 := M1.here hu1 hcl T1 (l' := F2) (by rw [hF2l]; exact hrow1)
          rw [List.set_set] at M2
          have hb2 : Below w.heap.size w w1 := hb1.trans (T1.below hb1.size (fun b hb hs => by have := (hrow.lt b hs).1; omega))
          have hcl2 : ((curL L k).set k F2)[k]? = some F2 := by
            rw [List.getElem?_set_self (by rw [curL_len hk]; exact hlt)]
          obtain ⟨u2, hu2, hrow2⟩ := M2.at hcl2
          rw [hu1] at hu2
          obtain rfl := Option.some.inj hu2
          have hgc2 := M2.cell hu1
          have hC := Lib.hid (compact_own hrow2)
          have hfin : Hid (Lib.compact F2 = rowL L.length r) := by
            rw [← hF2.out, ← hF.out]
            exact Lib.hid sort_row
          rw [hfin.out] at hC
          clear hgc hrow hrow1 T1 hS M1 hcl
          go_wp2_with fail
          refine hC.out.mono ?_
          rintro e w3 ⟨v3, rfl, hrow3, hob, T3⟩
          obtain ⟨av3, cv3, rfl⟩ := own_form hrow3
          have hG2 := M2.lt
          have hblk3 := (T3.block G hG2 (M2.notG k _ hu1)).trans M2.blk
          have hc3 : w3.cell? ⟨G, k, none⟩ = some (.slice au F.length cu) := by rw [blk_cell hblk3]; simpa using hu1
          have hf3 : w3.frozen? ⟨G, k, none⟩ = false := by simp [World.frozen?, hblk3]
          have hb3 : Below w.heap.size w w3 := hb2.trans (T3.below hb2.size (fun b hb hs => by have := (hrow2.lt b hs).1; omega))
          have M3 := M2.turn hu1 hcl2 T3 hrow3 (fun b hb => .inl (hob ▸ hb))
          rw [List.set_set] at M3
          replace M3 := Lib.hid M3
          clear hrow3 hob T3 hgc2 hrow2 hC M2 hblk3 hu1 hcl2 hfin
          go_wp2_with fail
          refine ⟨⟨k + 1, vs1.set k (.slice av3 (rowL L.length r).length cv3), hlt, by go_num, ?_, hb3.setCell (p := ⟨G, k, none⟩) hGb _⟩, by simp [intOf]; omega⟩
          rw [← curL_succ hrk]
          exact M3.out
    · obtain rfl : k = L.length := by omega
      have i1 : decide ((L.length : Int) < (L.length : Int)) = false := by simp
      rw [curL_end] at M
      replace M := Lib.hid M
      go_wp2_with fail
      go_ret
      exact ⟨G, vs, rfl, M.out, hbw⟩
end Go.Proofs.Yteipncggndefmaa
