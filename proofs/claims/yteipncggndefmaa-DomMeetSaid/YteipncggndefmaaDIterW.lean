/- dom.Iterate, walked. -/
import Derived.Test.YteipncggndefmaaDIterA
namespace Go.Proofs.Yteipncggndefmaa
open Go.RowKit Go.Maps Go.Shelf

/-- What Iterate tells: those that it comes to, rising. -/
def IterOf (F : List (List Int)) (l out : List Int) : Prop := out.Pairwise (· < ·) ∧ ∀ z : Int, z ∈ out ↔ ∃ y : Nat, z = y ∧ ItR F l y
theorem IterOf.det {F : List (List Int)} {l a b : List Int} (ha : IterOf F l a) (hb : IterOf F l b) : a = b := rise_ext ha.1 hb.1 (fun x => by rw [ha.2, hb.2])

set_option maxRecDepth 20000 in
set_option maxHeartbeats 4000000 in
theorem iterate_any {w : World} {v vl : Value} {F : List (List Int)} {l : List Int} (h : RdG w v F) (hF : F.length ≤ 100000) (hr : ∀ r ∈ F, r.length ≤ 100000) (hl : RdI w vl l) (hll : l.length ≤ 1000000) :
    Calls Try.prog 19 #[v, vl] w fun e w' => ∃ v' out, e = .returned v' ∧ w'.ownsRow w.heap.size 3 1 v' out.length (out.map encI) ∧ IterOf F l out ∧ Below w.heap.size w w' := by
  obtain ⟨av, c0, rfl⟩ := h.form
  obtain ⟨al, cl, rfl⟩ := hl.form
  obtain ⟨n, hn⟩ : ∃ n, n = F.length := ⟨_, rfl⟩
  obtain ⟨p, hp⟩ : ∃ p, p = l.length := ⟨_, rfl⟩
  obtain ⟨i0, hi0, hz0, hz1, hz2⟩ := info_parts infoI1
  rw [List.length_map] at hl ⊢
  rw [← hn] at h hF ⊢
  rw [← hp] at hl hll ⊢
  have hmk := fun w' => make_bools n hF w'
  have hmm := @run_makeMap Try.prog
  have hS0 : (((w.alloc (.cells (seenA n []) 4)).alloc (.map #[] 0))).heap[w.heap.size]? = some (.cells (seenA n []) 4 (0, 0)) := at_oldD (at_newD rfl)
  have hM0 : SetM ((w.alloc (.cells (seenA n []) 4)).alloc (.map #[] 0)) (w.heap.size + 1) [] := by
    have := SetM.new (w.alloc (.cells (seenA n []) 4))
    rwa [World.size_alloc] at this
  have hb0 : Below w.heap.size w ((w.alloc (.cells (seenA n []) 4)).alloc (.map #[] 0)) := ((Below.refl _ _).alloc (Nat.le_refl _) _).alloc (by simp) _
  replace h := Lib.hid h
  replace hl := Lib.hid hl
  replace hn := Lib.hid hn
  replace hp := Lib.hid hp
  replace hr := Lib.hid hr
  replace hS0 := Lib.hid hS0
  replace hM0 := Lib.hid hM0
  replace hb0 := Lib.hid hb0
  go_enter Try.func19, Try.ntmps19
  go_wp2_with fail
  generalize ((w.alloc (.cells (seenA n []) 4)).alloc (.map #[] 0)) = w1 at hS0 hM0 hb0 ⊢
  clear hmk hmm
  go_loopw [8, 20] (fun _ i wr => ∃ (k : Nat) (wt : List Nat), k ≤ p ∧ i = .int .i64 k ∧ Hid (wr.heap[w.heap.size]? = some (.cells (seenA n []) 4 (0, 0))) ∧ Hid (SetM wr (w.heap.size + 1) wt) ∧ Hid (Below w.heap.size w wr) ∧ Hid (∀ x : Nat, x ∈ wt ↔ (x : Int) ∈ l.take k ∧ x < n)) (fun _ i _ => p - (intOf i).toNat)
  case atStart => exact ⟨0, [], Nat.zero_le _, rfl, hS0, hM0, hb0, Lib.hid (fun x => by simp)⟩
  case round =>
    clear hS0 hM0 hb0
    obtain ⟨k, wt, hk, rfl, hS, hM, hb, hW⟩ := hrel
    by_cases hlt : k < p
    · obtain ⟨x0, hx0⟩ : ∃ x, l[k]? = some x := ⟨_, List.getElem?_eq_getElem (by rw [← hp.out]; exact hlt)⟩
      obtain ⟨b, off, cap, e, hbl, hc⟩ := Rd.at hl.out (i := k) (u := .int .i64 x0) (by simp [hx0, encI])
      rw [List.length_map, ← hp.out] at e
      simp only [Value.slice.injEq] at e
      obtain ⟨rfl, -, rfl⟩ := e
      have c1 := (hb.out.cell (p := ⟨b, off + k, none⟩) hbl).trans hc
      have j1 : decide ((k : Int) < (p : Int)) = true := by simpa using hlt
      have j2 : (k : Int) < (p : Int) := by omega
      have ht : l.take (k + 1) = l.take k ++ [x0] := by rw [List.take_add_one, hx0]; rfl
      replace ht := Lib.hid ht
      clear hc hx0
      by_cases h0 : 0 ≤ x0 ∧ x0 < n
      · obtain ⟨x, rfl⟩ : ∃ x : Nat, x0 = x := ⟨x0.toNat, by omega⟩
        have d1 : decide ((x : Int) ≥ 0) = true := by simp
        have d2 : decide ((x : Int) < (n : Int)) = true := by simpa using h0.2
        have hxn : x < n := by omega
        have hW2 : Hid (∀ y : Nat, y ∈ plusM wt x ↔ (y : Int) ∈ l.take (k + 1) ∧ y < n) := Lib.hid (fun y => by
          rw [mem_plusM, hW.out, ht.out, List.mem_append, List.mem_singleton]
          constructor
          · rintro (⟨h1, h2⟩ | rfl)
            · exact ⟨.inl h1, h2⟩
            · exact ⟨.inr rfl, hxn⟩
          · rintro ⟨h1 | h1, h2⟩
            · exact .inl ⟨h1, h2⟩
            · exact .inr (by omega))
        clear hW
        go_wp2_with (first
          | (at_mapUpdate; refine wpList_setM_put rfl _ _ _ rfl (w.heap.size + 1) wt hM.out rfl x rfl rfl (by omega) ?_; intro w3 hM3 hT3; go_frame)
          | go_in)
        have hS3 := Lib.hid ((hT3.block w.heap.size (Array.getElem?_eq_some_iff.1 hS.out).1 (by omega)).trans hS.out)
        have hb3 := Lib.hid (hb.out.trans (hT3.below hb.out.size (fun k hk e => by omega)))
        replace hM3 := Lib.hid hM3
        clear hT3 hM hS hb
        go_wp2_with fail
        exact ⟨⟨k + 1, plusM wt x, by omega, by go_num, hS3, hM3, hb3, hW2⟩, by simp [intOf]; omega⟩
      · have hW2 : Hid (∀ y : Nat, y ∈ wt ↔ (y : Int) ∈ l.take (k + 1) ∧ y < n) := Lib.hid (fun y => by
          rw [hW.out, ht.out, List.mem_append, List.mem_singleton]
          constructor
          · rintro ⟨h1, h2⟩
            exact ⟨.inl h1, h2⟩
          · rintro ⟨h1 | h1, h2⟩
            · exact ⟨h1, h2⟩
            · omega)
        clear hW
        by_cases h1 : 0 ≤ x0
        · have d1 : decide (x0 ≥ 0) = true := by simpa using h1
          have d2 : decide (x0 < (n : Int)) = false := by simp; omega
          go_wp2_with fail
          exact ⟨⟨k + 1, wt, by omega, by go_num, hS, hM, hb, hW2⟩, by simp [intOf]; omega⟩
        · have d1 : decide (x0 ≥ 0) = false := by simpa using h1
          go_wp2_with fail
          exact ⟨⟨k + 1, wt, by omega, by go_num, hS, hM, hb, hW2⟩, by simp [intOf]; omega⟩
    · obtain rfl : k = p := by omega
      have j1 : decide ((k : Int) < (k : Int)) = false := by simp
      have hI0 : Hid (ItS F l [] wt none) := Lib.hid (by
        have hW' := hW.out
        rw [hp.out, List.take_length] at hW'
        rw [hn.out] at hW'
        exact ⟨fun y hy => (by cases hy), fun x hx => ⟨((hW' x).1 hx).2, .inl ((hW' x).1 hx).1⟩, fun x r j e => (by cases e), fun x hx hxs => .inl ((hW' x).2 ⟨hxs.elim id (fun h => (by cases h)), hx⟩)⟩)
      clear hW
      go_wp2_with fail
      go_loopg [10] (wt.length + 2 * unseen n []) (fun g _ wx => ∃ (s2 wt2 : List Nat), Hid (ItS F l s2 wt2 none) ∧ Hid (wx.heap[w.heap.size]? = some (.cells (seenA n s2) 4 (0, 0))) ∧ Hid (SetM wx (w.heap.size + 1) wt2) ∧ Hid (Below w.heap.size w wx) ∧ Hid (g = wt2.length + 2 * unseen n s2))
      case atStart => exact ⟨[], wt, hI0, hS, hM, hb, Lib.hid rfl⟩
      case round =>
        clear hI0 hS hM hb
        obtain ⟨s2, wt2, hI, hS, hM, hb, hg⟩ := hrel
        rename World => wq
        by_cases hw2 : wt2 = []
        · subst hw2
          have hfin := Lib.hid (fun y => hI.out.end_ y)
          clear hI hg
          go_wp2_with (at_len; refine wpList_setM_len rfl _ rfl (w.heap.size + 1) [] hM.out rfl ?_)
          have hnil : wq.ownsRow (wq.heap.size) 3 1 (.slice none 0 0) 0 [] := World.ownsRow_nil _ _ _ _
          have hSlt := (Array.getElem?_eq_some_iff.1 hS.out).1
          go_wp2_with fail
          go_loopw [11, 12, 13, 73] (fun v _ _ i wx => ∃ (k : Nat) (out : List Int), k ≤ n ∧ i = .int .i64 k ∧ Hid (wx.ownsRow wq.heap.size 3 1 v out.length (out.map encI)) ∧ Hid (out.Pairwise (· < ·) ∧ ∀ z : Int, z ∈ out ↔ ∃ y : Nat, z = y ∧ y < k ∧ y ∈ s2) ∧ out.length ≤ k ∧ Hid (Below wq.heap.size wq wx)) (fun _ _ _ i _ => n - (intOf i).toNat)
          case atStart => exact ⟨0, [], Nat.zero_le _, rfl, Lib.hid hnil, Lib.hid ⟨List.Pairwise.nil, fun z => by simp⟩, Nat.le_refl _, Lib.hid (Below.refl _ _)⟩
          case round =>
            obtain ⟨k, out, hk2, rfl, hO, hout, hol, hb2⟩ := hrel
            have hS2 := (hb2.out.block _ hSlt).trans hS.out
            by_cases hlt2 : k < n
            · have j2 : decide ((k : Int) < (n : Int)) = true := by simpa using hlt2
              have j3 : (k : Int) < (n : Int) := by omega
              have c2 := (blk_cell hS2 k).trans (seenA_at hlt2)
              by_cases hks : k ∈ s2
              · rw [decide_eq_true hks] at c2
                have hle := hb2.out.size
                have hout2 : Hid ((out ++ [(k : Int)]).Pairwise (· < ·) ∧ ∀ z : Int, z ∈ out ++ [(k : Int)] ↔ ∃ y : Nat, z = y ∧ y < k + 1 ∧ y ∈ s2) := Lib.hid (by
                  obtain ⟨o1, o2⟩ := hout.out
                  refine ⟨?_, fun z => ?_⟩
                  · rw [List.pairwise_append]
                    refine ⟨o1, by simp, fun a ha b hb => ?_⟩
                    rw [List.mem_singleton.1 hb]
                    obtain ⟨y, e, hy, -⟩ := (o2 a).1 ha
                    omega
                  · rw [List.mem_append, o2, List.mem_singleton]
                    constructor
                    · rintro (⟨y, e, hy, hys⟩ | e)
                      · exact ⟨y, e, by omega, hys⟩
                      · exact ⟨k, e, by omega, hks⟩
                    · rintro ⟨y, e, hy, hys⟩
                      by_cases e2 : y = k
                      · exact .inr (by rw [e, e2])
                      · exact .inl ⟨y, e, by omega, hys⟩)
                have hown := hO.out
                obtain ⟨ao, co, rfl⟩ := own_form hown
                replace hks := Lib.hid hks
                clear hS2 hO hout
                go_wp2_with (at_builtin; refine wpList_append_own_at _ rfl _ _ 25 rfl wq.heap.size 3 i0 _ 1 8 Try.underlying25 hi0 hz0 hz1 hz2 rfl (by decide) _ _ _ rfl (hown.alloc _) ⟨wr.heap.size, 0, none⟩ 1 1 [.int .i64 k] rfl rfl (World.news_of_block (cs := #[.int .i64 k]) (t := 3) (fr := (0, 0)) (heap_alloc_new wr _)) (by simp [Value.oneCell']) (by unfold maxLen; omega) (by omega) (by simp; omega) ?_)
                intro v' w2 hown2 hgrow hnil2 hat
                have hb3 : Hid (Below wq.heap.size wq w2) := Lib.hid ((hb2.out.alloc hle _).grown hgrow (by simp; omega) (fun b e => (hown.lt b e).1))
                obtain ⟨a2, c3, rfl⟩ := own_form hown2
                have hO2 : Hid (w2.ownsRow wq.heap.size 3 1 (.slice a2 (out.length + 1) c3) (out ++ [(k : Int)]).length ((out ++ [(k : Int)]).map encI)) := Lib.hid (by simpa [encI] using hown2)
                clear hown hown2 hgrow hnil2 hat hb2
                go_wp2_with fail
                exact ⟨⟨k + 1, out ++ [(k : Int)], by omega, by go_num, hO2, hout2, by simp; omega, hb3⟩, by simp [intOf]; omega⟩
              · rw [decide_eq_false hks] at c2
                have hout2 : Hid (out.Pairwise (· < ·) ∧ ∀ z : Int, z ∈ out ↔ ∃ y : Nat, z = y ∧ y < k + 1 ∧ y ∈ s2) := Lib.hid (by
                  obtain ⟨o1, o2⟩ := hout.out
                  refine ⟨o1, fun z => ?_⟩
                  rw [o2]
                  constructor
                  · rintro ⟨y, e, hy, hys⟩
                    exact ⟨y, e, by omega, hys⟩
                  · rintro ⟨y, e, hy, hys⟩
                    exact ⟨y, e, by
                      rcases Nat.lt_or_ge y k with h | h
                      · exact h
                      · exact absurd ((show y = k by omega) ▸ hys) hks, hys⟩)
                replace hks := Lib.hid hks
                clear hS2 hout
                go_wp2_with fail
                exact ⟨⟨k + 1, out, by omega, by go_num, hO, hout2, by omega, hb2⟩, by simp [intOf]; omega⟩
            · obtain rfl : k = n := by omega
              have j2 : decide ((k : Int) < (k : Int)) = false := by simp
              have hend : Hid (IterOf F l out) := Lib.hid (by
                obtain ⟨o1, o2⟩ := hout.out
                refine ⟨o1, fun z => ?_⟩
                rw [o2]
                constructor
                · rintro ⟨y, e, -, hys⟩
                  exact ⟨y, e, (hfin.out y).1 hys⟩
                · rintro ⟨y, e, hy⟩
                  have hy' := hy
                  obtain ⟨a, b, -, -, he⟩ := hy
                  have := he.lt.2
                  exact ⟨y, e, by have := hn.out; omega, (hfin.out y).2 hy'⟩)
              have hO3 := Lib.hid (own_mono hO.out hb.out.size)
              have hb3 := Lib.hid (hb.out.trans (hb2.out.mono hb.out.size))
              obtain ⟨ao, co, rfl⟩ := own_form hO.out
              clear hS2 hout hO hb2
              go_wp2_with fail
              go_ret
              exact ⟨_, out, rfl, hO3.out, hend.out, hb3.out⟩
        · have hwl : 0 < wt2.length := List.length_pos_iff.2 hw2
          have j2 : decide (((wt2.length : Nat) : Int) > 0) = true := by simpa using hwl
          have hTk := Lib.hid (take_any hM.out hw2)
          replace hw2 := Lib.hid hw2
          replace hg := Lib.hid hg.out
          go_wp2_with (at_len; refine wpList_setM_len rfl _ rfl (w.heap.size + 1) wt2 hM.out rfl ?_)
          refine hTk.out.mono ?_
          rintro e w5 ⟨x, hx, rfl, hM5, hT5⟩
          have hxw := hI.out.wait x hx
          obtain ⟨r, hrx⟩ : ∃ r, F[x]? = some r := ⟨_, List.getElem?_eq_getElem hxw.1⟩
          obtain ⟨b, off, cap, u, e, hbl, hcell, hrd⟩ := RdG.at h.out hrx
          rw [← hn.out] at e
          simp only [Value.slice.injEq] at e
          obtain ⟨rfl, -, rfl⟩ := e
          obtain ⟨ar, cr, rfl⟩ := hrd.shape
          have hb5 := hb.out.trans (hT5.below hb.out.size (fun k hk e => by omega))
          have c5 := (hb5.cell (p := ⟨b, off + x, none⟩) hbl).trans hcell
          have hS5 := (hT5.block w.heap.size (Array.getElem?_eq_some_iff.1 hS.out).1 (by omega)).trans hS.out
          have hI5 := hI.out.take hx hrx
          have hxn : (x : Int) < (n : Int) := by have := hn.out; omega
          have hrl := hr.out r (List.mem_of_getElem? hrx)
          have hel : (wt2.erase x).length = wt2.length - 1 := List.length_erase_of_mem hx
          replace hS5 := Lib.hid hS5
          replace hI5 := Lib.hid hI5
          replace hb5 := Lib.hid hb5
          replace hM5 := Lib.hid hM5
          replace hrd := Lib.hid hrd
          replace hx := Lib.hid hx
          replace hrx := Lib.hid hrx
          replace hxw := Lib.hid hxw
          replace hel := Lib.hid hel
          clear hTk hT5 hcell hI hS hM hb
          go_upto_block 4 with fail
          refine diter4 (by kernel_rfl) (w := w5) (w0 := w) (l := l) (r := r) (x := x) (s := s2) (wt := wt2.erase x) (bm := w.heap.size + 1) hS5.out hM5.out (by omega) hI5.out hrd.out hb5.out (Nat.le_refl _) (by omega) hn.out hF (by omega) (Lib.hid ?_)
          intros
          rename_i hx2
          obtain ⟨s3, wt3, hI6, hS6, hM6, hb6, hle6⟩ := hx2
          replace hI6 := Lib.hid hI6.row
          replace hS6 := Lib.hid hS6
          replace hM6 := Lib.hid hM6
          replace hb6 := Lib.hid hb6
          replace hle6 := Lib.hid hle6
          clear hS5 hI5 hb5 hM5 c5
          go_wp2_with fail
          go_roundg (wt3.length + 2 * unseen n s3)
          case measure => have := hle6.out; have := hel.out; have := hg.out; omega
          case rel => exact ⟨s3, wt3, hI6, hS6, hM6, hb6, Lib.hid rfl⟩
end Go.Proofs.Yteipncggndefmaa
