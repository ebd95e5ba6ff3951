/- The document's Uses; texts and instructions compared. -/
import Derived.Test.YtedleliddhhacaaCUses
namespace Go.Proofs.Ytedleliddhhacaa
open Go.RowKit Go.Maps

set_option maxRecDepth 20000 in
theorem r5uses_any {w : World} {cs : List Value} {d : Ins} (h : RdIns w cs d) (hl : d.args.length ≤ 100000) :
    Calls Try.prog 9 #[.agg cs.toArray] w fun e w' => ∃ v', e = .returned v' ∧ OwnS w w' v' (usesL d) ∧ Below w.heap.size w w' := by
  obtain ⟨va, vl, rfl, ha, -⟩ := h
  obtain ⟨aa, ca, rfl⟩ := ha.form
  obtain ⟨i0, hi0, hz0, hz1, hz2⟩ := info_parts infoS1
  replace ha := Lib.hid ha
  unfold insV
  have hown0 : ((w.alloc (.cells #[.int .u8 d.op, .string d.dst, .string d.a, .string d.b, .int .i64 d.n, .string d.fn, .slice aa d.args.length ca, vl] 25)).alloc (.cells #[.string d.a, .string d.b] 9)).ownsRow w.heap.size 9 1 (.slice (some ⟨w.heap.size + 1, 0, none⟩) 2 2) 2 [.string d.a, .string d.b] := by
    have := World.ownsRow_lit (base := w.heap.size) (e := 9) (size := 1) (w.alloc (.cells #[.int .u8 d.op, .string d.dst, .string d.a, .string d.b, .int .i64 d.n, .string d.fn, .slice aa d.args.length ca, vl] 25)) #[.string d.a, .string d.b] 2 (by simp) (by decide) rfl
    rwa [World.size_alloc] at this
  have hbe0 : Below w.heap.size w ((w.alloc (.cells #[.int .u8 d.op, .string d.dst, .string d.a, .string d.b, .int .i64 d.n, .string d.fn, .slice aa d.args.length ca, vl] 25)).alloc (.cells #[.string d.a, .string d.b] 9)) := ((Below.refl _ _).alloc (Nat.le_refl _) _).alloc (by simp) _
  rw [List.length_map] at ha
  have hrd0 := Lib.hid (Rd.below ha.out hbe0)
  go_enter Try.func9, Try.ntmps9
  go_wp2_with (at_builtin; refine wpList_append_rd _ rfl _ _ 23 rfl w.heap.size 9 i0 (.string ⟨#[]⟩) 16 Try.underlying23 hi0 hz0 hz1 hz2 rfl _ 2 _ rfl hown0 _ (d.args.map Value.string) rfl hrd0.out (oneStr _) (by simp; unfold maxLen; omega) (by simp; omega) (by simp; omega) ?_)
  intro v' w2 hown2 hgrow hat
  have hb2 : Below w.heap.size w w2 := hbe0.grown hgrow (by simp; omega) (fun b e => by simp [Value.ownBlock] at e; omega)
  have hrd : RdS w2 v' ([d.a, d.b] ++ d.args) := rds_own (base := w.heap.size) (t := 9) (n := 2 + d.args.length) (by simpa using hown2)
  clear hown2
  obtain ⟨ss, hss⟩ : ∃ ss, Hid (ss = [d.a, d.b] ++ d.args) := ⟨_, Lib.hid rfl⟩
  rw [← hss.out] at hrd
  have hsl : ss.length = 2 + d.args.length := by rw [hss.out]; simp; omega
  have hus : Hid (usesL d = ss.filter isVar) := Lib.hid (by rw [hss.out]; rfl)
  obtain ⟨n, hn⟩ : ∃ n, n = ss.length := ⟨_, rfl⟩
  rw [← hn] at hsl
  obtain ⟨a2, c2, rfl⟩ := hrd.form
  rw [List.length_map, ← hn] at hrd ⊢
  have hnl : n ≤ 100002 := by omega
  replace hn := Lib.hid hn
  replace hrd := Lib.hid hrd
  replace hbe0 := Lib.hid hbe0
  clear hsl hgrow hat hown0 hrd0
  go_wp2_with fail
  go_loopw [3, 5] (fun v' i wr => ∃ k, k ≤ n ∧ i = .int .i64 k ∧ OwnS w2 wr v' ((ss.take k).filter isVar) ∧ Below w2.heap.size w2 wr) (fun _ i _ => n - (intOf i).toNat)
  case atStart => exact ⟨0, Nat.zero_le _, rfl, World.ownsRow_nil _ _ _ _, Below.refl _ _⟩
  case round =>
    obtain ⟨k, hk, rfl, hO, hb⟩ := hrel
    by_cases hlt : k < n
    · obtain ⟨s, hs⟩ : ∃ s, ss[k]? = some s := ⟨_, List.getElem?_eq_getElem (by rw [← hn.out]; exact hlt)⟩
      obtain ⟨b, off, cap, e, hblt, hc0⟩ := Rd.at hrd.out (i := k) (u := .string s) (by simp [hs])
      simp only [Value.slice.injEq] at e
      obtain ⟨rfl, -, rfl⟩ := e
      have hc := (hb.cell (p := ⟨b, off + k, none⟩) hblt).trans hc0
      have i1 : (k : Int) < (n : Int) := by omega
      have htk := Lib.hid (take_snoc hs)
      clear hc0 hs
      have hfl : ((ss.take k).filter isVar).length ≤ k := Nat.le_trans (List.length_filter_le _ _) (by simp; omega)
      obtain ⟨m, hm⟩ : ∃ m, m = ((ss.take k).filter isVar).length := ⟨_, rfl⟩
      unfold OwnS at hO
      rw [← hm] at hO hfl
      replace hm := Lib.hid hm
      obtain ⟨ao, co, rfl⟩ := own_form hO
      have hws := hb2.size
      by_cases hv1 : s.toList.isEmpty = true
      · have hf : Hid (((ss.take (k + 1)).filter isVar) = (ss.take k).filter isVar) := Lib.hid (by rw [htk.out, List.filter_append]; simp only [List.filter_cons, isVar, hv1]; simp)
        go_wp2_with fail
        exact ⟨⟨k + 1, by omega, by go_num, by unfold OwnS; rw [hf.out, ← hm.out]; exact hO, hb⟩, by simp [intOf]; omega⟩
      · replace hv1 : s.toList.isEmpty = false := by simpa using hv1
        by_cases hv2 : (s.toList == [110, 117, 108, 108]) = true
        · have hf : Hid (((ss.take (k + 1)).filter isVar) = (ss.take k).filter isVar) := Lib.hid (by rw [htk.out, List.filter_append]; simp only [List.filter_cons, isVar, hv1, hv2]; simp)
          go_wp2_with fail
          exact ⟨⟨k + 1, by omega, by go_num, by unfold OwnS; rw [hf.out, ← hm.out]; exact hO, hb⟩, by simp [intOf]; omega⟩
        · replace hv2 : (s.toList == [110, 117, 108, 108]) = false := by simpa using hv2
          have hf : Hid (((ss.take (k + 1)).filter isVar) = (ss.take k).filter isVar ++ [s]) := Lib.hid (by rw [htk.out, List.filter_append]; simp only [List.filter_cons, isVar, hv1, hv2]; simp)
          go_wp2_with (at_builtin; refine wpList_append_own_at _ rfl _ _ 23 rfl w2.heap.size 9 i0 _ 1 16 Try.underlying23 hi0 hz0 hz1 hz2 rfl (by decide) _ _ _ rfl (hO.alloc _) ⟨wr.heap.size, 0, none⟩ 1 1 [.string s] rfl rfl (World.news_of_block (cs := #[.string s]) (t := 9) (fr := (0, 0)) (heap_alloc_new wr _)) (by simp [Value.oneCell']) (by unfold maxLen; omega) (by omega) (by have := hb.size; simp; omega) ?_)
          intro v' w3 hown2 hgrow hnil hat
          have hb3 : Below w2.heap.size w2 w3 := (hb.alloc hb.size _).grown hgrow (by have := hb.size; simp; omega) (fun b e => (hO.lt b e).1)
          obtain ⟨a2, c2, rfl⟩ := own_form hown2
          go_wp2_with fail
          exact ⟨⟨k + 1, by omega, by go_num, by unfold OwnS; rw [hf.out, List.length_append, List.map_append, ← hm.out]; exact hown2, hb3⟩, by simp [intOf]; omega⟩
    · obtain rfl : k = n := by omega
      have i1 : decide ((k : Int) < (k : Int)) = false := by simp
      rw [hn.out, List.take_length] at hO
      go_wp2_with fail
      go_ret
      exact ⟨_, rfl, by unfold OwnS; rw [hus.out]; exact own_lower hO hb2.size, hb2.trans (hb.mono hb2.size)⟩

theorem toList_ne {x y : ByteArray} (h : x ≠ y) : (x.toList == y.toList) = false := by
  rw [beq_eq_false_iff_ne]
  intro e
  rw [ByteArray.toList_eq, ByteArray.toList_eq] at e
  exact h (ByteArray.ext (Array.toList_inj.1 e))
/-- Texts compared. -/
theorem r5same_any {w : World} {va vb : Value} {xs ys : List ByteArray} (ha : RdS w va xs) (hb : RdS w vb ys) (hl0' : xs.length ≤ maxLen) :
    Calls Try.prog 20 #[va, vb] w fun e w' => e = .returned (.bool (decide (xs = ys))) ∧ ∃ n, w' = w.drewN n := by
  obtain ⟨aa, ca, rfl⟩ := ha.form
  obtain ⟨ab, cb, rfl⟩ := hb.form
  rw [List.length_map, List.length_map] at *
  have hl : xs.length ≤ 9223372036854775807 := hl0'
  clear hl0'
  by_cases hl0 : xs.length = ys.length
  · have hne : ((xs.length : Int) != (ys.length : Int)) = false := by simp [hl0]
    have hlb := hl
    have hl := Lib.hid hl0
    have hle : xs.length ≤ ys.length ∧ ys.length ≤ xs.length := by omega
    clear hl0
    go_enter Try.func20, Try.ntmps20
    go_wp2
    go_loopw [5] (fun i wr => ∃ j n : Nat, j ≤ xs.length ∧ i = .int .i64 j ∧ wr = w.drewN n ∧ Hid (xs.take j = ys.take j)) (fun i _ => xs.length - (intOf i).toNat)
    case atStart => exact ⟨0, 0, Nat.zero_le _, rfl, rfl, Lib.hid rfl⟩
    case round =>
      obtain ⟨j, n, hj, rfl, rfl, ht⟩ := hrel
      by_cases hlt : j < xs.length
      · have hlt' : j < ys.length := by omega
        obtain ⟨x, hx⟩ : ∃ k, xs[j]? = some k := ⟨_, List.getElem?_eq_getElem hlt⟩
        obtain ⟨y, hy⟩ : ∃ k, ys[j]? = some k := ⟨_, List.getElem?_eq_getElem hlt'⟩
        obtain ⟨p, o, cap, e, _, hc⟩ := ha.at (i := j) (u := .string x) (by simp [hx])
        obtain ⟨p', o', cap', e', _, hc'⟩ := hb.at (i := j) (u := .string y) (by simp [hy])
        simp only [Value.slice.injEq] at e e'
        obtain ⟨rfl, -, rfl⟩ := e
        obtain ⟨rfl, -, rfl⟩ := e'
        have htx := Lib.hid (take_snoc hx)
        have hty := Lib.hid (take_snoc hy)
        have hnex0 : xs = ys → x = y := fun e => by subst e; rw [hx] at hy; exact (Option.some.inj hy)
        have hnex := Lib.hid hnex0
        clear hnex0 hx hy ha hb hle
        by_cases hxy : x = y
        · subst hxy
          go_wp2
          go_quiet (fail)
          go_wp2
          exact ⟨⟨j + 1, n + nq, by omega, by go_num, rfl, Lib.hid (by rw [htx.out, hty.out, ht.out])⟩, by simp [intOf]; omega⟩
        · have hb : (x.toList == y.toList) = false := toList_ne hxy
          go_wp2
          go_quiet (fail)
          go_wp2
          go_ret
          have hf : ¬ xs = ys := fun e => hxy (hnex.out e)
          exact ⟨by simp [hf], n + nq, World.drewN_drewN _ _ _⟩
      · have : j = xs.length := by omega
        subst this
        have he : xs = ys := by
          have h1 := ht.out
          rw [List.take_length, hl.out, List.take_length] at h1
          exact h1
        clear ht hle hl
        go_wp2
        go_ret
        exact ⟨by simp [he], n, rfl⟩
  · have hne : ((xs.length : Int) != (ys.length : Int)) = true := by simp; omega
    go_enter Try.func20, Try.ntmps20
    go_wp2
    go_ret
    refine ⟨?_, 0, rfl⟩
    have : ¬ xs = ys := fun e => hl0 (by rw [e])
    simp [this]

/-- The same instruction, twice: it says so. -/
theorem r5sameI_yes {w : World} {cs ct : List Value} {d : Ins} (h : RdIns w cs d) (g : RdIns w ct d) (hl : d.args.length ≤ maxLen) (hl2 : d.labels.length ≤ maxLen) :
    Calls Try.prog 10 #[.agg cs.toArray, .agg ct.toArray] w fun e w' => e = .returned (.bool true) ∧ Below w.heap.size w w' := by
  obtain ⟨va, vl, rfl, ha, hl1⟩ := h
  obtain ⟨vb, vk, rfl, hb, hk1⟩ := g
  unfold insV
  replace ha := Lib.hid ha
  replace hb := Lib.hid hb
  replace hl1 := Lib.hid hl1
  replace hk1 := Lib.hid hk1
  go_enter Try.func10, Try.ntmps10
  have hbe : ∀ a b : Array Value, Below w.heap.size w ((w.alloc (.cells a 25)).alloc (.cells b 25)) := fun a b => ((Below.refl _ _).alloc (Nat.le_refl _) _).alloc (by simp) _
  go_wp2_with fail
  refine (r5same_any (Rd.below ha.out (hbe _ _)) (Rd.below hb.out (hbe _ _)) hl).mono ?_
  rintro e w2 ⟨rfl, n, rfl⟩
  have d1 : decide (d.args = d.args) = true := decide_eq_true rfl
  have hbd := fun a b => below_drawn (hbe a b) n
  go_wp2_with fail
  refine (r5same_any (Rd.below hl1.out (hbd _ _)) (Rd.below hk1.out (hbd _ _)) hl2).mono ?_
  rintro e w2 ⟨rfl, m, rfl⟩
  have d2 : decide (d.labels = d.labels) = true := decide_eq_true rfl
  go_wp2_with fail
  go_ret
  exact ⟨rfl, below_drawn (hbe _ _) _⟩
end Go.Proofs.Ytedleliddhhacaa
