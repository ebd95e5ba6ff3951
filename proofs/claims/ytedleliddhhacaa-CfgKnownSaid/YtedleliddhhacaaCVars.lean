/- cfg.variables, cfg.Uses. -/
import Derived.Test.YtedleliddhhacaaApi
import Derived.Test.YtedleliddhhacaaGBase
namespace Go.Proofs.Ytedleliddhhacaa
open Go.RowKit Go.Maps

theorem infoS1 : (Try.prog.info? 9).map (fun i => (i.zero, i.size, i.bytes)) = some (some (.string ⟨#[]⟩), 1, 16) := by kernel_rfl
def nullB : ByteArray := ⟨#[110, 117, 108, 108]⟩
def isVar (s : ByteArray) : Bool := !s.toList.isEmpty && !s.toList == [110, 117, 108, 108]
theorem oneStr (l : List ByteArray) : ∀ u ∈ l.map Value.string, u.oneCell' = true := by
  intro u hu
  obtain ⟨s, _, rfl⟩ := List.mem_map.1 hu
  rfl
/-- New texts in a row of one's own. -/
abbrev OwnS (w w' : World) (v : Value) (ss : List ByteArray) : Prop := w'.ownsRow w.heap.size 9 1 v ss.length (ss.map Value.string)

set_option maxRecDepth 20000 in
theorem variables_any {w : World} {v : Value} {ss : List ByteArray} (h : RdS w v ss) (hl : ss.length ≤ 1000000) :
    Calls Try.prog 19 #[v] w fun e w' => ∃ v', e = .returned v' ∧ OwnS w w' v' (ss.filter isVar) ∧ Below w.heap.size w w' := by
  obtain ⟨a, c, rfl⟩ := h.form
  rw [List.length_map] at *
  obtain ⟨i0, hi0, hz0, hz1, hz2⟩ := info_parts infoS1
  replace h := Lib.hid h
  go_enter Try.func19, Try.ntmps19
  go_wp2_with fail
  go_loopw [3, 5, 8] (fun v' _ i wr => ∃ k, k ≤ ss.length ∧ i = .int .i64 k ∧ OwnS w wr v' ((ss.take k).filter isVar) ∧ Below w.heap.size w wr) (fun _ _ i _ => ss.length - (intOf i).toNat)
  case atStart => exact ⟨0, Nat.zero_le _, rfl, World.ownsRow_nil _ _ _ _, Below.refl _ _⟩
  case round =>
    obtain ⟨k, hk, rfl, hO, hb⟩ := hrel
    by_cases hlt : k < ss.length
    · obtain ⟨s, hs⟩ : ∃ s, ss[k]? = some s := ⟨_, List.getElem?_eq_getElem hlt⟩
      obtain ⟨b, off, cap, e, hblt, hc0⟩ := Rd.at h.out (i := k) (u := .string s) (by simp [hs])
      simp only [Value.slice.injEq] at e
      obtain ⟨rfl, -, rfl⟩ := e
      have hc := (hb.cell (p := ⟨b, off + k, none⟩) hblt).trans hc0
      have i1 : (k : Int) < (ss.length : Int) := by omega
      have htk := Lib.hid (take_snoc hs)
      clear hc0 hs
      have hfl : ((ss.take k).filter isVar).length ≤ k := Nat.le_trans (List.length_filter_le _ _) (by simp; omega)
      obtain ⟨n, hn⟩ : ∃ n, n = ((ss.take k).filter isVar).length := ⟨_, rfl⟩
      unfold OwnS at hO
      rw [← hn] at hO hfl
      replace hn := Lib.hid hn
      obtain ⟨ao, co, rfl⟩ := own_form hO
      by_cases hv1 : s.toList.isEmpty = true
      · have hf : Hid (((ss.take (k + 1)).filter isVar) = (ss.take k).filter isVar) := Lib.hid (by rw [htk.out, List.filter_append]; simp only [List.filter_cons, isVar, hv1]; simp)
        go_wp2_with fail
        exact ⟨⟨k + 1, by omega, by go_num, by unfold OwnS; rw [hf.out, ← hn.out]; exact hO, hb⟩, by simp [intOf]; omega⟩
      · replace hv1 : s.toList.isEmpty = false := by simpa using hv1
        by_cases hv2 : (s.toList == [110, 117, 108, 108]) = true
        · have hf : Hid (((ss.take (k + 1)).filter isVar) = (ss.take k).filter isVar) := Lib.hid (by rw [htk.out, List.filter_append]; simp only [List.filter_cons, isVar, hv1, hv2]; simp)
          go_wp2_with fail
          exact ⟨⟨k + 1, by omega, by go_num, by unfold OwnS; rw [hf.out, ← hn.out]; exact hO, hb⟩, by simp [intOf]; omega⟩
        · replace hv2 : (s.toList == [110, 117, 108, 108]) = false := by simpa using hv2
          have hf : Hid (((ss.take (k + 1)).filter isVar) = (ss.take k).filter isVar ++ [s]) := Lib.hid (by rw [htk.out, List.filter_append]; simp only [List.filter_cons, isVar, hv1, hv2]; simp)
          go_wp2_with (at_builtin; refine wpList_append_own_at _ rfl _ _ 23 rfl w.heap.size 9 i0 _ 1 16 Try.underlying23 hi0 hz0 hz1 hz2 rfl (by decide) _ _ _ rfl (hO.alloc _) ⟨wr.heap.size, 0, none⟩ 1 1 [.string s] rfl rfl (World.news_of_block (cs := #[.string s]) (t := 9) (fr := (0, 0)) (heap_alloc_new wr _)) (by simp [Value.oneCell']) (by unfold maxLen; omega) (by omega) (by have := hb.size; simp; omega) ?_)
          intro v' w2 hown2 hgrow hnil hat
          have hb2 : Below w.heap.size w w2 := (hb.alloc hb.size _).grown hgrow (by have := hb.size; simp; omega) (fun b e => (hO.lt b e).1)
          obtain ⟨a2, c2, rfl⟩ := own_form hown2
          go_wp2_with fail
          exact ⟨⟨k + 1, by omega, by go_num, by unfold OwnS; rw [hf.out, List.length_append, List.map_append, ← hn.out]; exact hown2, hb2⟩, by simp [intOf]; omega⟩
    · obtain rfl : k = ss.length := by omega
      have i1 : decide ((ss.length : Int) < (ss.length : Int)) = false := by simp
      rw [List.take_length] at hO
      go_wp2_with fail
      go_ret
      exact ⟨_, rfl, hO, hb⟩
end Go.Proofs.Ytedleliddhhacaa
