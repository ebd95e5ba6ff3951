/- names: all of a row are names; those that have bytes; keys seen. -/
import Derived.Test.YtjblhiekccjdcaaRNIs
import Derived.Test.YtjblhiekccjdcaaRStrK
namespace Go.Proofs.YtjblhiekccjdcaaR
open Go.RowKit Go.Maps

/-- An element of a row of texts. -/
theorem RdS.cell {w : World} {v : Value} {ss : List ByteArray} (h : RdS w v ss) {i : Nat} {s : ByteArray} (hi : ss[i]? = some s) : ∃ b off cap, v = .slice (some ⟨b, off, none⟩) ss.length cap ∧ w.cell? ⟨b, off + i, none⟩ = some (.string s) := by
  obtain ⟨b, off, cap, e, -, h2⟩ := Rd.at h (i := i) (u := .string s) (by simp [hi])
  exact ⟨b, off, cap, by simpa using e, h2⟩
theorem RdS.shape {w : World} {v : Value} {ss : List ByteArray} (h : RdS w v ss) : ∃ a c, v = .slice a ss.length c := by
  obtain ⟨a, c, e⟩ := Rd.form h
  exact ⟨a, c, by simpa using e⟩
theorem take_snocS {α : Type} {l : List α} {k : Nat} {z : α} (hz : l[k]? = some z) : l.take (k + 1) = l.take k ++ [z] := by
  obtain ⟨h, rfl⟩ := List.getElem?_eq_some_iff.1 hz
  rw [List.take_succ_eq_append_getElem h]
theorem all_false_take {α : Type} {l : List α} {k : Nat} {p : α → Bool} (h : (l.take k).all p = false) : l.all p = false := by
  rw [Bool.eq_false_iff] at h ⊢
  intro ha
  apply h
  rw [List.all_eq_true] at ha ⊢
  exact fun x hx => ha x (List.mem_of_mem_take hx)

set_option maxHeartbeats 1000000 in
theorem allNames_any {w : World} {v : Value} {ss : List ByteArray} (h : RdS w v ss) (hl : ss.length ≤ maxLen) (hf : ∀ s ∈ ss, s.size ≤ maxLen) : Calls Try.prog 43 #[v] w fun e w' => e = .returned (.bool (ss.all isName)) ∧ w = w' := by
  obtain ⟨a, c, rfl⟩ := h.shape
  obtain ⟨n, hn⟩ : ∃ n, n = ss.length := ⟨_, rfl⟩
  rw [← hn] at hl h ⊢
  unfold maxLen at hl
  generalize hA : ss.all isName = A
  replace hA := Lib.hid hA
  replace h := Lib.hid h
  replace hn := Lib.hid hn
  replace hf := Lib.hid hf
  go_enter Try.func43, Try.ntmps43
  go_wp2_with fail
  go_loop [4, 7] (fun _ i => ∃ k : Nat, k ≤ n ∧ i = .int .i64 k ∧ Hid ((ss.take k).all isName = true)) (fun _ i => n - (intOf i).toNat)
  case atStart => exact ⟨0, Nat.zero_le _, rfl, Lib.hid (by simp)⟩
  case round =>
    obtain ⟨k, hk, rfl, ha⟩ := hrel
    by_cases hlt : k < n
    · have j1 : decide ((k : Int) < (n : Int)) = true := by simpa using hlt
      have j2 : (k : Int) < (n : Int) := by omega
      obtain ⟨s, hs⟩ : ∃ s, ss[k]? = some s := ⟨_, List.getElem?_eq_getElem (by rw [← hn.out]; exact hlt)⟩
      obtain ⟨b, off, cap, e, hc⟩ := h.out.cell hs
      rw [← hn.out] at e
      simp only [Value.slice.injEq] at e
      obtain ⟨rfl, -, rfl⟩ := e
      have hat := take_snocS hs
      have hq := Lib.hid (nm_is_any s w (hf.out s (List.mem_of_getElem? hs)))
      have hall : Hid ((ss.take (k + 1)).all isName = isName s) := Lib.hid (by rw [hat, List.all_append, ha.out]; simp)
      clear hat hs
      generalize isName s = q at hq hall
      cases q <;> (
        go_wp2_with (go_at_call 7; refine hq.out.mono ?_; rintro e w' ⟨rfl, rfl⟩)
        first
        | (go_round
           case rel => exact ⟨k + 1, by omega, by go_num, hall⟩
           case measure => simp [intOf]; omega)
        | (go_ret
           exact ⟨by rw [← hA.out, all_false_take hall.out]; rfl, rfl⟩))
    · obtain rfl : k = n := by omega
      have j1 : decide ((k : Int) < (k : Int)) = false := by simp
      have hal : Hid (ss.all isName = true) := Lib.hid (by have := ha.out; rwa [List.take_of_length_le (by rw [← hn.out]; exact Nat.le_refl _)] at this)
      clear ha
      go_wp2_with fail
      go_ret
      exact ⟨by rw [← hA.out, hal.out]; rfl, rfl⟩

def isNull (s : ByteArray) : Bool := s.toList == [110, 117, 108, 108]
def isOperand (s : ByteArray) : Bool := isNull s || isName s
set_option maxHeartbeats 1000000 in
theorem allOperands_any {w : World} {v : Value} {ss : List ByteArray} (h : RdS w v ss) (hl : ss.length ≤ maxLen) (hf : ∀ s ∈ ss, s.size ≤ maxLen) : Calls Try.prog 73 #[v] w fun e w' => e = .returned (.bool (ss.all isOperand)) ∧ w = w' := by
  obtain ⟨a, c, rfl⟩ := h.shape
  obtain ⟨n, hn⟩ : ∃ n, n = ss.length := ⟨_, rfl⟩
  rw [← hn] at hl h ⊢
  unfold maxLen at hl
  generalize hA : ss.all isOperand = A
  replace hA := Lib.hid hA
  replace h := Lib.hid h
  replace hn := Lib.hid hn
  replace hf := Lib.hid hf
  go_enter Try.func73, Try.ntmps73
  go_wp2_with fail
  go_loop [4, 7] (fun _ i => ∃ k : Nat, k ≤ n ∧ i = .int .i64 k ∧ Hid ((ss.take k).all isOperand = true)) (fun _ i => n - (intOf i).toNat)
  case atStart => exact ⟨0, Nat.zero_le _, rfl, Lib.hid (by simp)⟩
  case round =>
    obtain ⟨k, hk, rfl, ha⟩ := hrel
    by_cases hlt : k < n
    · have j1 : decide ((k : Int) < (n : Int)) = true := by simpa using hlt
      have j2 : (k : Int) < (n : Int) := by omega
      obtain ⟨s, hs⟩ : ∃ s, ss[k]? = some s := ⟨_, List.getElem?_eq_getElem (by rw [← hn.out]; exact hlt)⟩
      obtain ⟨b, off, cap, e, hc⟩ := h.out.cell hs
      rw [← hn.out] at e
      simp only [Value.slice.injEq] at e
      obtain ⟨rfl, -, rfl⟩ := e
      have hat := take_snocS hs
      have hq := Lib.hid (nm_is_any s w (hf.out s (List.mem_of_getElem? hs)))
      have hall : Hid ((ss.take (k + 1)).all isOperand = (isNull s || isName s)) := Lib.hid (by rw [hat, List.all_append, ha.out]; simp [isOperand])
      have hnu : (s.toList == [110, 117, 108, 108]) = isNull s := rfl
      clear hat hs
      generalize isName s = q at hq hall
      generalize isNull s = u at hnu hall
      cases q <;> cases u <;> (
        go_wp2_with (go_at_call 7; refine hq.out.mono ?_; rintro e w' ⟨rfl, rfl⟩)
        first
        | (go_round
           case rel => exact ⟨k + 1, by omega, by go_num, hall⟩
           case measure => simp [intOf]; omega)
        | (go_ret
           exact ⟨by rw [← hA.out, all_false_take hall.out]; rfl, rfl⟩))
    · obtain rfl : k = n := by omega
      have j1 : decide ((k : Int) < (k : Int)) = false := by simp
      have hal : Hid (ss.all isOperand = true) := Lib.hid (by have := ha.out; rwa [List.take_of_length_le (by rw [← hn.out]; exact Nat.le_refl _)] at this)
      clear ha
      go_wp2_with fail
      go_ret
      exact ⟨by rw [← hA.out, hal.out]; rfl, rfl⟩

theorem rds_one {w : World} {b : Nat} {s : ByteArray} {t : TypeId} (h : w.heap[b]? = some (.cells #[.string s] t (0, 0))) : RdS w (.slice (some ⟨b, 0, none⟩) 1 1) [s] :=
  .inr ⟨b, 0, 1, rfl, (Array.getElem?_eq_some_iff.1 h).1, fun j u hu => by
    rw [blk_cell h, Nat.zero_add]
    simpa using hu⟩
theorem at_newN {w : World} {o : Obj} {b : Nat} (h : b = w.heap.size) : (w.alloc o).heap[b]? = some o := by
  subst h
  exact heap_alloc_new _ _
theorem at_oldN {w : World} {o : Obj} {b : Nat} {x : Obj} (h : w.heap[b]? = some x) : (w.alloc o).heap[b]? = some x := by
  have hb := (Array.getElem?_eq_some_iff.1 h).1
  simp only [World.alloc]
  rw [Array.getElem?_push, if_neg (by omega)]
  exact h
theorem rds_none (w : World) : RdS w (.slice none 0 0) [] := .inl ⟨rfl, .inl rfl⟩
/-- What given tells of one text. -/
def givenL (s : ByteArray) : List ByteArray := if s.toList.isEmpty then [] else [s]
theorem infoStrN : (Try.prog.info? 9).map (fun i => (i.zero, i.size, i.bytes)) = some (some (.string ⟨#[]⟩), 1, 16) := by kernel_rfl
theorem rds_own1 {w : World} {base : Nat} {v : Value} {s : ByteArray} {t : TypeId} (h : w.ownsRow base t 1 v 1 [.string s]) : RdS w v [s] := by
  rcases h.2 with ⟨rfl, h0⟩ | ⟨g, cap, cur, rfl, h1, h2, h3, h4, h5, h6⟩
  · omega
  · refine Or.inr ⟨g, 0, cap, rfl, (h.lt g rfl).2, fun k u hu => ?_⟩
    have := h.cells (g := g) rfl k u hu
    rw [add0] at this
    rw [Nat.zero_add]
    exact this
set_option maxHeartbeats 1000000 in
theorem given_one {w : World} {v : Value} {s : ByteArray} (h : RdS w v [s]) (hs : s.size ≤ maxLen) : Calls Try.prog 66 #[v] w fun e w' => ∃ v', e = .returned v' ∧ RdS w' v' (givenL s) ∧ Below w.heap.size w w' := by
  obtain ⟨b, off, cap, rfl, hc⟩ := h.cell (i := 0) rfl
  rw [Nat.add_zero] at hc
  obtain ⟨i0, hi0, hz0, hz1, hz2⟩ := info_parts infoStrN
  clear h
  have hgv : ∀ e, s.toList.isEmpty = e → Hid (givenL s = if e = true then [] else [s]) := fun e he => Lib.hid (by unfold givenL; rw [he])
  go_enter Try.func66, Try.ntmps66
  go_wp2_with fail
  go_loopw [3, 5, 8] (fun v _ i wr => (i = .int .i64 0 ∧ v = .slice none 0 0 ∧ wr = w) ∨ (i = .int .i64 1 ∧ Hid (RdS wr v (givenL s)) ∧ Hid (Below w.heap.size w wr))) (fun _ _ i _ => 1 - (intOf i).toNat)
  case atStart => exact .inl ⟨rfl, rfl, rfl⟩
  case round =>
    rcases hrel with ⟨rfl, rfl, rfl⟩ | ⟨rfl, hR, hB⟩
    · cases hE : s.toList.isEmpty with
      | true =>
        have hg := hgv _ hE
        clear hgv
        go_wp2_with fail
        exact ⟨.inr ⟨rfl, Lib.hid (by rw [hg.out]; exact rds_none _), Lib.hid (Below.refl _ _)⟩, by simp [intOf]⟩
      | false =>
        have hg := hgv _ hE
        clear hgv
        have hrd : Hid (Rd (wr.alloc (.cells #[.string s] 9)) (.slice (some ⟨wr.heap.size, 0, none⟩) 1 1) ([s].map Value.string)) := Lib.hid (rds_one (at_newN rfl))
        have hbe : Hid (Below wr.heap.size wr (wr.alloc (.cells #[.string s] 9))) := Lib.hid ((Below.refl _ _).alloc (Nat.le_refl _) _)
        go_wp2_with (at_builtin; refine wpList_append_rd _ rfl _ _ 36 rfl wr.heap.size 9 i0 (.string ⟨#[]⟩) 16 Try.underlying36 hi0 hz0 hz1 hz2 rfl _ 0 [] rfl (World.ownsRow_nil _ _ _ _) _ ([s].map Value.string) rfl hrd.out (fun u hu => by simp at hu; subst hu; rfl) (by simp; unfold maxLen; omega) (by simp) (by simp) ?_)
        intro v' w2 hown hgrow hat
        have hb2 := Lib.hid (hbe.out.grown hgrow (by simp) (fun b e => by simp [Value.ownBlock] at e))
        have hR2 : Hid (RdS w2 v' (givenL s)) := Lib.hid (by rw [hg.out]; exact rds_own1 (by simpa using hown))
        clear hown hgrow hat
        go_wp2_with fail
        exact ⟨.inr ⟨rfl, hR2, hb2⟩, by simp [intOf]⟩
    · go_wp2_with fail
      go_ret
      exact ⟨_, rfl, hR.out, hB.out⟩
end Go.Proofs.YtjblhiekccjdcaaR
