/- cfg.ways: how a block ends. -/
import Derived.Test.YtedleliddhhacaaCRUses
namespace Go.Proofs.Ytedleliddhhacaa
open Go.RowKit Go.Maps

/-- A block's ways, if it ends as it must. -/
def waysB (b : Blk) : Option (List ByteArray) := match b.code.getLast? with
  | none => none
  | some x => if x.op = 12 ∨ x.op = 13 then some x.labels else if x.op = 14 then some [] else none

def WaysPost (w0 w : World) (d : Blk) (e : Ending) (w' : World) : Prop :=
  (∀ ls, waysB d = some ls → ∃ v, e = .returned (.tuple #[v, .bool true]) ∧ RdS w0 v ls) ∧ (waysB d = none → e = .returned (.tuple #[.slice none 0 0, .bool false])) ∧ Below w.heap.size w w'

set_option maxRecDepth 20000 in
theorem ways_any {w0 w : World} {cs : List Value} {d : Blk} (h : RdBlk w0 cs d) (hbw : Below w0.heap.size w0 w) (hl : d.code.length ≤ 1000000) : Calls Try.prog 21 #[.agg cs.toArray] w (WaysPost w0 w d) := by
  obtain ⟨vc, rfl, hc⟩ := h
  obtain ⟨n, hn⟩ : ∃ n, n = d.code.length := ⟨_, rfl⟩
  obtain ⟨ac, cc, rfl⟩ := hc.form
  rcases Nat.eq_zero_or_pos d.code.length with h0 | h0
  · have hcode : d.code = [] := List.eq_nil_of_length_eq_zero h0
    have hw : Hid (waysB d = none) := Lib.hid (by unfold waysB; rw [hcode]; rfl)
    rw [h0]
    clear hc h0 hcode hn
    go_enter Try.func21, Try.ntmps21
    go_wp2_with fail
    go_ret2
    exact ⟨(fun ls e => absurd e (by rw [hw.out]; simp)), (fun _ => rfl), (Below.refl _ _).alloc (Nat.le_refl _) _⟩
  · obtain ⟨k, hk⟩ : ∃ k, d.code.length = k + 1 := ⟨d.code.length - 1, by omega⟩
    obtain ⟨x, hx⟩ : ∃ x, d.code[k]? = some x := ⟨_, List.getElem?_eq_getElem (by omega)⟩
    have hlast : d.code.getLast? = some x := by rw [List.getLast?_eq_getElem?, hk]; simpa using hx
    obtain ⟨b, off, cap, cs, e, hb, ⟨va, vl, rfl, ha, hlab⟩, -, hcell⟩ := hc.at hx
    simp only [Value.slice.injEq] at e
    obtain ⟨rfl, -, rfl⟩ := e
    obtain ⟨a6, k6, rfl⟩ := ha.form
    obtain ⟨a7, k7, rfl⟩ := hlab.form
    rw [List.length_map] at hcell ha hlab
    have c0 := (show w.cell? ⟨b, off + k * 8, none⟩ = _ from (hbw.cell (p := ⟨b, off + k * 8, none⟩) hb).trans (hcell 0 _ rfl))
    have c1 := (hbw.cell (p := ⟨b, off + k * 8 + 1, none⟩) hb).trans (hcell 1 _ rfl)
    have c2 := (hbw.cell (p := ⟨b, off + k * 8 + 2, none⟩) hb).trans (hcell 2 _ rfl)
    have c3 := (hbw.cell (p := ⟨b, off + k * 8 + 3, none⟩) hb).trans (hcell 3 _ rfl)
    have c4 := (hbw.cell (p := ⟨b, off + k * 8 + 4, none⟩) hb).trans (hcell 4 _ rfl)
    have c5 := (hbw.cell (p := ⟨b, off + k * 8 + 5, none⟩) hb).trans (hcell 5 _ rfl)
    have c6 := (hbw.cell (p := ⟨b, off + k * 8 + 6, none⟩) hb).trans (hcell 6 _ rfl)
    have c7 := (hbw.cell (p := ⟨b, off + k * 8 + 7, none⟩) hb).trans (hcell 7 _ rfl)
    replace hb := Nat.lt_of_lt_of_le hb hbw.size
    obtain ⟨m, hm⟩ : ∃ m, m = d.code.length := ⟨_, rfl⟩
    rw [← hm] at hk hl ⊢
    have hne : ((m : Int) == 0) = false := by simp; omega
    have hmk : (m : Int) - 1 = (k : Int) := by omega
    have hw : Hid (waysB d = if x.op = 12 ∨ x.op = 13 then some x.labels else if x.op = 14 then some [] else none) := Lib.hid (by unfold waysB; rw [hlast])
    replace hlab := Lib.hid hlab
    replace hm := Lib.hid hm
    clear hcell hc ha h0 hx hlast hn
    have hkm : (k : Int) < (m : Int) := by omega
    replace hk := Lib.hid hk
    have hbe : ∀ a b : Array Value, Below w.heap.size w ((w.alloc (.cells a 44)).alloc (.cells b 25)) := fun a b => ((Below.refl _ _).alloc (Nat.le_refl _) _).alloc (by simp) _
    go_enter Try.func21, Try.ntmps21
    by_cases h12 : x.op = 12
    · have d1 : (x.op == 12) = true := by simp [h12]
      go_wp2_with fail
      go_ret2
      exact ⟨fun ls e => ⟨_, rfl, by rw [hw.out, if_pos (Or.inl h12)] at e; cases e; exact hlab.out⟩, fun e => (by rw [hw.out, if_pos (Or.inl h12)] at e; cases e), hbe _ _⟩
    · have d1 : (x.op == 12) = false := by simp [h12]
      by_cases h13 : x.op = 13
      · have d2 : (x.op == 13) = true := by simp [h13]
        go_wp2_with fail
        go_ret2
        exact ⟨fun ls e => ⟨_, rfl, by rw [hw.out, if_pos (Or.inr h13)] at e; cases e; exact hlab.out⟩, fun e => (by rw [hw.out, if_pos (Or.inr h13)] at e; cases e), hbe _ _⟩
      · have d2 : (x.op == 13) = false := by simp [h13]
        have hno : ¬ (x.op = 12 ∨ x.op = 13) := fun h => h.elim h12 h13
        by_cases h14 : x.op = 14
        · have d3 : (x.op == 14) = true := by simp [h14]
          go_wp2_with fail
          go_ret2
          exact ⟨fun ls e => ⟨_, rfl, by rw [hw.out, if_neg hno, if_pos h14] at e; cases e; exact rd_none _⟩, fun e => (by rw [hw.out, if_neg hno, if_pos h14] at e; cases e), hbe _ _⟩
        · have d3 : (x.op == 14) = false := by simp [h14]
          go_wp2_with fail
          go_ret2
          exact ⟨fun ls e => (by rw [hw.out, if_neg hno, if_neg h14] at e; cases e), fun _ => rfl, hbe _ _⟩
end Go.Proofs.Ytedleliddhhacaa
