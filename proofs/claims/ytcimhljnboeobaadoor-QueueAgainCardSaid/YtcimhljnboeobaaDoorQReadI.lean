/- What came in, read: slices of ints; the library's table. -/
import Derived.Test.YtcimhljnboeobaaDoorRead
import Derived.Test.YtcimhljnboeobaaDoorQBase
import Derived.ChangeSlices
import Derived.Lib.LaidTab
namespace Go.Proofs.YtcimhljnboeobaaDoor
open Go.RowKit Go.WideShapes Go.ChangeShapes Go.ChangeAt Go.Deep

section
variable {H : Type} {enc : TypeId × Value → H} {P : Program} {w : World}

def Small (xs : List Int) : Prop := ∀ x ∈ xs, -9223372036854775808 ≤ x ∧ x < 9223372036854775808
theorem wf_bounds {z : Int} (h : (Lit.int .i64 z).wf = true) : -9223372036854775808 ≤ z ∧ z < 9223372036854775808 := by
  have h1 : IntKind.i64.min = -9223372036854775808 := by decide
  have h2 : IntKind.i64.max = 9223372036854775807 := by decide
  simp only [Lit.wf, h1, h2, Bool.and_eq_true, decide_eq_true_iff] at h
  omega

theorem rd_ints {t e : TypeId} {v : Value} {d : DataW H} {ps : List MemPlace} {base : Nat} (ht : P.underlying t = some (.slice e)) (he : P.underlying e = some (.int .i64)) (hc : P.cellsOf e = 1)
    (hval : Value.okWide P w .any base t v) (h : DataW.Trod enc P w 0 (fun _ => true) true t v d ps) : ∃ xs : List Int, RdI w v xs ∧ Small xs ∧ ∀ a m c, v = .slice (some a) m c → m ≤ c := by
  obtain ⟨a, len, cap, rfl⟩ := okWide_slice ht hval
  obtain ⟨n, hn⟩ := h
  rcases open_ints ht he hc hn with ⟨e1, _⟩ | ⟨a', len', cap', zs, e1, _, hl, hm, hmm, _, hx, hw⟩
  · simp [Value.cells] at e1
    obtain ⟨rfl, rfl, rfl⟩ := e1
    exact ⟨[], Or.inl ⟨rfl, Or.inl rfl⟩, (fun x h => by cases h), fun a m c e => by cases e⟩
  · simp [Value.cells] at e1
    obtain ⟨rfl, rfl, rfl⟩ := e1
    simp only [if_true] at hmm
    refine ⟨(List.range len).map (fun i => zs.getD i 0), ?_, fun x hx' => ?_, fun a m c e => by cases e; omega⟩
    · have := rd_of (w := w) (v := .slice (some a') len cap) (X := fun i => .int .i64 (zs.getD i 0)) rfl (by omega : len ≤ zs.length) (fun i hi => hx i hi) (by
        by_cases h0 : len = 0
        · exact Or.inr h0
        · left
          have h1 := hx 0 (by omega)
          unfold World.cell? at h1
          split at h1
          · rename_i h2
            have := (Array.getElem?_eq_some_iff.1 h2).1
            unfold Addr.add at this
            split at this <;> simpa using this
          · cases h1)
      rw [RdI, List.map_map]
      exact this
    · obtain ⟨i, hi, rfl⟩ := List.mem_map.1 hx'
      rw [List.mem_range] at hi
      refine wf_bounds (hw _ ?_)
      have hlt : i < zs.length := by omega
      simp [List.getD, hlt]
end

theorem gTab : Tryd.prog.globalNamed "math/bits.deBruijn64tab" = some 0 := by kernel_rfl
theorem gTabType : (Tryd.prog.globals[0]?).map (·.type) = some 49 := by kernel_rfl
theorem cellsTab : Tryd.prog.cellsOf 49 = 64 := by kernel_rfl
theorem cellsU8 : Tryd.prog.cellsOf 5 = 1 := by kernel_rfl
theorem cellsInt : Tryd.prog.cellsOf 3 = 1 := by kernel_rfl

theorem gl_of {W : World} (h : Lib.TabIs Tryd.prog W "math/bits.deBruijn64tab" .u8 (Lib.deBruijn64tab.map (fun n : Nat => (n : Int)))) : Gl W := by
  have hc : ∀ j, j < Lib.deBruijn64tab.length → W.cell? ⟨0, j, none⟩ = some (.int .u8 (Lib.deBruijn64tab.getD j 0)) := fun j hj => by
    have := h.cell gTab j (by rw [List.length_map]; exact hj)
    rw [this]
    simp [List.getD, hj]
  refine ⟨hc, ?_⟩
  have h0 := hc 0 (by decide)
  unfold World.cell? at h0
  split at h0
  · rename_i h2
    exact (Array.getElem?_eq_some_iff.1 h2).1
  · cases h0

theorem table {W : World} {data : DataW Unit} (hd : data = Lib.tabData .u8 (Lib.deBruijn64tab.map (fun n : Nat => (n : Int)))) (h : laidMet Tryd.prog [("math/bits.deBruijn64tab", data)] W) : Gl W :=
  gl_of (Lib.tabIs_of_head (rest := []) gTab gTabType Tryd.underlying49 Tryd.underlying5 cellsU8 cellsTab (hd ▸ h))

/-- The settled world, the table in its variable. -/
noncomputable def laidWorld (os : Os) : World :=
  { World.holding Tryd.prog os ⟨#[], #[], []⟩ with heap := (World.holding Tryd.prog os ⟨#[], #[], []⟩).heap.modify 0 fun
      | .cells _ t frozen => .cells (Lib.deBruijn64tab.map (fun n : Nat => Value.int .u8 (n : Int))).toArray t frozen
      | o => o }
end Go.Proofs.YtcimhljnboeobaaDoor
