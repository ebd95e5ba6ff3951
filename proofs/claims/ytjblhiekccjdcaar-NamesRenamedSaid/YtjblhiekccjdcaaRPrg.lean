/- Programs that come in. -/
import Derived.Test.YtjblhiekccjdcaaRApi
namespace Go.Proofs.YtjblhiekccjdcaaR
open Go.RowKit Go.Maps Go.WideShapes Go.ChangeShapes Go.ChangeAt Go.Deep

/-- A program's one cell. -/
def RdPrg (w : World) (cs : List Value) (P : List Fun) : Prop := ∃ v, cs = [v] ∧ RdE 3 RdFun w v P
def PrgFits (P : List Fun) : Prop := (∀ d ∈ P, d.Fits) ∧ P.length ≤ maxLen
theorem cellsPrg : Try.prog.cellsOf 26 = 1 := by kernel_rfl
theorem rd_prg_in {H : Type} {enc : TypeId × Value → H} {w : World} {n : Nat} {cs : List Value} {x : DataW H × List MemPlace} (hn : DataW.trod enc Try.prog w 0 (fun _ => true) true n 26 cs = some x) : ∃ P : List Fun, RdPrg w cs P ∧ PrgFits P := by
  obtain ⟨xs, m, rfl, rfl, hl, hxl, hf⟩ := DataW.trod_struct Try.underlying26 hn
  rw [cellsPrg] at hl
  obtain ⟨c0, rfl⟩ := List.length_eq_one_iff.1 hl
  have hg := fun i f hi v hv => field_one (by kernel_rfl) hxl hf (i := i) (f := f) hi (v := v) hv
  obtain ⟨y0, h0⟩ := hg 0 _ rfl _ rfl
  obtain ⟨v, L, e1, r1, w1, l1⟩ := rd_elems_in (R := RdFun) (F := Fun.Fits) Try.underlying24 cellsFun (by decide) (fun n cs x h => rd_fun_in h) h0
  exact ⟨L, ⟨v, e1, r1⟩, w1, l1⟩
end Go.Proofs.YtjblhiekccjdcaaR
