/- NamesOrder: for every two programs and every number the law returns true, and the arguments read afterwards as they read before. No conditions. -/
import Derived.Test.YtjblhiekccjdcaaRRead
import Derived.Test.YtjblhiekccjdcaaRNOrderV
namespace Go.Proofs.YtjblhiekccjdcaaR.namesOrderP
open Go.RowKit Go.WideShapes Go.ChangeShapes Go.ChangeAt Go.WideMaps Go.ChangeMaps

theorem own : ownKnob Try.prog.godebug = none := by kernel_rfl
theorem laidOut : laidOutB Try.prog = true := by kernel_rfl

set_option maxRecDepth 100000 in
theorem lifted (os : Os) (started : os.Started) (H : Type) (enc : TypeId × Value → H) :
    ReturnsInHanded {} Try.checked os 5 .any (Rows.namesOrderSpec.pre6 enc Try.prog Try.f5 Rows.namesOrderRow.domain false) (Rows.namesOrderSpec.post enc Try.prog Try.f5 false true false false) := by
  refine law_lifted (C := Try.checked) (tb := 4) own started (by kernel_rfl) Try.func5
    (ChangeSpec.witness6 (enc := enc) (C := Try.checked) false ⟨#[], #[.agg #[.slice none 0 0], .agg #[.slice none 0 0], .int .u8 0], []⟩ 8 (by kernel_rfl) (by kernel_rfl) (by kernel_rfl) (by kernel_rfl))
    laidOut (by kernel_rfl) rfl Try.underlying4 rfl (fun ds h => by rcases ds with _ | ⟨d1, _ | ⟨d2, _ | ⟨d3, _ | ⟨_, _⟩⟩⟩⟩ <;> first | rfl | (simp [Try.params5] at h)) ?_
  intro W base args ds before hval0 hA0 hlt hsz
  have hval : ∀ (j : Nat) t v, Try.f5.params[j]? = some t → args[j]? = some v → Value.okWide Try.prog W .any base t v := hval0
  have hA : DataW.TrodAll enc Try.prog W 0 (fun _ => true) true Try.f5.params.toList args.toList ds before := hA0
  rw [Try.params5] at hA hval
  obtain ⟨v0, vs0, d0, ds0, p0, q0, hargs, rfl, rfl, h0, hr⟩ := trodAll_cons hA
  obtain ⟨v1, vs1, d1, ds1, p1, q1, rfl, rfl, rfl, h1, hr⟩ := trodAll_cons hr
  obtain ⟨v2, vs2, d2, ds2, p2, q2, rfl, rfl, rfl, h2, hr⟩ := trodAll_cons hr
  obtain ⟨rfl, rfl, rfl⟩ := trodAll_nil hr
  obtain rfl : args = #[v0, v1, v2] := by cases args; simp_all
  obtain ⟨cs, P, rfl, ⟨u, rfl, hP⟩, hf, hl⟩ := rd_agg_in (R := RdPrg) (F := PrgFits) Try.underlying26 (hval 0 26 v0 rfl rfl) (fun n cs x h => rd_prg_in h) h0
  obtain ⟨ct, M, rfl, ⟨u2, rfl, hM⟩, hg, hm⟩ := rd_agg_in (R := RdPrg) (F := PrgFits) Try.underlying26 (hval 1 26 v1 rfl rfl) (fun n cs x h => rd_prg_in h) h1
  obtain ⟨y, rfl, -, -, hy⟩ := open_int Try.underlying5 (hval 2 5 v2 rfl rfl) h2
  obtain ⟨r, rfl, hr256⟩ := u8_nat hy
  exact namesOrder_any hP hf hl hM hg hm hr256

theorem namesOrder_holds : Rows.NamesOrderSaid :=
  OpenClaim.holds_of_wide 5 Try.f5 rfl rfl rfl rfl rfl rfl rfl ⟨rfl, rfl, rfl, rfl, rfl⟩ rfl rfl rfl rfl rfl (by kernel_rfl) Try.func5 (by kernel_rfl)
    (of_decide_eq_true (by kernel_rfl)) (by unfold Func.isWrapper; first | (rw [if_pos (by decide +kernel)]; kernel_rfl) | (rw [if_neg (by decide +kernel)]; exact ⟨rfl, rfl⟩))
    (fun os started H enc _ => lifted os started H enc)
end Go.Proofs.YtjblhiekccjdcaaR.namesOrderP
