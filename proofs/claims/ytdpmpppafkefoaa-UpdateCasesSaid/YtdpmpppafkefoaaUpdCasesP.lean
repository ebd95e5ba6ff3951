/- UpdateCases: for every three lists of numbers and every number the law returns true, and each argument reads afterwards as it read before. No conditions. -/
import Derived.Test.YtdpmpppafkefoaaRead
import Derived.Test.YtdpmpppafkefoaaUpdCasesW
import Derived.Test.YtdpmpppafkefoaaReadI
namespace Go.Proofs.Ytdpmpppafkefoaa.updateCasesP
open Go.RowKit Go.WideShapes Go.ChangeShapes Go.ChangeAt Go.WideMaps Go.ChangeMaps

theorem own : ownKnob Try.prog.godebug = none := by kernel_rfl
theorem laidOut : laidOutB Try.prog = true := by kernel_rfl

set_option maxRecDepth 100000 in
theorem lifted (os : Os) (started : os.Started) (H : Type) (enc : TypeId × Value → H) :
    ReturnsInHanded {} Try.checked os 4 .any (Rows.updateCasesSpec.pre6 enc Try.prog Try.f4 Rows.updateCasesRow.domain false) (Rows.updateCasesSpec.post enc Try.prog Try.f4 false true false false) := by
  refine law_lifted (C := Try.checked) (tb := 4) own started (by kernel_rfl) Try.func4
    (ChangeSpec.witness6 (enc := enc) (C := Try.checked) false ⟨#[], #[.slice none 0 0, .slice none 0 0, .slice none 0 0, .int .i64 0], []⟩ 8 (by kernel_rfl) (by kernel_rfl) (by kernel_rfl) (by kernel_rfl))
    laidOut (by kernel_rfl) rfl Try.underlying4 rfl (fun ds h => by rcases ds with _ | ⟨d1, _ | ⟨d2, _ | ⟨d3, _ | ⟨d4, _ | ⟨_, _⟩⟩⟩⟩⟩ <;> first | rfl | (simp [Try.params4] at h)) ?_
  intro W base args ds before hval0 hA0 hlt hsz
  have hval : ∀ (j : Nat) t v, Try.f4.params[j]? = some t → args[j]? = some v → Value.okWide Try.prog W .any base t v := hval0
  have hA : DataW.TrodAll enc Try.prog W 0 (fun _ => true) true Try.f4.params.toList args.toList ds before := hA0
  rw [Try.params4] at hA hval
  obtain ⟨v0, v1, v2, v3, d0, d1, d2, d3, p0, p1, p2, p3, rfl, rfl, rfl, h0, h1, h2, h3⟩ := trodAll_four hA
  obtain ⟨xa, ha, xa63⟩ := rd_ints Try.underlying22 Try.underlying3 cellsInt (hval 0 22 v0 rfl rfl) h0
  obtain ⟨xb, hb, xb63⟩ := rd_ints Try.underlying22 Try.underlying3 cellsInt (hval 1 22 v1 rfl rfl) h1
  obtain ⟨xt, ht, xt63⟩ := rd_ints Try.underlying22 Try.underlying3 cellsInt (hval 2 22 v2 rfl rfl) h2
  obtain ⟨o, rfl, -, -, ho⟩ := open_int Try.underlying3 (hval 3 3 v3 rfl rfl) h3
  by_cases h : 300 < xa.length ∨ 300 < xb.length ∨ 300 < xt.length
  · exact cases_great ha hb ht h
  · have ya : ∀ x ∈ xa, x < 9223372036854775808 := fun x h => (xa63 x h).2
    have yb : ∀ x ∈ xb, x < 9223372036854775808 := fun x h => (xb63 x h).2
    have yt : ∀ x ∈ xt, x < 9223372036854775808 := fun x h => (xt63 x h).2
    have hi := (wf_bounds ho).2
    by_cases hn : o < 0
    · by_cases hT : lessN (numsOf xt) o = []
      · exact cases_empty_neg ha hb ht ya yb yt (by omega) (by omega) (by omega) hi hn hT
      · exact cases_some_neg ha hb ht ya yb yt (by omega) (by omega) (by omega) hi hn hT
    · by_cases hT : lessN (numsOf xt) o = []
      · exact cases_empty_pos ha hb ht ya yb yt (by omega) (by omega) (by omega) hi (by omega) hT
      · exact cases_some_pos ha hb ht ya yb yt (by omega) (by omega) (by omega) hi (by omega) hT

theorem updateCases_holds : Rows.UpdateCasesSaid :=
  OpenClaim.holds_of_wide 4 Try.f4 rfl rfl rfl rfl rfl rfl rfl ⟨rfl, rfl, rfl, rfl, rfl⟩ rfl rfl rfl rfl rfl (by kernel_rfl) Try.func4 (by kernel_rfl)
    (of_decide_eq_true (by kernel_rfl)) (by unfold Func.isWrapper; first | (rw [if_pos (by decide +kernel)]; kernel_rfl) | (rw [if_neg (by decide +kernel)]; exact ⟨rfl, rfl⟩))
    (fun os started H enc _ => lifted os started H enc)
end Go.Proofs.Ytdpmpppafkefoaa.updateCasesP
