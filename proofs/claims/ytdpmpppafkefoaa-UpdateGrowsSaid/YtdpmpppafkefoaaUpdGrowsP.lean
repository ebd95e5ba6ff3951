/- UpdateGrows: for every four lists of numbers, every number, every bool and every list of exits the law returns true, and each argument reads afterwards as it read before. No conditions. -/
import Derived.Test.YtdpmpppafkefoaaRead
import Derived.Test.YtdpmpppafkefoaaUpdGrowsW
import Derived.Test.YtdpmpppafkefoaaReadX
namespace Go.Proofs.Ytdpmpppafkefoaa.updateGrowsP
open Go.RowKit Go.WideShapes Go.ChangeShapes Go.ChangeAt Go.WideMaps Go.ChangeMaps

theorem own : ownKnob Try.prog.godebug = none := by kernel_rfl
theorem laidOut : laidOutB Try.prog = true := by kernel_rfl

set_option maxRecDepth 100000 in
theorem lifted (os : Os) (started : os.Started) (H : Type) (enc : TypeId × Value → H) :
    ReturnsInHanded {} Try.checked os 3 .any (Rows.updateGrowsSpec.pre6 enc Try.prog Try.f3 Rows.updateGrowsRow.domain false) (Rows.updateGrowsSpec.post enc Try.prog Try.f3 false true false false) := by
  refine law_lifted (C := Try.checked) (tb := 4) own started (by kernel_rfl) Try.func3
    (ChangeSpec.witness6 (enc := enc) (C := Try.checked) false ⟨#[], #[.slice none 0 0, .slice none 0 0, .slice none 0 0, .int .i64 0, .bool false, .slice none 0 0, .slice none 0 0], []⟩ 8 (by kernel_rfl) (by kernel_rfl) (by kernel_rfl) (by kernel_rfl))
    laidOut (by kernel_rfl) rfl Try.underlying4 rfl (fun ds h => by rcases ds with _ | ⟨d1, _ | ⟨d2, _ | ⟨d3, _ | ⟨d4, _ | ⟨d5, _ | ⟨d6, _ | ⟨d7, _ | ⟨_, _⟩⟩⟩⟩⟩⟩⟩⟩ <;> first | rfl | (simp [Try.params3] at h)) ?_
  intro W base args ds before hval0 hA0 hlt hsz
  have hval : ∀ (j : Nat) t v, Try.f3.params[j]? = some t → args[j]? = some v → Value.okWide Try.prog W .any base t v := hval0
  have hA : DataW.TrodAll enc Try.prog W 0 (fun _ => true) true Try.f3.params.toList args.toList ds before := hA0
  rw [Try.params3] at hA hval
  obtain ⟨v0, vs0, d0, ds0, p0, q0, hargs, rfl, rfl, h0, hr⟩ := trodAll_cons hA
  obtain ⟨v1, vs1, d1, ds1, p1, q1, rfl, rfl, rfl, h1, hr⟩ := trodAll_cons hr
  obtain ⟨v2, vs2, d2, ds2, p2, q2, rfl, rfl, rfl, h2, hr⟩ := trodAll_cons hr
  obtain ⟨v3, vs3, d3, ds3, p3, q3, rfl, rfl, rfl, h3, hr⟩ := trodAll_cons hr
  obtain ⟨v4, vs4, d4, ds4, p4, q4, rfl, rfl, rfl, h4, hr⟩ := trodAll_cons hr
  obtain ⟨v5, vs5, d5, ds5, p5, q5, rfl, rfl, rfl, h5, hr⟩ := trodAll_cons hr
  obtain ⟨v6, vs6, d6, ds6, p6, q6, rfl, rfl, rfl, h6, hr⟩ := trodAll_cons hr
  obtain ⟨rfl, rfl, rfl⟩ := trodAll_nil hr
  obtain rfl : args = #[v0, v1, v2, v3, v4, v5, v6] := by cases args; simp_all
  obtain ⟨xa, ha, xa63⟩ := rd_ints Try.underlying22 Try.underlying3 cellsInt (hval 0 22 v0 rfl rfl) h0
  obtain ⟨xb, hb, xb63⟩ := rd_ints Try.underlying22 Try.underlying3 cellsInt (hval 1 22 v1 rfl rfl) h1
  obtain ⟨xc, hc, xc63⟩ := rd_ints Try.underlying22 Try.underlying3 cellsInt (hval 2 22 v2 rfl rfl) h2
  obtain ⟨o, rfl, -, -, ho⟩ := open_int Try.underlying3 (hval 3 3 v3 rfl rfl) h3
  obtain ⟨s, rfl, -, -⟩ := open_bool Try.underlying4 (hval 4 4 v4 rfl rfl) h4
  obtain ⟨ls, hl⟩ := rd_exits Try.underlying23 Try.underlying35 (by kernel_rfl) ⟨rfl, by kernel_rfl, Try.underlying4⟩ ⟨rfl, by kernel_rfl, Try.underlying22⟩ Try.underlying3 cellsInt (hval 5 23 v5 rfl rfl) h5
  obtain ⟨xm, hm, xm63⟩ := rd_ints Try.underlying22 Try.underlying3 cellsInt (hval 6 22 v6 rfl rfl) h6
  by_cases h : Great xa xb xc ls ∨ 300 < xm.length
  · exact grows_great ha hb hc hm hl h
  · exact grows_any ha hb hc hm hl (fun x h => (xa63 x h).2) (fun x h => (xb63 x h).2) (fun x h => (xc63 x h).2) (fun x h => (xm63 x h).2) (wf_bounds ho).2 (wf_bounds ho).1 (fun g => h (Or.inl g)) (by omega)

theorem updateGrows_holds : Rows.UpdateGrowsSaid :=
  OpenClaim.holds_of_wide 3 Try.f3 rfl rfl rfl rfl rfl rfl rfl ⟨rfl, rfl, rfl, rfl, rfl⟩ rfl rfl rfl rfl rfl (by kernel_rfl) Try.func3 (by kernel_rfl)
    (of_decide_eq_true (by kernel_rfl)) (by unfold Func.isWrapper; first | (rw [if_pos (by decide +kernel)]; kernel_rfl) | (rw [if_neg (by decide +kernel)]; exact ⟨rfl, rfl⟩))
    (fun os started H enc _ => lifted os started H enc)
end Go.Proofs.Ytdpmpppafkefoaa.updateGrowsP
