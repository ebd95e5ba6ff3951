/- UpdateOrder: for every list of numbers and every list of exits the law returns true, and each argument reads afterwards as it read before. No conditions. -/
import Derived.Test.YtdpmpppafkefoaaRead
import Derived.Test.YtdpmpppafkefoaaUpdOrderW
import Derived.Test.YtdpmpppafkefoaaReadX
namespace Go.Proofs.Ytdpmpppafkefoaa.updateOrderP
open Go.RowKit Go.WideShapes Go.ChangeShapes Go.ChangeAt Go.WideMaps Go.ChangeMaps

theorem own : ownKnob Try.prog.godebug = none := by kernel_rfl
theorem laidOut : laidOutB Try.prog = true := by kernel_rfl

set_option maxRecDepth 100000 in
theorem lifted (os : Os) (started : os.Started) (H : Type) (enc : TypeId × Value → H) :
    ReturnsInHanded {} Try.checked os 5 .any (Rows.updateOrderSpec.pre6 enc Try.prog Try.f5 Rows.updateOrderRow.domain false) (Rows.updateOrderSpec.post enc Try.prog Try.f5 false true false false) := by
  refine law_lifted (C := Try.checked) (tb := 4) own started (by kernel_rfl) Try.func5
    (ChangeSpec.witness6 (enc := enc) (C := Try.checked) false ⟨#[], #[.slice none 0 0, .slice none 0 0], []⟩ 8 (by kernel_rfl) (by kernel_rfl) (by kernel_rfl) (by kernel_rfl))
    laidOut (by kernel_rfl) rfl Try.underlying4 rfl (fun ds h => by rcases ds with _ | ⟨d1, _ | ⟨d2, _ | ⟨_, _⟩⟩⟩ <;> first | rfl | (simp [Try.params5] at h)) ?_
  intro W base args ds before hval0 hA0 hlt hsz
  have hval : ∀ (j : Nat) t v, Try.f5.params[j]? = some t → args[j]? = some v → Value.okWide Try.prog W .any base t v := hval0
  have hA : DataW.TrodAll enc Try.prog W 0 (fun _ => true) true Try.f5.params.toList args.toList ds before := hA0
  rw [Try.params5] at hA hval
  obtain ⟨v0, v1, d0, d1, p0, p1, rfl, rfl, rfl, h0, h1⟩ := trodAll_two hA
  obtain ⟨xa, ha, xa63⟩ := rd_ints Try.underlying22 Try.underlying3 cellsInt (hval 0 22 v0 rfl rfl) h0
  obtain ⟨ls, hl⟩ := rd_exits Try.underlying23 Try.underlying35 (by kernel_rfl) ⟨rfl, by kernel_rfl, Try.underlying4⟩ ⟨rfl, by kernel_rfl, Try.underlying22⟩ Try.underlying3 cellsInt (hval 1 23 v1 rfl rfl) h1
  by_cases h : Great xa [] [] ls
  · exact order_great ha hl h
  · exact order_any ha hl (fun x h => (xa63 x h).2) h

theorem updateOrder_holds : Rows.UpdateOrderSaid :=
  OpenClaim.holds_of_wide 5 Try.f5 rfl rfl rfl rfl rfl rfl rfl ⟨rfl, rfl, rfl, rfl, rfl⟩ rfl rfl rfl rfl rfl (by kernel_rfl) Try.func5 (by kernel_rfl)
    (of_decide_eq_true (by kernel_rfl)) (by unfold Func.isWrapper; first | (rw [if_pos (by decide +kernel)]; kernel_rfl) | (rw [if_neg (by decide +kernel)]; exact ⟨rfl, rfl⟩))
    (fun os started H enc _ => lifted os started H enc)
end Go.Proofs.Ytdpmpppafkefoaa.updateOrderP
