/- names: functions put behind. -/
import Derived.Test.YtjblhiekccjdcaaRNHeavy
import Derived.Test.YtjblhiekccjdcaaROwnE
namespace Go.Proofs.YtjblhiekccjdcaaR
open Go.RowKit Go.Maps Go.Shelf

theorem cat_append {α β : Type} {g : Nat → α → List β} {l m : List α} : cat g (l ++ m) = cat g l ++ cat (fun i => g (i + l.length)) m := by
  unfold cat
  rw [List.mapIdx_append, List.flatten_append]
theorem firstBad_some {σ : Type} {step : σ → Prt → Bool × σ} {x : Prt} : ∀ {l r : List Prt} {s : σ}, firstBad step s l = some x → firstBad step s (l ++ r) = some x
  | [], _, _, h => by cases h
  | y :: l, r, s, h => by
    rw [firstBad_cons] at h
    rw [List.cons_append, firstBad_cons]
    split at h
    · rename_i hn
      rw [if_pos hn]
      exact h
    · rename_i hn
      rw [if_neg hn]
      exact firstBad_some h
theorem firstBad_mem {σ : Type} {step : σ → Prt → Bool × σ} {x : Prt} : ∀ {l : List Prt} {s : σ}, firstBad step s l = some x → x ∈ l
  | [], _, h => by cases h
  | y :: l, s, h => by
    rw [firstBad_cons] at h
    split at h
    · cases h
      exact List.mem_cons_self ..
    · exact List.mem_cons_of_mem _ (firstBad_mem h)
theorem funL_at {f : Nat} {d : Fun} {x : Prt} (h : x ∈ funL f d) : x.at.1 = f := by
  unfold funL at h
  rcases List.mem_cons.1 h with rfl | h
  · rfl
  · obtain ⟨b', x', hx, h⟩ := mem_cat h
    unfold blkL at h
    rcases List.mem_cons.1 h with rfl | h
    · rfl
    · obtain ⟨i', c', hc, h⟩ := mem_cat h
      rw [List.mem_singleton] at h
      subst h
      rfl
/-- What is told of a program, and of it with functions behind. -/
def Goes (n : Nat) (a b : Option (Nat × Nat × Nat)) : Prop := (∀ q, a = some q → b = some q) ∧ (a = none → ∀ q, b = some q → n ≤ q.1)
theorem goes_of {σ : Type} {step : σ → Prt → Bool × σ} {s : σ} {P M : List Fun} : Goes P.length ((firstBad step s (partsL P)).map Prt.at) ((firstBad step s (partsL (P ++ M))).map Prt.at) := by
  have e : partsL (P ++ M) = partsL P ++ cat (fun i => funL (i + P.length)) M := cat_append
  rw [e]
  constructor
  · intro q hq
    cases h : firstBad step s (partsL P) with
    | none => rw [h] at hq; cases hq
    | some x => rw [firstBad_some h]; rw [h] at hq; exact hq
  · intro hn q hq
    have h : firstBad step s (partsL P) = none := by
      cases h : firstBad step s (partsL P) with
      | none => rfl
      | some x => rw [h] at hn; cases hn
    rw [firstBad_app h] at hq
    cases h2 : firstBad step (runSt step s (partsL P)) (cat (fun i => funL (i + P.length)) M) with
    | none => rw [h2] at hq; cases hq
    | some x =>
      rw [h2] at hq
      cases hq
      obtain ⟨i, d, hd, hx⟩ := mem_cat (firstBad_mem h2)
      have := funL_at hx
      show P.length ≤ x.at.1
      omega
theorem rule_goes (P M : List Fun) (k : Nat) (hk : k ≠ 1 ∧ k ≠ 4 ∧ k ≠ 13 ∧ k ≠ 14) : Goes P.length (ruleAt P k) (ruleAt (P ++ M) k) := by
  by_cases h : 1 ≤ k ∧ k ≤ 16
  · refine below_17 (Q := fun k => k ≠ 1 ∧ k ≠ 4 ∧ k ≠ 13 ∧ k ≠ 14 → Goes P.length (ruleAt P k) (ruleAt (P ++ M) k)) h.1 h.2 (fun h => absurd rfl h.1) (fun _ => goes_of) (fun _ => goes_of) (fun h => absurd rfl h.2.1) (fun _ => goes_of) (fun _ => goes_of) (fun _ => goes_of) (fun _ => goes_of) (fun _ => goes_of) (fun _ => goes_of) (fun _ => goes_of) (fun _ => goes_of) (fun h => absurd rfl h.2.2.1) (fun h => absurd rfl h.2.2.2) (fun _ => goes_of) (fun _ => goes_of) hk
  · rw [ruleAt_out (by omega), ruleAt_out (by omega)]
    exact ⟨fun q h => (by cases h), fun _ q h => (by cases h)⟩
theorem rdfun_plain : ∀ {w : World} (cs : List Value) (d : Fun), RdFun w cs d → ∀ u ∈ cs, u.oneCell' = true := by
  rintro w cs d ⟨vp, vb, rfl, hp, hb⟩ u hu
  obtain ⟨a, c, rfl⟩ := hp.shape
  obtain ⟨a, c, rfl⟩ := hb.form
  simp at hu
  rcases hu with rfl | rfl | rfl <;> rfl
theorem infoFun : (Try.prog.info? 39).map (fun i => (i.zero, i.size, i.bytes)) = some (some (.agg #[.string ⟨#[]⟩, .slice none 0 0, .slice none 0 0]), 3, 64) := by kernel_rfl
end Go.Proofs.YtjblhiekccjdcaaR
