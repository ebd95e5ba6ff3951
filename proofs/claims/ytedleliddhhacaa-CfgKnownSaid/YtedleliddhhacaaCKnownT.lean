/- CfgKnown: its second region that draws, as a whole. -/
import Derived.Test.YtedleliddhhacaaCKnownR
namespace Go.Proofs.Ytedleliddhhacaa
open Go.RowKit Go.Maps

/-- Behind the store. -/
structure Late (a0 : Act) (w0 : World) (listed : Array Bool) (a : Act) (w : World) : Prop where
  size : listed.size = 29
  l27 : listed[27]? = some true
  all : ∀ k, k < 27 → k ≠ 25 → listed[k]? = some true
  defers : a.defers = a0.defers
  slots : a.tmps.size = a0.tmps.size
  low : Below w0.heap.size w0 w
  old : ∀ d, d ∉ dsts10 → d ≠ 8 → a.tmps[d]? = a0.tmps[d]?
  flow : ∃ b s1 s2, a.tmps[7]? = some (.pointer (some ⟨b, 0, none⟩)) ∧ w.heap[b]? = some (.cells #[s1, s2] 36 (0, 0)) ∧ Mats succK predK w s1 s2
  tup : ∃ s, a.tmps[78]? = some (.tuple #[s, .int .i64 0])
  d25 : listed[25]? = some true → a.tmps[103]? = some (.int .i64 0)
  d28 : listed[28]? = some true → listed[25]? = some true ∧ a.tmps[8]? = some (.int .i64 0)

section
variable {a0 : Act} {w0 : World} {listed : Array Bool} {a : Act} {w : World} {Q : Exit → Act → World → Prop}
theorem late_25 {o : Oper} (ho : ops10[25]? = some o) (L : Late a0 w0 listed a w) (hl : listed[25]? = some false) (hsz : a0.tmps.size = 180) :
    o.wp Try.prog a w (fun a' w' => Late a0 w0 (listed.setIfInBounds 25 true) a' w') Q := by
  obtain ⟨s, hs⟩ := L.tup
  have g := getD_of hs
  have e : (ops10[25]?).get (by kernel_rfl) = o := by simp [ho]
  conv at e => lhs; whnf
  subst e
  unfold Oper.wp
  go_simp
  have h1 := (Array.getElem?_eq_some_iff.1 hl).1
  have h2 : (103 : Nat) < a.tmps.size := by rw [L.slots, hsz]; decide
  refine ⟨by simpa using L.size, by rw [Array.getElem?_setIfInBounds_ne (by decide)]; exact L.l27, fun k hk hk2 => by rw [Array.getElem?_setIfInBounds_ne (fun e => hk2 e.symm)]; exact L.all k hk hk2, L.defers, by simpa using L.slots, L.low, fun d hd hd8 => ?_, ?_, ⟨s, by rw [Array.getElem?_setIfInBounds_ne (by decide)]; exact hs⟩, fun _ => by rw [Array.getElem?_setIfInBounds_self_of_lt h2], fun h => ?_⟩
  · rw [Array.getElem?_setIfInBounds_ne (fun e => hd (by rw [← e]; decide))]; exact L.old d hd hd8
  · obtain ⟨b, s1, s2, e1, e2⟩ := L.flow
    exact ⟨b, s1, s2, by rw [Array.getElem?_setIfInBounds_ne (by decide)]; exact e1, e2⟩
  · rw [Array.getElem?_setIfInBounds_ne (by decide)] at h
    have := (L.d28 h).1
    rw [hl] at this
    cases this
theorem late_28 {o : Oper} (ho : ops10[28]? = some o) (L : Late a0 w0 listed a w) (hl : listed[28]? = some false) (h25 : listed[25]? = some true) (hsz : a0.tmps.size = 180) :
    o.wp Try.prog a w (fun a' w' => Late a0 w0 (listed.setIfInBounds 28 true) a' w') Q := by
  have hs := L.d25 h25
  have g := getD_of hs
  have e : (ops10[28]?).get (by kernel_rfl) = o := by simp [ho]
  conv at e => lhs; whnf
  subst e
  unfold Oper.wp
  go_simp
  have h2 : (8 : Nat) < a.tmps.size := by rw [L.slots, hsz]; decide
  refine ⟨by simpa using L.size, by rw [Array.getElem?_setIfInBounds_ne (by decide)]; exact L.l27, fun k hk hk2 => by rw [Array.getElem?_setIfInBounds_ne (by omega)]; exact L.all k hk hk2, L.defers, by simpa using L.slots, L.low, fun d hd hd8 => ?_, ?_, ?_, fun _ => ?_, fun h => ⟨?_, ?_⟩⟩
  · rw [Array.getElem?_setIfInBounds_ne (fun e => hd8 e.symm)]; exact L.old d hd hd8
  · obtain ⟨b, s1, s2, e1, e2⟩ := L.flow
    exact ⟨b, s1, s2, by rw [Array.getElem?_setIfInBounds_ne (by decide)]; exact e1, e2⟩
  · obtain ⟨s, e⟩ := L.tup
    exact ⟨s, by rw [Array.getElem?_setIfInBounds_ne (by decide)]; exact e⟩
  · rw [Array.getElem?_setIfInBounds_ne (by decide)]; exact hs
  · rw [Array.getElem?_setIfInBounds_ne (by decide)]; exact h25
  · rw [Array.getElem?_setIfInBounds_self_of_lt h2]
theorem late_27 {o : Oper} (ho : ops10[27]? = some o) (H : Grown ops10 (V10 w0.heap.size) a0 w0 listed a w) (hl : listed[27]? = some false) (hl28 : listed[28]? = some false) (hall : ∀ k, k < 27 → k ≠ 25 → listed[k]? = some true) (hsz : a0.tmps.size = 180) :
    o.wp Try.prog a w (fun a' w' => Late a0 w0 (listed.setIfInBounds 27 true) a' w') Q := by
  obtain ⟨_, e7, b, rfl, hlo, hbk⟩ := H.val 26 7 (by kernel_rfl) (hall 26 (by decide) (by decide))
  obtain ⟨_, e102, s1, s2, rfl, hm⟩ := H.val 24 102 (by kernel_rfl) (hall 24 (by decide) (by decide))
  obtain ⟨_, e78, t1, t2, rfl, -⟩ := H.val 23 78 (by kernel_rfl) (hall 23 (by decide) (by decide))
  have g7 := getD_of e7
  have g102 := getD_of e102
  obtain ⟨c0, c1⟩ := cells2 hbk
  have f0 : ∀ z, w.frozen? ⟨b, z, none⟩ = false := fun z => by simp [World.frozen?, hbk]
  have hm0 := hm
  obtain ⟨G1, vs1, b1, G2, vs2, b2, rfl, rfl, M1, M2⟩ := hm0
  have e : (ops10[27]?).get (by kernel_rfl) = o := by simp [ho]
  conv at e => lhs; whnf
  subst e
  unfold Oper.wp
  go_simp
  have hk : ∀ k, k ≠ 27 → (listed.setIfInBounds 27 true)[k]? = listed[k]? := fun k hk => Array.getElem?_setIfInBounds_ne (fun e => hk e.symm)
  have hl1 := (Array.getElem?_eq_some_iff.1 hl).1
  refine ⟨by simpa using H.size.trans ops10_size, by rw [Array.getElem?_setIfInBounds_self_of_lt hl1], fun k h1 h2 => by rw [hk k (by omega)]; exact hall k h1 h2, H.defers, H.slots, ?_, fun d hd hd8 => H.rest d (fun k o hk2 hkl he => hd ?_), ⟨b, .slice (some ⟨G1, 0, none⟩) succK.length succK.length, .slice (some ⟨G2, 0, none⟩) predK.length predK.length, e7, ?_, ?_⟩, ⟨_, e78⟩, fun h => ?_, fun h => ?_⟩
  · exact (H.low.setCell hlo _).setCell hlo _
  · have hk27 : k < 27 := by
      have hks := (Array.getElem?_eq_some_iff.1 hk2).1
      rw [ops10_size] at hks
      rcases (by omega : k < 27 ∨ k = 27 ∨ k = 28) with h | rfl | rfl
      · exact h
      · rw [hl] at hkl; cases hkl
      · rw [hl28] at hkl; cases hkl
    have hB : dstsB ops10 27 dsts10 = true := by kernel_rfl
    unfold dstsB at hB
    rw [List.all_eq_true] at hB
    have h2 := hB k (List.mem_range.2 hk27)
    simpa [hk2, he] using h2
  · rw [blk_set _ (blk_set _ hbk)]
    rfl
  · exact (hm.set hbk).set (ds := _) (by rw [blk_set _ hbk])
  · rw [hk 25 (by decide)] at h
    obtain ⟨_, e103, h103⟩ := H.val 25 103 (by kernel_rfl) h
    rw [e103, show _ = Value.int .i64 0 from h103]
  · rw [hk 28 (by decide), hl28] at h
    cases h
end
end Go.Proofs.Ytedleliddhhacaa
