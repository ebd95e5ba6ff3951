/- names: all questions. -/
import Derived.Test.YtjblhiekccjdcaaRNMainB
import Derived.Test.YtjblhiekccjdcaaRVMap
namespace Go.Proofs.YtjblhiekccjdcaaR
open Go.RowKit Go.Maps Go.Shelf Go.WideMaps
attribute [local instance] Classical.propDecidable

/-- The functions that ask the rules. -/
def qF (k : Nat) : Nat := match k with
  | 1 => 24
  | 2 => 25
  | 3 => 26
  | 4 => 27
  | 5 => 28
  | 6 => 29
  | 7 => 30
  | 8 => 31
  | 9 => 32
  | 10 => 33
  | 11 => 34
  | 12 => 35
  | 13 => 36
  | 14 => 37
  | 15 => 38
  | 16 => 39
  | _ => 0
theorem below_17 {Q : Nat → Prop} {k : Nat} (h1 : 1 ≤ k) (h2 : k ≤ 16) (q1 : Q 1) (q2 : Q 2) (q3 : Q 3) (q4 : Q 4) (q5 : Q 5) (q6 : Q 6) (q7 : Q 7) (q8 : Q 8) (q9 : Q 9) (q10 : Q 10) (q11 : Q 11) (q12 : Q 12) (q13 : Q 13) (q14 : Q 14) (q15 : Q 15) (q16 : Q 16) : Q k := by
  obtain rfl | rfl | rfl | rfl | rfl | rfl | rfl | rfl | rfl | rfl | rfl | rfl | rfl | rfl | rfl | rfl : k = 1 ∨ k = 2 ∨ k = 3 ∨ k = 4 ∨ k = 5 ∨ k = 6 ∨ k = 7 ∨ k = 8 ∨ k = 9 ∨ k = 10 ∨ k = 11 ∨ k = 12 ∨ k = 13 ∨ k = 14 ∨ k = 15 ∨ k = 16 := by omega
  · exact q1
  · exact q2
  · exact q3
  · exact q4
  · exact q5
  · exact q6
  · exact q7
  · exact q8
  · exact q9
  · exact q10
  · exact q11
  · exact q12
  · exact q13
  · exact q14
  · exact q15
  · exact q16
theorem qF_enters {k : Nat} (h1 : 1 ≤ k) (h2 : k ≤ 16) : ∀ args w, (callFunc (qF k) args).run Try.prog w = .ok (.enter (qF k) args) w :=
  below_17 (Q := fun k => ∀ args w, (callFunc (qF k) args).run Try.prog w = .ok (.enter (qF k) args) w) h1 h2
    (enters_of Try.func24 (by kernel_rfl) rfl)
    (enters_of Try.func25 (by kernel_rfl) rfl)
    (enters_of Try.func26 (by kernel_rfl) rfl)
    (enters_of Try.func27 (by kernel_rfl) rfl)
    (enters_of Try.func28 (by kernel_rfl) rfl)
    (enters_of Try.func29 (by kernel_rfl) rfl)
    (enters_of Try.func30 (by kernel_rfl) rfl)
    (enters_of Try.func31 (by kernel_rfl) rfl)
    (enters_of Try.func32 (by kernel_rfl) rfl)
    (enters_of Try.func33 (by kernel_rfl) rfl)
    (enters_of Try.func34 (by kernel_rfl) rfl)
    (enters_of Try.func35 (by kernel_rfl) rfl)
    (enters_of Try.func36 (by kernel_rfl) rfl)
    (enters_of Try.func37 (by kernel_rfl) rfl)
    (enters_of Try.func38 (by kernel_rfl) rfl)
    (enters_of Try.func39 (by kernel_rfl) rfl)
/-- Where a rule is broken first. -/
def ruleAt (P : List Fun) (k : Nat) : Option (Nat × Nat × Nat) := match k with
  | 1 => manyP P
  | 2 => (firstP bad2 P).map Prt.at
  | 3 => (firstBad step3 [] (partsL P)).map Prt.at
  | 4 => mainAt 0 P
  | 5 => (firstP bad5 P).map Prt.at
  | 6 => (firstP bad6 P).map Prt.at
  | 7 => (firstBad step7 none (partsL P)).map Prt.at
  | 8 => (firstBad step8 0 (partsL P)).map Prt.at
  | 9 => (firstP bad9 P).map Prt.at
  | 10 => (firstP bad10 P).map Prt.at
  | 11 => (firstP bad11 P).map Prt.at
  | 12 => (firstBad step12 none (partsL P)).map Prt.at
  | 13 => (firstBad (fun (_ : Unit) x => (bad13 (arityF P) x, ())) () (partsL P)).map Prt.at
  | 14 => (firstBad (fun (_ : Unit) x => (bad14 (arityF P) x, ())) () (partsL P)).map Prt.at
  | 15 => (firstBad step15 none (partsL P)).map Prt.at
  | 16 => (firstBad step16 none (partsL P)).map Prt.at
  | _ => none
theorem ask_any {P : List Fun} (hP : POkA P) {k : Nat} (h1 : 1 ≤ k) (h2 : k ≤ 16) {w : World} {v : Value} (h : RdE 3 RdFun w v P) : Calls Try.prog (qF k) #[.agg #[v]] w fun e w' => e = .returned (ansP (ruleAt P k)) ∧ Below w.heap.size w w' :=
  below_17 (Q := fun k => Calls Try.prog (qF k) #[.agg #[v]] w fun e w' => e = .returned (ansP (ruleAt P k)) ∧ Below w.heap.size w w') h1 h2
    (q1_any hP.l1 h)
    ((q2_any hP.toPOk h).mono (fun e w' h => ⟨by rw [h.1, ansP_of]; rfl, h.2⟩))
    ((q3_any hP.toPOk h).mono (fun e w' h => ⟨by rw [h.1, ansP_of]; rfl, h.2⟩))
    (q4_any hP.l1 h)
    ((q5_any hP.toPOk h).mono (fun e w' h => ⟨by rw [h.1, ansP_of]; rfl, h.2⟩))
    ((q6_any hP.toPOk h).mono (fun e w' h => ⟨by rw [h.1, ansP_of]; rfl, h.2⟩))
    ((q7_any hP.toPOk h).mono (fun e w' h => ⟨by rw [h.1, ansP_of]; rfl, h.2⟩))
    ((q8_any hP.toPOk h).mono (fun e w' h => ⟨by rw [h.1, ansP_of]; rfl, h.2⟩))
    ((q9_any hP.toPOk h).mono (fun e w' h => ⟨by rw [h.1, ansP_of]; rfl, h.2⟩))
    ((q10_any hP.toPOk h).mono (fun e w' h => ⟨by rw [h.1, ansP_of]; rfl, h.2⟩))
    ((q11_any hP.toPOk h).mono (fun e w' h => ⟨by rw [h.1, ansP_of]; rfl, h.2⟩))
    ((q12_any hP.toPOk h).mono (fun e w' h => ⟨by rw [h.1, ansP_of]; rfl, h.2⟩))
    ((q13_any hP.toPOk h).mono (fun e w' h => ⟨by rw [h.1, ansP_of]; rfl, h.2⟩))
    ((q14_any hP.toPOk h).mono (fun e w' h => ⟨by rw [h.1, ansP_of]; rfl, h.2⟩))
    ((q15_any hP.toPOk h).mono (fun e w' h => ⟨by rw [h.1, ansP_of]; rfl, h.2⟩))
    ((q16_any hP h).mono (fun e w' h => ⟨by rw [h.1, ansP_of]; rfl, h.2⟩))
/-- A rule's method value. -/
def qV (v : Value) (k : Nat) : Value := .func (.func (qF k)) #[.agg #[v]] #[]
theorem lawR : Keyed Try.prog 28 := int_keyed Try.underlying28
theorem keyR {k : Int} (h : (Lit.int .u8 k).wf = true) : keyOf Try.prog 28 (.int .u8 k) = some (.int .u8 k) := keyOf_int_mk Try.underlying28 h
/-- A map of all rules' method values. -/
def QMap (w : World) (v : Value) (b : Nat) : Prop := ∃ f, VMap w 28 b 16 f ∧ (∀ k : Nat, 1 ≤ k → k ≤ 16 → f (.int .u8 k) = some (qV v k)) ∧ ∀ k : Nat, k < 1 ∨ 16 < k → f (.int .u8 k) = none
theorem cell_vm {w w' : World} {k : TypeId} {b n : Nat} {f : Lit → Option Value} (hM : VMap w k b n f) (hT : Touch w w' (fun k => k = b)) {p : Addr} {v : Value} (h : w.cell? p = some v) : w'.cell? p = some v := by
  have hg : p.block ≠ b := by
    intro e
    obtain ⟨D, ⟨es, clock, hb, -⟩, -⟩ := hM
    simp [World.cell?, e, hb] at h
  rw [← h]
  unfold World.cell?
  rw [hT.block p.block (cell_size h) hg]
set_option maxRecDepth 20000 in
set_option maxHeartbeats 4000000 in
theorem questions_any {w : World} {a : Option Addr} {n c : Nat} : Calls Try.prog 22 #[.agg #[.slice a n c]] w fun e w' => ∃ b, e = .returned (.map (some b)) ∧ w.heap.size ≤ b ∧ QMap w' (.slice a n c) b ∧ Below w.heap.size w w' := by
  have hmm := @run_makeMap Try.prog
  have hb0 : Below w.heap.size w ((w.alloc (.cells #[.slice a n c] 56)).alloc (.map #[] 0)) := ((Below.refl _ _).alloc (Nat.le_refl _) _).alloc (by simp) _
  have hM0 : VMap ((w.alloc (.cells #[.slice a n c] 56)).alloc (.map #[] 0)) 28 (w.heap.size + 1) 0 (fun _ => none) := by
    have h1 := VMap.new (w.alloc (.cells #[.slice a n c] 56)) 28
    rw [show (w.alloc (.cells #[.slice a n c] 56)).heap.size = w.heap.size + 1 from by simp] at h1
    exact h1
  have hc0 : ((w.alloc (.cells #[.slice a n c] 56)).alloc (.map #[] 0)).cell? ⟨w.heap.size, 0, none⟩ = some (.slice a n c) := by rw [blk_cell (at_oldN (at_newN rfl))]; rfl
  have hB := Lib.hid hb0
  have hM := Lib.hid hM0
  have hc := hc0
  clear hM0 hb0
  go_enter Try.func22, Try.ntmps22
  go_wp2_with (refine wpList_vmap_ins rfl _ _ _ _ rfl 28 57 lawR Try.underlying53 (w.heap.size + 1) _ _ hM.out (by simp [maxLen]) rfl _ _ _ rfl rfl (keyR (by decide)) ?_; intro w2 hM2 hT2; replace hc := cell_vm hM.out hT2 hc; replace hB := Lib.hid (hB.out.trans (hT2.below hB.out.size (fun k hk e => by omega))); replace hM := Lib.hid hM2; clear hM2 hT2; go_frame)
  go_ret
  refine ⟨w.heap.size + 1, rfl, by omega, ⟨_, hM.out, ?_, ?_⟩, hB.out⟩
  · intro k h1 h2
    obtain rfl | rfl | rfl | rfl | rfl | rfl | rfl | rfl | rfl | rfl | rfl | rfl | rfl | rfl | rfl | rfl := (by omega : k = 1 ∨ k = 2 ∨ k = 3 ∨ k = 4 ∨ k = 5 ∨ k = 6 ∨ k = 7 ∨ k = 8 ∨ k = 9 ∨ k = 10 ∨ k = 11 ∨ k = 12 ∨ k = 13 ∨ k = 14 ∨ k = 15 ∨ k = 16)
    all_goals (simp [qV, qF] <;> rfl)
  · intro k hk
    have hne : ∀ j : Int, 1 ≤ j → j ≤ 16 → ¬ (Lit.int .u8 (k : Int) = Lit.int .u8 j) := fun j h1 h2 e => by
      simp only [Lit.int.injEq, true_and] at e
      omega
    simp only [hne _ (show (1 : Int) ≤ 1 by decide) (by decide), hne 2 (by decide) (by decide), hne 3 (by decide) (by decide), hne 4 (by decide) (by decide), hne 5 (by decide) (by decide), hne 6 (by decide) (by decide), hne 7 (by decide) (by decide), hne 8 (by decide) (by decide), hne 9 (by decide) (by decide), hne 10 (by decide) (by decide), hne 11 (by decide) (by decide), hne 12 (by decide) (by decide), hne 13 (by decide) (by decide), hne 14 (by decide) (by decide), hne 15 (by decide) (by decide), hne 16 (by decide) (by decide), if_false]
end Go.Proofs.YtjblhiekccjdcaaR
