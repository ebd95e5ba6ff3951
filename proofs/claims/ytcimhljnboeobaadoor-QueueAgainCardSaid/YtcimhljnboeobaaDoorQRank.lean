/- Queues: the node of a number among those that wait. -/
import Derived.Test.YtcimhljnboeobaaDoorQBelow
namespace Go.Proofs.YtcimhljnboeobaaDoor
open Go.RowKit Go.Maps Go.Shelf

attribute [local go_sem] Oper.semAt_some
theorem qwords_call (a : Addr) (w : World) : Calls Tryd.prog 18 #[.pointer (some a)] w fun e w' => e = .returned (.func (.func 21) #[] #[.pointer (some ⟨w.heap.size, 0, none⟩)]) ∧ w' = w.alloc (.cells #[.pointer (some a)] 22) := by
  go_enter Tryd.func18, Tryd.ntmps18
  go_wp2
  go_ret
  exact ⟨rfl, rfl⟩
section
variable {W0 : World} {qb lb cap n taken : Nat} {bs l : List Nat} {pv : Value} {ps : List Int}
set_option maxRecDepth 100000 in
set_option maxHeartbeats 2000000 in
theorem qwords_in (Q : QAt W0 qb lb cap bs n l pv ps taken) (G : Gl W0) {V : Nat → Prop} (hV : ∀ k, QBl qb lb bs pv k → ¬ V k) (hVg : ¬ V 0) (r : Nat) (J : List (Nat × Nat) → World → Prop) (Jx : World → Prop)
    (hcalm : ∀ pre W1 W2, J pre W1 → Touch W1 W2 (fun _ => False) → J pre W2)
    (hY : ∀ pre x rest W1, seqW l (bs.length - 1) 0 = pre ++ x :: rest → J pre W1 → Touch W0 W1 V → YieldAt Fence.wide 4 Tryd.prog r #[.int .i64 x.1, .int .u64 x.2] W1 fun e W' =>
      (e = .returned (.bool true) ∧ J (pre ++ [x]) W' ∧ Touch W1 W' V) ∨ (e = .returned (.bool false) ∧ Jx W'))
    {W : World} {Bu : Nat} (hbox : W.heap[Bu]? = some (.cells #[.pointer (some ⟨qb, 0, none⟩)] 22 (0, 0))) (hJ : J [] W) (hT : Touch W0 W V) :
    CallsIn Fence.wide 5 Tryd.prog 21 #[.func (.yield r) #[] #[], .pointer (some ⟨Bu, 0, none⟩)] W fun e W' => (∃ v, e = .returned v) ∧ (J (seqW l (bs.length - 1) 0) W' ∨ Jx W') := by
  have hQW := Q.kept hT hV
  have hm1 := Q.m1
  have hb0 : W.cell? ⟨Bu, 0, none⟩ = some (.pointer (some ⟨qb, 0, none⟩)) := by rw [blk_cell hbox]; rfl
  obtain ⟨m, hm⟩ : ∃ m, m = bs.length - 1 := ⟨_, rfl⟩
  have hmb : bs.length = m + 1 := by omega
  have c1 : W.cell? ⟨qb, 1, none⟩ = some (.slice (some ⟨lb, 0, none⟩) (m + 1) cap) := by
    rw [blk_cell hQW.blk, hmb]; rfl
  have hJ2 := hcalm [] W W.drew hJ (Touch.refl W _).drew
  have hcall := Lib.hid (callsIn_wide.1 (below_in Q G hV hVg r J Jx (seqW l (bs.length - 1) 0) hY (bs.length - 1) 0 [] [] W.drew (by omega) (by omega) (by simp) hJ2 hT.drew))
  rw [← hm] at hcall ⊢
  have hmi : ((m + 1 : Nat) : Int) - 1 = (m : Int) := by omega
  have hm3 : m ≤ 2 := by have := Q.m3; omega
  clear hQW hbox hJ hJ2 hT hY hcalm hm
  refine callsIn_of_wp Tryd.func21 rfl trivial ?_ rfl
  simp only [Tryd.ntmps21, List.size_toArray, List.length_cons, List.length_nil, Nat.reduceAdd, Nat.reduceSub, Array.replicate_succ, Array.replicate_zero, List.push_toArray, List.append_toArray, List.nil_append, List.cons_append]
  refine wpIn_wide.2 ?_
  refine wp_tail 8 (by kernel_rfl) (by kernel_rfl) ?_
  simp only [List.take_succ_cons, List.take_zero, List.drop_succ_cons, List.drop_zero]
  repeat still_step
  refine wpStill_nil ?_
  go_wp2_with (go_at_call 22; refine hcall.out.mono ?_; rintro e W3 (⟨rfl, hJ3, hT3⟩ | ⟨rfl, hJx⟩))
  · go_end0
    exact ⟨⟨_, rfl⟩, .inl (by simpa using hJ3)⟩
  · go_end0
    exact ⟨⟨_, rfl⟩, .inr hJx⟩
end
end Go.Proofs.YtcimhljnboeobaaDoor
