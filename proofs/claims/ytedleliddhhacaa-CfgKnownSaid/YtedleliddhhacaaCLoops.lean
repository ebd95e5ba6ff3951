/- cfg.Loops. -/
import Derived.Test.YtedleliddhhacaaCHeavy
namespace Go.Proofs.Ytedleliddhhacaa
open Go.RowKit Go.Maps

def LoopsPost (w : World) (d : Fun) (e : Ending) (w' : World) : Prop :=
  (ofOk d = true → ∃ O, e = .returned (.slice (some ⟨O, 0, none⟩) d.blocks.length d.blocks.length) ∧ w'.heap[O]? = some (.cells (boolA d.blocks.length (cycB (normL (rowsF d)))) 4 (0, 0)) ∧ w.heap.size ≤ O) ∧
  (ofOk d = false → e = .returned (.slice none 0 0)) ∧ Below w.heap.size w w'
theorem rowsF_len (d : Fun) : (rowsF d).length = d.blocks.length := by simp [rowsF]
theorem rows_low {d : Fun} (hs : SmallF d) : ∀ r ∈ normL (rowsF d), r.length ≤ 10000 := by
  intro r hr
  unfold normL at hr
  obtain ⟨s, hs1, rfl⟩ := List.mem_map.1 hr
  refine Nat.le_trans (rowL_len _ _) ?_
  obtain ⟨x, hx, rfl⟩ := List.mem_map.1 hs1
  rw [rowB, List.length_map]
  exact (hs.2 x hx).2.2.1

set_option maxRecDepth 20000 in
set_option maxHeartbeats 1000000 in
theorem loops_any {w : World} {cs : List Value} {d : Fun} (h : RdFun w cs d) (hs : SmallF d) : Calls Try.prog 14 #[.agg cs.toArray] w (LoopsPost w d) := by
  have h0 := h
  obtain ⟨vp, vb, rfl, hp, hb⟩ := h
  obtain ⟨n, hn⟩ : ∃ n, n = d.blocks.length := ⟨_, rfl⟩
  obtain ⟨ap, cp, rfl⟩ := hp.form
  obtain ⟨ab, cb, rfl⟩ := hb.form
  rw [List.length_map] at h0 ⊢
  have hbe0 : Below w.heap.size w (w.alloc (.cells #[.string d.name, .slice ap d.params.length cp, .slice ab d.blocks.length cb] 32)) := (Below.refl _ _).alloc (Nat.le_refl _) _
  have hO := Lib.hid (of_any (h0.below hbe0) hs)
  have hn1 : n ≤ 1000 := by rw [hn]; exact hs.1
  have hlow := Lib.hid (rows_low hs)
  rw [← hn] at hO hbe0 ⊢
  replace hn := Lib.hid hn
  clear h0 hp hb hs
  go_enter Try.func14, Try.ntmps14
  go_wp2_with fail
  refine hO.out.mono ?_
  rintro e w1 ⟨hyes, hno, hb1⟩
  have hB1 := hbe0.trans (hb1.mono hbe0.size)
  rcases hok : ofOk d with _ | _
  · obtain rfl := hno hok
    clear hyes hno hO
    go_wp2_with fail
    go_ret
    exact ⟨(fun h => absurd h (by rw [hok]; simp)), (fun _ => rfl), hB1.alloc hB1.size _⟩
  · obtain ⟨m, G1, vs1, G2, vs2, rfl, M1, -, -, -, -⟩ := hyes hok
    rw [← hn.out]
    have hbe2 : ∀ a : Array Value, Below w1.heap.size w1 (w1.alloc (.cells a 36)) := fun a => (Below.refl _ _).alloc (Nat.le_refl _) _
    have hR : RdG w1 (.slice (some ⟨G1, 0, none⟩) n n) (normL (rowsF d)) := M1.rd (by rw [normL_len, rowsF_len, hn.out])
    have hC := Lib.hid (fun a => cyclic_any (hR.below (hbe2 a)) (by rw [normL_len, rowsF_len, ← hn.out]; omega) (fun r hr => Nat.le_trans (hlow.out r hr) (by omega)))
    rw [normL_len, rowsF_len, ← hn.out] at hC
    have hok' := Lib.hid hok
    clear hyes hno hO M1 hR hok
    go_wp2_with fail
    refine (hC.out _).mono ?_
    rintro e w2 ⟨O, rfl, hc, hle, hb2⟩
    have hs1 := hB1.size
    go_wp2_with fail
    go_ret
    unfold LoopsPost
    rw [← hn.out]
    exact ⟨(fun _ => ⟨O, rfl, hc, by simp at hle; omega⟩), (fun h => absurd h (by rw [hok'.out]; simp)), (hB1.trans ((hbe2 _).mono hs1)).trans (hb2.mono (by simp; omega))⟩
end Go.Proofs.Ytedleliddhhacaa
