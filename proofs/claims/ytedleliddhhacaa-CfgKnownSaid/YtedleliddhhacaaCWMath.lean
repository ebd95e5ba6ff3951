/- What CfgWays knows of a function: its ways, there and back. -/
import Derived.Test.YtedleliddhhacaaCLoops
import Derived.Test.YtedleliddhhacaaFindB
namespace Go.Proofs.Ytedleliddhhacaa
open Go.RowKit Go.Maps

/-- What stands in memory. -/
structure WW (w : World) (S F G1 G2 n : Nat) (ab : Option Addr) (cb : Nat) (d : Fun) (N B : List (List Int)) : Prop where
  func : w.cell? ⟨S, 2, none⟩ = some (.slice ab n cb)
  f0 : w.cell? ⟨F, 0, none⟩ = some (.slice (some ⟨G1, 0, none⟩) n n)
  f1 : w.cell? ⟨F, 1, none⟩ = some (.slice (some ⟨G2, 0, none⟩) n n)
  blk : RdE 2 RdBlk w (.slice ab n cb) d.blocks
  gN : RdG w (.slice (some ⟨G1, 0, none⟩) n n) N
  gB : RdG w (.slice (some ⟨G2, 0, none⟩) n n) B
  hd : n = d.blocks.length
  hN : N.length = n
  hB : B.length = n
  hn : n ≤ 40
  formN : ∀ r ∈ N, r.Pairwise (· < ·) ∧ ∀ x ∈ r, 0 ≤ x ∧ x < n
  formB : ∀ r ∈ B, r.Pairwise (· < ·) ∧ ∀ x ∈ r, 0 ≤ x ∧ x < n
  back : ∀ a b, Edge B a b ↔ Edge N b a
theorem WW.drewN {w : World} {S F G1 G2 n : Nat} {ab : Option Addr} {cb : Nat} {d : Fun} {N B : List (List Int)} (K : WW w S F G1 G2 n ab cb d N B) (m : Nat)   : WW (w.drewN m) S F G1 G2 n ab cb d N B :=
  have hb : Below w.heap.size w (w.drewN m) := below_drawn (Below.refl _ _) m
  ⟨K.func, K.f0, K.f1, RdE.below (fun _ _ h => RdBlk.below h hb) K.blk hb, K.gN.below hb, K.gB.below hb, K.hd, K.hN, K.hB, K.hn, K.formN, K.formB, K.back⟩
theorem among_any {w : World} {v : Value} {xs : List Int} {y : Int} (h : RdI w v xs) (hlen : xs.length ≤ 1000000) : Calls Try.prog 15 #[.int .i64 y, v] w fun e w' => e = .returned (.bool (decide (y ∈ xs))) ∧ w' = w := by
  obtain ⟨a, c, rfl⟩ := h.form
  rw [List.length_map] at *
  go_enter Try.func15, Try.ntmps15
  go_wp2
  go_loopw [5] (fun k wr => ∃ j : Nat, j ≤ xs.length ∧ k = .int .i64 j ∧ wr = w ∧ Hid (y ∉ xs.take j)) (fun k _ => xs.length - (intOf k).toNat)
  case atStart => exact ⟨0, Nat.zero_le _, rfl, rfl, Lib.hid (by simp)⟩
  case round =>
    obtain ⟨j, hj, rfl, rfl, ht⟩ := hrel
    by_cases hlt : j < xs.length
    · obtain ⟨x, hx⟩ : ∃ x, xs[j]? = some x := ⟨_, List.getElem?_eq_getElem hlt⟩
      obtain ⟨b, o, cap, e, _, hc⟩ := h.at (i := j) (u := encI x) (by simp [hx])
      unfold encI at hc
      simp only [Value.slice.injEq] at e
      obtain ⟨rfl, -, rfl⟩ := e
      have htx := Lib.hid (take_snoc hx)
      have hmem := Lib.hid (List.mem_of_getElem? hx)
      clear hx h
      by_cases hxi : x = y
      · subst hxi
        go_wp2
        go_ret
        exact ⟨by simp [hmem.out], (by first | rfl | exact trivial)⟩
      · have hb : (x == y) = false := by simpa using hxi
        replace hxi := Lib.hid hxi
        go_wp2
        exact ⟨⟨j + 1, by omega, by go_num, (by first | rfl | exact trivial), Lib.hid (by rw [htx.out, List.mem_append, List.mem_singleton]; rintro (h | h); exact ht.out h; exact hxi.out h.symm)⟩, by simp [intOf]; omega⟩
    · have : j = xs.length := by omega
      subst this
      have hn : y ∉ xs := by have := ht.out; rwa [List.take_length] at this
      clear ht h
      go_wp2
      go_ret
      exact ⟨by simp [hn], (by first | rfl | exact trivial)⟩

/-- A block's ways and the labels of its last instruction. -/
theorem ok_block {d : Fun} (h : ofOk d = true) {i : Nat} {b : Blk} (hb : d.blocks[i]? = some b) : ∃ x, b.code.getLast? = some x ∧ waysB b = some (waysL b) ∧ (∀ s ∈ waysL b, s ∈ d.labels) ∧ (x.op = 14 ∧ waysL b = [] ∨ x.op ≠ 14 ∧ waysL b = x.labels) := by
  unfold ofOk at h
  rw [List.all_eq_true] at h
  have h1 := h b (List.mem_of_getElem? hb)
  unfold okB at h1
  rcases hw : waysB b with _ | ls
  · simp [hw] at h1
  · simp only [hw, List.all_eq_true, decide_eq_true_eq] at h1
    have hl : waysL b = ls := by simp [waysL, hw]
    unfold waysB at hw
    rcases hx : b.code.getLast? with _ | x
    · simp [hx] at hw
    · simp only [hx] at hw
      refine ⟨x, rfl, by rw [hl], by rw [hl]; exact h1, ?_⟩
      rw [hl]
      split at hw
      · rename_i h2
        obtain rfl := Option.some.inj hw
        exact .inr ⟨by rcases h2 with h2 | h2 <;> rw [h2] <;> decide, rfl⟩
      · split at hw
        · rename_i h3
          obtain rfl := Option.some.inj hw
          exact .inl ⟨h3, rfl⟩
        · cases hw
theorem rows_at {d : Fun} {i : Nat} {b : Blk} (hb : d.blocks[i]? = some b) : (rowsF d)[i]? = some (rowB d.labels b) := by
  rw [rowsF, List.getElem?_map, hb]
  rfl
/-- An edge is a label of the last instruction. -/
theorem edge_label {d : Fun} (h : ofOk d = true) {i t : Nat} {b : Blk} (hb : d.blocks[i]? = some b) (he : Edge (rowsF d) i t) : ∃ s ∈ waysL b, d.labels[t]? = some s := by
  obtain ⟨-, r, hr, hm⟩ := he
  rw [rows_at hb] at hr
  obtain rfl := Option.some.inj hr
  obtain ⟨s, hs, e⟩ := List.mem_map.1 hm
  obtain ⟨x, -, -, hin, -⟩ := ok_block h hb
  refine ⟨s, hs, ?_⟩
  have := place_get (hin s hs)
  rwa [show place d.labels s = t from by exact_mod_cast e] at this
theorem label_edge {d : Fun} (h : ofOk d = true) {i : Nat} {b : Blk} (hb : d.blocks[i]? = some b) {s : ByteArray} (hs : s ∈ waysL b) : ∃ t, Edge (rowsF d) i t ∧ d.labels[t]? = some s := by
  obtain ⟨x, -, -, hin, -⟩ := ok_block h hb
  have h1 := place_lt (hin s hs)
  refine ⟨place d.labels s, ⟨by rw [rowsF_len]; simpa [Fun.labels] using h1, _, rows_at hb, List.mem_map.2 ⟨s, hs, rfl⟩⟩, place_get (hin s hs)⟩
end Go.Proofs.Ytedleliddhhacaa
