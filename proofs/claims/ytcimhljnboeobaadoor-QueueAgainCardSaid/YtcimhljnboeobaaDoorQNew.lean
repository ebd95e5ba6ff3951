/- Queues: New. -/
import Derived.Test.YtcimhljnboeobaaDoorQAdd
import Derived.Lib.LazyBuf
namespace Go.Proofs.YtcimhljnboeobaaDoor
open Go.RowKit Go.Maps

theorem at_fresh {w : World} {o : Obj} {b : Nat} (h : b = w.heap.size) : (w.alloc o).heap[b]? = some o := at_newN h
theorem infoQI : (Tryd.prog.info? 3).map (fun i => (i.zero, i.size, i.bytes)) = some (some (.int .i64 0), 1, 8) := by kernel_rfl
theorem infoQM : (Tryd.prog.info? 38).map (fun i => (i.zero, i.size, i.bytes)) = some (some (.map none), 1, 8) := by kernel_rfl
theorem row_rdQ {w : World} {base n : Nat} {v : Value} {xs : List Value} {t : TypeId} (h : w.ownsRow base t 1 v n xs) : Rd w v xs ∧ (∃ a c, v = .slice a xs.length c ∧ xs.length ≤ c) ∧ ∀ k, pBlk v k → base ≤ k ∧ k < w.heap.size := by
  have hn : n = xs.length := by have := h.1; omega
  rcases h.2 with ⟨rfl, h0⟩ | ⟨g, cap, cur, rfl, h1, h2, h3, h4, h5, h6⟩
  · have : xs = [] := List.eq_nil_of_length_eq_zero (by omega)
    subst this
    exact ⟨.inl ⟨rfl, .inl rfl⟩, ⟨none, 0, rfl, Nat.le_refl _⟩, fun k ⟨a, m, c, e, _⟩ => by cases e⟩
  · refine ⟨Or.inr ⟨g, 0, cap, by rw [hn], (h.lt g rfl).2, fun k u hu => ?_⟩, ⟨_, cap, by rw [hn], by omega⟩, fun k ⟨a, m, c, e, ek, _⟩ => by cases e; rw [← ek]; exact h.lt g rfl⟩
    have := h.cells (g := g) rfl k u hu
    rw [add0] at this
    rw [Nat.zero_add]
    exact this
set_option maxHeartbeats 1000000 in
theorem qclone_any {w : World} {v : Value} {xs : List Int} (h : RdQ w v xs) (hl : xs.length ≤ 1000000) : Calls Tryd.prog 16 #[v] w fun e w' => ∃ v', e = .returned v' ∧ RdQ w' v' xs ∧ (∃ a c, v' = .slice a xs.length c ∧ xs.length ≤ c) ∧ (∀ k, pBlk v' k → w.heap.size ≤ k ∧ k < w'.heap.size) ∧ Below w.heap.size w w' := by
  obtain ⟨a, c, e⟩ := Rd.form h
  have e2 : v = .slice a xs.length c := by simpa using e
  subst e2
  cases a with
  | none =>
    have hx : xs = [] := by
      rcases h with ⟨h1, -⟩ | ⟨b, off, cap, e, -⟩
      · exact List.map_eq_nil_iff.1 h1
      · cases e
    have hc : c = 0 := by
      rcases h with ⟨-, h2 | ⟨a, k, h2⟩⟩ | ⟨b, off, cap, e, -⟩
      · simp only [Value.slice.injEq] at h2; exact h2.2.2
      · cases h2
      · cases e
    subst hx hc
    clear h e
    have hq := fun (w : World) (a : Option Addr) (n c n' c' : Nat) => Lib.run_eql_slice_nil (P := Tryd.prog) w 27 3 a n c n' c' Tryd.underlying27
    go_enter Tryd.func16, Tryd.ntmps16
    go_wp2_with fail
    go_ret
    exact ⟨_, rfl, .inl ⟨rfl, .inl rfl⟩, ⟨none, 0, rfl, Nat.le_refl _⟩, fun k ⟨a, m, c, e, _⟩ => (by cases e), Below.refl _ _⟩
  | some a =>
    obtain ⟨i0, hi0, hz0, hz1, hz2⟩ := info_parts infoQI
    have hb9 := (Below.refl w.heap.size w).alloc (Nat.le_refl _) (.cells #[] 3)
    have hown : (w.alloc (.cells #[] 3)).ownsRow w.heap.size 3 1 (.slice (some ⟨w.heap.size, 0, none⟩) 0 0) 0 [] := ⟨rfl, .inr ⟨w.heap.size, 0, #[], rfl, Nat.le_refl _, at_fresh rfl, Nat.le_refl _, Nat.zero_le _, rfl, rfl⟩⟩
    have hrd := Rd.below h hb9
    generalize hn : xs.length = n at hl e hrd ⊢
    replace hn := Lib.hid hn
    replace hrd := Lib.hid hrd
    clear h e
    have hq := fun (w : World) (a : Option Addr) (n c n' c' : Nat) => Lib.run_eql_slice_nil (P := Tryd.prog) w 27 3 a n c n' c' Tryd.underlying27
    go_enter Tryd.func16, Tryd.ntmps16
    go_wp2_with (at_builtin; refine wpList_append_rd _ rfl _ _ 27 rfl w.heap.size 3 i0 (.int .i64 0) 8 Tryd.underlying27 hi0 hz0 hz1 hz2 rfl (.slice (some ⟨w.heap.size, 0, none⟩) 0 0) 0 [] rfl hown _ (xs.map encQ) rfl hrd.out (fun u hu => by obtain ⟨x, -, rfl⟩ := List.mem_map.1 hu; rfl) (by simp [hn.out, maxLen]; omega) (by simp [hn.out]; omega) (by simp) ?_; intro v' w2 hown2 hgrow2 hat2; rw [List.nil_append] at hown2)
    have hB := Lib.hid (hb9.trans ((Touch.of_grown (S := fun k => k = w.heap.size) hgrow2 (fun k e => by simpa [Value.ownBlock, eq_comm] using e)).below (by simp) (fun k hk e => by omega)))
    have hR := Lib.hid (row_rdQ hown2)
    clear hown2 hgrow2 hat2 hown hb9
    go_wp2_with fail
    go_ret
    refine ⟨_, rfl, hR.out.1, ?_, hR.out.2.2, hB.out⟩
    obtain ⟨a2, c2, e2, e3⟩ := hR.out.2.1
    rw [List.length_map] at e3
    exact ⟨a2, c2, by rw [← hn.out]; simpa using e2, by rw [← hn.out]; exact e3⟩
theorem rd_takeQ {w : World} {a : Option Addr} {m c k : Nat} {ps : List Int} (h : RdQ w (.slice a m c) ps) (hk : k ≤ m) : RdQ w (.slice a k k) (ps.take k) := by
  have hm : m = ps.length := by
    obtain ⟨a', c', e⟩ := Rd.form h
    simp only [Value.slice.injEq, List.length_map] at e
    exact e.2.1
  rcases h with ⟨h1, h2 | ⟨a', k', h2⟩⟩ | ⟨b, off, cap, e, hlt, hc⟩
  · have : ps = [] := List.map_eq_nil_iff.1 h1
    subst this
    cases h2
    obtain rfl : k = 0 := by omega
    exact .inl ⟨by simp, .inl rfl⟩
  · have : ps = [] := List.map_eq_nil_iff.1 h1
    subst this
    cases h2
    obtain rfl : k = 0 := by simpa using hk
    exact .inl ⟨by simp, .inr ⟨_, _, rfl⟩⟩
  · cases e
    have hk2 : k ≤ ps.length := by simpa using hk
    refine .inr ⟨b, off, k, by simp; omega, hlt, fun i u hu => hc i u ?_⟩
    rw [List.map_take] at hu
    rw [List.getElem?_take] at hu
    split at hu
    · exact hu
    · cases hu
/-- Empty levels in a row. -/
structure Lvs (w : World) (base : Nat) (v : Value) (bs : List Nat) : Prop where
  row : w.ownsRow base 38 1 v bs.length (bs.map (fun b => Value.map (some b)))
  maps : ∀ b ∈ bs, base ≤ b ∧ ∃ D : DataW Unit, w.ownsMap Tryd.prog 3 (plainElem Tryd.prog 39) b (size D) D ∧ Words D []
  nodup : bs.Nodup
theorem row_keptQ {w w' : World} {base n : Nat} {v : Value} {xs : List Value} {t : TypeId} {V : Nat → Prop} (h : w.ownsRow base t 1 v n xs) (hT : Touch w w' V) (hv : ∀ g, v.ownBlock = some g → ¬ V g) : w'.ownsRow base t 1 v n xs := by
  refine ⟨h.1, h.2.imp id ?_⟩
  rintro ⟨g, cap, cur, e, h1, h2, h3⟩
  exact ⟨g, cap, cur, e, h1, by rw [hT.block g (Array.getElem?_eq_some_iff.1 h2).1 (hv g (by rw [e]; rfl))]; exact h2, h3⟩
theorem Lvs.apart {w : World} {base : Nat} {v : Value} {bs : List Nat} (h : Lvs w base v bs) {b : Nat} (hb : b ∈ bs) : v.ownBlock ≠ some b := by
  intro e
  obtain ⟨-, D, ⟨es, clock, h1, -⟩, -⟩ := h.maps b hb
  rcases h.row.2 with ⟨rfl, -⟩ | ⟨g, cap, cur, rfl, -, h2, -⟩
  · cases e
  · have : g = b := by simpa [Value.ownBlock] using e
    subst this
    rw [h2] at h1
    cases h1
theorem pow_div {n j : Nat} (h : (n - 1) / 64 ^ j < 64) : n ≤ 64 ^ (j + 1) := by
  have hp : 0 < 64 ^ j := Nat.pow_pos (by decide)
  have := (Nat.div_lt_iff_lt_mul hp).1 h
  rw [Nat.pow_succ, Nat.mul_comm]
  omega
end Go.Proofs.YtcimhljnboeobaaDoor
