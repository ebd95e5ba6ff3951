/- Two slices of numbers held against each other. -/
import Derived.Test.YtdpmpppafkefoaaDoorList
namespace Go.Proofs.YtdpmpppafkefoaaDoor
open Go.RowKit Go.Maps

/-- A slice that reads as these numbers. -/
abbrev RdI (w : World) (s : Value) (xs : List Int) : Prop := Rd w s (xs.map encI)

theorem same_any {a b : Value} {xs ys : List Int} {w : World} (ha : RdI w a xs) (hb : RdI w b ys) (hla : xs.length ≤ 1000000) :
    Calls Tryd.prog 11 #[a, b] w fun e w' => e = .returned (.bool (decide (xs = ys))) ∧ ∃ n, w' = w.drewN n := by
  obtain ⟨aa, ca, rfl⟩ := ha.form
  obtain ⟨ab, cb, rfl⟩ := hb.form
  rw [List.length_map, List.length_map] at *
  by_cases hl0 : xs.length = ys.length
  · have hne : ((xs.length : Int) != (ys.length : Int)) = false := by simp [hl0]
    have hl := Lib.hid hl0
    have hle : xs.length ≤ ys.length ∧ ys.length ≤ xs.length := by omega
    clear hl0
    go_enter Tryd.func11, Tryd.ntmps11
    go_wp2
    go_loopw [5] (fun i wr => ∃ j n : Nat, j ≤ xs.length ∧ i = .int .i64 j ∧ wr = w.drewN n ∧ Hid (xs.take j = ys.take j)) (fun i _ => xs.length - (intOf i).toNat)
    case atStart => exact ⟨0, 0, Nat.zero_le _, rfl, rfl, Lib.hid rfl⟩
    case round =>
      obtain ⟨j, n, hj, rfl, rfl, ht⟩ := hrel
      by_cases hlt : j < xs.length
      · have hlt' : j < ys.length := by omega
        obtain ⟨x, hx⟩ : ∃ k, xs[j]? = some k := ⟨_, List.getElem?_eq_getElem hlt⟩
        obtain ⟨y, hy⟩ : ∃ k, ys[j]? = some k := ⟨_, List.getElem?_eq_getElem hlt'⟩
        obtain ⟨p, o, cap, e, _, hc⟩ := ha.at (i := j) (u := encI x) (by simp [hx])
        obtain ⟨p', o', cap', e', _, hc'⟩ := hb.at (i := j) (u := encI y) (by simp [hy])
        unfold encI at hc hc'
        simp only [Value.slice.injEq] at e e'
        obtain ⟨rfl, -, rfl⟩ := e
        obtain ⟨rfl, -, rfl⟩ := e'
        have htx := Lib.hid (take_snoc hx)
        have hty := Lib.hid (take_snoc hy)
        have hnex0 : xs = ys → x = y := fun e => by subst e; rw [hx] at hy; exact (Option.some.inj hy)
        have hnex := Lib.hid hnex0
        clear hnex0 hx hy ha hb hle
        by_cases hxy : x = y
        · subst hxy
          go_wp2
          go_quiet (fail)
          go_wp2
          go_roundw
          case rel => exact ⟨j + 1, n + nq, by omega, by go_num, rfl, Lib.hid (by rw [htx.out, hty.out, ht.out])⟩
          case measure => simp [intOf]; omega
        · have hb : (x != y) = true := by simpa using hxy
          go_wp2
          go_quiet (fail)
          go_wp2
          go_ret
          have hf : ¬ xs = ys := fun e => hxy (hnex.out e)
          exact ⟨by simp [hf], n + nq, World.drewN_drewN _ _ _⟩
      · have : j = xs.length := by omega
        subst this
        have he : xs = ys := by
          have h1 := ht.out
          rw [List.take_length, hl.out, List.take_length] at h1
          exact h1
        clear ht hle hl
        go_wp2
        go_ret
        exact ⟨by simp [he], n, rfl⟩
  · have hne : ((xs.length : Int) != (ys.length : Int)) = true := by simp; omega
    go_enter Tryd.func11, Tryd.ntmps11
    go_wp2
    go_ret
    refine ⟨?_, 0, rfl⟩
    have : ¬ xs = ys := fun e => hl0 (by rw [e])
    simp [this]
end Go.Proofs.YtdpmpppafkefoaaDoor
