/- The walks of a table keyed by strings: Clone, Keys; two slices of strings held against each other. -/
import Derived.Test.YtdeoclapamknfaaStrB
import Derived.Deep.QuietTactic
import Derived.BigQuiet
namespace Go.Proofs.Ytdeoclapamknfaa
open Go.RowKit Go.Maps Go.WideMaps Go.WideShapes

namespace Str
theorem flat_map (ks : List ByteArray) : ks.flatMap flat = ks.map Value.string := by
  induction ks with
  | nil => rfl
  | cons x r ih => rw [List.flatMap_cons, ih]; rfl

theorem toList_ne {a b : ByteArray} (h : ¬ a = b) : (a.toList == b.toList) = false := by
  rw [beq_eq_false_iff_ne]
  intro e
  rw [ByteArray.toList_eq, ByteArray.toList_eq] at e
  exact h (bytes_inj e)

theorem clone_nil (w : World) : Calls Try.prog 32 #[.slice none 0 0] w fun e w' => e = .returned (.slice none 0 0) ∧ w = w' := by
  have hq := fun (w : World) (a : Option Addr) (n c n' c' : Nat) => Lib.run_eql_slice_nil (P := Try.prog) w 22 9 a n c n' c' Try.underlying22
  go_enter Try.func32, Try.ntmps32
  go_wp2
  go_ret
  exact ⟨rfl, rfl⟩

/-- A new slice that holds the cells xs. -/
def Cloned (w w' : World) (v : Value) (xs : List Value) : Prop := w'.ownsRow w.heap.size 9 1 v xs.length xs ∧ Below w.heap.size w w'

theorem clone_some {b off cap : Nat} {xs : List Value} {w : World} (hlt : b < w.heap.size) (hc : ∀ i u, xs[i]? = some u → w.cell? ⟨b, off + i, none⟩ = some u) (h1 : ∀ u ∈ xs, u.oneCell' = true) (hlen : xs.length ≤ 1000000) :
    Calls Try.prog 32 #[.slice (some ⟨b, off, none⟩) xs.length cap] w fun e w' => ∃ v, e = .returned v ∧ Cloned w w' v xs := by
  obtain ⟨i0, hi0, hz0, hz1, hz2⟩ := info_parts infoK
  have hq := fun (w : World) (a : Option Addr) (n c n' c' : Nat) => Lib.run_eql_slice_nil (P := Try.prog) w 22 9 a n c n' c' Try.underlying22
  go_enter Try.func32, Try.ntmps32
  go_wp2_with (at_builtin; refine wpList_append_own_at _ rfl _ _ 22 rfl w.heap.size 9 i0 (.string ⟨#[]⟩) 1 16 Try.underlying22 hi0 hz0 hz1 hz2 rfl (by decide) _ 0 [] rfl ?c0 ⟨b, off, none⟩ xs.length cap xs rfl (by simp) ?c1 ?c2 ?c3 ?c4 ?c5 ?_)
  case c0 => exact World.ownsRow_made w #[] 0 (Nat.le_refl _) (Nat.zero_le _) rfl
  case c1 =>
    intro j u hj
    have e : (⟨b, off, none⟩ : Addr).add j = ⟨b, off + j, none⟩ := by
      unfold Addr.add
      split <;> simp_all
    rw [e, World.cell?_alloc_past _ _ _ hlt]
    exact hc j u hj
  case c2 => exact h1
  case c3 => unfold maxLen; omega
  case c4 => omega
  case c5 => simp
  intro v' w1 hown hg _ _
  go_wp2
  go_ret
  refine ⟨_, rfl, hown, ((Below.refl _ _).alloc (Nat.le_refl _) _).grown hg (by simp) (fun k hk => ?_)⟩
  simp [Value.ownBlock] at hk
  omega

theorem keys_nil (w : World) : Calls Try.prog 16 #[.pointer none] w fun e w' => e = .returned (.slice none 0 0) ∧ w = w' := by
  go_enter Try.func16, Try.ntmps16
  go_wp2
  go_ret
  exact ⟨rfl, rfl⟩

theorem keys_any {A B sb bm : Nat} {v : Value} {ks : List ByteArray} {w : World} (T : TS A B w sb bm v ks) (hlen : ks.length ≤ 1000000) :
    Calls Try.prog 16 #[.pointer (some ⟨sb, 0, none⟩)] w fun e w' => ∃ v, e = .returned v ∧ Cloned w w' v (ks.map Value.string) := by
  have c1 := T.c1
  rcases T.row.2 with ⟨rfl, h⟩ | ⟨g, cap, cur, rfl, _⟩
  · have hk : ks = [] := List.eq_nil_of_length_eq_zero h
    subst hk
    go_enter Try.func16, Try.ntmps16
    go_wp2_with (go_at_call 32; refine (clone_nil _).mono ?_; rintro e w' ⟨rfl, rfl⟩)
    go_ret
    exact ⟨_, rfl, World.ownsRow_nil _ _ _ _, Below.refl _ _⟩
  · have hg : g < w.heap.size := (T.row.lt g rfl).2
    have hc := clone_some (b := g) (off := 0) (cap := cap) (xs := ks.map Value.string) (w := w) hg (fun i u hu => by
      have := T.row.cells (g := g) rfl i u (by rw [flat_map]; exact hu)
      rw [add0] at this
      rw [Nat.zero_add]
      exact this) (fun u hu => by obtain ⟨s, _, rfl⟩ := List.mem_map.1 hu; rfl) (by simpa using hlen)
    rw [List.length_map] at hc
    replace hc := Lib.hid hc
    clear T
    go_enter Try.func16, Try.ntmps16
    go_wp2_with (go_at_call 32; refine hc.out.mono ?_; rintro e w' ⟨v', rfl, hcl⟩)
    go_ret
    exact ⟨_, rfl, hcl⟩

theorem same_any {a b : Value} {xs ys : List ByteArray} {w : World} (ha : Rd w a (xs.map Value.string)) (hb : Rd w b (ys.map Value.string)) (hla : xs.length ≤ 1000000) :
    Calls Try.prog 18 #[a, b] w fun e w' => e = .returned (.bool (decide (xs = ys))) ∧ ∃ n, w' = w.drewN n := by
  obtain ⟨aa, ca, rfl⟩ := ha.form
  obtain ⟨ab, cb, rfl⟩ := hb.form
  rw [List.length_map, List.length_map] at *
  by_cases hl0 : xs.length = ys.length
  · have hne : ((xs.length : Int) != (ys.length : Int)) = false := by simp [hl0]
    have hl := Lib.hid hl0
    have hle : xs.length ≤ ys.length ∧ ys.length ≤ xs.length := by omega
    clear hl0
    go_enter Try.func18, Try.ntmps18
    go_wp2
    go_loopw [5] (fun i wr => ∃ j n : Nat, j ≤ xs.length ∧ i = .int .i64 j ∧ wr = w.drewN n ∧ Hid (xs.take j = ys.take j)) (fun i _ => xs.length - (intOf i).toNat)
    case atStart => exact ⟨0, 0, Nat.zero_le _, rfl, rfl, Lib.hid rfl⟩
    case round =>
      obtain ⟨j, n, hj, rfl, rfl, ht⟩ := hrel
      by_cases hlt : j < xs.length
      · have hlt' : j < ys.length := by omega
        obtain ⟨x, hx⟩ : ∃ k, xs[j]? = some k := ⟨_, List.getElem?_eq_getElem hlt⟩
        obtain ⟨y, hy⟩ : ∃ k, ys[j]? = some k := ⟨_, List.getElem?_eq_getElem hlt'⟩
        obtain ⟨p, o, cap, e, _, hc⟩ := ha.at (i := j) (u := .string x) (by simp [hx])
        obtain ⟨p', o', cap', e', _, hc'⟩ := hb.at (i := j) (u := .string y) (by simp [hy])
        simp only [Value.slice.injEq] at e e'
        obtain ⟨rfl, -, rfl⟩ := e
        obtain ⟨rfl, -, rfl⟩ := e'
        have htx := Lib.hid (take_snoc hx)
        have hty := Lib.hid (take_snoc hy)
        have hnex0 : xs = ys → x = y := fun e => by subst e; rw [hx] at hy; exact (Option.some.inj hy)
        have hnex := Lib.hid hnex0
        clear hnex0 hx hy ha hb hle
        by_cases hxy : x = y
        · subst hxy
          go_wp2
          go_quiet (fail)
          go_wp2
          go_roundw
          case rel => exact ⟨j + 1, n + nq, by omega, by go_num, rfl, Lib.hid (by rw [htx.out, hty.out, ht.out])⟩
          case measure => simp [intOf]; omega
        · have hb := toList_ne hxy
          go_wp2
          go_quiet (fail)
          go_wp2
          go_ret
          have hf : ¬ xs = ys := fun e => hxy (hnex.out e)
          exact ⟨by simp [hf], n + nq, World.drewN_drewN _ _ _⟩
      · have : j = xs.length := by omega
        subst this
        have he : xs = ys := by
          have h1 := ht.out
          rw [List.take_length, hl.out, List.take_length] at h1
          exact h1
        clear ht hle hl
        go_wp2
        go_ret
        exact ⟨by simp [he], n, rfl⟩
  · have hne : ((xs.length : Int) != (ys.length : Int)) = true := by simp; omega
    go_enter Try.func18, Try.ntmps18
    go_wp2
    go_ret
    refine ⟨?_, 0, rfl⟩
    have : ¬ xs = ys := fun e => hl0 (by rw [e])
    simp [this]
end Str
end Go.Proofs.Ytdeoclapamknfaa
