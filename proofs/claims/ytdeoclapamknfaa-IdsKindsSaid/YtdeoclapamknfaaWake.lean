/- A table that is known. -/
import Derived.Test.YtdeoclapamknfaaStrC
namespace Go.Proofs.Ytdeoclapamknfaa
open Go.RowKit Go.Maps Go.WideMaps

namespace Str
def ka : ByteArray := ⟨#[97]⟩
def kb : ByteArray := ⟨#[98]⟩
def kc : ByteArray := ⟨#[99]⟩
theorem keys_aba : keysOf [ka, kb, ka] = [ka, kb] := by decide +kernel
theorem c_new : kc ∉ [ka, kb] := by simp [ka, kb, kc]

theorem rd_three (w : World) (x y z : ByteArray) (t : TypeId) : Rd (w.alloc (.cells #[.string x, .string y, .string z] t)) (.slice (some ⟨w.heap.size, 0, none⟩) 3 3) ([x, y, z].map Value.string) := by
  refine Or.inr ⟨w.heap.size, 0, 3, rfl, by simp, fun i u hu => ?_⟩
  rw [Nat.zero_add, World.cell?_alloc_new]
  match i, hu with
  | 0, hu => simpa using hu
  | 1, hu => simpa using hu
  | 2, hu => simpa using hu

theorem rd_cloned {w w' : World} {v : Value} {ks : List ByteArray} (h : Cloned w w' v (ks.map Value.string)) : Rd w' v (ks.map Value.string) := by
  obtain ⟨hr, hb⟩ := h
  rw [List.length_map] at hr
  rcases hr.2 with ⟨rfl, h0⟩ | ⟨g, cap, cur, rfl, h1, h2, _⟩
  · have : ks = [] := List.eq_nil_of_length_eq_zero h0
    subst this
    exact Or.inl ⟨rfl, Or.inl rfl⟩
  · refine Or.inr ⟨g, 0, cap, by simp, (Array.getElem?_eq_some_iff.1 h2).1, fun i u hu => ?_⟩
    have := hr.cells (g := g) rfl i u hu
    rwa [add0, ← Nat.zero_add i] at this

theorem made3 (w : World) : Calls Try.prog 9 #[.slice (some ⟨w.heap.size, 0, none⟩) 3 3] (w.alloc (.cells #[.string ⟨#[97]⟩, .string ⟨#[98]⟩, .string ⟨#[97]⟩] 9)) fun e w' =>
    e = .returned (.pointer (some ⟨w.heap.size + 2, 0, none⟩)) ∧ ∃ v, TS (w.heap.size + 1) (w.heap.size + 3) w' (w.heap.size + 2) (w.heap.size + 1) v [ka, kb] ∧ Below w.heap.size w w' := by
  have h := new_any (ss := [ka, kb, ka]) (rd_three w ka kb ka 9) (fun k hk => by
    have : k.size = 1 := by simp at hk; rcases hk with rfl | rfl | rfl <;> rfl
    rw [this]; decide) (by decide)
  rw [keys_aba, World.size_alloc] at h
  refine h.mono ?_
  rintro e w1 ⟨rfl, v1, T1, hb1⟩
  exact ⟨rfl, v1, T1, ((Below.refl w.heap.size w).alloc (Nat.le_refl _) _).trans (hb1.mono (by omega))⟩

theorem same3 {a b : Value} {w : World} (ha : Rd w a ([ka, kb, kc].map Value.string)) (hb : Rd w b ([ka, kb, kc].map Value.string)) :
    Calls Try.prog 18 #[a, b] w fun e w' => e = .returned (.bool true) ∧ ∃ n, w' = w.drewN n := by
  refine (same_any ha hb (by decide)).mono ?_
  rintro e w' ⟨rfl, h⟩
  exact ⟨by simp, h⟩

set_option maxHeartbeats 400000 in
theorem wakes_any (w : World) : Calls Try.prog 8 #[] w fun e w' => e = .returned (.bool true) ∧ Below w.heap.size w w' := by
  have hkb : (kb.toList == [98]) = true := by rw [ByteArray.toList_eq]; rfl
  go_enter Try.func8, Try.ntmps8
  go_wp2_with fail
  refine (made3 w).mono ?_
  rintro e w1 ⟨rfl, v1, T1, hb1⟩
  replace hb1 := Lib.hid hb1
  go_wp2_with fail
  refine (key_hit T1 (i := 1) (k := kb) rfl (by decide)).mono ?_
  rintro e w2 ⟨rfl, rfl⟩
  go_wp2_with fail
  refine (len_any T1).mono ?_
  rintro e w2 ⟨rfl, rfl⟩
  go_wp2_with fail
  refine (id_new T1 (k := kc) (by decide) c_new (by decide)).mono ?_
  rintro e w2 ⟨rfl, v2, T2, ht2, _⟩
  have hb2 : Below w.heap.size w w2 := hb1.out.trans (ht2.below (Nat.le_trans (by omega) T1.top) (fun x hx ho => by have := T1.low x ho; omega))
  have T2 : TS (w.heap.size + 1) (w.heap.size + 3) w2 (w.heap.size + 2) (w.heap.size + 1) v2 [ka, kb, kc] := T2
  replace hb2 := Lib.hid hb2
  clear ht2 T1 hb1
  go_wp2_with fail
  refine (id_hit T2 (k := kb) (i := 1) (by decide) rfl).mono ?_
  rintro e w3 ⟨rfl, rfl⟩
  go_wp2_with fail
  refine (keys_any T2 (by decide)).mono ?_
  rintro e w3 ⟨v3, rfl, hcl⟩
  have hb3 : Below w.heap.size w w3 := hb2.out.trans (hcl.2.mono hb2.out.size)
  replace hb3 := Lib.hid hb3
  have hv3 := rd_cloned hcl
  clear hb2 T2 hcl
  go_wp2_with fail
  refine (same3 (hv3.below ((Below.refl _ _).alloc (Nat.le_refl _) _)) (rd_three w3 ka kb kc 9)).mono ?_
  rintro e w4 ⟨rfl, n, rfl⟩
  go_wp2_with fail
  go_ret
  exact ⟨rfl, (hb3.out.alloc hb3.out.size _).trans ⟨rfl, rfl, rfl, Nat.le_refl _, fun _ _ => rfl⟩⟩
end Str
end Go.Proofs.Ytdeoclapamknfaa
