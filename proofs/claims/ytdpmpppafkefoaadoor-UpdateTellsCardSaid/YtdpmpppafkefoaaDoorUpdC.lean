/- update.Call: what a field has behind a call, over sets that lie in memory. -/
import Derived.Test.YtdpmpppafkefoaaDoorUpd
import Derived.Outline
namespace Go.Proofs.YtdpmpppafkefoaaDoor
open Go.RowKit Go.Maps

/-- An exit: whether the field is changed; the set's pointer, and what it has. -/
abbrev Ex := Bool × Option Addr × List Nat

/-- A slice that reads as these exits. -/
def RowX (w : World) (v : Value) (xs : List Ex) : Prop :=
  (xs = [] ∧ (v = .slice none 0 0 ∨ ∃ a c, v = .slice (some a) 0 c)) ∨ ∃ b off cap, v = .slice (some ⟨b, off, none⟩) xs.length cap ∧ b < w.heap.size ∧ ∀ i m p l, xs[i]? = some (m, p, l) → w.cell? ⟨b, off + i * 2, none⟩ = some (.bool m) ∧ w.cell? ⟨b, off + i * 2 + 1, none⟩ = some (.pointer p)

/-- .. and their sets are what they are told to be (the set of one that does not change the field may be anything). -/
def SetsX (w : World) (xs : List Ex) : Prop := ∀ m p l, (m, p, l) ∈ xs → m = true → ASet w (.pointer p) l

section
variable {w w1 : World} {v : Value} {xs : List Ex} {A : List Nat}

theorem RowX.form (h : RowX w v xs) : ∃ a c, v = .slice a xs.length c := by
  rcases h with ⟨rfl, rfl | ⟨a, c, rfl⟩⟩ | ⟨b, off, cap, rfl, _⟩
  · exact ⟨none, 0, rfl⟩
  · exact ⟨some a, c, rfl⟩
  · exact ⟨_, cap, rfl⟩

theorem RowX.at (h : RowX w v xs) {i : Nat} {m : Bool} {p : Option Addr} {l : List Nat} (hi : xs[i]? = some (m, p, l)) : ∃ b off cap, v = .slice (some ⟨b, off, none⟩) xs.length cap ∧ b < w.heap.size ∧ w.cell? ⟨b, off + i * 2, none⟩ = some (.bool m) ∧ w.cell? ⟨b, off + i * 2 + 1, none⟩ = some (.pointer p) := by
  rcases h with ⟨rfl, _⟩ | ⟨b, off, cap, e, hlt, hc⟩
  · simp at hi
  · exact ⟨b, off, cap, e, hlt, hc i m p l hi⟩

theorem RowX.below (h : RowX w v xs) (hb : Below w.heap.size w w1) : RowX w1 v xs := by
  refine or_map h id ?_
  rintro ⟨b, off, cap, e, hlt, hc⟩
  exact ⟨b, off, cap, e, Nat.lt_of_lt_of_le hlt hb.size, fun i m p l hi => ⟨(hb.cell (p := ⟨b, off + i * 2, none⟩) hlt).trans (hc i m p l hi).1, (hb.cell (p := ⟨b, off + i * 2 + 1, none⟩) hlt).trans (hc i m p l hi).2⟩⟩

theorem SetsX.below (h : SetsX w xs) (hb : Below w.heap.size w w1) : SetsX w1 xs := fun m p l hm ht => (h m p l hm ht).below hb

theorem New.alloc {s : Nat} {l : List Nat} (h : New w w1 s l) (o : Obj) : New w (w1.alloc o) s l := by
  obtain ⟨bm, D, S, h1, h2, h3⟩ := h
  exact ⟨bm, D, S.alloc o, h1, h2, h3.alloc h3.size o⟩

/-- What a field has behind a call. -/
def oneL (A acc : List Nat) (x : Ex) : List Nat := uni acc (if x.1 = true then x.2.2 else A)
def callL (A : List Nat) (xs : List Ex) : List Nat := xs.foldl (oneL A) []
theorem callL_snoc (A : List Nat) (xs : List Ex) (x : Ex) : callL A (xs ++ [x]) = oneL A (callL A xs) x := by simp [callL]
theorem callL_len (A : List Nat) {k : Nat} (hA : A.length ≤ k) (xs : List Ex) (hx : ∀ x ∈ xs, x.2.2.length ≤ k) : (callL A xs).length ≤ k * xs.length := by
  refine snoc_ind (Q := fun xs => (∀ x ∈ xs, x.2.2.length ≤ k) → (callL A xs).length ≤ k * xs.length) (fun _ => by simp [callL]) (fun l x ih hx => ?_) xs hx
  rw [callL_snoc]
  unfold oneL
  have h1 := ih (fun y hy => hx y (List.mem_append_left _ hy))
  have h2 := hx x (by simp)
  have h3 := uni_len (callL A l) (if x.1 = true then x.2.2 else A)
  rw [List.length_append, List.length_singleton, Nat.mul_add]
  have h4 : (if x.1 = true then x.2.2 else A).length ≤ k := by split <;> omega
  omega

set_option maxHeartbeats 1000000 in
theorem call_new {va : Value} (hA : ASet w va A) (hx : RowX w v xs) (hs : SetsX w xs) (na : A.length ≤ 1000) (nx : ∀ x ∈ xs, x.2.2.length ≤ 1000) (n : xs.length ≤ 500) :
    Calls Tryd.prog 10 #[va, v] w fun e w' => NewSet w w' e (callL A xs) := by
  have hn := Lib.hid (new_none w)
  obtain ⟨a, c, rfl⟩ := hx.form
  go_enter Tryd.func10, Tryd.ntmps10
  go_wp2_with fail
  refine hn.out.mono ?_
  clear hn
  rintro e w1 ⟨s, rfl, hN⟩
  go_wp2_with fail
  go_loopw [11] (fun i wr => ∃ j : Nat, j ≤ xs.length ∧ i = .int .i64 j ∧ New w wr s (callL A (xs.take j))) (fun i _ => xs.length - (intOf i).toNat)
  case atStart => exact ⟨0, Nat.zero_le _, rfl, hN⟩
  case round =>
    clear hN
    obtain ⟨j, hj, rfl, hN⟩ := hrel
    by_cases hlt : j < xs.length
    · obtain ⟨⟨m, p, l⟩, hxj⟩ : ∃ x, xs[j]? = some x := ⟨_, List.getElem?_eq_getElem hlt⟩
      obtain ⟨b, off, cap, e, hb, c0, c1⟩ := hx.at hxj
      simp only [Value.slice.injEq] at e
      obtain ⟨rfl, -, rfl⟩ := e
      have d0 := (hN.below.cell (p := ⟨b, off + j * 2, none⟩) hb).trans c0
      have d1 := (hN.below.cell (p := ⟨b, off + j * 2 + 1, none⟩) hb).trans c1
      clear c0 c1
      have hxm : (m, p, l) ∈ xs := List.mem_of_getElem? hxj
      have hT := hs m p l hxm
      have nT := nx (m, p, l) hxm
      have hk := callL_len A na (xs.take j) (fun x hx => nx x (List.mem_of_mem_take hx))
      have ht := Lib.hid (take_snoc hxj)
      have hlen : (xs.take j).length ≤ j := List.length_take_le _ _
      clear hx hs nx hxj hxm
      have N1 := hN.alloc (.cells #[.bool m, .pointer p] 44)
      cases m
      · go_wp2_with fail
        refine (new_union N1 hA (by omega)).mono ?_
        rintro e w2 ⟨⟨r, rfl⟩, N2⟩
        go_wp2_with fail
        go_roundw
        case rel => exact ⟨j + 1, by omega, by go_num, by rw [ht.out, callL_snoc]; exact N2⟩
        case measure => simp [intOf]; omega
      · go_wp2_with fail
        refine (new_union N1 (hT (by simp)) (by omega)).mono ?_
        rintro e w2 ⟨⟨r, rfl⟩, N2⟩
        go_wp2_with fail
        go_roundw
        case rel => exact ⟨j + 1, by omega, by go_num, by rw [ht.out, callL_snoc]; exact N2⟩
        case measure => simp [intOf]; omega
    · have : j = xs.length := by omega
      subst this
      rw [List.take_length] at hN
      go_wp2_with fail
      go_ret
      exact hN.newSet
end
end Go.Proofs.YtdpmpppafkefoaaDoor
