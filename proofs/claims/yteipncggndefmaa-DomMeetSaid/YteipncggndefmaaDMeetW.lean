/- dom.meeting: the closure made. -/
import Derived.Test.YteipncggndefmaaDMeet
import Derived.Test.YteipncggndefmaaGReach
namespace Go.Proofs.Yteipncggndefmaa
open Go.RowKit Go.Maps

theorem at_newD {w : World} {o : Obj} {b : Nat} (h : b = w.heap.size) : (w.alloc o).heap[b]? = some o := by
  subst h
  exact heap_alloc_new _ _
theorem at_oldD {w : World} {o : Obj} {b : Nat} {x : Obj} (h : w.heap[b]? = some x) : (w.alloc o).heap[b]? = some x := by
  have hb := (Array.getElem?_eq_some_iff.1 h).1
  simp only [World.alloc]
  rw [Array.getElem?_push, if_neg (by omega)]
  exact h
theorem make_intsD (n : Nat) (hn : n ≤ 100000) (w : World) : (Instr.makeSlice 25 (.int .i64 (n : Int)) (.int .i64 (n : Int))).run Try.prog w = .ok (.slice (some ⟨w.heap.size, 0, none⟩) n n) (w.alloc (.cells (Array.replicate n (encI 0)) 3)) := by
  obtain ⟨i0, hi0, hz0, hz1, hz2⟩ := info_parts infoI1
  have hb : (i0.bytes : Int) * (n : Int) ≤ 281474976710656 := by rw [hz2]; omega
  have hr := run_make (P := Try.prog) w 25 3 i0 _ Try.underlying25 hi0 hz0 .i64 .i64 n n (by omega) (by omega) hb (by omega)
  rw [hr, hz1, Nat.mul_one, Int.toNat_natCast, show (Value.int .i64 0).cells = #[Value.int .i64 0] from rfl, made_one]
  rfl
theorem map_set (l : List Int) (i : Nat) (x : Int) : (l.map encI).toArray.setIfInBounds i (.int .i64 x) = ((l.set i x).map encI).toArray := by
  apply Array.ext'
  simp only [Array.toList_setIfInBounds, Array.toList_setIfInBounds, List.map_set]
  rfl

/-- A row of numbers in a block of its own. -/
def Ints (w : World) (B : Nat) (l : List Int) : Prop := w.heap[B]? = some (.cells (l.map encI).toArray 3 (0, 0))
theorem Ints.set {w : World} {B : Nat} {l : List Int} (h : Ints w B l) (i : Nat) (x : Int) : Ints (w.setCell ⟨B, i, none⟩ (.int .i64 x)) B (l.set i x) := by
  unfold Ints
  rw [blk_set _ h, map_set]
theorem Ints.cell {w : World} {B : Nat} {l : List Int} (h : Ints w B l) {i : Nat} {x : Int} (hx : l[i]? = some x) : w.cell? ⟨B, i, none⟩ = some (.int .i64 x) := by
  rw [blk_cell h, List.getElem?_toArray, List.getElem?_map, hx]
  rfl
theorem Ints.frozen {w : World} {B : Nat} {l : List Int} (h : Ints w B l) (i : Nat) : w.frozen? ⟨B, i, none⟩ = false := by simp [World.frozen?, show w.heap[B]? = _ from h]
theorem Ints.lt {w : World} {B : Nat} {l : List Int} (h : Ints w B l) : B < w.heap.size := (Array.getElem?_eq_some_iff.1 h).1
theorem Ints.rd {w : World} {B : Nat} {l : List Int} (h : Ints w B l) {n : Nat} (hn : n = l.length) : RdI w (.slice (some ⟨B, 0, none⟩) n n) l := by
  subst hn
  refine .inr ⟨B, 0, l.length, by simp, h.lt, fun i u hu => ?_⟩
  rw [blk_cell h, Nat.zero_add]
  simpa using hu

/-- The places told so far. -/
def Placed (o : List Nat) (k : Nat) (pl : List Int) : Prop := ∀ p x : Nat, p < k → o[p]? = some x → pl[x]? = some (p : Int)
theorem Placed.more {o : List Nat} {k x : Nat} {pl : List Int} (h : Placed o k pl) (hn : o.Nodup) (hx : o[k]? = some x) (hl : x < pl.length) : Placed o (k + 1) (pl.set x (k : Int)) := by
  intro p y hp hy
  by_cases e : p = k
  · subst e
    obtain rfl := Option.some.inj (hx.symm.trans hy)
    rw [List.getElem?_set_self hl]
  · have hne : x ≠ y := by
      rintro rfl
      exact e ((List.getElem?_inj (List.getElem?_eq_some_iff.1 hy).1 hn).1 (hy.trans hx.symm))
    rw [List.getElem?_set_ne hne]
    exact h p y (by omega) hy

set_option maxRecDepth 20000 in
set_option maxHeartbeats 1000000 in
theorem meeting_any {w : World} {vo : Value} {TB n : Nat} {o : List Nat} (h : RdI w vo (o.map fun x : Nat => (x : Int))) (hn : n ≤ 100000) (hnd : o.Nodup) (hlt : ∀ x ∈ o, x < n) (hol : o.length ≤ 1000000) :
    Calls Try.prog 25 #[.slice (some ⟨TB, 0, none⟩) n n, vo] w fun e w' => ∃ pb tb PB pl, e = .returned (.func (.func 40) #[] #[.pointer (some ⟨pb, 0, none⟩), .pointer (some ⟨tb, 0, none⟩)]) ∧
      w'.heap[pb]? = some (.cells #[.slice (some ⟨PB, 0, none⟩) n n] 25 (0, 0)) ∧ w'.heap[tb]? = some (.cells #[.slice (some ⟨TB, 0, none⟩) n n] 25 (0, 0)) ∧ Ints w' PB pl ∧ Placed o o.length pl ∧
      w.heap.size ≤ pb ∧ w.heap.size ≤ tb ∧ w.heap.size ≤ PB ∧ Below w.heap.size w w' := by
  obtain ⟨ao, co, rfl⟩ := h.form
  rw [List.length_map, List.length_map] at h ⊢
  have hread : ∀ k : Nat, k < o.length → ∃ b off cap x, (Value.slice ao o.length co) = .slice (some ⟨b, off, none⟩) o.length cap ∧ w.cell? ⟨b, off + k, none⟩ = some (.int .i64 (x : Nat)) ∧ o[k]? = some x ∧ b < w.heap.size := by
    intro k hk
    obtain ⟨b, off, cap, e, hl, hc⟩ := Rd.at h (i := k) (u := .int .i64 (o[k] : Nat)) (by simp [hk, encI])
    rw [List.length_map, List.length_map] at e
    exact ⟨b, off, cap, o[k], e, hc, List.getElem?_eq_getElem hk, hl⟩
  obtain ⟨m, hm⟩ : ∃ m, m = o.length := ⟨_, rfl⟩
  rw [← hm] at hread h hol ⊢
  replace hread := Lib.hid hread
  replace hm := Lib.hid hm
  have hmk := fun w' => make_intsD n hn w'
  clear h
  go_enter Try.func25, Try.ntmps25
  go_wp2_with fail
  have hb3 : Below w.heap.size w (((w.alloc (.cells #[.slice (some ⟨TB, 0, none⟩) n n] 25)).alloc (.cells (Array.replicate n (encI 0)) 3)).alloc (.cells #[.slice (some ⟨w.heap.size + 1, 0, none⟩) n n] 25)) := (((Below.refl _ _).alloc (Nat.le_refl _) _).alloc (by simp) _).alloc (by simp; omega) _
  have hP : (((w.alloc (.cells #[.slice (some ⟨TB, 0, none⟩) n n] 25)).alloc (.cells (Array.replicate n (encI 0)) 3)).alloc (.cells #[.slice (some ⟨w.heap.size + 1, 0, none⟩) n n] 25)).heap[w.heap.size + 1 + 1]? = some (.cells #[.slice (some ⟨w.heap.size + 1, 0, none⟩) n n] 25 (0, 0)) := at_newD (by simp)
  have hPB : (((w.alloc (.cells #[.slice (some ⟨TB, 0, none⟩) n n] 25)).alloc (.cells (Array.replicate n (encI 0)) 3)).alloc (.cells #[.slice (some ⟨w.heap.size + 1, 0, none⟩) n n] 25)).heap[w.heap.size + 1]? = some (.cells (Array.replicate n (encI 0)) 3 (0, 0)) := at_oldD (at_newD (by simp))
  have hT : (((w.alloc (.cells #[.slice (some ⟨TB, 0, none⟩) n n] 25)).alloc (.cells (Array.replicate n (encI 0)) 3)).alloc (.cells #[.slice (some ⟨w.heap.size + 1, 0, none⟩) n n] 25)).heap[w.heap.size]? = some (.cells #[.slice (some ⟨TB, 0, none⟩) n n] 25 (0, 0)) := at_oldD (at_oldD (at_newD rfl))
  generalize hW : (((w.alloc (.cells #[.slice (some ⟨TB, 0, none⟩) n n] 25)).alloc (.cells (Array.replicate n (encI 0)) 3)).alloc (.cells #[.slice (some ⟨w.heap.size + 1, 0, none⟩) n n] 25)) = w3 at hb3 hP hPB hT ⊢
  clear hW hmk
  have hI : Ints w3 (w.heap.size + 1) (List.replicate n 0) := by
    unfold Ints
    rw [hPB]
    simp
  clear hPB
  go_loopw [6, 7, 13] (fun _ _ i wr => ∃ k : Nat, k ≤ m ∧ i = .int .i64 k ∧ (∃ pl, Ints wr (w.heap.size + 1) pl ∧ Placed o k pl ∧ pl.length = n) ∧ wr.heap[w.heap.size + 1 + 1]? = some (.cells #[.slice (some ⟨w.heap.size + 1, 0, none⟩) n n] 25 (0, 0)) ∧ wr.heap[w.heap.size]? = some (.cells #[.slice (some ⟨TB, 0, none⟩) n n] 25 (0, 0)) ∧ Below w.heap.size w wr) (fun _ _ i _ => m - (intOf i).toNat)
  case atStart => exact ⟨0, Nat.zero_le _, rfl, ⟨_, hI, fun p x h => by omega, by simp⟩, hP, hT, hb3⟩
  case round =>
    obtain ⟨k, hk, rfl, ⟨pl, hI, hpl, hlen⟩, hP, hT, hb⟩ := hrel
    by_cases hk2 : k < m
    · have j1 : decide ((k : Int) < (m : Int)) = true := by simpa using hk2
      obtain ⟨b, off, cap, x, e, hc, hx, hbl⟩ := hread.out k hk2
      simp only [Value.slice.injEq] at e
      obtain ⟨rfl, -, rfl⟩ := e
      have hxn := hlt x (List.mem_of_getElem? hx)
      have ix : (x : Int) < (n : Int) := by omega
      have ik : (k : Int) < (m : Int) := by omega
      have c1 := (hb.cell (p := ⟨b, off + k, none⟩) hbl).trans hc
      have c2 : wr.cell? ⟨w.heap.size + 1 + 1, 0, none⟩ = some (.slice (some ⟨w.heap.size + 1, 0, none⟩) n n) := by rw [blk_cell hP]; rfl
      have f2 := hI.frozen x
      have c3 := hI.cell (i := x) (List.getElem?_eq_getElem (by omega))
      have hI2 := hI.set x k
      have hp2 := hpl.more hnd hx (by omega)
      have hP2 := (Below.heap_setCell wr ⟨w.heap.size + 1, x, none⟩ (.int .i64 k) (w.heap.size + 1 + 1) (by simp)).trans hP
      have hT2 := (Below.heap_setCell wr ⟨w.heap.size + 1, x, none⟩ (.int .i64 k) w.heap.size (by simp)).trans hT
      have hb2 : Below w.heap.size w (wr.setCell ⟨w.heap.size + 1, x, none⟩ (.int .i64 k)) := hb.setCell (show w.heap.size ≤ w.heap.size + 1 by omega) _
      have hfin := Lib.hid (And.intro hI2 (And.intro hp2 (And.intro hP2 (And.intro hT2 hb2))))
      clear hI2 hp2 hP2 hT2 hb2 hI hpl hP hT hb hx
      go_wp2_with fail
      obtain ⟨a1, a2, a3, a4, a5⟩ := hfin.out
      exact ⟨⟨k + 1, by omega, by go_num, ⟨_, a1, a2, by simpa using hlen⟩, a3, a4, a5⟩, by simp [intOf]; omega⟩
    · obtain rfl : k = m := by omega
      have j1 : decide ((k : Int) < (k : Int)) = false := by simp
      have hfin := Lib.hid (And.intro hI (And.intro hpl (And.intro hP (And.intro hT hb))))
      clear hI hpl hP hT hb
      go_wp2_with fail
      go_ret
      obtain ⟨a1, a2, a3, a4, a5⟩ := hfin.out
      refine ⟨_, _, _, pl, rfl, a3, a4, a1, a2, by omega, by omega, by omega, a5⟩
end Go.Proofs.Yteipncggndefmaa
