/- dom.meeting's closure: where two nodes' ways up the tree meet. -/
import Derived.Test.YteipncggndefmaaDDom
namespace Go.Proofs.Yteipncggndefmaa
open Go.RowKit Go.Maps

theorem idx_of {o : List Nat} {k x : Nat} (hn : o.Nodup) (h : o[k]? = some x) : o.idxOf x = k := by
  obtain ⟨hk, rfl⟩ := List.getElem?_eq_some_iff.1 h
  exact hn.idxOf_getElem k hk

/-- What the closure reads: the tree, and each node's place. -/
structure Env (w : World) (pb tb PB TB n K : Nat) (o : List Nat) (T : Nat → Nat) (pl t : List Int) : Prop where
  pbox : w.heap[pb]? = some (.cells #[.slice (some ⟨PB, 0, none⟩) n n] 25 (0, 0))
  tbox : w.heap[tb]? = some (.cells #[.slice (some ⟨TB, 0, none⟩) n n] 25 (0, 0))
  prow : w.heap[PB]? = some (.cells (pl.map encI).toArray 3 (0, 0))
  trow : w.heap[TB]? = some (.cells (t.map encI).toArray 3 (0, 0))
  place : ∀ p x : Nat, o[p]? = some x → pl[x]? = some (p : Int)
  tree : TreeK n K o T t
  nodup : o.Nodup
  down : Down T
  known : K ≤ o.length
  lt : ∀ x ∈ o, x < n
section
variable {w : World} {pb tb PB TB n K : Nat} {o : List Nat} {T : Nat → Nat} {pl t : List Int}
theorem Env.drewN (E : Env w pb tb PB TB n K o T pl t) (m : Nat) : Env (w.drewN m) pb tb PB TB n K o T pl t :=
  ⟨E.pbox, E.tbox, E.prow, E.trow, E.place, E.tree, E.nodup, E.down, E.known, E.lt⟩

set_option maxRecDepth 20000 in
theorem meet_far (E : Env w pb tb PB TB n K o T pl t) {a : Int} : Calls Try.prog 40 #[.int .i64 a, .int .i64 (-2), .pointer (some ⟨pb, 0, none⟩), .pointer (some ⟨tb, 0, none⟩)] w fun e w' => e = .returned (.int .i64 a) ∧ w' = w := by
  clear E
  go_enter Try.func40, Try.ntmps40
  go_wp2_with fail
  go_ret
  exact ⟨rfl, rfl⟩

def placeV (o : List Nat) (v : Value) : Nat := o.idxOf (intOf v).toNat
set_option maxRecDepth 20000 in
theorem meet_any (E : Env w pb tb PB TB n K o T pl t) {x0 q0 a b : Nat} (hx0 : o[x0]? = some a) (hq0 : o[q0]? = some b) (hxK : x0 < K) (hqK : q0 < K) (hn : n ≤ 1000000) :
    Calls Try.prog 40 #[.int .i64 a, .int .i64 b, .pointer (some ⟨pb, 0, none⟩), .pointer (some ⟨tb, 0, none⟩)] w fun e w' => ∃ c z m : Nat, e = .returned (.int .i64 z) ∧ o[c]? = some z ∧ c < K ∧ Meet T x0 q0 c ∧ w' = w.drewN m := by
  have hpb : w.cell? ⟨pb, 0, none⟩ = some (.slice (some ⟨PB, 0, none⟩) n n) := by rw [blk_cell E.pbox]; rfl
  have htb : w.cell? ⟨tb, 0, none⟩ = some (.slice (some ⟨TB, 0, none⟩) n n) := by rw [blk_cell E.tbox]; rfl
  have hpl : ∀ p x : Nat, o[p]? = some x → w.cell? ⟨PB, x, none⟩ = some (.int .i64 p) := fun p x h => by
    rw [blk_cell E.prow, List.getElem?_toArray, List.getElem?_map, E.place p x h]
    rfl
  have htr : ∀ (x : Nat) (z : Int), t[x]? = some z → w.cell? ⟨TB, x, none⟩ = some (.int .i64 z) := fun x z h => by
    rw [blk_cell E.trow, List.getElem?_toArray, List.getElem?_map, h]
    rfl
  have hlt : ∀ p x : Nat, o[p]? = some x → x < n := fun p x h => E.lt x (List.mem_of_getElem? h)
  have d1 : (((b : Nat) : Int) == -2) = false := by simp
  replace hpl := Lib.hid hpl
  replace htr := Lib.hid htr
  replace hlt := Lib.hid hlt
  replace E := Lib.hid E
  go_enter Try.func40, Try.ntmps40
  go_wp2_with fail
  go_loopw [0, 1] (fun va vb wr => ∃ x q m a b : Nat, va = .int .i64 a ∧ vb = .int .i64 b ∧ o[x]? = some a ∧ o[q]? = some b ∧ x < K ∧ q < K ∧ (∀ c, Meet T x q c → Meet T x0 q0 c) ∧ wr = w.drewN m) (fun va vb _ => placeV o va + placeV o vb)
  case atStart => exact ⟨x0, q0, 0, a, b, rfl, rfl, hx0, hq0, hxK, hqK, fun _ h => h, rfl⟩
  case round =>
    clear hx0 hq0 hxK hqK d1
    obtain ⟨x, q, m, a, b, rfl, rfl, hx, hq, hxK, hqK, hM, rfl⟩ := hrel
    have ha := hlt.out x a hx
    have hb := hlt.out q b hq
    have hnd := E.out.nodup
    have ia : (a : Int) < (n : Int) := by omega
    have ib : (b : Int) < (n : Int) := by omega
    by_cases e : a = b
    · subst e
      obtain rfl : x = q := (List.getElem?_inj (List.getElem?_eq_some_iff.1 hx).1 hnd).1 (hx.trans hq.symm)
      have j1 : (((a : Nat) : Int) != (a : Int)) = false := by simp
      have hfin := Lib.hid (hM x (Meet.self T x))
      clear hM
      go_wp2_with fail
      go_ret
      exact ⟨x, a, m, rfl, hx, hxK, hfin.out, rfl⟩
    · have j1 : (((a : Nat) : Int) != (b : Int)) = true := by simp; omega
      have hne : x ≠ q := fun e' => e (by subst e'; exact Option.some.inj (hx.symm.trans hq))
      have ca := hpl.out x a hx
      have cb := hpl.out q b hq
      replace hnd := Lib.hid hnd
      replace e := Lib.hid e
      by_cases hlt2 : x < q
      · have j2 : decide ((x : Int) < (q : Int)) = true := by simpa using hlt2
        have hT := E.out.down q (by omega)
        obtain ⟨z, hz⟩ : ∃ z, o[T q]? = some z := ⟨_, List.getElem?_eq_getElem (by have := E.out.known; omega)⟩
        have ct := htr.out b z (E.out.tree.at' q b z hq (by omega) hqK hz)
        have hfin := Lib.hid (fun c (h : Meet T (T q) x c) => hM c (Meet.swap (Meet.step E.out.down h hlt2)))
        clear hM
        go_wp2_with fail
        go_quiet (fail)
        go_wp2_with fail
        refine ⟨⟨T q, x, m + nq, z, a, rfl, rfl, hz, hx, by omega, hxK, hfin.out, by first | rfl | exact World.drewN_drewN _ _ _⟩, ?_⟩
        simp only [placeV, intOf, Int.toNat_natCast]
        rw [idx_of hnd.out hz, idx_of hnd.out hx, idx_of hnd.out hq]
        omega
      · have j2 : decide ((x : Int) < (q : Int)) = false := by simpa using hlt2
        have hgt : q < x := by omega
        have hT := E.out.down x (by omega)
        obtain ⟨z, hz⟩ : ∃ z, o[T x]? = some z := ⟨_, List.getElem?_eq_getElem (by have := E.out.known; omega)⟩
        have ct := htr.out a z (E.out.tree.at' x a z hx (by omega) hxK hz)
        have hfin := Lib.hid (fun c (h : Meet T (T x) q c) => hM c (Meet.step E.out.down h hgt))
        clear hM
        go_wp2_with fail
        go_quiet (fail)
        go_wp2_with fail
        refine ⟨⟨T x, q, m + nq, z, b, rfl, rfl, hz, hq, by omega, hqK, hfin.out, by first | rfl | exact World.drewN_drewN _ _ _⟩, ?_⟩
        simp only [placeV, intOf, Int.toNat_natCast]
        rw [idx_of hnd.out hz, idx_of hnd.out hx, idx_of hnd.out hq]
        omega
end
end Go.Proofs.Yteipncggndefmaa
