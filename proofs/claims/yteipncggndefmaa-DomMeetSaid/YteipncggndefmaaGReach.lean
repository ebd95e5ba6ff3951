/- graph.Reach and graph.Leads. -/
import Derived.Test.YteipncggndefmaaGWalkW
namespace Go.Proofs.Yteipncggndefmaa
open Go.RowKit Go.Maps Go.Shelf

theorem seenA_nil (n : Nat) : seenA n [] = Array.replicate n (.bool false) := by
  apply Array.ext'
  unfold seenA
  apply List.ext_getElem?
  intro i
  by_cases hi : i < n
  · simp [hi]
  · rw [List.getElem?_eq_none (by simp; omega), List.getElem?_eq_none (by simp; omega)]
theorem make_bools (n : Nat) (hn : n ≤ 100000) (w : World) : (Instr.makeSlice 34 (.int .i64 (n : Int)) (.int .i64 (n : Int))).run Try.prog w = .ok (.slice (some ⟨w.heap.size, 0, none⟩) n n) (w.alloc (.cells (seenA n []) 4)) := by
  obtain ⟨i0, hi0, hz0, hz1, hz2⟩ := info_parts infoB1
  have hb : (i0.bytes : Int) * (n : Int) ≤ 281474976710656 := by rw [hz2]; omega
  have hr := run_make (P := Try.prog) w 34 4 i0 _ Try.underlying34 hi0 hz0 .i64 .i64 n n (by omega) (by omega) hb (by omega)
  rw [hr, hz1, Nat.mul_one, Int.toNat_natCast, show (Value.bool false).cells = #[Value.bool false] from rfl, made_one, seenA_nil]
  simp

/-- Nothing is told. -/
def NoLv (_ : World) (own : Nat → Prop) (_ : List Nat) : Prop := ∀ b, ¬ own b
theorem noleaves : Leaves NoLv 35 #[] where
  enters := enters_of Try.func35 (by kernel_rfl) rfl
  lt := fun h b hb => absurd hb (h b)
  kept := fun h _ _ => h
  call := fun {w own o x} h _ => by
    show Calls Try.prog 35 #[.int .i64 x] w _
    go_enter Try.func35, Try.ntmps35
    go_wp2_with fail
    go_end0
    exact ⟨rfl, own, h, Touch.refl _ _, fun b hb => .inl hb⟩

set_option maxRecDepth 20000 in
set_option maxHeartbeats 4000000 in
theorem reach_any {w : World} {v fv : Value} {L : List (List Int)} {fl : List Int} (h : RdG w v L) (hL : L.length ≤ 100000) (hr : ∀ r ∈ L, r.length ≤ 100000) (hf : RdI w fv fl) (hfl : fl.length ≤ 1000000) :
    Calls Try.prog 21 #[v, fv] w fun e w' => ∃ S s, e = .returned (.slice (some ⟨S, 0, none⟩) L.length L.length) ∧ w'.heap[S]? = some (.cells (seenA L.length s) 4 (0, 0)) ∧ (∀ x, x ∈ s ↔ Reached L fl x) ∧ w.heap.size ≤ S ∧ Below w.heap.size w w' := by
  obtain ⟨av, c0, rfl⟩ := h.form
  obtain ⟨sF, oF, hk⟩ := Kids.total L fl [] []
  have hm := hk.reached
  have hmk := make_bools L.length hL w
  have hb0 : Below w.heap.size w (w.alloc (.cells (seenA L.length []) 4)) := (Below.refl _ _).alloc (Nat.le_refl _) _
  have hbs := heap_alloc_new w (.cells (seenA L.length []) 4)
  have hg1 : RdX (fun b => b = w.heap.size ∨ False) (w.alloc (.cells (seenA L.length []) 4)) (.slice av L.length c0) L := by
    obtain ⟨vs, a1, a2, a3, a4⟩ := h.off (U := fun b => b = w.heap.size ∨ False) (fun b e => by rcases e with e | e; omega; exact e.elim)
    exact ⟨vs, a1.below hb0, a2, a3, fun i u l hu hl => ⟨Rd.below (a4 i u l hu hl).1 hb0, (a4 i u l hu hl).2⟩⟩
  have hfo : Off (fun b => b = w.heap.size ∨ False) fv fl.length := by
    have := Rd.old (U := fun b => b = w.heap.size ∨ False) (fun b e => by rcases e with e | e; omega; exact e.elim) hf
    rwa [List.length_map] at this
  have hW := Lib.hid (walk_any noleaves (own0 := fun _ => False) hg1 rfl hL hr (Rd.below hf hb0) hfo hfl hbs (fun _ h => h) (fun h => h) (by simpa using unseen_all L.length []) hk)
  replace hm := Lib.hid hm
  clear hg1 hfo hk hbs h hf
  go_enter Try.func21, Try.ntmps21
  go_wp2_with fail
  refine hW.out.mono ?_
  rintro e w2 ⟨rfl, hS, -, hT⟩
  have hb2 : Below w.heap.size w w2 := hb0.trans (hT.below hb0.size (fun b hb e => by rcases e with e | e; omega; exact e))
  replace hS := Lib.hid hS
  clear hT hmk
  go_wp2_with fail
  go_ret
  exact ⟨w.heap.size, sF, rfl, hS.out, hm.out, Nat.le_refl _, hb2⟩

/-- Does a way lead from one to the other? -/
def leadsP (L : List (List Int)) (a b : Int) : Prop := 0 ≤ a ∧ 0 ≤ b ∧ Way L a.toNat b.toNat
theorem leads_lt {L : List (List Int)} {a b : Int} (h : leadsP L a b) : a < L.length ∧ b < L.length := by
  have := h.2.2.lt
  have := h.1
  have := h.2.1
  omega
set_option maxRecDepth 20000 in
set_option maxHeartbeats 4000000 in
theorem leads_any {w : World} {v : Value} {L : List (List Int)} {a b : Int} {q : Bool} (h : RdG w v L) (hL : L.length ≤ 100000) (hr : ∀ r ∈ L, r.length ≤ 100000) (hq : q = true ↔ leadsP L a b) :
    Calls Try.prog 18 #[v, .int .i64 a, .int .i64 b] w fun e w' => e = .returned (.bool q) ∧ Below w.heap.size w w' := by
  obtain ⟨av, c0, rfl⟩ := h.form
  have hA := Lib.hid (isnode_any (w := w) (v := .slice av L.length c0) (x := a) rfl)
  have hB := Lib.hid (isnode_any (w := w) (v := .slice av L.length c0) (x := b) rfl)
  cases ha : validI L.length a with
  | false =>
    rw [ha] at hA
    obtain rfl : q = false := by
      cases q with
      | false => rfl
      | true =>
        have h1 := hq.1 rfl
        have := leads_lt h1
        simp [validI] at ha
        have := h1.1
        omega
    clear ha hq
    go_enter Try.func18, Try.ntmps18
    go_wp2_with fail
    refine hA.out.mono ?_
    rintro e w1 ⟨rfl, rfl⟩
    go_wp2_with fail
    go_ret
    exact ⟨rfl, Below.refl _ _⟩
  | true =>
    rw [ha] at hA
    cases hb : validI L.length b with
    | false =>
      rw [hb] at hB
      obtain rfl : q = false := by
        cases q with
        | false => rfl
        | true =>
          have h1 := hq.1 rfl
          have := leads_lt h1
          simp [validI] at hb
          have := h1.2.1
          omega
      clear ha hb hq
      go_enter Try.func18, Try.ntmps18
      go_wp2_with fail
      refine hA.out.mono ?_
      rintro e w1 ⟨rfl, rfl⟩
      go_wp2_with fail
      refine hB.out.mono ?_
      rintro e w1 ⟨rfl, rfl⟩
      go_wp2_with fail
      go_ret
      exact ⟨rfl, Below.refl _ _⟩
    | true =>
      rw [hb] at hB
      have ha' : 0 ≤ a ∧ a < L.length := by simpa [validI] using ha
      have hb' : 0 ≤ b ∧ b < L.length := by simpa [validI] using hb
      obtain ⟨y, rfl⟩ : ∃ y : Nat, b = y := ⟨b.toNat, by omega⟩
      obtain ⟨x, rfl⟩ : ∃ x : Nat, a = x := ⟨a.toNat, by omega⟩
      have hyn : y < L.length := by omega
      have hb0 : Below w.heap.size w (w.alloc (.cells #[.int .i64 x] 3)) := (Below.refl _ _).alloc (Nat.le_refl _) _
      have hfd : RdI (w.alloc (.cells #[.int .i64 x] 3)) (.slice (some ⟨w.heap.size, 0, none⟩) 1 1) [(x : Int)] := Or.inr ⟨w.heap.size, 0, 1, rfl, by simp, cell_new1 _ _ _⟩
      have hR := Lib.hid (reach_any (h.below hb0) hL hr hfd (by simp))
      have hq' : ∀ s : List Nat, (∀ z, z ∈ s ↔ Reached L [(x : Int)] z) → decide (y ∈ s) = q := by
        intro s hs
        rw [Bool.eq_iff_iff, decide_eq_true_iff, hs, hq]
        unfold leadsP
        rw [Int.toNat_natCast, Int.toNat_natCast]
        constructor
        · rintro ⟨f, hf, hw⟩
          obtain rfl : f = x := Int.ofNat_inj.1 (by simpa using hf)
          exact ⟨by omega, by omega, hw⟩
        · rintro ⟨-, -, hw⟩
          exact ⟨x, List.Mem.head _, hw⟩
      replace hq' := Lib.hid hq'
      replace hb0 := Lib.hid hb0
      have i1 : (y : Int) < (L.length : Int) := by omega
      clear ha hb hq ha' hb' h hfd
      go_enter Try.func18, Try.ntmps18
      go_wp2_with fail
      refine hA.out.mono ?_
      rintro e w1 ⟨rfl, rfl⟩
      go_wp2_with fail
      refine hB.out.mono ?_
      rintro e w1 ⟨rfl, rfl⟩
      go_wp2_with fail
      refine hR.out.mono ?_
      rintro e w2 ⟨S, s, rfl, hS, hs, hlow, hb2⟩
      have hc : w2.cell? ⟨S, y, none⟩ = some (.bool q) := by rw [blk_cell hS, seenA_at hyn, hq'.out s hs]
      have hb3 := hb0.out.trans (hb2.mono hb0.out.size)
      clear hS hs
      go_wp2_with fail
      go_ret
      exact ⟨rfl, hb3⟩
end Go.Proofs.Yteipncggndefmaa
