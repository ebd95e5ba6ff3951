/- scc's leaving, walked. -/
import Derived.Test.YtedleliddhhacaaSLead
namespace Go.Proofs.Ytedleliddhhacaa
open Go.RowKit Go.Maps Go.Shelf

theorem rd_rowAny {w : World} {base : Nat} {e : TypeId} {v : Value} {n : Nat} {xs : List Value} (h : w.ownsRow base e 1 v n xs) : Rd w v xs := by
  have hn : xs.length = n := by have := h.1; omega
  rcases h.2 with ⟨rfl, h0⟩ | ⟨g, cap, cur, rfl, h1, h2, _⟩
  · have : xs = [] := List.eq_nil_of_length_eq_zero (by omega)
    subst this
    exact Or.inl ⟨rfl, Or.inl rfl⟩
  · refine Or.inr ⟨g, 0, cap, by rw [hn], (Array.getElem?_eq_some_iff.1 h2).1, fun i u hu => ?_⟩
    have := h.cells (g := g) rfl i u hu
    rw [Nat.zero_add]
    unfold Addr.add at this
    split at this
    · rename_i h; simp_all
    · simpa using this
theorem rise_lenN' {n : Int} : ∀ (r : List Int) (a : Int), r.Pairwise (· < ·) → (∀ x ∈ r, a ≤ x ∧ x < n) → (r.length : Int) ≤ max 0 (n - a)
  | [], a, _, _ => by simp; omega
  | x :: r, a, hp, hx => by
    rw [List.pairwise_cons] at hp
    have h1 := rise_lenN' r (x + 1) hp.2 (fun y hy => ⟨by have := hp.1 y hy; omega, (hx y (List.Mem.tail _ hy)).2⟩)
    have h2 := hx x (List.Mem.head _)
    simp only [List.length_cons]
    omega
theorem rise_lenN {n : Nat} {r : List Int} (hp : r.Pairwise (· < ·)) (hx : ∀ x ∈ r, 0 ≤ x ∧ x < n) : r.length ≤ n := by
  have := rise_lenN' r 0 hp hx
  omega
theorem markA_zero (n : Nat) : markA n (fun _ => 0) = Array.replicate n (.int .i64 0) := by
  apply Array.ext'
  unfold markA
  apply List.ext_getElem?
  intro i
  by_cases hi : i < n
  · simp [hi]
  · rw [List.getElem?_eq_none (by simp; omega), List.getElem?_eq_none (by simp; omega)]
theorem make_ints (n : Nat) (hn : n ≤ 100000) (w : World) : (Instr.makeSlice 45 (.int .i64 (n : Int)) (.int .i64 (n : Int))).run Try.prog w = .ok (.slice (some ⟨w.heap.size, 0, none⟩) n n) (w.alloc (.cells (markA n (fun _ => 0)) 3)) := by
  obtain ⟨i0, hi0, hz0, hz1, hz2⟩ := info_parts infoI1
  have hb : (i0.bytes : Int) * (n : Int) ≤ 281474976710656 := by rw [hz2]; omega
  have hr := run_make (P := Try.prog) w 45 3 i0 _ Try.underlying45 hi0 hz0 .i64 .i64 n n (by omega) (by omega) hb (by omega)
  rw [hr, hz1, Nat.mul_one, Int.toNat_natCast, show (Value.int .i64 0).cells = #[Value.int .i64 0] from rfl, made_one, markA_zero]
  simp
theorem markA_rd {w : World} {A n cap : Nat} {m : Nat → Int} (h : w.heap[A]? = some (.cells (markA n m) 3 (0, 0))) {l : List Int} (hl : l = (List.range n).map m) : RdI w (.slice (some ⟨A, 0, none⟩) n cap) l := by
  subst hl
  refine Or.inr ⟨A, 0, cap, by simp, (Array.getElem?_eq_some_iff.1 h).1, fun i u hu => ?_⟩
  rw [Nat.zero_add, blk_cell h]
  rw [← hu]
  unfold markA
  simp [encI, Function.comp_def]

set_option maxRecDepth 20000 in
set_option maxHeartbeats 4000000 in
theorem leaving_any {w : World} {v : Value} {G n cap : Nat} {L : List (List Int)} (hv : v = .slice (some ⟨G, 0, none⟩) n cap) (h : RdG w v (normL L)) (hn : n = L.length) (hL : L.length ≤ 90000) :
    Calls Try.prog 33 #[v] w fun e w' => ∃ rv o, e = .returned rv ∧ RdI w' rv (o.map fun x : Nat => (x : Int)) ∧ Lead L o ∧ Below w.heap.size w w' ∧ ∀ b, rv.ownBlock = some b → w.heap.size ≤ b := by
  subst hv
  have hmk := make_ints n (by omega) w
  have hb0 : Below w.heap.size w (w.alloc (.cells (markA n (fun _ => 0)) 3)) := (Below.refl _ _).alloc (Nat.le_refl _) _
  have hA0 := Lib.hid (heap_alloc_new w (.cells (markA n (fun _ => 0)) 3))
  have hG := Lib.hid h
  clear h
  generalize hw1 : (w.alloc (.cells (markA n (fun _ => 0)) 3)) = w1 at *
  have hAl : w.heap.size < w1.heap.size := by rw [← hw1]; simp
  clear hw1
  obtain ⟨A, hA⟩ : ∃ A, A = w.heap.size := ⟨_, rfl⟩
  rw [← hA] at hA0 hAl hmk
  replace hA := Lib.hid hA
  have hn90 : n ≤ 90000 := by omega
  replace hn := Lib.hid hn
  clear hL
  go_enter Try.func33, Try.ntmps33
  go_wp2_with fail
  clear hmk
  go_loopw [5, 11] (fun _ i wr => ∃ k : Nat, k ≤ n ∧ i = .int .i64 k ∧ wr.heap[A]? = some (.cells (markA n (fun x => if x < k then (x : Int) else 0)) 3 (0, 0)) ∧ Touch w1 wr (fun b => b = A)) (fun _ i _ => n - (intOf i).toNat)
  case atStart => exact ⟨0, Nat.zero_le _, rfl, by simpa using hA0.out, Touch.refl _ _⟩
  case round =>
    obtain ⟨k, hk, rfl, hAk, hT⟩ := hrel
    by_cases hlt : k < n
    · have i1 : (k : Int) < (n : Int) := by omega
      have cf : wr.frozen? ⟨A, k, none⟩ = false := by simp [World.frozen?, hAk]
      have c0 : wr.cell? ⟨A, k, none⟩ = some (.int .i64 0) := by rw [blk_cell hAk]; simp [markA_at hlt]
      have hb : (wr.setCell ⟨A, k, none⟩ (.int .i64 k)).heap[A]? = some (.cells (markA n (fun x => if x < k + 1 then (x : Int) else 0)) 3 (0, 0)) := by
        rw [blk_set _ hAk, markA_set hlt (m' := (fun x => if x < k + 1 then (x : Int) else 0))]
        · simp
        · intro x hx
          by_cases h : x < k
          · rw [if_pos (by omega), if_pos h]
          · rw [if_neg (by omega), if_neg h]
      have hT2 := hT.trans ((Touch.refl wr (fun b => b = A)).setCell (a := ⟨A, k, none⟩) (fun _ => rfl) (.int .i64 k))
      replace hb := Lib.hid hb
      replace hT2 := Lib.hid hT2
      clear hAk hT
      go_wp2_with fail
      exact ⟨⟨k + 1, by omega, by go_num, hb.out, hT2.out⟩, by simp [intOf]; omega⟩
    · obtain rfl : k = n := by omega
      have i1 : decide ((k : Int) < (k : Int)) = false := by simp
      have hall : RdI wr (.slice (some ⟨A, 0, none⟩) k k) (allI k) := markA_rd hAk (by
        unfold allI
        apply List.map_congr_left
        intro x hx
        simp [List.mem_range.1 hx])
      have hbr : Below w.heap.size w wr := hb0.trans (hT.below hb0.size (fun b hb e => by have := hA.out; omega))
      obtain ⟨vs, g1, g2, g3⟩ := hG.out.below hbr
      have hso : ∀ u ∈ vs, u.oneCell' = true := by
        intro u hu
        obtain ⟨i, hi⟩ := List.getElem?_of_mem hu
        obtain ⟨l, hl⟩ : ∃ l, (normL L)[i]? = some l := ⟨_, List.getElem?_eq_getElem (by rw [← g2]; exact (List.getElem?_eq_some_iff.1 hi).1)⟩
        obtain ⟨a, c, rfl⟩ := (g3 i u l hi hl).shape
        rfl
      have hvl : vs.length = k := by rw [g2, normL_len, hn.out]
      have hcl := Lib.hid (clone_any (cap := cap) rfl g1 hso (by omega))
      rw [hvl] at hcl
      replace g3 := Lib.hid g3
      replace g2 := Lib.hid g2
      replace hvl := Lib.hid hvl
      replace hall := Lib.hid hall
      clear hAk hT hso
      obtain ⟨i0, hi0, hz0, hz1, hz2⟩ := info_parts infoL1
      go_wp2_with fail
      refine hcl.out.mono ?_
      rintro e w3 ⟨v3, rfl, hown3, hb3⟩
      have hown3' := hown3.alloc (.cells #[.slice (some ⟨A, 0, none⟩) k k] 45)
      have hrow3 : Rd (w3.alloc (.cells #[.slice (some ⟨A, 0, none⟩) k k] 45)) (.slice (some ⟨w3.heap.size, 0, none⟩) 1 1) [.slice (some ⟨A, 0, none⟩) k k] := Or.inr ⟨w3.heap.size, 0, 1, rfl, by simp, fun i u hu => by
        match i, hu with
        | 0, hu =>
          obtain rfl := Option.some.inj hu
          rw [blk_cell (heap_alloc_new w3 _)]; rfl⟩
      obtain ⟨a3, c3, rfl⟩ := own_form hown3
      have hsz3 := hb3.size
      go_wp2_with (at_builtin; go_loud (refine wpList_append_rd _ rfl _ _ 34 rfl wr.heap.size 45 i0 (.slice none 0 0) 24 Try.underlying34 hi0 hz0 hz1 hz2 rfl _ _ _ rfl hown3' _ [.slice (some ⟨A, 0, none⟩) k k] rfl hrow3 (by simp [Value.oneCell']) (by unfold maxLen; simp <;> omega) (by simp <;> omega) (by simp; omega) ?_))
      intro v4 w4 hown4 hgrow hat
      have hbz : Below w3.heap.size w3 (w3.alloc (.cells #[.slice (some ⟨A, 0, none⟩) k k] 45)) := (Below.refl _ _).alloc (Nat.le_refl _) _
      have hT4 : Touch (w3.alloc (.cells #[.slice (some ⟨A, 0, none⟩) k k] 45)) w4 (fun b => (Value.slice a3 k c3).ownBlock = some b) := Touch.of_grown hgrow (fun k hk => hk)
      have hlt3 := hown3.lt
      have hb4 : Below wr.heap.size wr w4 := (hb3.trans (hbz.mono hsz3)).trans (hT4.below (by simp; omega) (fun b hb e => by have := (hlt3 b e).1; omega))
      have hM4 : RdG w4 v4 (normL L ++ [allI L.length]) := by
        refine ⟨vs ++ [.slice (some ⟨A, 0, none⟩) k k], rd_rowAny hown4, by simp [hvl.out, ← hn.out, normL_len], fun i u l hu hl => ?_⟩
        rcases Nat.lt_or_ge i vs.length with hi | hi
        · rw [List.getElem?_append_left hi] at hu
          rw [List.getElem?_append_left (by rw [← g2.out]; exact hi)] at hl
          exact Rd.below (g3.out i u l hu hl) hb4
        · rw [List.getElem?_append_right hi] at hu
          rw [List.getElem?_append_right (by rw [← g2.out]; exact hi), ← g2.out] at hl
          obtain ⟨j, hj⟩ : ∃ j, j = i - vs.length := ⟨_, rfl⟩
          rw [← hj] at hu hl
          cases j with
          | zero =>
            obtain rfl := Option.some.inj hu
            obtain rfl := Option.some.inj hl
            rw [← hn.out]
            exact Rd.below hall.out hb4
          | succ j => cases hu
      have hlen : (normL L ++ [allI L.length]).length ≤ 100000 := by rw [List.length_append, normL_len, ← hn.out, List.length_singleton]; omega
      have hrow : ∀ r ∈ normL L ++ [allI L.length], r.length ≤ 100000 := by
        intro r hr
        rcases List.mem_append.1 hr with h | h
        · obtain ⟨h1, h2⟩ := norm_form L r h
          have := rise_lenN h1 h2
          rw [normL_len, ← hn.out] at this
          omega
        · obtain rfl := List.mem_singleton.1 h
          simp [allI, ← hn.out]
          omega
      have hP := Lib.hid (post_any (y := (k : Int)) hM4 hlen hrow)
      clear hown4 hgrow hat hbz hT4 hlt3 hM4 hlen hrow hown3 hown3' hrow3 g3 hall hcl
      go_wp2_with fail
      refine hP.out.mono ?_
      rintro e w5 ⟨lv, o, rfl, hown5, hpo, hb5⟩
      rw [hn.out] at hpo
      obtain ⟨o1, rfl, hlead⟩ := lead_post hpo
      have hol : o1.length ≤ 90000 := by rw [hlead.len, ← hn.out]; omega
      obtain ⟨rb, c5, rfl⟩ := row_form hown5 (by simp)
      simp only [List.length_cons] at hown5
      have hr5 : RdI w5 (.slice (some ⟨rb, 1, none⟩) o1.length (c5 - 1)) (o1.map fun x : Nat => (x : Int)) := by
        refine Or.inr ⟨rb, 1, c5 - 1, by simp, (hown5.lt rb rfl).2, fun i u hu => ?_⟩
        rw [hown5.cellAt (1 + i) (by
          have := (List.getElem?_eq_some_iff.1 hu).1
          simp at this ⊢
          omega)]
        rw [Nat.add_comm, List.map_cons, List.getElem?_cons_succ]
        simpa [encI, Function.comp_def] using hu
      have hcap : o1.length + 1 ≤ c5 := by
        obtain ⟨_, ⟨e, _⟩ | ⟨g', cap', cur', e, _, _, hnc, _⟩⟩ := hown5
        · cases e
        · simp only [Value.slice.injEq] at e; omega
      have hcap1 : (1 : Int) ≤ (o1.length : Int) + 1 := by omega
      have hcap2 : (o1.length : Int) + 1 ≤ (c5 : Int) := by omega
      have hbz : Below w.heap.size w w5 := hbr.trans ((hb4.trans (hb5.mono hb4.size)).mono hbr.size)
      have hrb : w.heap.size ≤ rb := by
        have h1 := (hown5.lt rb rfl).1
        have h2 := hb4.size
        have h3 := hbr.size
        omega
      replace hr5 := Lib.hid hr5
      replace hlead := Lib.hid hlead
      clear hP hpo hown5 hb5
      go_wp2_with fail
      · have hr6 : RdI w5 (.slice (some ⟨rb, 0, none⟩) o1.length 0) (o1.map fun x : Nat => (x : Int)) := by
          obtain rfl : o1 = [] := List.eq_nil_of_length_eq_zero (by omega)
          exact Or.inl ⟨rfl, Or.inr ⟨_, 0, rfl⟩⟩
        go_ret
        exact ⟨_, rfl, o1, hr6, hlead.out, hbz, fun b e => by
          have : rb = b := Option.some.inj e
          omega⟩
      · go_ret
        exact ⟨_, rfl, o1, hr5.out, hlead.out, hbz, fun b e => by
          have : rb = b := Option.some.inj e
          omega⟩
end Go.Proofs.Ytedleliddhhacaa
