/- A queue as it lies in memory; Len, Taken, Waits. -/
import Derived.Test.YtcimhljnboeobaaDoorQMath
namespace Go.Proofs.YtcimhljnboeobaaDoor
open Go.RowKit Go.Maps

def encQ (x : Int) : Value := .int .i64 x
abbrev RdQ (w : World) (s : Value) (xs : List Int) : Prop := Rd w s (xs.map encQ)
/-- The block that a slice points into. -/
def pBlk (v : Value) (k : Nat) : Prop := ∃ a m c, v = .slice (some a) m c ∧ a.block = k ∧ 0 < m
/-- The blocks of a queue. -/
def QBl (qb lb : Nat) (bs : List Nat) (pv : Value) (k : Nat) : Prop := k = qb ∨ k = lb ∨ k ∈ bs ∨ pBlk pv k
/-- The queue: a struct in block qb, its levels' row in lb, their maps in bs; those that wait, rising, are l; the picks that are left ps. -/
structure QAt (w : World) (qb lb cap : Nat) (bs : List Nat) (n : Nat) (l : List Nat) (pv : Value) (ps : List Int) (taken : Nat) : Prop where
  blk : w.heap[qb]? = some (.cells #[.int .i64 n, .slice (some ⟨lb, 0, none⟩) bs.length cap, pv, .int .i64 l.length, .int .i64 taken] 35 (0, 0))
  lbl : lb < w.heap.size
  row : ∀ j b, bs[j]? = some b → w.cell? ⟨lb, j, none⟩ = some (.map (some b))
  maps : ∀ j b, bs[j]? = some b → ∃ D : DataW Unit, w.ownsMap Tryd.prog 3 (plainElem Tryd.prog 39) b (size D) D ∧ Words D (up j l)
  nodup : bs.Nodup
  qlb : qb ≠ lb
  rise : l.Pairwise (· < ·)
  lt : ∀ x ∈ l, x < n
  m1 : 1 ≤ bs.length
  m3 : bs.length ≤ 3
  nle : n ≤ 64 ^ bs.length
  pics : RdQ w pv ps
  pic : ∃ a c, pv = .slice a ps.length c ∧ ps.length ≤ c
  pne : ∀ k, pBlk pv k → k ≠ qb ∧ k ≠ lb ∧ k ∉ bs
section
variable {w w' : World} {qb lb cap n taken : Nat} {bs l : List Nat} {pv : Value} {ps : List Int}
theorem rd_keptQ {v : Value} {xs : List Value} {V : Nat → Prop} (h : Rd w v xs) (hT : Touch w w' V) (hV : ∀ k, pBlk v k → ¬ V k) : Rd w' v xs := by
  rcases h with h | ⟨b, off, c, rfl, hlt, hc⟩
  · exact .inl h
  · refine .inr ⟨b, off, c, rfl, Nat.lt_of_lt_of_le hlt hT.size, fun i u hu => ?_⟩
    rw [← hc i u hu]
    unfold World.cell?
    rw [show w'.heap[b]? = w.heap[b]? from hT.block b hlt (hV b ⟨_, _, _, rfl, rfl, by have := (List.getElem?_eq_some_iff.1 hu).1; omega⟩)]
theorem own_blockQ {D : DataW Unit} {b k : Nat} (h : w.ownsMap Tryd.prog 3 (plainElem Tryd.prog 39) b k D) (hb : w'.heap[b]? = w.heap[b]?) : w'.ownsMap Tryd.prog 3 (plainElem Tryd.prog 39) b k D := by
  obtain ⟨es, clock, h1, h2⟩ := h
  exact ⟨es, clock, hb.trans h1, h2⟩
theorem own_tightQ {D : DataW Unit} {b k : Nat} (h : w.ownsMap Tryd.prog 3 (plainElem Tryd.prog 39) b k D) : w.ownsMap Tryd.prog 3 (plainElem Tryd.prog 39) b (size D) D := by
  obtain ⟨es, clock, hb, F, hs, rfl⟩ := h
  refine ⟨es, clock, hb, F, ?_, rfl⟩
  rw [size_eq, length_sorted]
  simp
theorem QAt.qlt (Q : QAt w qb lb cap bs n l pv ps taken) : qb < w.heap.size := (Array.getElem?_eq_some_iff.1 Q.blk).1
theorem QAt.blt (Q : QAt w qb lb cap bs n l pv ps taken) {b : Nat} (h : b ∈ bs) : b < w.heap.size := by
  obtain ⟨j, hj, e⟩ := List.getElem_of_mem h
  obtain ⟨D, h1, -⟩ := Q.maps j b (by rw [List.getElem?_eq_getElem hj, e])
  exact h1.lt
theorem QAt.bne (Q : QAt w qb lb cap bs n l pv ps taken) {b : Nat} (h : b ∈ bs) : b ≠ qb ∧ b ≠ lb := by
  obtain ⟨j, hj, e⟩ := List.getElem_of_mem h
  obtain ⟨D, ⟨es, clock, h1, -⟩, -⟩ := Q.maps j b (by rw [List.getElem?_eq_getElem hj, e])
  refine ⟨fun e => ?_, fun e => ?_⟩
  · rw [e, Q.blk] at h1
    cases h1
  · have h2 := Q.row j b (by rw [List.getElem?_eq_getElem hj]; simp [*])
    unfold World.cell? at h2
    rw [← e] at h2
    simp only at h2
    rw [h1] at h2
    cases h2
theorem QAt.in (Q : QAt w qb lb cap bs n l pv ps taken) {k : Nat} (h : QBl qb lb bs pv k) : k < w.heap.size := by
  rcases h with rfl | rfl | h | ⟨a, m, c, e, rfl, h0⟩
  · exact Q.qlt
  · exact Q.lbl
  · exact Q.blt h
  · obtain ⟨a2, c2, e2, -⟩ := Q.pic
    have hm : m = ps.length := by rw [e] at e2; simp only [Value.slice.injEq] at e2; exact e2.2.1
    rcases Q.pics with ⟨h1, -⟩ | ⟨b, off, c3, e3, hlt, -⟩
    · rw [List.map_eq_nil_iff] at h1
      rw [hm, h1] at h0
      simp at h0
    · rw [e] at e3
      simp only [Value.slice.injEq, Option.some.injEq] at e3
      rw [e3.1]
      exact hlt
theorem QAt.kept {V : Nat → Prop} (Q : QAt w qb lb cap bs n l pv ps taken) (hT : Touch w w' V) (hV : ∀ k, QBl qb lb bs pv k → ¬ V k) : QAt w' qb lb cap bs n l pv ps taken where
  blk := (hT.block qb Q.qlt (hV _ (.inl rfl))).trans Q.blk
  lbl := Nat.lt_of_lt_of_le Q.lbl hT.size
  row := fun j b h => by
    rw [← Q.row j b h]
    unfold World.cell?
    rw [show w'.heap[lb]? = w.heap[lb]? from hT.block lb Q.lbl (hV _ (.inr (.inl rfl)))]
  maps := fun j b h => by
    obtain ⟨D, h1, h2⟩ := Q.maps j b h
    exact ⟨D, own_blockQ h1 (hT.block b h1.lt (hV _ (.inr (.inr (.inl (List.mem_of_getElem? h)))))), h2⟩
  nodup := Q.nodup
  qlb := Q.qlb
  rise := Q.rise
  lt := Q.lt
  m1 := Q.m1
  m3 := Q.m3
  nle := Q.nle
  pics := rd_keptQ Q.pics hT (fun k hk => hV k (.inr (.inr (.inr hk))))
  pic := Q.pic
  pne := Q.pne
theorem QAt.below (Q : QAt w qb lb cap bs n l pv ps taken) (h : Below w.heap.size w w') : QAt w' qb lb cap bs n l pv ps taken := Q.kept (Touch.of_below h (fun _ => False)) (fun _ _ h => h)
/-- Its size. -/
theorem QAt.nle3 (Q : QAt w qb lb cap bs n l pv ps taken) : n ≤ 262144 := by
  have h1 := Q.nle
  have h2 : 64 ^ bs.length ≤ 64 ^ 3 := Nat.pow_le_pow_right (by decide) Q.m3
  omega
theorem len_leQ : ∀ {l : List Nat} {n : Nat}, l.Pairwise (· < ·) → (∀ x ∈ l, x < n) → l.length ≤ n := by
  intro l n h1 h2
  have := nodup_len_le (a := l) (b := List.range n) (h1.imp (fun h => Nat.ne_of_lt h)) (fun x hx => List.mem_range.2 (h2 x hx))
  rwa [List.length_range] at this
theorem QAt.len (Q : QAt w qb lb cap bs n l pv ps taken) : l.length ≤ n := len_leQ Q.rise Q.lt
theorem zeroQU (w : World) : (zeroValue 39).run Tryd.prog w = .ok (.int .u64 0) w := by kernel_rfl
theorem lawQ : Keyed Tryd.prog 3 := int_keyed Tryd.underlying3
/-- A word of a level. -/
theorem QAt.look (Q : QAt w qb lb cap bs n l pv ps taken) {j b : Nat} (hj : bs[j]? = some b) {c k : Nat} (hb : Bit c k (up j l)) (hk : k < 9223372036854775808) : (Instr.lookup 38 (.map (some b)) (.int .i64 k) false).run Tryd.prog w = .ok (.int .u64 c) w := by
  obtain ⟨D, h0, hW⟩ := Q.maps j b hj
  obtain ⟨d, h1, h2, _⟩ := h0.lookup_int lawQ Tryd.underlying38 Tryd.underlying39 (zeroQU w) (keyOf_int_mk Tryd.underlying3 (a := (k : Int)) (WalkArith.wf_i64 (by omega)))
  have h3 := (hW.at hb).2
  have h4 : (wd c : DataW Unit) = .lit (.int .u64 d) := h3.symm.trans h2
  simp only [wd, DataW.lit.injEq, Lit.int.injEq, true_and] at h4
  rw [h1, h4]
theorem qlen_nil (w : World) : Calls Tryd.prog 9 #[.pointer none] w fun e w' => e = .returned (.int .i64 0) ∧ w' = w := by
  go_enter Tryd.func9, Tryd.ntmps9
  go_wp2
  go_ret
  exact ⟨rfl, rfl⟩
theorem qtaken_nil (w : World) : Calls Tryd.prog 10 #[.pointer none] w fun e w' => e = .returned (.int .i64 0) ∧ w' = w := by
  go_enter Tryd.func10, Tryd.ntmps10
  go_wp2
  go_ret
  exact ⟨rfl, rfl⟩
theorem qlen_any (Q : QAt w qb lb cap bs n l pv ps taken) : Calls Tryd.prog 9 #[.pointer (some ⟨qb, 0, none⟩)] w fun e w' => e = .returned (.int .i64 l.length) ∧ w' = w := by
  have c3 : w.cell? ⟨qb, 3, none⟩ = some (.int .i64 l.length) := by rw [blk_cell Q.blk]; rfl
  clear Q
  go_enter Tryd.func9, Tryd.ntmps9
  go_wp2
  go_ret
  exact ⟨rfl, rfl⟩
theorem qtaken_any (Q : QAt w qb lb cap bs n l pv ps taken) : Calls Tryd.prog 10 #[.pointer (some ⟨qb, 0, none⟩)] w fun e w' => e = .returned (.int .i64 taken) ∧ w' = w := by
  have c4 : w.cell? ⟨qb, 4, none⟩ = some (.int .i64 taken) := by rw [blk_cell Q.blk]; rfl
  clear Q
  go_enter Tryd.func10, Tryd.ntmps10
  go_wp2
  go_ret
  exact ⟨rfl, rfl⟩
theorem qwaits_nil (i : Int) (w : World) : Calls Tryd.prog 8 #[.pointer none, .int .i64 i] w fun e w' => e = .returned (.bool false) ∧ w' = w := by
  go_enter Tryd.func8, Tryd.ntmps8
  go_wp2
  go_ret
  exact ⟨rfl, rfl⟩
def waitsB (l : List Nat) (i : Int) : Bool := decide (0 ≤ i) && decide (i.toNat ∈ l)
theorem qwaits_any (Q : QAt w qb lb cap bs n l pv ps taken) (i : Int) : Calls Tryd.prog 8 #[.pointer (some ⟨qb, 0, none⟩), .int .i64 i] w fun e w' => e = .returned (.bool (waitsB l i)) ∧ w' = w := by
  have c0 : w.cell? ⟨qb, 0, none⟩ = some (.int .i64 n) := by rw [blk_cell Q.blk]; rfl
  have c1 : w.cell? ⟨qb, 1, none⟩ = some (.slice (some ⟨lb, 0, none⟩) bs.length cap) := by rw [blk_cell Q.blk]; rfl
  have hnle := Q.nle3
  by_cases h0 : i < 0
  · have hd : decide (i ≥ 0) = false := by simp; omega
    have hr : waitsB l i = false := by simp [waitsB]; omega
    rw [hr]
    clear hr Q
    go_enter Tryd.func8, Tryd.ntmps8
    go_wp2
    go_ret
    exact ⟨rfl, rfl⟩
  have hd : decide (i ≥ 0) = true := by simp; omega
  obtain ⟨x, rfl⟩ : ∃ x : Nat, i = x := ⟨i.toNat, by omega⟩
  by_cases hx : x < n
  case neg =>
    have hd2 : decide ((x : Int) < (n : Int)) = false := by simp; omega
    have hr : waitsB l x = false := by
      simp [waitsB]
      intro h
      exact hx (Q.lt x h)
    rw [hr]
    clear hr Q
    go_enter Tryd.func8, Tryd.ntmps8
    go_wp2
    go_ret
    exact ⟨rfl, rfl⟩
  have hd2 : decide ((x : Int) < (n : Int)) = true := by simp; omega
  obtain ⟨b, hb0⟩ : ∃ b, bs[0]? = some b := ⟨_, List.getElem?_eq_getElem (by have := Q.m1; omega)⟩
  have c2 : w.cell? ⟨lb, 0, none⟩ = some (.map (some b)) := Q.row 0 b hb0
  obtain ⟨m, hm⟩ : ∃ m, m = bs.length := ⟨_, rfl⟩
  have hm1 := Q.m1
  rw [← hm] at c1 hm1
  have hm0 : (0 : Int) < (m : Int) := by omega
  have hbit := wordQ_bit (up 0 l) (x / 64)
  have hl := Q.look hb0 hbit (by omega)
  generalize wordQ (up 0 l) (x / 64) = c at hbit hl
  rw [Int.natCast_ediv, show ((64 : Nat) : Int) = 64 from rfl] at hl
  have hq : (bits BinOp.and IntKind.u64 ((c : Int) / 2 ^ (x % 64)) 1 == 1) = waitsB l x := by
    have h1 : (c : Int) / 2 ^ (x % 64) = ((c / 2 ^ (x % 64) : Nat) : Int) := by simp
    have h2 := hbit.1
    have h3 : c / 2 ^ (x % 64) < 18446744073709551616 := Nat.lt_of_le_of_lt (Nat.div_le_self _ _) h2
    have h4 := hbit.2 (x % 64) (by omega)
    rw [Nat.div_add_mod, up_zero, Nat.testBit_eq_decide_div_mod_eq, decide_eq_true_iff] at h4
    rw [h1, show (1 : Int) = ((1 : Nat) : Int) from rfl, and_nat h3 (by decide), nat_mask1, Bool.eq_iff_iff, beq_iff_eq, waitsB]
    simp only [Int.toNat_natCast, Bool.and_eq_true, decide_eq_true_iff, ← h4]
    omega
  clear hbit Q
  go_enter Tryd.func8, Tryd.ntmps8
  go_wp2
  go_ret
  exact ⟨rfl, rfl⟩
end
end Go.Proofs.YtcimhljnboeobaaDoor
