/- Load and Store. -/
import Derived.Test.YtaidjamcjinooaaAt
import Derived.Shelf.Abstract
namespace Go.Proofs.Ytaidjamcjinooaa
open Go.RowKit

section
variable {A B : Nat} {w : World} {hb : Nat} {v : Value} {os : List Ob} {room : Int}

theorem flat_len {α : Type} (f : α → List Value) (n : Nat) (hf : ∀ x, (f x).length = n) : ∀ l : List α, (l.flatMap f).length = l.length * n
  | [] => by simp
  | x :: r => by rw [List.flatMap_cons, List.length_append, hf, flat_len f n hf r, List.length_cons, Nat.add_mul]; omega

/-- One of them written anew. -/
theorem flat_set (vals : List V3) (u : V3) : ∀ n, n < vals.length → (((vals.flatMap vcells).set (n * 3) (.int .u8 u.1)).set (n * 3 + 1) (.int .i64 u.2.1)).set (n * 3 + 2) (.int .i64 u.2.2) = (vals.set n u).flatMap vcells := by
  induction vals with
  | nil => intro n h; simp at h
  | cons x r ih =>
    intro n h
    cases n with
    | zero => simp [vcells]
    | succ n =>
      have e : (n + 1) * 3 = n * 3 + 3 := by omega
      have := ih n (by simpa using h)
      rw [e]
      simp [vcells, ← this]

theorem alloc_blk {w : World} {b : Nat} {x : Obj} (h : w.heap[b]? = some x) (o : Obj) : (w.alloc o).heap[b]? = some x := by
  exact (((Below.refl w.heap.size w).alloc (Nat.le_refl _) o).block b (Array.getElem?_eq_some_iff.1 h).1).trans h

def box (w : World) (b : Nat) (p : V3) : Prop := w.heap[b]? = some (.cells #[.int .u8 p.1, .int .i64 p.2.1, .int .i64 p.2.2] 24 (0, 0))

theorem touch_set {w w' : World} {g : Nat} (h : Touch w w' (· = g)) (i : Nat) (u : Value) : Touch w (w'.setCell ⟨g, i, none⟩ u) (· = g) := h.setCell (fun _ => rfl) u
theorem touch3 (g n : Nat) (a b c : Int) (o : Obj) : Touch w ((((w.setCell ⟨g, n * 3, none⟩ (.int .u8 a)).setCell ⟨g, n * 3 + 1, none⟩ (.int .i64 b)).setCell ⟨g, n * 3 + 2, none⟩ (.int .i64 c)).alloc o) (· = g) :=
  (touch_set (touch_set (touch_set (Touch.refl w _) _ _) _ _) _ _).alloc o
theorem touch3' (g : Nat) (a b c : Int) (o : Obj) : Touch w ((((w.setCell ⟨g, 0, none⟩ (.int .u8 a)).setCell ⟨g, 1, none⟩ (.int .i64 b)).setCell ⟨g, 2, none⟩ (.int .i64 c)).alloc o) (· = g) :=
  (touch_set (touch_set (touch_set (Touch.refl w _) _ _) _ _) _ _).alloc o

theorem store1 {g n : Nat} {vals : List V3} {cs : Array Value} (hg : w.heap[g]? = some (.cells cs 24 (0, 0))) (hcs : cs.toList = vals.flatMap vcells) (hn : n < vals.length) (base : Int)
    {cv cp : Nat} {u p : V3} (hv : box w cv u) (hp : box w cp p) (hpn : p.2.2 = n) (hgv : cv ≠ g) (hgp : cp ≠ g) :
    Calls Try.prog 14 (#[.agg #[.slice (some ⟨g, 0, none⟩) vals.length vals.length, .int .i64 base]] ++ #[.pointer (some ⟨cv, 0, none⟩), .pointer (some ⟨cp, 0, none⟩)]) w fun e w' =>
      ∃ r, e = .returned (.int .u8 r) ∧ r = 0 ∧ Touch w w' (· = g) ∧ ∃ cs', w'.heap[g]? = some (.cells cs' 24 (0, 0)) ∧ cs'.toList = (vals.set n u).flatMap vcells := by
  obtain ⟨pk, po, pn⟩ := p
  obtain ⟨uk, uo, un⟩ := u
  simp only at hpn
  subst hpn
  unfold box at hv hp
  have c0 := blk_cell hv 0
  have c1 := blk_cell hv 1
  have c2 := blk_cell hv 2
  have d2 := blk_cell hp 2
  simp only [List.getElem?_toArray, List.getElem?_cons_zero, List.getElem?_cons_succ] at c0 c1 c2 d2
  have hlt : cv < w.heap.size := (Array.getElem?_eq_some_iff.1 hv).1
  have hlt2 : cp < w.heap.size := (Array.getElem?_eq_some_iff.1 hp).1
  have hlt3 : g < w.heap.size := (Array.getElem?_eq_some_iff.1 hg).1
  have hlen : cs.size = vals.length * 3 := by
    rw [← Array.length_toList, hcs]
    exact flat_len vcells 3 (fun _ => rfl) vals
  have hF : ∀ j, w.frozen? ⟨g, j, none⟩ = false := fun j => by simp [World.frozen?, hg]
  have hF0 := hF (n * 3)
  have hF1 := hF (n * 3 + 1)
  have hF2 := hF (n * 3 + 2)
  have hz : ∀ j, j < 3 → ∃ z, w.cell? ⟨g, n * 3 + j, none⟩ = some z := fun j hj =>
    ⟨cs[n * 3 + j]'(by omega), by rw [blk_cell hg]; exact Array.getElem?_eq_getElem _⟩
  obtain ⟨z0, hz0⟩ := hz 0 (by omega)
  obtain ⟨z1, hz1⟩ := hz 1 (by omega)
  obtain ⟨z2, hz2⟩ := hz 2 (by omega)
  rw [Nat.add_zero] at hz0
  go_enter Try.func14, Try.ntmps14
  go_wp2_with fail
  go_ret
  refine ⟨0, rfl, rfl, ?_, _, alloc_blk (blk_set _ (blk_set _ (blk_set _ hg))) _, ?_⟩
  · exact touch3 g n uk uo un _
  · simp only [Array.toList_setIfInBounds, hcs]
    exact flat_set vals (uk, uo, un) n hn

theorem load1 {g n : Nat} {vals : List V3} {cs : Array Value} (hg : w.heap[g]? = some (.cells cs 24 (0, 0))) (hcs : cs.toList = vals.flatMap vcells) (base : Int)
    {cr cp : Nat} {u p z : V3} (hr : box w cr z) (hp : box w cp p) (hpn : p.2.2 = n) (hu : vals[n]? = some u) (hgr : cr ≠ g) (hgp : cp ≠ g) (hpr : cp ≠ cr) :
    Calls Try.prog 15 (#[.agg #[.slice (some ⟨g, 0, none⟩) vals.length vals.length, .int .i64 base]] ++ #[.pointer (some ⟨cp, 0, none⟩), .pointer (some ⟨cr, 0, none⟩)]) w fun e w' =>
      ∃ r, e = .returned (.int .u8 r) ∧ r = 0 ∧ Touch w w' (· = cr) ∧ box w' cr u := by
  obtain ⟨pk, po, pn⟩ := p
  obtain ⟨uk, uo, un⟩ := u
  obtain ⟨zk, zo, zn⟩ := z
  simp only at hpn
  subst hpn
  have hn : n < vals.length := (List.getElem?_eq_some_iff.1 hu).1
  unfold box at hr hp
  have hF : ∀ j, w.frozen? ⟨cr, j, none⟩ = false := fun j => by simp [World.frozen?, hr]
  have hF0 := hF 0
  have hF1 := hF 1
  have hF2 := hF 2
  have d2 := blk_cell hp 2
  have r0 := blk_cell hr 0
  have r1 := blk_cell hr 1
  have r2 := blk_cell hr 2
  simp only [List.getElem?_toArray, List.getElem?_cons_zero, List.getElem?_cons_succ] at d2 r0 r1 r2
  have hlt : cr < w.heap.size := (Array.getElem?_eq_some_iff.1 hr).1
  have hlt2 : cp < w.heap.size := (Array.getElem?_eq_some_iff.1 hp).1
  have hlt3 : g < w.heap.size := (Array.getElem?_eq_some_iff.1 hg).1
  have hz : ∀ j, j < 3 → w.cell? ⟨g, n * 3 + j, none⟩ = (vcells (uk, uo, un))[j]? := fun j hj => by
    rw [blk_cell hg, ← Array.getElem?_toList, hcs]
    exact flat_at vcells 3 (fun _ => rfl) vals n j (uk, uo, un) hu hj
  have hz0 := hz 0 (by omega)
  have hz1 := hz 1 (by omega)
  have hz2 := hz 2 (by omega)
  simp only [vcells, List.getElem?_cons_zero, List.getElem?_cons_succ, Nat.add_zero] at hz0 hz1 hz2
  clear hz hF
  go_enter Try.func15, Try.ntmps15
  go_wp2_with fail
  go_ret
  refine ⟨0, rfl, rfl, ?_, ?_⟩
  · exact touch3' cr uk uo un _
  · unfold box
    refine (alloc_blk (blk_set _ (blk_set _ (blk_set _ hr))) _).trans ?_
    simp

def look (os : List Ob) (p : V3) : Option V3 :=
  if p.1 = 1 ∧ 0 ≤ p.2.1 ∧ 0 ≤ p.2.2 then (os[p.2.1.toNat]?).bind fun o => o.vals[p.2.2.toNat]? else none
def tells (os : List Ob) (p : V3) : Int := if (look os p).isSome then 0 else if p.1 = 1 then 3 else 2

theorem look_cases (os : List Ob) (p : V3) : (p.1 ≠ 1 ∧ look os p = none) ∨ (p.1 = 1 ∧ (p.2.1 < 0 ∨ (os.length : Int) ≤ p.2.1) ∧ look os p = none) ∨
    (p.1 = 1 ∧ ∃ (i : Nat) (o : Ob), os[i]? = some o ∧ p.2.1 = (i : Int) ∧ (p.2.2 < 0 ∨ (o.vals.length : Int) ≤ p.2.2) ∧ look os p = none) ∨
    (p.1 = 1 ∧ ∃ (i n : Nat) (o : Ob) (u : V3), os[i]? = some o ∧ p.2.1 = (i : Int) ∧ p.2.2 = (n : Int) ∧ o.vals[n]? = some u ∧ look os p = some u) := by
  obtain ⟨k, po, pn⟩ := p
  unfold look
  by_cases hk : k = 1
  · subst hk
    by_cases hf : po < 0 ∨ (os.length : Int) ≤ po
    · refine Or.inr (Or.inl ⟨rfl, hf, ?_⟩)
      simp only
      split
      · rename_i hc
        rw [List.getElem?_eq_none (by omega)]
        rfl
      · rfl
    · obtain ⟨i, rfl⟩ := Int.eq_ofNat_of_zero_le (show 0 ≤ po by omega)
      have hi : i < os.length := by omega
      by_cases hg : pn < 0 ∨ ((os[i].vals.length : Int) ≤ pn)
      · refine Or.inr (Or.inr (Or.inl ⟨rfl, i, os[i], List.getElem?_eq_getElem hi, rfl, hg, ?_⟩))
        simp only
        split
        · rename_i hc
          rw [show ((i : Int).toNat) = i by omega, List.getElem?_eq_getElem hi]
          simp only [Option.bind_some]
          exact List.getElem?_eq_none (by omega)
        · rfl
      · obtain ⟨n, rfl⟩ := Int.eq_ofNat_of_zero_le (show 0 ≤ pn by omega)
        have hn : n < os[i].vals.length := by omega
        refine Or.inr (Or.inr (Or.inr ⟨rfl, i, n, os[i], os[i].vals[n], List.getElem?_eq_getElem hi, rfl, rfl, List.getElem?_eq_getElem hn, ?_⟩))
        simp only
        rw [if_pos ⟨trivial, by omega, by omega⟩, show ((i : Int).toNat) = i by omega, List.getElem?_eq_getElem hi]
        simp only [Option.bind_some]
        rw [show ((n : Int).toNat) = n by omega, List.getElem?_eq_getElem hn]
  · refine Or.inl ⟨hk, ?_⟩
    simp only
    rw [if_neg (fun h => hk h.1)]

theorem box_kept {w w' : World} {b : Nat} {p : V3} {S : Nat → Prop} (h : box w b p) (ht : Touch w w' S) (hd : ¬ S b) : box w' b p :=
  (ht.block b (Array.getElem?_eq_some_iff.1 h).1 hd).trans h

theorem at_load (h : Hp A B w hb v os room) (hlen : os.length ≤ 1000) (p : V3) {cp cr : Nat} (hcp : box w cp p) (hcr : box w cr (0, 0, 0)) (hpr : cp ≠ cr) (hro : ∀ o ∈ os, o.blk ≠ cr) (hpo : ∀ o ∈ os, o.blk ≠ cp) :
    Calls Try.prog 13 #[.pointer (some ⟨hb, 0, none⟩), .agg #[.int .u8 p.1, .int .i64 p.2.1, .int .i64 p.2.2], .func (Fn.func 15) #[] #[.pointer (some ⟨cp, 0, none⟩), .pointer (some ⟨cr, 0, none⟩)]] w fun e w' =>
      e = .returned (.int .u8 (tells os p)) ∧ Touch w w' (· = cr) ∧ box w' cr ((look os p).getD (0, 0, 0)) := by
  have hcl : cr < w.heap.size := (Array.getElem?_eq_some_iff.1 hcr).1
  have hcl2 : cp < w.heap.size := (Array.getElem?_eq_some_iff.1 hcp).1
  unfold tells
  rcases look_cases os p with ⟨hk, e⟩ | ⟨hk, hf, e⟩ | ⟨hk, i, o, hi, hpi, hf, e⟩ | ⟨hk, i, n, o, u, hi, hpi, hpn, hu, e⟩
  · simp only [e, Option.isSome_none, Bool.false_eq_true, if_false, if_neg hk, Option.getD_none]
    exact (at_null p hk _ _ w hb).mono fun _ _ ⟨a, b⟩ => ⟨a, Touch.of_below b _, box_kept hcr (Touch.of_below b (fun _ => False)) (fun h => h)⟩
  · simp only [e, Option.isSome_none, Bool.false_eq_true, if_false, if_pos hk, Option.getD_none]
    exact (at_far h hlen p hk hf _ _).mono fun _ _ ⟨a, b⟩ => ⟨a, Touch.of_below b _, box_kept hcr (Touch.of_below b (fun _ => False)) (fun h => h)⟩
  · simp only [e, Option.isSome_none, Bool.false_eq_true, if_false, if_pos hk, Option.getD_none]
    exact (at_out h hlen p hk hi hpi hf _ _).mono fun _ _ ⟨a, b⟩ => ⟨a, Touch.of_below b _, box_kept hcr (Touch.of_below b (fun _ => False)) (fun h => h)⟩
  · simp only [e, Option.isSome_some, if_true, Option.getD_some]
    have ho : o ∈ os := List.mem_of_getElem? hi
    refine (at_hit h hlen p hk hi hpi hpn (List.getElem?_eq_some_iff.1 hu).1 15 (enters_of Try.func15 (by kernel_rfl) rfl) #[.pointer (some ⟨cp, 0, none⟩), .pointer (some ⟨cr, 0, none⟩)] (fun r w' => r = 0 ∧ Touch w w' (· = cr) ∧ box w' cr u) ?_).mono ?_
    · intro w1 hb1 hsz
      obtain ⟨cs, hg, hcs⟩ := (h.more hb1).obs o ho
      refine (load1 hg hcs o.base (box_kept hcr (Touch.of_below hb1 (fun _ => False)) (fun h => h)) (box_kept hcp (Touch.of_below hb1 (fun _ => False)) (fun h => h)) hpn hu (fun h => hro o ho h.symm) (fun h => hpo o ho h.symm) hpr).mono ?_
      rintro e w' ⟨r, rfl, h0, ht, hbx⟩
      exact ⟨r, rfl, h0, (Touch.of_below hb1 _).trans ht, hbx⟩
    · rintro e w' ⟨r, rfl, rfl, ht, hbx⟩
      exact ⟨rfl, ht, hbx⟩
end
end Go.Proofs.Ytaidjamcjinooaa
