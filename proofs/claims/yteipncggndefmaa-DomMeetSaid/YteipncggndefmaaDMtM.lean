/- DomMeet: the mathematics, a queue, going back step by step. -/
import Derived.Test.YteipncggndefmaaDRef
import Derived.ArgAppend
import Derived.Test.YteipncggndefmaaDLaw
namespace Go.Proofs.Yteipncggndefmaa

section
variable {L F : List (List Int)} {y0 : Nat} {t : List Int} {P : Nat → Prop}
theorem dmn_pred {a b c : Nat} (h : Dmn L y0 a c) (hne : a ≠ c) (he : Edge L b c) (hw : Way L y0 b) : Dmn L y0 a b := by
  obtain ⟨-, h | h | h⟩ := h
  · exact absurd h hne
  · exact ⟨hw, .inr (.inl h)⟩
  · by_cases e : a = b
    · exact ⟨hw, .inl e⟩
    · exact ⟨hw, .inr (.inr (fun h' => h (.step h' (edge_cut.2 ⟨he, fun e' => e e'.symm⟩))))⟩
/-- z is the nearest with a value of those that dominate x. -/
def IsN (L : List (List Int)) (y0 : Nat) (P : Nat → Prop) (x z : Nat) : Prop := P z ∧ Dmn L y0 z x ∧ ∀ w, P w → Dmn L y0 w x → Dmn L y0 w z
theorem ex_isN {o : List Nat} {T : Nat → Nat} (h : Tree L y0 o T t) (hP : P y0) : ∀ (q b : Nat), o[q]? = some b → ∃ z, IsN L y0 P b z := by
  intro q
  induction q using Nat.strongRecOn with
  | ind q ih =>
    intro b hq
    have hw := (h.row.mem b).1 (List.mem_of_getElem? hq)
    by_cases hb : P b
    · exact ⟨b, hb, ⟨hw, .inl rfl⟩, fun w _ hd => hd⟩
    · rcases Nat.eq_zero_or_pos q with rfl | h0
      · have := Option.some.inj (hq.symm.trans h.row.head)
        exact absurd (this ▸ hP) hb
      · obtain ⟨p, hp, -⟩ := h.at_ hq h0
        obtain ⟨z, z1, z2, z3⟩ := ih (T q) (h.down q h0) p hp
        have hpb : Dmn L y0 p b := (h.anc_dmn hp hq).1 (.up h0 (.refl _))
        have hT : DT L y0 t := .inl ⟨o, T, h⟩
        refine ⟨z, z1, hT.dm.2.1 z p b z2 hpb, fun w hwP hd => z3 w hwP ?_⟩
        obtain ⟨x, hx, ex⟩ := List.getElem_of_mem ((h.row.mem w).2 hd.reached)
        have hx' : o[x]? = some w := by rw [List.getElem?_eq_getElem hx, ex]
        refine (h.anc_dmn hx' hp).1 (((h.anc_dmn hx' hq).2 hd).cut (fun e => ?_)).2
        subst e
        exact hb (Option.some.inj (hx'.symm.trans hq) ▸ hwP)
theorem DT.isN (hT : DT L y0 t) (hP : P y0) {b : Nat} (hb : Way L y0 b) : ∃ z, IsN L y0 P b z := by
  rcases hT with ⟨o, T, h⟩ | ⟨h1, -⟩
  · obtain ⟨q, hq, eq⟩ := List.getElem_of_mem ((h.row.mem b).2 hb)
    exact ex_isN h hP q b (by rw [List.getElem?_eq_getElem hq, eq])
  · have := hb.lt.1; omega
/-- Frontiers of what has a value have values. -/
def Shut (L : List (List Int)) (y0 : Nat) (P : Nat → Prop) : Prop := ∀ w x, P w → FrP L y0 w x → P x
/-- Going back from b over nodes without a value. -/
inductive Bk (L : List (List Int)) (y0 : Nat) (P : Nat → Prop) (b : Nat) : Nat → Prop
  | start : Bk L y0 P b b
  | step {x y : Nat} : Bk L y0 P b x → ¬ P x → Edge L y x → Way L y0 y → Bk L y0 P b y
theorem Bk.way {b x : Nat} (h : Bk L y0 P b x) (hb : Way L y0 b) : Way L y0 x := by
  cases h with
  | start => exact hb
  | step _ _ _ hw => exact hw
theorem Bk.near (hT : DT L y0 t) (hS : Shut L y0 P) {b z x : Nat} (hz : IsN L y0 P b z) (hb : Way L y0 b) (hbP : ¬ P b) (h : Bk L y0 P b x) : (¬ P x → IsN L y0 P x z) ∧ (P x → x = z) := by
  obtain ⟨d1, d2, d3⟩ := hT.dm
  induction h with
  | start => exact ⟨fun _ => hz, fun h => absurd h hbP⟩
  | @step x y hk hxP he hw ih =>
    obtain ⟨z1, z2, z3⟩ := ih.1 hxP
    have hxw := hk.way hb
    have hzx : z ≠ x := fun e => hxP (e ▸ z1)
    have hzy : Dmn L y0 z y := dmn_pred z2 hzx he hw
    -- what has a value and dominates y dominates x
    have hup : ∀ w, P w → Dmn L y0 w y → Dmn L y0 w x := fun w hwP hd => by
      apply Classical.byContradiction
      intro hn
      exact hxP (hS w x hwP ⟨y, he, hd, .inr hn⟩)
    refine ⟨fun _ => ⟨z1, hzy, fun w hwP hd => z3 w hwP (hup w hwP hd)⟩, fun hyP => ?_⟩
    have hyy : Dmn L y0 y y := ⟨hw, .inl rfl⟩
    exact d3 y z (z3 y hyP (hup y hyP hyy)) hzy
theorem Bk.some (hP : P y0) {b : Nat} (hb : Way L y0 b) : ∃ y, P y ∧ Bk L y0 P b y := by
  have key : ∀ {x}, Way L y0 x → Bk L y0 P b x → ∃ y, P y ∧ Bk L y0 P b y := by
    intro x hw
    induction hw with
    | refl _ => exact fun h => ⟨y0, hP, h⟩
    | @step u v hw e ih =>
      intro hk
      by_cases hv : P v
      · exact ⟨v, hv, hk⟩
      · exact ih (.step hk hv e hw)
  exact key hb .start
end
end Go.Proofs.Yteipncggndefmaa

namespace Go.Proofs.Yteipncggndefmaa
open Go.RowKit Go.Maps Go.Shelf

/-- A slice that reads as l and may be appended to, in a block of its own. -/
def Win (w : World) (base : Nat) (v : Value) (l : List Int) : Prop :=
  ∃ g off cap cur, v = .slice (some ⟨g, off, none⟩) l.length cap ∧ l.length ≤ cap ∧ base ≤ g ∧ w.heap[g]? = some (.cells cur 3 (0, 0)) ∧ off + cap ≤ cur.size ∧ ∀ (j : Nat) (x : Int), l[j]? = some x → cur[off + j]? = some (.int .i64 x)
theorem Win.touch {w w' : World} {base : Nat} {v : Value} {l : List Int} {S : Nat → Prop} (h : Win w base v l) (ht : Touch w w' S) (hd : ∀ b, base ≤ b → ¬ S b) : Win w' base v l := by
  obtain ⟨g, off, cap, cur, e, h1, h2, h3, h4⟩ := h
  exact ⟨g, off, cap, cur, e, h1, h2, (ht.block g (Array.getElem?_eq_some_iff.1 h3).1 (hd g h2)).trans h3, h4⟩
theorem Win.below {w w' : World} {base : Nat} {v : Value} {l : List Int} (h : Win w base v l) (ht : Below w.heap.size w w') : Win w' base v l := by
  obtain ⟨g, off, cap, cur, e, h1, h2, h3, h4⟩ := h
  exact ⟨g, off, cap, cur, e, h1, h2, (ht.block g (Array.getElem?_eq_some_iff.1 h3).1).trans h3, h4⟩
theorem Win.form {w : World} {base : Nat} {v : Value} {l : List Int} (h : Win w base v l) : ∃ g off cap, v = .slice (some ⟨g, off, none⟩) l.length cap := by
  obtain ⟨g, off, cap, cur, e, -⟩ := h
  exact ⟨g, off, cap, e⟩
theorem Win.first {w : World} {base : Nat} {v : Value} {l : List Int} {x : Int} (h : Win w base v (x :: l)) : ∃ g off cap, v = .slice (some ⟨g, off, none⟩) (l.length + 1) cap ∧ w.cell? ⟨g, off, none⟩ = some (.int .i64 x) ∧ 1 ≤ cap ∧
    Win w base (.slice (if cap = 1 then some ⟨g, off, none⟩ else some ⟨g, off + 1, none⟩) l.length (cap - 1)) l := by
  obtain ⟨g, off, cap, cur, e, h1, h2, h3, h4, h5⟩ := h
  rw [List.length_cons] at h1 e
  refine ⟨g, off, cap, e, by rw [blk_cell h3]; exact h5 0 x rfl, by omega, ?_⟩
  by_cases hc : cap = 1
  · subst hc
    obtain rfl : l = [] := List.eq_nil_of_length_eq_zero (by omega)
    exact ⟨g, off, 0, cur, by simp, Nat.le_refl _, h2, h3, by omega, fun j x hj => by simp at hj⟩
  · rw [if_neg hc]
    exact ⟨g, off + 1, cap - 1, cur, rfl, by omega, h2, h3, by omega, fun j x hj => by
      have := h5 (j + 1) x (by simpa using hj)
      rw [show off + 1 + j = off + (j + 1) by omega]
      exact this⟩
section
variable {w : World} {ops : Array Oper} {rest : List Oper} {o : Oper} {a : Act} {Q : Exit → Act → World → Prop}
theorem wpList_append_win (hg : o.guard = none) (s x : Operand) (hop : o.op = Op.call { callee := Callee.builtin Builtin.append, args := #[s, x], argTypes := #[25, 25] }) (base : Nat) (v : Value) (l : List Int) (y : Int) (hs : a.eval s = v) (hW : Win w base v l)
    (A : Nat) (c : Nat) (hx : a.eval x = .slice (some ⟨A, 0, none⟩) 1 c) (hA : w.cell? ⟨A, 0, none⟩ = some (.int .i64 y)) (hl : l.length ≤ 1000000) (hbase : base ≤ w.heap.size)
    (h : ∀ v' w', Win w' base v' (l ++ [y]) → Below base w w' → wpList Try.prog ops Q rest (a.put o.dst v') w') : wpList Try.prog ops Q (o :: rest) a w := by
  obtain ⟨i0, hi0, hz0, hz1, hz2⟩ := info_parts infoI1
  obtain ⟨g, off, cap, cur, rfl, h1, h2, h3, h4, h5⟩ := hW
  have hn : ∀ (j : Nat) (u : Value), [Value.int .i64 y][j]? = some u → w.cell? ((⟨A, 0, none⟩ : Addr).add j) = some u := fun j u hj => by
    match j, hj with
    | 0, hj =>
      simp at hj
      subst hj
      simpa [Addr.add] using hA
  have hgl := (Array.getElem?_eq_some_iff.1 h3).1
  refine wpList_append_arg (P := Try.prog) w hg s x 25 hop 3 i0 _ 1 8 Try.underlying25 hi0 hz0 hz1 hz2 rfl (by decide) g off l.length cap (l.map encI) hs (by simp) (fun j u hj => ?_) ⟨A, 0, none⟩ 1 c [.int .i64 y] hx rfl hn (by simp [Value.oneCell']) (fun hr j hj => ?_) (by unfold maxLen; omega) (by omega) (fun hr => ?_) (fun hr v' w' hown hgr => ?_)
  · rw [List.getElem?_map] at hj
    cases hlj : l[j]? with
    | none => rw [hlj] at hj; cases hj
    | some z =>
      rw [hlj] at hj
      rw [blk_cell h3]
      exact (h5 j z hlj).trans hj
  · obtain rfl : j = 0 := by simpa using hj
    rw [Nat.mul_one, Nat.add_zero]
    exact ⟨by rw [blk_cell h3, Array.getElem?_eq_getElem (by omega)]; rfl, by simp [World.frozen?, h3]⟩
  · rw [Nat.mul_one]
    have e1 : w.setCells g (off + l.length) [.int .i64 y] = w.setCell ⟨g, off + l.length, none⟩ (.int .i64 y) := rfl
    rw [e1]
    refine h _ _ ⟨g, off, cap, cur.setIfInBounds (off + l.length) (.int .i64 y), by simp, by simpa using hr, h2, blk_set _ h3, by simpa using h4, fun j z hj => ?_⟩ ((Below.refl _ _).setCell (show base ≤ g from h2) _)
    rw [Array.getElem?_setIfInBounds]
    by_cases hjl : j < l.length
    · rw [List.getElem?_append_left hjl] at hj
      rw [if_neg (by omega)]
      exact h5 j z hj
    · rw [List.getElem?_append_right (by omega)] at hj
      have : j - l.length = 0 := by have := (List.getElem?_eq_some_iff.1 hj).1; simp at this; omega
      rw [this] at hj
      have hj0 : j = l.length := by omega
      subst hj0
      rw [if_pos rfl, if_pos (by omega)]
      simp at hj
      rw [hj]
  · have hown2 : w'.ownsRow w.heap.size 3 1 v' (l ++ [y]).length ((l ++ [y]).map encI) := by simpa [encI] using hown
    rcases hown2.2 with ⟨e, h0⟩ | ⟨g', cap', cur', rfl, k1, k2, k3, k4, k5, k6⟩
    · simp at h0
    · refine h _ _ ⟨g', 0, cap', cur', rfl, k3, by omega, k2, by omega, fun j z hj => ?_⟩ ((Below.refl _ _).grown hgr hbase (fun b e => by cases e))
      have := hown2.cells (g := g') rfl j (.int .i64 z) (by rw [List.getElem?_map, hj]; rfl)
      rw [add0, blk_cell k2] at this
      rw [Nat.zero_add]
      exact this
end
end Go.Proofs.Yteipncggndefmaa

namespace Go.Proofs.Yteipncggndefmaa
open Go.RowKit Go.Maps Go.Shelf

section
variable {L : List (List Int)} {y0 : Nat} {t : List Int} {P : Nat → Prop} {b z n : Nat}
/-- Between two rounds. -/
structure Bq (L : List (List Int)) (y0 : Nat) (P : Nat → Prop) (b z n : Nat) (s q : List Nat) (v : Nat) : Prop where
  own : b ∈ s
  bk : ∀ x ∈ s, Bk L y0 P b x
  que : ∀ x ∈ q, x ∈ s ∧ ¬ P x
  val : (v = 0 ∧ z ∉ s) ∨ (v = 1 ∧ z ∈ s)
  cap : unseen n s + q.length ≤ n
  done : ∀ x ∈ s, ¬ P x → x ∉ q → ∀ y, Edge L y x → Way L y0 y → y ∈ s
/-- In a round, over those that lead to x. -/
structure Br (L : List (List Int)) (y0 : Nat) (P : Nat → Prop) (b z n : Nat) (x : Nat) (r : List Int) (g k : Nat) (s q : List Nat) (v : Nat) : Prop where
  own : b ∈ s
  bk : ∀ x ∈ s, Bk L y0 P b x
  que : ∀ x ∈ q, x ∈ s ∧ ¬ P x
  val : (v = 0 ∧ z ∉ s) ∨ (v = 1 ∧ z ∈ s)
  cap : unseen n s + q.length < g
  gn : g ≤ n
  xs : x ∈ s ∧ ¬ P x
  done : ∀ x' ∈ s, ¬ P x' → x' ∉ q → x' ≠ x → ∀ y, Edge L y x' → Way L y0 y → y ∈ s
  row : ∀ y : Nat, (y : Int) ∈ r.take k → Way L y0 y → y ∈ s
theorem Bq.begin (hbn : b < n) (hbP : ¬ P b) (hz : P z) : Bq L y0 P b z n [b] [b] 0 := by
  have h1 : unseen n [b] < unseen n [] := unseen_lt hbn (by simp)
  have h2 : unseen n [] ≤ n := by unfold unseen; exact Nat.le_trans (List.length_filter_le _ _) (by simp)
  refine ⟨List.Mem.head _, fun x hx => ?_, fun x hx => ?_, .inl ⟨rfl, fun h => ?_⟩, by simp; omega, fun x hx _ hq => absurd hx hq⟩
  · rw [List.mem_singleton.1 hx]; exact .start
  · rw [List.mem_singleton.1 hx]; exact ⟨List.Mem.head _, hbP⟩
  · rw [List.mem_singleton.1 h] at hz; exact hbP hz
theorem Bq.pop {s q : List Nat} {v x : Nat} (h : Bq L y0 P b z n s (x :: q) v) (r : List Int) : Br L y0 P b z n x r (unseen n s + (x :: q).length) 0 s q v :=
  ⟨h.own, h.bk, fun y hy => h.que y (List.mem_cons_of_mem _ hy), h.val, by simp, h.cap, h.que x (List.Mem.head _), fun x' h1 h2 h3 h4 => h.done x' h1 h2 (by simp [h3, h4]), fun y hy => by simp at hy⟩
section
variable {x : Nat} {r : List Int} {g k : Nat} {s q : List Nat} {v y : Nat}
theorem Br.old (h : Br L y0 P b z n x r g k s q v) (hy : r[k]? = some (y : Int)) (hs : Way L y0 y → y ∈ s) : Br L y0 P b z n x r g (k + 1) s q v :=
  ⟨h.own, h.bk, h.que, h.val, h.cap, h.gn, h.xs, h.done, fun u hu hw => by
    rw [take_snoc hy, List.mem_append, List.mem_singleton] at hu
    rcases hu with hu | hu
    · exact h.row u hu hw
    · obtain rfl : u = y := by omega
      exact hs hw⟩
theorem Br.bky (h : Br L y0 P b z n x r g k s q v) (hw : Way L y0 y) (he : Edge L y x) : Bk L y0 P b y := .step (h.bk x h.xs.1) h.xs.2 he hw
theorem Br.value (hT : DT L y0 t) (hS : Shut L y0 P) (hz : IsN L y0 P b z) (hb : Way L y0 b) (hbP : ¬ P b) (h : Br L y0 P b z n x r g k s q v) (hy : r[k]? = some (y : Int)) (hyn : y < n) (hys : y ∉ s) (hw : Way L y0 y) (he : Edge L y x) (hP : P y) : Br L y0 P b z n x r g (k + 1) (y :: s) q (v + 1) := by
  have hbk := h.bky hw he
  obtain rfl := (hbk.near hT hS hz hb hbP).2 hP
  have hlt := unseen_lt hyn hys
  have hcap := h.cap
  refine ⟨List.mem_cons_of_mem _ h.own, fun u hu => ?_, fun u hu => ⟨List.mem_cons_of_mem _ (h.que u hu).1, (h.que u hu).2⟩, .inr ⟨?_, List.Mem.head _⟩, by omega, h.gn, ⟨List.mem_cons_of_mem _ h.xs.1, h.xs.2⟩, fun u hu hup huq hux w e hww => ?_, fun u hu hww => ?_⟩
  · rcases List.mem_cons.1 hu with rfl | hu
    · exact hbk
    · exact h.bk u hu
  · rcases h.val with h1 | h1
    · rw [h1.1]
    · exact absurd h1.2 hys
  · rcases List.mem_cons.1 hu with rfl | hu
    · exact absurd hP hup
    · exact List.mem_cons_of_mem _ (h.done u hu hup huq hux w e hww)
  · rw [take_snoc hy, List.mem_append, List.mem_singleton] at hu
    rcases hu with hu | hu
    · exact List.mem_cons_of_mem _ (h.row u hu hww)
    · obtain rfl : u = y := by omega
      exact List.Mem.head _
theorem Br.new (hz : P z) (h : Br L y0 P b z n x r g k s q v) (hy : r[k]? = some (y : Int)) (hyn : y < n) (hys : y ∉ s) (hw : Way L y0 y) (he : Edge L y x) (hP : ¬ P y) : Br L y0 P b z n x r g (k + 1) (y :: s) (q ++ [y]) v := by
  have hbk := h.bky hw he
  have hlt := unseen_lt hyn hys
  have hcap := h.cap
  have hzy : z ≠ y := fun e => hP (e ▸ hz)
  refine ⟨List.mem_cons_of_mem _ h.own, fun u hu => ?_, fun u hu => ?_, ?_, by simp; omega, h.gn, ⟨List.mem_cons_of_mem _ h.xs.1, h.xs.2⟩, fun u hu hup huq hux w e hww => ?_, fun u hu hww => ?_⟩
  · rcases List.mem_cons.1 hu with rfl | hu
    · exact hbk
    · exact h.bk u hu
  · rcases List.mem_append.1 hu with hu | hu
    · exact ⟨List.mem_cons_of_mem _ (h.que u hu).1, (h.que u hu).2⟩
    · rw [List.mem_singleton.1 hu]; exact ⟨List.Mem.head _, hP⟩
  · rcases h.val with h1 | h1
    · exact .inl ⟨h1.1, fun hm => (List.mem_cons.1 hm).elim hzy h1.2⟩
    · exact .inr ⟨h1.1, List.mem_cons_of_mem _ h1.2⟩
  · rcases List.mem_cons.1 hu with rfl | hu
    · exact absurd (List.mem_append.2 (.inr (List.Mem.head _))) huq
    · exact List.mem_cons_of_mem _ (h.done u hu hup (fun h' => huq (List.mem_append.2 (.inl h'))) hux w e hww)
  · rw [take_snoc hy, List.mem_append, List.mem_singleton] at hu
    rcases hu with hu | hu
    · exact List.mem_cons_of_mem _ (h.row u hu hww)
    · obtain rfl : u = y := by omega
      exact List.Mem.head _
theorem Br.end (h : Br L y0 P b z n x r g r.length s q v) (hr : ∀ u : Nat, Edge L u x → (u : Int) ∈ r) : Bq L y0 P b z n s q v ∧ unseen n s + q.length < g := by
  have hcap := h.cap
  have hgn := h.gn
  refine ⟨⟨h.own, h.bk, h.que, h.val, by omega, fun u hu hup huq w e hww => ?_⟩, hcap⟩
  by_cases eu : u = x
  · subst eu
    exact h.row w (by rw [List.take_length]; exact hr w e) hww
  · exact h.done u hu hup huq eu w e hww
theorem Br.size (h : Br L y0 P b z n x r g k s q v) : q.length ≤ n := by
  have := h.cap
  have := h.gn
  omega
theorem Br.small (h : Br L y0 P b z n x r g k s q v) : v ≤ 1 := by
  rcases h.val with h | h <;> omega
end
theorem Bq.fin (hT : DT L y0 t) (hS : Shut L y0 P) (hz : IsN L y0 P b z) (hb : Way L y0 b) (hbP : ¬ P b) (hP : P y0) {s : List Nat} {v : Nat} (h : Bq L y0 P b z n s [] v) : v = 1 := by
  have key : ∀ {x}, Bk L y0 P b x → x ∈ s := by
    intro x hx
    induction hx with
    | start => exact h.own
    | step _ hp e hw ih => exact h.done _ ih hp (by simp) _ e hw
  obtain ⟨y, h1, h2⟩ := Bk.some hP hb
  obtain rfl := (h2.near hT hS hz hb hbP).2 h1
  rcases h.val with h3 | h3
  · exact absurd (key h2) h3.2
  · exact h3.1
end
end Go.Proofs.Yteipncggndefmaa
