/- Who dominates whom, said of nodes; the tree as a list. -/
import Derived.Test.YteipncggndefmaaDPost
namespace Go.Proofs.Yteipncggndefmaa

/-- A graph without a node's edges. -/
def cutL (L : List (List Int)) (a : Nat) : List (List Int) := L.set a []
/-- a dominates b: every way to b goes through a. -/
def Dmn (L : List (List Int)) (y a b : Nat) : Prop := Way L y b ∧ (a = b ∨ a = y ∨ ¬ Way (cutL L a) y b)
theorem cut_len (L : List (List Int)) (a : Nat) : (cutL L a).length = L.length := by simp [cutL]
theorem edge_cut {L : List (List Int)} {a x z : Nat} : Edge (cutL L a) x z ↔ Edge L x z ∧ x ≠ a := by
  unfold Edge
  rw [cut_len]
  constructor
  · rintro ⟨h1, r, h2, h3⟩
    unfold cutL at h2
    by_cases e : a = x
    · subst e
      have ha := (List.getElem?_eq_some_iff.1 h2).1
      rw [List.getElem?_set_self (by simpa using ha)] at h2
      obtain rfl := Option.some.inj h2
      cases h3
    · rw [List.getElem?_set_ne e] at h2
      exact ⟨⟨h1, r, h2, h3⟩, fun e' => e e'.symm⟩
  · rintro ⟨⟨h1, r, h2, h3⟩, e⟩
    refine ⟨h1, r, ?_, h3⟩
    unfold cutL
    rw [List.getElem?_set_ne (fun e' => e e'.symm)]
    exact h2
theorem way_cut {L : List (List Int)} {a x z : Nat} (h : Way (cutL L a) x z) : Way L x z := way_of (cut_len L a) (fun _ _ e => (edge_cut.1 e).1) h

section
variable {L : List (List Int)} {y : Nat} {o : List Nat}
/-- Edges between places. -/
def EP (L : List (List Int)) (o : List Nat) (p q : Nat) : Prop := ∃ a b, o[p]? = some a ∧ o[q]? = some b ∧ Edge L a b
theorem Row.inj (h : Row L y o) {i j x : Nat} (hi : o[i]? = some x) (hj : o[j]? = some x) : i = j :=
  (List.getElem?_inj (List.getElem?_eq_some_iff.1 hi).1 h.nodup).1 (hi.trans hj.symm)
theorem Row.exLed (h : Row L y o) : ∃ d, Led o.length (EP L o) d := by
  have key : ∀ j, ∃ k, (0 < j → k < j) ∧ (0 < j → j < o.length → EP L o k j) := by
    intro j
    by_cases hj : 0 < j ∧ j < o.length
    · obtain ⟨k, z, h1, h2, h3⟩ := h.led j o[j] hj.1 (List.getElem?_eq_getElem hj.2)
      exact ⟨k, fun _ => h1, fun _ _ => ⟨z, _, h2, List.getElem?_eq_getElem hj.2, h3⟩⟩
    · exact ⟨0, fun h => h, fun h1 h2 => absurd ⟨h1, h2⟩ hj⟩
  exact ⟨fun j => (key j).choose, fun j h0 => (key j).choose_spec.1 h0, fun j h0 hj => (key j).choose_spec.2 h0 hj⟩
theorem Row.av (h : Row L y o) {x a : Nat} (hx : o[x]? = some a) {q b : Nat} (hq : o[q]? = some b) : Av o.length (EP L o) x q ↔ a ≠ b ∧ a ≠ y ∧ Way (cutL L a) y b := by
  constructor
  · intro hav
    induction hav generalizing b with
    | start h0 =>
      have e := hq.symm.trans h.head
      obtain rfl := Option.some.inj e
      have hne : a ≠ b := fun e => h0 (h.inj hq (e ▸ hx))
      refine ⟨hne, hne, .refl ?_⟩
      rw [cut_len]
      exact ((h.mem b).1 (List.mem_of_getElem? hq)).lt.2
    | @step p q hp hpm hqm he hqx ih =>
      obtain ⟨u, v, e1, e2, e3⟩ := he
      obtain ⟨i1, i2, i3⟩ := ih e1
      obtain rfl := Option.some.inj (hq.symm.trans e2)
      exact ⟨fun e => hqx (h.inj hq (e ▸ hx)), i2, .step i3 (edge_cut.2 ⟨e3, fun e => i1 e.symm⟩)⟩
  · rintro ⟨h1, h2, h3⟩
    have key : ∀ {b}, Way (cutL L a) y b → ∀ q, o[q]? = some b → a ≠ b → Av o.length (EP L o) x q := by
      intro b hw
      induction hw with
      | refl hl =>
        intro q hq hab
        obtain rfl := h.inj hq h.head
        refine .start (fun e => h2 ?_)
        subst e
        exact Option.some.inj (hx.symm.trans h.head)
      | @step b c hw e ih =>
        intro q hq hac
        obtain ⟨e1, e2⟩ := edge_cut.1 e
        obtain ⟨p, hp, e3⟩ := List.getElem_of_mem ((h.mem b).2 (way_cut hw))
        have e4 : o[p]? = some b := by rw [List.getElem?_eq_getElem hp, e3]
        refine .step (ih p e4 (fun e => e2 e.symm)) hp (List.getElem?_eq_some_iff.1 hq).1 ⟨b, c, e4, hq, e1⟩ (fun e => hac ?_)
        subst e
        exact Option.some.inj (hx.symm.trans hq)
    exact key h3 q hq h1
theorem Row.dmn (h : Row L y o) {x a : Nat} (hx : o[x]? = some a) {q b : Nat} (hq : o[q]? = some b) : ¬ Av o.length (EP L o) x q ↔ Dmn L y a b := by
  have hw := (h.mem b).1 (List.mem_of_getElem? hq)
  rw [h.av hx hq]
  unfold Dmn
  constructor
  · intro hn
    refine ⟨hw, ?_⟩
    by_cases e1 : a = b
    · exact .inl e1
    · by_cases e2 : a = y
      · exact .inr (.inl e2)
      · exact .inr (.inr (fun h3 => hn ⟨e1, e2, h3⟩))
  · rintro ⟨-, h1⟩ ⟨e1, e2, e3⟩
    rcases h1 with h1 | h1 | h1
    · exact e1 h1
    · exact e2 h1
    · exact h1 e3

/-- The tree as a list, K places known: what a node without a dominator has, and all others. -/
structure TreeK (n K : Nat) (o : List Nat) (T : Nat → Nat) (t : List Int) : Prop where
  len : t.length = n
  first : ∀ x, o[0]? = some x → 0 < K → t[x]? = some (-1)
  at' : ∀ p x z, o[p]? = some x → 0 < p → p < K → o[T p]? = some z → t[x]? = some (z : Int)
  far : ∀ x, x < n → (∀ p, o[p]? = some x → K ≤ p) → t[x]? = some (-2)

/-- Going up a tree. -/
def domF (t : List Int) : Nat → Int → Int → Bool
  | 0, _, _ => false
  | k + 1, a, b => if a = b then true else if validI t.length (t[b.toNat]?.getD 0) then domF t k a (t[b.toNat]?.getD 0) else false
def domL (m : Nat) (t : List Int) (a b : Int) : Bool := validI t.length a && validI t.length b && !decide (t[b.toNat]?.getD 0 = -2) && domF t m a b

/-- The tree of a graph: just those stand above that every way goes through. -/
structure Tree (L : List (List Int)) (y : Nat) (o : List Nat) (T : Nat → Nat) (t : List Int) : Prop where
  row : Row L y o
  down : Down T
  is : TreeK L.length o.length o T t
  anc : ∀ x q, q < o.length → (Anc T x q ↔ ¬ Av o.length (EP L o) x q)

theorem Row.lt (h : Row L y o) {p x : Nat} (hp : o[p]? = some x) : x < L.length := ((h.mem x).1 (List.mem_of_getElem? hp)).lt.2
theorem Row.small (h : Row L y o) : o.length ≤ L.length := by
  have h1 := h.nodup.length_le_of_subset (l₂ := List.range L.length) (fun x hx => by
    obtain ⟨p, hp, e⟩ := List.getElem_of_mem hx
    exact List.mem_range.2 (h.lt (by rw [List.getElem?_eq_getElem hp, e])))
  simpa using h1
theorem Tree.anc_dmn {T : Nat → Nat} {t : List Int} (h : Tree L y o T t) {x q a b : Nat} (hx : o[x]? = some a) (hq : o[q]? = some b) : Anc T x q ↔ Dmn L y a b :=
  (h.anc x q (List.getElem?_eq_some_iff.1 hq).1).trans (h.row.dmn hx hq)
theorem Dmn.reached {a b : Nat} (h : Dmn L y a b) : Way L y a := by
  obtain ⟨hw, h | h | h⟩ := h
  · exact h ▸ hw
  · subst h; exact .refl hw.lt.1
  · have key : ∀ {b}, Way L y b → ¬ Way (cutL L a) y b → Way L y a := by
      intro b hw
      induction hw with
      | refl hl => exact fun hn => absurd (.refl (by rw [cut_len]; exact hl)) hn
      | @step b c hw e ih =>
        intro hn
        by_cases e1 : b = a
        · exact e1 ▸ hw
        · exact ih (fun hc => hn (.step hc (edge_cut.2 ⟨e, e1⟩)))
    exact key hw h
theorem Tree.at_ {T : Nat → Nat} {t : List Int} (h : Tree L y o T t) {q b : Nat} (hq : o[q]? = some b) (h0 : 0 < q) : ∃ z : Nat, o[T q]? = some z ∧ t[b]? = some (z : Int) := by
  have hql := (List.getElem?_eq_some_iff.1 hq).1
  have h1 : T q < o.length := by have := h.down q h0; omega
  exact ⟨o[T q], List.getElem?_eq_getElem h1, h.is.at' q b _ hq h0 hql (List.getElem?_eq_getElem h1)⟩
theorem Tree.domF {T : Nat → Nat} {t : List Int} (h : Tree L y o T t) {a : Int} : ∀ (k : Nat) {q b : Nat}, o[q]? = some b → q < k → (Go.Proofs.Yteipncggndefmaa.domF t k a (b : Int) = true ↔ ∃ x c : Nat, o[x]? = some c ∧ a = c ∧ Anc T x q) := by
  intro k
  induction k with
  | zero => intro q b _ h; omega
  | succ k ih =>
    intro q b hq hqk
    unfold Go.Proofs.Yteipncggndefmaa.domF
    by_cases e : a = (b : Int)
    · rw [if_pos e]
      exact ⟨fun _ => ⟨q, b, hq, e, .refl q⟩, fun _ => rfl⟩
    · rw [if_neg e, Int.toNat_natCast]
      rcases Nat.eq_zero_or_pos q with rfl | h0
      · have h1 := h.is.first b hq (List.getElem?_eq_some_iff.1 hq).1
        rw [h1]
        simp [validI]
        rintro x c hx rfl hxa
        obtain rfl := hxa.zero h.down
        exact e (by rw [Option.some.inj (hx.symm.trans hq)])
      · obtain ⟨z, hz, hb⟩ := h.at_ hq h0
        have hd := h.down q h0
        have hzl := h.row.lt hz
        rw [hb]
        have hN : validI t.length ((some (z : Int)).getD 0) = true := by
          rw [h.is.len]
          simp only [validI, Option.getD_some, decide_eq_true_eq]
          omega
        rw [if_pos hN, Option.getD_some, ih hz (by omega)]
        constructor
        · rintro ⟨x, c, h1, h2, h3⟩
          exact ⟨x, c, h1, h2, .up h0 h3⟩
        · rintro ⟨x, c, h1, rfl, h3⟩
          refine ⟨x, c, h1, rfl, (h3.cut (fun e' => ?_)).2⟩
          subst e'
          exact e (by rw [Option.some.inj (h1.symm.trans hq)])
/-- By the tree just those dominate that do. -/
theorem Tree.domL {T : Nat → Nat} {t : List Int} (h : Tree L y o T t) {m : Nat} (hm : L.length ≤ m) (a b : Nat) : Go.Proofs.Yteipncggndefmaa.domL m t a b = true ↔ Dmn L y a b := by
  unfold Go.Proofs.Yteipncggndefmaa.domL
  rw [h.is.len]
  simp only [Bool.and_eq_true, Bool.not_eq_true', decide_eq_false_iff_not, Int.toNat_natCast]
  by_cases hb : b ∈ o
  · obtain ⟨q, hq, e⟩ := List.getElem_of_mem hb
    have hq' : o[q]? = some b := by rw [List.getElem?_eq_getElem hq, e]
    have hsm := h.row.small
    rw [h.domF m hq' (by omega)]
    constructor
    · rintro ⟨-, x, c, h1, h2, h3⟩
      obtain rfl : a = c := by omega
      exact (h.anc_dmn h1 hq').1 h3
    · intro hd
      have hbl := h.row.lt hq'
      obtain ⟨x, hx, ex⟩ := List.getElem_of_mem ((h.row.mem a).2 hd.reached)
      have hx' : o[x]? = some a := by rw [List.getElem?_eq_getElem hx, ex]
      have hal := h.row.lt hx'
      refine ⟨⟨⟨?_, ?_⟩, ?_⟩, x, a, hx', rfl, (h.anc_dmn hx' hq').2 hd⟩
      · simp only [validI, decide_eq_true_eq]; omega
      · simp only [validI, decide_eq_true_eq]; omega
      · rcases Nat.eq_zero_or_pos q with rfl | h0
        · rw [h.is.first b hq' (by omega)]
          simp
        · obtain ⟨z, hz, hb⟩ := h.at_ hq' h0
          rw [hb, Option.getD_some]
          omega
  · constructor
    · rintro ⟨⟨⟨-, h1⟩, h2⟩, -⟩
      simp only [validI, decide_eq_true_eq] at h1
      rw [h.is.far b (by omega) (fun p hp => absurd (List.mem_of_getElem? hp) hb)] at h2
      exact absurd rfl h2
    · intro hd
      exact absurd ((h.row.mem b).2 hd.1) hb
end
end Go.Proofs.Yteipncggndefmaa
