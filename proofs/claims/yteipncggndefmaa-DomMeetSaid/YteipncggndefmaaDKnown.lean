/- What is known of the known graph. -/
import Derived.Test.YteipncggndefmaaDIterW
import Derived.Test.YteipncggndefmaaGLaw
namespace Go.Proofs.Yteipncggndefmaa

theorem edge_knownD {x y : Nat} : Edge knownL x y ↔ (x = 0 ∧ (y = 1 ∨ y = 2)) ∨ (x = 1 ∧ y = 3) ∨ (x = 2 ∧ y = 3) ∨ (x = 3 ∧ y = 1) := by
  unfold Edge
  constructor
  · rintro ⟨hy, r, hr, hm⟩
    match x, hr with
    | 0, hr => simp [knownL] at hr; subst hr; simp at hm; omega
    | 1, hr => simp [knownL] at hr; subst hr; simp at hm; omega
    | 2, hr => simp [knownL] at hr; subst hr; simp at hm; omega
    | 3, hr => simp [knownL] at hr; subst hr; simp at hm; omega
    | (k + 4), hr => simp [knownL] at hr
  · rintro (⟨rfl, rfl | rfl⟩ | ⟨rfl, rfl⟩ | ⟨rfl, rfl⟩ | ⟨rfl, rfl⟩)
    · exact ⟨by decide, [1, 2], rfl, by decide⟩
    · exact ⟨by decide, [1, 2], rfl, by decide⟩
    · exact ⟨by decide, [3], rfl, by decide⟩
    · exact ⟨by decide, [3], rfl, by decide⟩
    · exact ⟨by decide, [1], rfl, by decide⟩
theorem way_knownD (a : Nat) : (a ≠ 0 → Way (cutL knownL a) 0 1 ∧ Way (cutL knownL a) 0 2) ∧ (a ≠ 0 → Way (cutL knownL a) 0 3) := by
  have h0 : Way (cutL knownL a) 0 0 := .refl (by rw [cut_len]; decide)
  have h12 : a ≠ 0 → Way (cutL knownL a) 0 1 ∧ Way (cutL knownL a) 0 2 := fun ha => ⟨.step h0 (edge_cut.2 ⟨edge_knownD.2 (by omega), by omega⟩), .step h0 (edge_cut.2 ⟨edge_knownD.2 (by omega), by omega⟩)⟩
  refine ⟨h12, fun ha => ?_⟩
  by_cases h1 : a = 1
  · exact .step (h12 ha).2 (edge_cut.2 ⟨edge_knownD.2 (by omega), by omega⟩)
  · exact .step (h12 ha).1 (edge_cut.2 ⟨edge_knownD.2 (by omega), by omega⟩)
theorem dmn_knownD {a b : Nat} : Dmn knownL 0 a b ↔ b < 4 ∧ (a = b ∨ a = 0) := by
  constructor
  · rintro ⟨hw, h⟩
    have hb : b < 4 := hw.lt.2
    refine ⟨hb, ?_⟩
    rcases h with h | h | h
    · exact .inl h
    · exact .inr h
    · by_cases ha : a = 0
      · exact .inr ha
      · exfalso
        obtain ⟨h1, h2⟩ := way_knownD a
        have h0 : Way (cutL knownL a) 0 0 := .refl (by rw [cut_len]; decide)
        rcases (by omega : b = 0 ∨ b = 1 ∨ b = 2 ∨ b = 3) with rfl | rfl | rfl | rfl
        · exact h h0
        · exact h (h1 ha).1
        · exact h (h1 ha).2
        · exact h (h2 ha)
  · rintro ⟨hb, h⟩
    have hw : Way knownL 0 b := by
      obtain ⟨h1, h2⟩ := way_knownD 9
      rcases (by omega : b = 0 ∨ b = 1 ∨ b = 2 ∨ b = 3) with rfl | rfl | rfl | rfl
      · exact .refl (by decide)
      · exact way_cut (h1 (by decide)).1
      · exact way_cut (h1 (by decide)).2
      · exact way_cut (h2 (by decide))
    exact ⟨hw, h.imp id .inl⟩
theorem tree_knownD {t : List Int} (h : DomTree knownL 0 t) (hl : t.length = knownL.length) : t = [-1, 0, 0, 0] := by
  rcases h with ⟨y, o, T, e, ht⟩ | ⟨h1, -⟩
  · obtain rfl : y = 0 := by omega
    have ho0 := (List.getElem?_eq_some_iff.1 ht.row.head).1
    have hb : ∀ b, 0 < b → b < 4 → t[b]? = some 0 := by
      intro b h0 hb
      obtain ⟨q, hq, eq⟩ := List.getElem_of_mem ((ht.row.mem b).2 (dmn_knownD.2 ⟨hb, .inl rfl⟩ : Dmn knownL 0 b b).1)
      have hq' : o[q]? = some b := by rw [List.getElem?_eq_getElem hq, eq]
      have hq0 : 0 < q := by
        rcases Nat.eq_zero_or_pos q with rfl | h
        · have := Option.some.inj (hq'.symm.trans ht.row.head); omega
        · exact h
      obtain ⟨z, hz, htz⟩ := ht.at_ hq' hq0
      have hd := (ht.anc_dmn hz hq').1 (.up hq0 (.refl _))
      have hne : z ≠ b := fun e => by
        subst e
        have := ht.row.inj hz hq'
        have := ht.down q hq0
        omega
      rcases (dmn_knownD.1 hd).2 with e | e
      · exact absurd e hne
      · rw [htz, e]; rfl
    have h0 := ht.is.first 0 ht.row.head ho0
    have h1 := hb 1 (by decide) (by decide)
    have h2 := hb 2 (by decide) (by decide)
    have h3 := hb 3 (by decide) (by decide)
    have hl' : t.length = 4 := hl
    match t, hl' with
    | [a, b, c, d], _ =>
      simp at h0 h1 h2 h3
      simp [h0, h1, h2, h3]
  · exact absurd ⟨by decide, by decide⟩ h1
def frontK : List (List Int) := [[], [3], [3], [1]]
theorem front_knownD {B : List (List Int)} (h : FrontOf knownL 0 B) : B = frontK := by
  obtain ⟨hl, hr⟩ := h
  have hl' : B.length = 4 := hl
  have hP : ∀ a y, FrP knownL 0 a y ↔ ∃ x, Edge knownL x y ∧ (x < 4 ∧ (a = x ∨ a = 0)) ∧ (a = y ∨ ¬ (y < 4 ∧ (a = y ∨ a = 0))) := fun a y => by
    unfold FrP FrBy
    simp only [dmn_knownD]
  have hrow : ∀ (a : Nat) (r s : List Int), B[a]? = some r → s.Pairwise (· < ·) → (∀ z : Int, z ∈ s ↔ ∃ y : Nat, z = y ∧ FrP knownL 0 a y) → r = s := fun a r s h1 h2 h3 => rise_ext (hr a r h1).1 h2 (fun z => by rw [(hr a r h1).2, h3])
  match B, hl' with
  | [a, b, c, d], _ =>
    have e0 := hrow 0 a [] rfl List.Pairwise.nil (fun z => by
      simp only [hP, edge_knownD]
      constructor
      · intro h; cases h
      · rintro ⟨y, -, x, h1, h2, h3⟩; exfalso; simp only [or_true, and_true] at h3; omega)
    have e1 := hrow 1 b [3] rfl (by simp) (fun z => by
      simp only [hP, edge_knownD, List.mem_singleton]
      constructor
      · rintro rfl
        exact ⟨3, rfl, 1, by omega, by omega, by omega⟩
      · rintro ⟨y, e, x, h1, h2, h3⟩; omega)
    have e2 := hrow 2 c [3] rfl (by simp) (fun z => by
      simp only [hP, edge_knownD, List.mem_singleton]
      constructor
      · rintro rfl
        exact ⟨3, rfl, 2, by omega, by omega, by omega⟩
      · rintro ⟨y, e, x, h1, h2, h3⟩; omega)
    have e3 := hrow 3 d [1] rfl (by simp) (fun z => by
      simp only [hP, edge_knownD, List.mem_singleton]
      constructor
      · rintro rfl
        exact ⟨1, rfl, 3, by omega, by omega, by omega⟩
      · rintro ⟨y, e, x, h1, h2, h3⟩; omega)
    rw [e0, e1, e2, e3]
    rfl
theorem edge_frontK {x y : Nat} : Edge frontK x y ↔ (x = 1 ∧ y = 3) ∨ (x = 2 ∧ y = 3) ∨ (x = 3 ∧ y = 1) := by
  unfold Edge
  constructor
  · rintro ⟨hy, r, hr, hm⟩
    match x, hr with
    | 0, hr => simp [frontK] at hr; subst hr; simp at hm
    | 1, hr => simp [frontK] at hr; subst hr; simp at hm; omega
    | 2, hr => simp [frontK] at hr; subst hr; simp at hm; omega
    | 3, hr => simp [frontK] at hr; subst hr; simp at hm; omega
    | (k + 4), hr => simp [frontK] at hr
  · rintro (⟨rfl, rfl⟩ | ⟨rfl, rfl⟩ | ⟨rfl, rfl⟩)
    · exact ⟨by decide, [3], rfl, by decide⟩
    · exact ⟨by decide, [3], rfl, by decide⟩
    · exact ⟨by decide, [1], rfl, by decide⟩
theorem iter_knownD {out : List Int} (h : IterOf frontK [2] out) : out = [1, 3] := by
  refine h.det ⟨by simp, fun z => ?_⟩
  have h23 : Way frontK 2 3 := .step (.refl (by decide)) (edge_frontK.2 (by omega))
  constructor
  · intro hz
    rcases (by simpa using hz : z = 1 ∨ z = 3) with rfl | rfl
    · exact ⟨1, rfl, 2, 3, by decide, h23, edge_frontK.2 (by omega)⟩
    · exact ⟨3, rfl, 2, 2, by decide, .refl (by decide), edge_frontK.2 (by omega)⟩
  · rintro ⟨y, rfl, s, z, hs, hw, he⟩
    have := edge_frontK.1 he
    have hy : y = 1 ∨ y = 3 := by omega
    rcases hy with rfl | rfl <;> simp
end Go.Proofs.Yteipncggndefmaa
