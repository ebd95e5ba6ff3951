/- What a walk's order tells of ways that lead back. -/
import Derived.Test.YtedleliddhhacaaGPost
namespace Go.Proofs.Ytedleliddhhacaa

/-- A way none of whose nodes is in s. -/
inductive Av (L : List (List Int)) (s : List Nat) : Nat → Nat → Prop
  | refl {a : Nat} : a < L.length → a ∉ s → Av L s a a
  | step {a b c : Nat} : Av L s a b → Edge L b c → c ∉ s → Av L s a c
section
variable {L : List (List Int)} {s t : List Nat} {a b c : Nat}
theorem Av.way (h : Av L s a b) : Way L a b := by
  induction h with
  | refl h _ => exact .refl h
  | step _ e _ ih => exact .step ih e
theorem Av.out (h : Av L s a b) : a ∉ s ∧ b ∉ s := by
  induction h with
  | refl _ h => exact ⟨h, h⟩
  | step _ _ h ih => exact ⟨ih.1, h⟩
theorem Av.lt (h : Av L s a b) : a < L.length ∧ b < L.length := h.way.lt
theorem Av.mono (h : Av L s a b) (hm : ∀ x ∈ t, x ∈ s) : Av L t a b := by
  induction h with
  | refl h1 h2 => exact .refl h1 (fun h => h2 (hm _ h))
  | step _ e h ih => exact .step ih e (fun k => h (hm _ k))
theorem Av.trans (h : Av L s a b) (k : Av L s b c) : Av L s a c := by
  induction k with
  | refl _ _ => exact h
  | step _ e h2 ih => exact .step ih e h2
theorem Av.head (ha : a ∉ s) (e : Edge L a b) (k : Av L s b c) : Av L s a c := Av.trans (.step (.refl e.lt.1 ha) e k.out.1) k
theorem Av.closed {P : List Nat} (hP : ∀ x ∈ P, ∀ z, Edge L x z → z ∉ s → z ∈ P) (h : Av L s a c) (ha : a ∈ P) : c ∈ P := by
  induction h with
  | refl _ _ => exact ha
  | step _ e h2 ih => exact hP _ ih _ e h2
theorem Av.past {P : List Nat} (hP : ∀ x ∈ P, ∀ z, Edge L x z → z ∉ s → z ∈ P) (ht : ∀ x, x ∈ t → x ∈ P ∨ x ∈ s) (h : Av L s a c) (hc : c ∉ P) : Av L t a c := by
  induction h with
  | refl h1 h2 => exact .refl h1 (fun h => (ht _ h).elim hc h2)
  | step _ e h2 ih => exact .step (ih (fun hb => hc (hP _ hb _ e h2))) e (fun h => (ht _ h).elim hc h2)
theorem Av.split (h : Av L s a c) (y : Nat) : Av L (y :: s) a c ∨ Av L s a y := by
  induction h with
  | refl h1 h2 =>
    by_cases e : a = y
    · subst e; exact .inr (.refl h1 h2)
    · exact .inl (.refl h1 (by simp [e, h2]))
  | step hw e h2 ih =>
    rename_i b c
    rcases ih with h | h
    · by_cases ec : c = y
      · subst ec; exact .inr (.step hw e h2)
      · exact .inl (.step h e (by simp [ec, h2]))
    · exact .inr h
theorem Av.of_way (h : Way L a b) (hs : ∀ x, Way L a x → Way L x b → x ∉ s) : Av L s a b := by
  induction h with
  | refl h => exact .refl h (hs _ (.refl h) (.refl h))
  | @step b c hw e ih => exact .step (ih (fun x h1 h2 => hs x h1 (.step h2 e))) e (hs c (.step hw e) (.refl e.lt.2))
end

/-- What a walk adds, and in what order. -/
structure Dfs (L : List (List Int)) (l : List Int) (s s' new : List Nat) : Prop where
  seen : ∀ x, x ∈ s' ↔ x ∈ new ∨ x ∈ s
  out : ∀ x ∈ new, x ∉ s
  nodup : new.Nodup
  all : ∀ y ∈ l, 0 ≤ y → y < L.length → y.toNat ∈ s'
  close : ∀ x ∈ new, ∀ y, Edge L x y → y ∈ s'
  from' : ∀ x ∈ new, ∃ f : Nat, (f : Int) ∈ l ∧ Av L s f x
  first : ∀ x f, x ∈ new → f ∈ new → Av L s x f → ∃ z ∈ new, Av L s x z ∧ Av L s z x ∧ new.idxOf z ≤ new.idxOf f
theorem Kids.dfs {L : List (List Int)} {l : List Int} {s o s' o' : List Nat} (h : Kids L l s o s' o') : ∃ new, o' = new ++ o ∧ Dfs L l s s' new := by
  induction h with
  | nil => exact ⟨[], rfl, by simp, by simp, by simp, by simp, by simp, by simp, by simp⟩
  | @skip y ys s o s' o' hs hk ih =>
    obtain ⟨new, h1, D⟩ := ih
    refine ⟨new, h1, D.seen, D.out, D.nodup, fun z hz h0 hn => ?_, D.close, fun x hx => ?_, D.first⟩
    · rcases List.mem_cons.1 hz with rfl | hz
      · exact (D.seen _).2 (.inr (hs ⟨h0, hn⟩))
      · exact D.all z hz h0 hn
    · obtain ⟨f, hf, hw⟩ := D.from' x hx
      exact ⟨f, List.Mem.tail _ hf, hw⟩
  | @go y ys r s o s1 o1 s' o' hy hs hr k1 k2 ih1 ih2 =>
    obtain ⟨n1, e1, A⟩ := ih1
    obtain ⟨n2, e2, B⟩ := ih2
    have hyn1 : y ∉ n1 := fun h => A.out y h (List.Mem.head _)
    have hP1 : ∀ x, x ∈ s1 ↔ x ∈ y :: n1 ∨ x ∈ s := by
      intro x
      rw [A.seen, List.mem_cons, List.mem_cons]
      constructor
      · rintro (h | h | h)
        · exact .inl (.inr h)
        · exact .inl (.inl h)
        · exact .inr h
      · rintro ((h | h) | h)
        · exact .inr (.inl h)
        · exact .inl h
        · exact .inr (.inr h)
    have hP : ∀ x ∈ y :: n1, ∀ z, Edge L x z → z ∈ s1 := by
      intro x hx z e
      rcases List.mem_cons.1 hx with rfl | hx
      · obtain ⟨hz, r', hr', hm⟩ := e
        rw [hr] at hr'
        obtain rfl := Option.some.inj hr'
        simpa using A.all (z : Int) hm (by omega) (by omega)
      · exact A.close x hx z e
    have hPc : ∀ x ∈ y :: n1, ∀ z, Edge L x z → z ∉ s → z ∈ y :: n1 := fun x hx z e hz => ((hP1 z).1 (hP x hx z e)).resolve_right hz
    have hyx : ∀ x ∈ y :: n1, Av L s y x := by
      intro x hx
      rcases List.mem_cons.1 hx with rfl | hx
      · exact .refl hy hs
      · obtain ⟨f, hf, hw⟩ := A.from' x hx
        exact Av.head hs ⟨hw.lt.1, r, hr, hf⟩ (hw.mono (fun x hx => List.Mem.tail _ hx))
    have hP2 : ∀ x ∈ y :: n1, x ∉ n2 := fun x hx h => B.out x h ((hP1 x).2 (.inl hx))
    refine ⟨n2 ++ y :: n1, by rw [e2, e1]; simp, ?_⟩
    refine ⟨fun x => ?_, fun x hx => ?_, ?_, fun z hz h0 hn => ?_, fun x hx z e => ?_, fun x hx => ?_, fun x f hx hf hw => ?_⟩
    · rw [B.seen, hP1, List.mem_append, or_assoc]
    · rcases List.mem_append.1 hx with hx | hx
      · exact fun h => B.out x hx ((hP1 x).2 (.inr h))
      · rcases List.mem_cons.1 hx with rfl | hx
        · exact hs
        · exact fun h => A.out x hx (List.Mem.tail _ h)
    · rw [List.nodup_append]
      refine ⟨B.nodup, List.nodup_cons.2 ⟨hyn1, A.nodup⟩, fun u hu v hv e => ?_⟩
      subst e
      exact hP2 u hv hu
    · rcases List.mem_cons.1 hz with rfl | hz
      · exact (B.seen _).2 (.inr ((hP1 _).2 (.inl (by simp))))
      · exact B.all z hz h0 hn
    · rcases List.mem_append.1 hx with hx | hx
      · exact B.close x hx z e
      · exact (B.seen z).2 (.inr (hP x hx z e))
    · rcases List.mem_append.1 hx with hx | hx
      · obtain ⟨f, hf, hw⟩ := B.from' x hx
        exact ⟨f, List.Mem.tail _ hf, hw.mono (fun x hx => (hP1 x).2 (.inr hx))⟩
      · exact ⟨y, List.Mem.head _, hyx x hx⟩
    · rcases List.mem_append.1 hx with hx2 | hxP
      · rcases List.mem_append.1 hf with hf2 | hfP
        · obtain ⟨z, hz, h1, h2, h3⟩ := B.first x f hx2 hf2 (hw.past hPc (fun x h => (hP1 x).1 h) (fun h => hP2 f h hf2))
          have hm : ∀ x ∈ s, x ∈ s1 := fun x hx => (hP1 x).2 (.inr hx)
          refine ⟨z, List.mem_append_left _ hz, h1.mono hm, h2.mono hm, ?_⟩
          rw [List.idxOf_append, List.idxOf_append, if_pos hz, if_pos hf2]
          exact h3
        · refine ⟨x, hx, .refl hw.lt.1 hw.out.1, .refl hw.lt.1 hw.out.1, ?_⟩
          rw [List.idxOf_append, List.idxOf_append, if_pos hx2, if_neg (hP2 f hfP)]
          have := List.idxOf_lt_length_of_mem hx2
          omega
      · have hfP : f ∈ y :: n1 := hw.closed hPc hxP
        have hf2 := hP2 f hfP
        by_cases hxy : Av L s x y
        · refine ⟨y, by simp, hxy, hyx x hxP, ?_⟩
          rw [List.idxOf_append, List.idxOf_append, if_neg (hP2 y (by simp)), if_neg hf2, List.idxOf_cons_self]
          omega
        · have hw2 : Av L (y :: s) x f := (hw.split y).resolve_right hxy
          have hne : ∀ z, z ∉ y :: s → z ∈ y :: n1 → z ∈ n1 := by
            intro z h1 h2
            rcases List.mem_cons.1 h2 with rfl | h2
            · exact absurd (List.Mem.head _) h1
            · exact h2
          obtain ⟨z, hz, h1, h2, h3⟩ := A.first x f (hne _ hw2.out.1 hxP) (hne _ hw2.out.2 hfP) hw2
          have hm : ∀ x ∈ s, x ∈ y :: s := fun x hx => List.Mem.tail _ hx
          have hzy : (y == z) = false := beq_false_of_ne (fun e => hyn1 (e ▸ hz))
          have hfy : (y == f) = false := beq_false_of_ne (fun e => hyn1 (e ▸ hne _ hw2.out.2 hfP))
          refine ⟨z, by simp [hz], h1.mono hm, h2.mono hm, ?_⟩
          rw [List.idxOf_append, List.idxOf_append, if_neg (hP2 z (List.Mem.tail _ hz)), if_neg hf2, List.idxOf_cons, List.idxOf_cons, hzy, hfy]
          simp only [cond_false]
          omega

/-- Ways lead from each to the other. -/
def SC (L : List (List Int)) (a b : Nat) : Prop := Way L a b ∧ Way L b a
theorem SC.symm {L : List (List Int)} {a b : Nat} (h : SC L a b) : SC L b a := ⟨h.2, h.1⟩
theorem SC.trans {L : List (List Int)} {a b c : Nat} (h : SC L a b) (k : SC L b c) : SC L a c := ⟨h.1.trans k.1, k.2.trans h.2⟩
theorem SC.refl {L : List (List Int)} {a : Nat} (h : a < L.length) : SC L a a := ⟨.refl h, .refl h⟩

/-- An order of all nodes in which each that leads to one has one of its circle that stands no later. -/
structure Lead (L : List (List Int)) (o : List Nat) : Prop where
  nodup : o.Nodup
  mem : ∀ x, x ∈ o ↔ x < L.length
  first : ∀ x f, Way L x f → ∃ z, SC L x z ∧ o.idxOf z ≤ o.idxOf f
theorem Lead.len {L : List (List Int)} {o : List Nat} (h : Lead L o) : o.length = L.length := by
  have h1 := List.Perm.length_eq ((List.perm_ext_iff_of_nodup h.nodup List.nodup_range).2 (fun x => by rw [h.mem, List.mem_range] : ∀ x, x ∈ o ↔ x ∈ List.range L.length))
  simpa using h1

open Classical in
/-- The first one of an order that lies with a node on one circle, or -1. -/
noncomputable def compF (L : List (List Int)) : List Nat → Nat → Int
  | [], _ => -1
  | f :: p, x => if SC L x f then f else compF L p x
section
variable {L : List (List Int)} {p q : List Nat} {x y f : Nat}
theorem compF_none : compF L p x = -1 ↔ ∀ f ∈ p, ¬ SC L x f := by
  induction p with
  | nil => simp [compF]
  | cons g p ih =>
    unfold compF
    split
    · rename_i h; simp [h]
    · rename_i h; rw [ih]; simp [h]
theorem compF_snoc : compF L (p ++ [f]) x = if compF L p x = -1 then (open Classical in if SC L x f then (f : Int) else -1) else compF L p x := by
  induction p with
  | nil => simp [compF]
  | cons g p ih =>
    simp only [List.cons_append, compF]
    split
    · simp
    · exact ih
theorem compF_congr (h : SC L x y) : compF L p x = compF L p y := by
  induction p with
  | nil => rfl
  | cons g p ih =>
    simp only [compF]
    have : SC L x g ↔ SC L y g := ⟨fun k => h.symm.trans k, fun k => h.trans k⟩
    by_cases hg : SC L x g
    · rw [if_pos hg, if_pos (this.1 hg)]
    · rw [if_neg hg, if_neg (fun k => hg (this.2 k)), ih]
theorem compF_some {z : Int} (h : compF L p x = z) (hz : z ≠ -1) : ∃ f ∈ p, SC L x f ∧ z = (f : Int) := by
  induction p with
  | nil => exact absurd h.symm hz
  | cons g p ih =>
    simp only [compF] at h
    split at h
    · rename_i k; exact ⟨g, by simp, k, h.symm⟩
    · obtain ⟨f, hf, k⟩ := ih h; exact ⟨f, by simp [hf], k⟩
end
/-- From the k-th one back, past those that have a component: just its circle, if it has none yet. -/
theorem Lead.gather {L : List (List Int)} {o : List Nat} (h : Lead L o) {k f : Nat} (hf : o[k]? = some f) {s : List Nat} (hs : ∀ x, x ∈ s ↔ compF L (o.take k) x ≠ -1) (x : Nat) : Av L s x f ↔ compF L (o.take k) x = -1 ∧ SC L x f := by
  obtain ⟨hk, hfk⟩ := List.getElem?_eq_some_iff.1 hf
  have hidx : o.idxOf f = k := by
    have hm : f ∈ o := hfk ▸ List.getElem_mem hk
    have h1 := List.getElem_idxOf (List.idxOf_lt_length_of_mem hm)
    exact (List.getElem_inj h.nodup).1 (h1.trans hfk.symm)
  have hns : ∀ z, z ∉ s ↔ compF L (o.take k) z = -1 := fun z => by rw [hs]; simp
  constructor
  · intro hw
    have hx := (hns x).1 hw.out.1
    refine ⟨hx, ?_⟩
    obtain ⟨z, hz, hle⟩ := h.first x f hw.way
    rw [hidx] at hle
    have hzm : z ∈ o := (h.mem z).2 hz.1.lt.2
    rcases Nat.lt_or_ge (o.idxOf z) k with hlt | hge
    · refine absurd hz (compF_none.1 hx z ?_)
      rw [List.mem_take_iff_getElem]
      exact ⟨o.idxOf z, by have := List.idxOf_lt_length_of_mem hzm; omega, List.getElem_idxOf _⟩
    · have he : o.idxOf z = k := by omega
      have : z = f := by
        have h1 := List.getElem_idxOf (List.idxOf_lt_length_of_mem hzm)
        have h2 : o[o.idxOf z]? = some z := by rw [List.getElem?_eq_getElem (List.idxOf_lt_length_of_mem hzm), h1]
        rw [he, hf] at h2
        exact (Option.some.inj h2).symm
      exact this ▸ hz
  · rintro ⟨hx, hc⟩
    refine Av.of_way hc.1 (fun w h1 h2 => ?_)
    rw [hns, ← hx]
    exact (compF_congr ⟨h1, h2.trans hc.2⟩).symm
/-- At the end marks are equal just on one circle. -/
theorem Lead.done {L : List (List Int)} {o : List Nat} (h : Lead L o) {x y : Nat} (hx : x < L.length) (hy : y < L.length) : compF L o x = compF L o y ↔ SC L x y := by
  constructor
  · intro he
    have hne : compF L o x ≠ -1 := fun hn => compF_none.1 hn x ((h.mem x).2 hx) (.refl hx)
    obtain ⟨f, _, h1, e1⟩ := compF_some rfl hne
    obtain ⟨g, _, h2, e2⟩ := compF_some rfl (he ▸ hne)
    have : f = g := by omega
    exact h1.trans (this ▸ h2).symm
  · exact compF_congr
end Go.Proofs.Ytedleliddhhacaa
