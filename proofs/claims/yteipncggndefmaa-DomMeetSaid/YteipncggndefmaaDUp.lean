/- What is reckoned for a node: where the ways up of those that lead to it meet; the tree with one node told anew. -/
import Derived.Test.YteipncggndefmaaDMeetW
namespace Go.Proofs.Yteipncggndefmaa
open Go.RowKit Go.Maps

section
variable {L : List (List Int)} {o : List Nat} {T : Nat → Nat} {K : Nat} {r : List Int}
def InT (o : List Nat) (r : List Int) (j p : Nat) : Prop := ∃ y : Nat, o[p]? = some y ∧ (y : Int) ∈ r.take j
def UpOf (o : List Nat) (T : Nat → Nat) (K : Nat) (r : List Int) (j : Nat) (v : Int) : Prop :=
  (v = -2 ∧ ∀ p, p < K → ¬ InT o r j p) ∨ ∃ c z : Nat, o[c]? = some z ∧ v = z ∧ c < K ∧ ∀ x, Anc T x c ↔ ∀ p, p < K → InT o r j p → Anc T x p
theorem inT_succ {j p y : Nat} (hy : r[j]? = some (y : Int)) : InT o r (j + 1) p ↔ InT o r j p ∨ o[p]? = some y := by
  have ht : r.take (j + 1) = r.take j ++ [(y : Int)] := by rw [List.take_add_one, hy]; rfl
  unfold InT
  rw [ht]
  constructor
  · rintro ⟨z, hz, hm⟩
    rcases List.mem_append.1 hm with h | h
    · exact .inl ⟨z, hz, h⟩
    · have : z = y := by have := List.mem_singleton.1 h; omega
      exact .inr (this ▸ hz)
  · rintro (⟨z, hz, hm⟩ | h)
    · exact ⟨z, hz, List.mem_append.2 (.inl hm)⟩
    · exact ⟨y, h, List.mem_append.2 (.inr (List.Mem.head _))⟩
theorem UpOf.start (o : List Nat) (T : Nat → Nat) (K : Nat) (r : List Int) : UpOf o T K r 0 (-2) := .inl ⟨rfl, fun p _ ⟨y, _, h⟩ => by simp at h⟩
theorem UpOf.far {j y : Nat} {v : Int} (h : UpOf o T K r j v) (hy : r[j]? = some (y : Int)) (hf : ∀ p, o[p]? = some y → K ≤ p) : UpOf o T K r (j + 1) v := by
  have he : ∀ p, p < K → (InT o r (j + 1) p ↔ InT o r j p) := fun p hp => by
    rw [inT_succ hy]
    exact ⟨fun h => h.elim id (fun e => by have := hf p e; omega), .inl⟩
  rcases h with ⟨e, h1⟩ | ⟨c, z, h1, h2, h3, h4⟩
  · exact .inl ⟨e, fun p hp h => h1 p hp ((he p hp).1 h)⟩
  · exact .inr ⟨c, z, h1, h2, h3, fun x => by
      rw [h4 x]
      exact ⟨fun h p hp hi => h p hp ((he p hp).1 hi), fun h p hp hi => h p hp ((he p hp).2 hi)⟩⟩
theorem UpOf.one {j y q : Nat} (h : UpOf o T K r j (-2)) (hy : r[j]? = some (y : Int)) (hn : o.Nodup) (hq : o[q]? = some y) (hqK : q < K) : UpOf o T K r (j + 1) y := by
  rcases h with ⟨-, h1⟩ | ⟨c, z, -, h2, -⟩
  · refine .inr ⟨q, y, hq, rfl, hqK, fun x => ⟨fun hx p hp hi => ?_, fun hx => hx q hqK ((inT_succ hy).2 (.inr hq))⟩⟩
    rcases (inT_succ hy).1 hi with h | h
    · exact absurd h (h1 p hp)
    · obtain rfl : q = p := (List.getElem?_inj (List.getElem?_eq_some_iff.1 hq).1 hn).1 (hq.trans h.symm)
      exact hx
  · omega
theorem UpOf.known {j : Nat} {v : Int} (h : UpOf o T K r j v) (hv : v ≠ -2) : ∃ c z : Nat, o[c]? = some z ∧ v = z ∧ c < K ∧ ∀ x, Anc T x c ↔ ∀ p, p < K → InT o r j p → Anc T x p :=
  h.elim (fun h => absurd h.1 hv) id
theorem UpOf.more {j y q c c' z' : Nat} (h4 : ∀ x, Anc T x c ↔ ∀ p, p < K → InT o r j p → Anc T x p) (hy : r[j]? = some (y : Int)) (hn : o.Nodup) (hq : o[q]? = some y) (hqK : q < K) (hM : Meet T q c c') (hz' : o[c']? = some z') (hc' : c' < K) : UpOf o T K r (j + 1) z' := by
  refine .inr ⟨c', z', hz', rfl, hc', fun x => ?_⟩
  rw [hM x, h4 x]
  constructor
  · rintro ⟨h1, h2⟩ p hp hi
    rcases (inT_succ hy).1 hi with h | h
    · exact h2 p hp h
    · obtain rfl : q = p := (List.getElem?_inj (List.getElem?_eq_some_iff.1 hq).1 hn).1 (hq.trans h.symm)
      exact h1
  · intro h
    exact ⟨h q hqK ((inT_succ hy).2 (.inr hq)), fun p hp hi => h p hp ((inT_succ hy).2 (.inl hi))⟩
/-- Of all that lead to a node. -/
theorem UpOf.all {k i : Nat} {v : Int} (h : UpOf o T K r r.length v) (hi : o[k]? = some i) (hr : ∀ y : Nat, (y : Int) ∈ r ↔ Edge L y i) (hd : ∃ p, p < K ∧ EP L o p k) : ∃ u z : Nat, o[u]? = some z ∧ v = z ∧ u < K ∧ MeetAll (EP L o) K T k u := by
  have he : ∀ p, InT o r r.length p ↔ EP L o p k := fun p => by
    unfold InT EP
    rw [List.take_length]
    constructor
    · rintro ⟨y, h1, h2⟩
      exact ⟨y, i, h1, hi, (hr y).1 h2⟩
    · rintro ⟨a, b, h1, h2, h3⟩
      obtain rfl := Option.some.inj (hi.symm.trans h2)
      exact ⟨a, h1, (hr a).2 h3⟩
  rcases h with ⟨-, h1⟩ | ⟨c, z, h1, h2, h3, h4⟩
  · obtain ⟨p, hp, hpe⟩ := hd
    exact absurd ((he p).2 hpe) (h1 p hp)
  · refine ⟨c, z, h1, h2, h3, fun x => ?_⟩
    rw [h4 x]
    exact ⟨fun h p hp hi => h p hp ((he p).2 hi), fun h p hp hi => h p hp ((he p).1 hi)⟩

/-- One node told anew. -/
theorem TreeK.set {n k u i z K' : Nat} {t : List Int} (h : TreeK n K o T t) (hnd : o.Nodup) (hd : Down T) (hi : o[k]? = some i) (hz : o[u]? = some z) (h0 : 0 < k) (hin : i < n) (hK : K' = K ∨ (K' = k + 1 ∧ K = k)) (hkK : k < K') (hKo : K' ≤ o.length) : TreeK n K' o (setT T k u) (t.set i (z : Int)) := by
  have hne : ∀ {p x : Nat}, o[p]? = some x → p ≠ k → i ≠ x := fun hp hpk e => hpk ((List.getElem?_inj (List.getElem?_eq_some_iff.1 hp).1 hnd).1 (hp.trans (e ▸ hi).symm))
  refine ⟨by rw [List.length_set]; exact h.len, fun x hx _ => ?_, fun p x z' hp hp0 hpK hz' => ?_, fun x hx hf => ?_⟩
  · rw [List.getElem?_set_ne (hne hx (by omega))]
    exact h.first x hx (by omega)
  · by_cases e : p = k
    · subst e
      obtain rfl := Option.some.inj (hi.symm.trans hp)
      rw [setT_at] at hz'
      obtain rfl := Option.some.inj (hz.symm.trans hz')
      rw [List.getElem?_set_self (by rw [h.len]; exact hin)]
    · rw [List.getElem?_set_ne (hne hp e)]
      rw [setT_ne e] at hz'
      exact h.at' p x z' hp hp0 (by omega) hz'
  · have hix : i ≠ x := fun e => by have := hf k (e ▸ hi); omega
    rw [List.getElem?_set_ne hix]
    exact h.far x hx (fun p hp => by have := hf p hp; omega)

/-- How much is left to mend. -/
def wtI (n : Nat) (o : List Nat) (x : Int) : Nat := if x = -2 then n + 1 else if x = -1 then 0 else o.idxOf x.toNat
def measI (n : Nat) (o : List Nat) (t : List Int) : Nat := (t.map (wtI n o)).sum
theorem meas_set {n : Nat} : ∀ (t : List Int) (i : Nat) (a b : Int), t[i]? = some a → measI n o (t.set i b) + wtI n o a = measI n o t + wtI n o b
  | [], i, a, b, h => by simp at h
  | c :: t, 0, a, b, h => by
    obtain rfl : c = a := by simpa using h
    simp only [measI, List.set_cons_zero, List.map_cons, List.sum_cons]
    omega
  | c :: t, i + 1, a, b, h => by
    have ih := meas_set (n := n) t i a b (by simpa using h)
    simp only [measI, List.set_cons_succ, List.map_cons, List.sum_cons] at ih ⊢
    omega
theorem wt_place {n p x : Nat} (hn : o.Nodup) (h : o[p]? = some x) : wtI n o (x : Int) = p := by
  unfold wtI
  rw [if_neg (by omega), if_neg (by omega), Int.toNat_natCast, idx_of hn h]
end
end Go.Proofs.Yteipncggndefmaa
