/- One round of mending the tree, place by place. -/
import Derived.Test.YteipncggndefmaaDUp
namespace Go.Proofs.Yteipncggndefmaa

/-- What holds in a round ahead of place k. -/
structure Rnd (L : List (List Int)) (y : Nat) (o : List Nat) (d : Nat → Nat) (K k : Nat) (T : Nat → Nat) (t : List Int) (M0 : Nat) (ch : Bool) : Prop where
  row : Row L y o
  led : Led o.length (EP L o) d
  mend : Mend o.length (EP L o) d K k T
  kk : K = k ∨ K = o.length
  kle : K ≤ o.length
  tree : TreeK L.length K o T t
  le : measI L.length o t ≤ M0
  lt : ch = true → measI L.length o t < M0
  fix : ch = false → (k = 1 ∨ K = o.length) ∧ ∀ j, 0 < j → j < k → MeetAll (EP L o) o.length T j (T j)
section
variable {L : List (List Int)} {y : Nat} {o : List Nat} {d : Nat → Nat} {K k : Nat} {T : Nat → Nat} {t : List Int} {M0 : Nat} {ch : Bool}
theorem Rnd.step (R : Rnd L y o d K k T t M0 ch) {i : Nat} {r : List Int} {v tv : Int} (h0 : 0 < k) (hi : o[k]? = some i) (htv : t[i]? = some tv) (hr : ∀ y : Nat, (y : Int) ∈ r ↔ Edge L y i) (hU : UpOf o T K r r.length v) :
    ∃ K' T' , Rnd L y o d K' (k + 1) T' (t.set i v) M0 (ch || tv != v) := by
  have hk := (List.getElem?_eq_some_iff.1 hi).1
  have hnd := R.row.nodup
  have hin := R.row.lt hi
  have hkK : k ≤ K := by rcases R.kk with e | e <;> omega
  have hd := R.led.down k h0
  obtain ⟨u, z, hz, rfl, hu, hM⟩ := hU.all hi hr ⟨d k, by omega, R.led.edge k h0 hk⟩
  obtain ⟨hud, huk⟩ := hM.lt R.led R.mend.down h0 hk hkK
  have hwz := wt_place (n := L.length) hnd hz
  have hms := meas_set (n := L.length) (o := o) t i tv (z : Int) htv
  have hsm := R.row.small
  rcases R.kk with e | e
  · subst e
    have htf := R.tree.far i hin (fun p hp => by rw [(List.getElem?_inj (List.getElem?_eq_some_iff.1 hp).1 hnd).1 (hp.trans hi.symm)]; exact Nat.le_refl _)
    rw [htv] at htf
    obtain rfl := Option.some.inj htf
    have hw2 : wtI L.length o (-2) = L.length + 1 := rfl
    have hne : ((-2 : Int) != (z : Int)) = true := by simp
    have hle := R.le
    refine ⟨K + 1, setT T K u, R.row, R.led, R.mend.first R.led h0 hk hM, .inl rfl, hk, R.tree.set hnd R.mend.down hi hz h0 hin (.inr ⟨rfl, rfl⟩) (Nat.lt_succ_self _) hk, by omega, fun _ => by omega, fun h => ?_⟩
    rw [hne, Bool.or_true] at h
    cases h
  · subst e
    have hup := (R.mend.up R.led h0 hk hM).le R.mend.down
    have hTk := R.mend.down k h0
    obtain ⟨z2, hz2⟩ : ∃ z2, o[T k]? = some z2 := ⟨_, List.getElem?_eq_getElem (by omega)⟩
    have hta := R.tree.at' k i z2 hi h0 hk hz2
    rw [htv] at hta
    obtain rfl := Option.some.inj hta
    have hwz2 := wt_place (n := L.length) hnd hz2
    have hle := R.le
    refine ⟨o.length, setT T k u, R.row, R.led, R.mend.later R.led h0 hk hM, .inr rfl, Nat.le_refl _, R.tree.set hnd R.mend.down hi hz h0 hin (.inl rfl) hk (Nat.le_refl _), by omega, fun h => ?_, fun h => ?_⟩
    · rcases Bool.or_eq_true _ _ ▸ h with h | h
      · have := R.lt h; omega
      · have hne : z2 ≠ z := by intro e; rw [e] at h; simp at h
        have : T k ≠ u := fun e => hne (by rw [e] at hz2; exact Option.some.inj (hz2.symm.trans hz))
        omega
    · rw [Bool.or_eq_false_iff] at h
      obtain ⟨h1, h2⟩ := h
      have hzz : z2 = z := by
        have : (z2 : Int) = z := by simpa using h2
        omega
      subst hzz
      have hTu : T k = u := (List.getElem?_inj (by omega) hnd).1 (hz2.trans hz.symm)
      rw [← hTu, setT_id]
      refine ⟨.inr rfl, fun j hj0 hj => ?_⟩
      rcases Nat.lt_or_eq_of_le (Nat.lt_succ_iff.1 hj) with hj | rfl
      · exact (R.fix h1).2 j hj0 hj
      · rw [hTu]; exact hM
/-- The round's end. -/
theorem Rnd.end_ (R : Rnd L y o d K k T t M0 ch) (hk : k = o.length) : K = o.length := by rcases R.kk with e | e <;> omega
theorem Rnd.next (R : Rnd L y o d K k T t M0 true) (hk : k = o.length) : Rnd L y o d K 1 T t (measI L.length o t) false ∧ measI L.length o t < M0 := by
  have hK := R.end_ hk
  exact ⟨⟨R.row, R.led, by have hm := R.mend; rw [hK] at hm ⊢; exact hm.again (by omega), .inr hK, R.kle, R.tree, Nat.le_refl _, fun h => (by cases h), fun _ => ⟨.inl rfl, fun j h0 h1 => by omega⟩⟩, R.lt rfl⟩
theorem Rnd.done (R : Rnd L y o d K k T t M0 false) (hk : k = o.length) : Tree L y o T t := by
  have hK := R.end_ hk
  have hm := R.mend
  rw [hK] at hm
  have ht := R.tree
  rw [hK] at ht
  exact ⟨R.row, hm.down, ht, fun x q hq => hm.fixed (fun j h0 hj => (R.fix rfl).2 j h0 (by omega)) hq⟩
/-- The first round's beginning. -/
theorem Rnd.begin (hr : Row L y o) {d : Nat → Nat} (hd : Led o.length (EP L o) d) : Rnd L y o d 1 1 (fun _ => 0) ((List.replicate L.length (-2)).set y (-1)) (measI L.length o ((List.replicate L.length (-2)).set y (-1))) false := by
  have h0 : 0 < o.length := (List.getElem?_eq_some_iff.1 hr.head).1
  have hy := hr.lt hr.head
  refine ⟨hr, hd, Mend.begin, .inl rfl, h0, ⟨by simp, fun x hx _ => ?_, fun p x z _ h1 h2 => by omega, fun x hx hf => ?_⟩, Nat.le_refl _, fun h => (by cases h), fun _ => ⟨.inl rfl, fun j h1 h2 => by omega⟩⟩
  · obtain rfl := Option.some.inj (hr.head.symm.trans hx)
    rw [List.getElem?_set_self (by simpa using hy)]
  · have hne : y ≠ x := fun e => by have := hf 0 (e ▸ hr.head); omega
    rw [List.getElem?_set_ne hne, List.getElem?_replicate, if_pos hx]
end
end Go.Proofs.Yteipncggndefmaa
