/- The document's own answers of stores and calls; lists that rise, held against sets. -/
import Derived.Test.YtdpmpppafkefoaaDoorUpdT
namespace Go.Proofs.YtdpmpppafkefoaaDoor
open Go.RowKit Go.Maps

/-- A list that rises, of numbers from 0 on, has just a set's numbers. -/
structure Tells (ys : List Int) (l : List Nat) : Prop where
  rise : ys.Pairwise (· < ·)
  low : ∀ y ∈ ys, 0 ≤ y
  mem : ∀ n : Nat, n ∈ l ↔ (n : Int) ∈ ys

theorem rise_int : ∀ {a b : List Int}, a.Pairwise (· < ·) → b.Pairwise (· < ·) → (∀ n, n ∈ a ↔ n ∈ b) → a = b
  | [], [], _, _, _ => rfl
  | [], y :: s, _, _, h => by have := (h y).2 (by simp); simp at this
  | x :: r, [], _, _, h => by have := (h x).1 (by simp); simp at this
  | x :: r, y :: s, h1, h2, h => by
    rw [List.pairwise_cons] at h1 h2
    have hxy : x = y := by
      rcases List.mem_cons.1 ((h x).1 (by simp)) with e | hx
      · exact e
      · rcases List.mem_cons.1 ((h y).2 (by simp)) with e | hy
        · exact e.symm
        · have a1 := h2.1 x hx
          have a2 := h1.1 y hy
          omega
    subst hxy
    congr 1
    refine rise_int h1.2 h2.2 (fun n => ?_)
    have hn := h n
    rw [List.mem_cons, List.mem_cons] at hn
    constructor
    · intro hr
      rcases hn.1 (Or.inr hr) with e | hs
      · have := h1.1 n hr
        omega
      · exact hs
    · intro hs
      rcases hn.2 (Or.inr hs) with e | hr
      · have := h2.1 n hs
        omega
      · exact hr

theorem ints_rise {rs : List Nat} (h : rs.Pairwise (· < ·)) : (ints rs).Pairwise (· < ·) := by
  unfold ints
  rw [List.pairwise_map]
  exact h.imp (fun h => by omega)
theorem mem_intsN {rs : List Nat} {y : Int} : y ∈ ints rs ↔ 0 ≤ y ∧ y.toNat ∈ rs := by
  unfold ints
  rw [List.mem_map]
  constructor
  · rintro ⟨n, hn, rfl⟩
    exact ⟨by omega, by simpa using hn⟩
  · rintro ⟨h0, h⟩
    exact ⟨_, h, by omega⟩
theorem Tells.same {ys : List Int} {l rs : List Nat} (T : Tells ys l) (h1 : rs.Pairwise (· < ·)) (h2 : ∀ n, n ∈ rs ↔ n ∈ l) : ints rs = ys := by
  refine rise_int (ints_rise h1) T.rise (fun y => ?_)
  rw [mem_intsN]
  constructor
  · rintro ⟨h0, h⟩
    have := (T.mem _).1 ((h2 _).1 h)
    rwa [Int.toNat_of_nonneg h0] at this
  · intro hy
    have h0 := T.low y hy
    exact ⟨h0, (h2 _).2 ((T.mem _).2 (by rwa [Int.toNat_of_nonneg h0]))⟩
theorem Tells.has {ys : List Int} {l : List Nat} (T : Tells ys l) (o : Int) : (0 ≤ o ∧ o.toNat ∈ l) ↔ o ∈ ys := by
  constructor
  · rintro ⟨h0, h⟩
    have := (T.mem _).1 h
    rwa [Int.toNat_of_nonneg h0] at this
  · intro hy
    have h0 := T.low o hy
    exact ⟨h0, (T.mem _).2 (by rwa [Int.toNat_of_nonneg h0])⟩
theorem Tells.len {ys : List Int} {l : List Nat} (T : Tells ys l) (hl : l.Nodup) : l.length = ys.length := by
  have h1 : (ys.map Int.toNat).Nodup := by
    have : ys.Pairwise (fun a b => a.toNat ≠ b.toNat) := T.rise.imp_of_mem (fun {a b} ha hb h => by have := T.low a ha; have := T.low b hb; omega)
    unfold List.Nodup
    rw [List.pairwise_map]
    exact this
  rw [nodup_len_eq hl h1 (fun n => ?_), List.length_map]
  rw [T.mem, List.mem_map]
  constructor
  · intro h
    exact ⟨_, h, by simp⟩
  · rintro ⟨y, hy, rfl⟩
    rwa [Int.toNat_of_nonneg (T.low y hy)]
theorem Tells.nil {ys : List Int} {l : List Nat} (T : Tells ys l) : l = [] ↔ ys = [] := by
  constructor
  · rintro rfl
    cases ys with
    | nil => rfl
    | cons y ys =>
      have h0 := T.low y (by simp)
      have := (T.mem y.toNat).2 (by rw [Int.toNat_of_nonneg h0]; simp)
      cases this
  · rintro rfl
    cases l with
    | nil => rfl
    | cons n l =>
      have := (T.mem n).1 (by simp)
      cases this

theorem tells_none : Tells [] [] := ⟨List.Pairwise.nil, by simp, by simp⟩
theorem tells_of (xs : List Int) : Tells (ofL xs) (numsOf xs) := by
  refine ⟨rise_uniL List.Pairwise.nil xs, fun y hy => ?_, fun n => ?_⟩
  · rw [ofL_uniL, mem_uniL] at hy
    rcases hy with h | h
    · cases h
    · exact h.2
  · rw [mem_numsOf, ofL_uniL, mem_uniL]
    simp
theorem Tells.union {ys zs : List Int} {l o : List Nat} (T : Tells ys l) (U : Tells zs o) : Tells (uniL ys zs) (uni l o) := by
  refine ⟨rise_uniL T.rise zs, fun y hy => ?_, fun n => ?_⟩
  · rcases mem_uniL.1 hy with h | h
    · exact T.low y h
    · exact h.2
  · rw [mem_uni, mem_uniL, T.mem, U.mem]
    simp

/-- The document's answer of a store. -/
def storeR (xa xb xt : List Int) (o : Int) (single : Bool) : List Int :=
  if xt = [] then [] else if ¬ o ∈ xt then xa else if xt.length = 1 ∧ single = true then xb else uniL xa xb
theorem tells_store {xa xb xt : List Int} {A B T : List Nat} {o : Int} {single : Bool} (hA : Tells xa A) (hB : Tells xb B) (hT : Tells xt T) (nT : T.Nodup) : Tells (storeR xa xb xt o single) (storeL A B T o single) := by
  have hl := hT.len nT
  have hh := hT.has o
  unfold storeR storeL
  by_cases h0 : T = []
  · rw [if_pos h0, if_pos (hT.nil.1 h0)]
    exact tells_none
  · have h0' : ¬ xt = [] := fun e => h0 (hT.nil.2 e)
    rw [if_neg h0, if_neg h0']
    have hp : 0 < T.length := List.length_pos_iff.2 h0
    by_cases h1 : 0 ≤ o ∧ o.toNat ∈ T
    · rw [if_neg (c := ¬ (0 ≤ o ∧ o.toNat ∈ T)) (fun k => k h1), if_neg (c := ¬ o ∈ xt) (fun k => k (hh.1 h1))]
      by_cases h2 : 1 < T.length ∨ single = false
      · rw [if_pos h2, if_neg]
        · exact hA.union hB
        · rintro ⟨h3, h4⟩
          rcases h2 with h2 | h2
          · omega
          · rw [h4] at h2; cases h2
      · rw [if_neg h2, if_pos]
        · exact hB
        · have h3 : ¬ 1 < T.length := fun h => h2 (Or.inl h)
          exact ⟨by omega, by cases single; exact absurd rfl (fun h => h2 (Or.inr h)); rfl⟩
    · rw [if_pos h1, if_pos (fun k => h1 (hh.2 k))]
      exact hA

/-- .. and of a call. -/
def oneR (xa acc : List Int) (x : Lx) : List Int := uniL acc (if x.1 = true then x.2.2 else xa)
def callR (xa : List Int) (rs : List Lx) : List Int := rs.foldl (oneR xa) []
theorem callR_snoc (xa : List Int) (rs : List Lx) (x : Lx) : callR xa (rs ++ [x]) = oneR xa (callR xa rs) x := by simp [callR]
theorem callR_len (xa : List Int) {k : Nat} (hA : xa.length ≤ k) (rs : List Lx) (hx : ∀ x ∈ rs, x.2.2.length ≤ k) : (callR xa rs).length ≤ k * rs.length := by
  refine snoc_ind (Q := fun rs => (∀ x ∈ rs, x.2.2.length ≤ k) → (callR xa rs).length ≤ k * rs.length) (fun _ => by simp [callR]) (fun l x ih hx => ?_) rs hx
  rw [callR_snoc]
  unfold oneR
  have h1 := ih (fun y hy => hx y (List.mem_append_left _ hy))
  have h2 := hx x (by simp)
  have h3 := uniL_len (callR xa l) (if x.1 = true then x.2.2 else xa)
  rw [List.length_append, List.length_singleton, Nat.mul_add]
  have h4 : (if x.1 = true then x.2.2 else xa).length ≤ k := by split <;> omega
  omega
/-- Rows of exits that tell the same. -/
def TellsX : List Ex → List Lx → Prop
  | [], [] => True
  | x :: xs, y :: ys => (x.1 = y.1 ∧ Tells y.2.2 x.2.2) ∧ TellsX xs ys
  | _, _ => False
theorem tells_fold {A : List Nat} {xa : List Int} (hA : Tells xa A) : ∀ {xs : List Ex} {rs : List Lx} {acc : List Nat} {accR : List Int}, TellsX xs rs → Tells accR acc → Tells (rs.foldl (oneR xa) accR) (xs.foldl (oneL A) acc)
  | [], [], _, _, _, h => h
  | x :: xs, y :: ys, acc, accR, h, hh => by
    rw [List.foldl_cons, List.foldl_cons]
    refine tells_fold hA h.2 ?_
    unfold oneR oneL
    rw [h.1.1]
    split
    · exact hh.union h.1.2
    · exact hh.union hA
  | [], _ :: _, _, _, h, _ => h.elim
  | _ :: _, [], _, _, h, _ => h.elim
theorem tells_call {A : List Nat} {xa : List Int} {xs : List Ex} {rs : List Lx} (hA : Tells xa A) (h : TellsX xs rs) : Tells (callR xa rs) (callL A xs) := tells_fold hA h tells_none
theorem tellsX_of : ∀ {X : List Mx} {ls rs : List Lx}, X.map (fun x => (x.1, x.2.2)) = ls.map (fun x => (x.1, numsOf x.2.2)) → rs.map (fun x => (x.1, x.2.2)) = ls.map (fun x => (x.1, ofL x.2.2)) → TellsX (X.map exOf) rs
  | [], [], [], _, _ => trivial
  | x :: X, l :: ls, r :: rs, h, g => by
    simp only [List.map_cons, List.cons.injEq, Prod.mk.injEq] at h g
    refine ⟨⟨h.1.1.trans g.1.1.symm, ?_⟩, tellsX_of h.2 g.2⟩
    show Tells r.2.2 x.2.2
    rw [h.1.2, g.1.2]
    exact tells_of _
  | [], _ :: _, _, h, _ => by simp at h
  | _ :: _, [], _, h, _ => by simp at h
  | _, [], _ :: _, _, g => by simp at g
  | _, _ :: _, [], _, g => by simp at g

section
variable {w : World} {va vb vt v : Value} {xa xb xt : List Int} {rs : List Lx} {o : Int} {single : Bool}

theorem rstore_any (ha : Strip w va xa) (hb : Strip w vb xb) (ht : RdI w vt xt) (na : xa.length ≤ 10000) (nb : xb.length ≤ 10000) (nt : xt.length ≤ 10000) :
    Calls Tryd.prog 13 #[va, vb, vt, .int .i64 o, .bool single] w fun e w' => ∃ v', e = .returned v' ∧ RdI w' v' (storeR xa xb xt o single) ∧ Below w.heap.size w w' := by
  have hh := Lib.hid (rhas_any (i := o) ht (by omega))
  have hu := Lib.hid (runion_any ha (strip_rd hb) (by omega) nb)
  have ra := Lib.hid (strip_rd ha)
  have rb := Lib.hid (strip_rd hb)
  obtain ⟨a, c, rfl⟩ := ht.form
  rw [List.length_map] at *
  unfold storeR
  clear ha hb ht
  by_cases h0 : xt = []
  · rw [if_pos h0]
    subst h0
    clear hh hu
    go_enter Tryd.func13, Tryd.ntmps13
    go_wp2_with fail
    go_ret
    exact ⟨_, rfl, rdI_none _, Below.refl _ _⟩
  · rw [if_neg h0]
    have d0 : ((xt.length : Int) == 0) = false := by simp; exact h0
    by_cases h1 : o ∈ xt
    · rw [if_neg (c := ¬ o ∈ xt) (fun k => k h1)]
      have e1 := Lib.hid (decide_eq_true h1)
      by_cases h2 : xt.length = 1
      · have d2 : ((xt.length : Int) == 1) = true := by simp; omega
        have h2' := Lib.hid h2
        clear h2
        cases single
        · rw [if_neg (by simp)]
          go_enter Tryd.func13, Tryd.ntmps13
          go_wp2_with fail
          refine hh.out.mono ?_
          rintro e w' ⟨rfl, hw⟩; obtain rfl := hw.symm
          rw [e1.out]
          go_wp2_with fail
          refine hu.out.mono ?_
          rintro e w' ⟨v', rfl, hs, -, hb⟩
          go_wp2_with fail
          go_ret
          exact ⟨_, rfl, strip_rd hs, hb⟩
        · rw [if_pos ⟨h2'.out, rfl⟩]
          go_enter Tryd.func13, Tryd.ntmps13
          go_wp2_with fail
          refine hh.out.mono ?_
          rintro e w' ⟨rfl, hw⟩; obtain rfl := hw.symm
          rw [e1.out]
          go_wp2_with fail
          go_ret
          exact ⟨_, rfl, rb.out, Below.refl _ _⟩
      · have d2 : ((xt.length : Int) == 1) = false := by simp; omega
        rw [if_neg (fun k => h2 k.1)]
        clear h2
        go_enter Tryd.func13, Tryd.ntmps13
        go_wp2_with fail
        refine hh.out.mono ?_
        rintro e w' ⟨rfl, hw⟩; obtain rfl := hw.symm
        rw [e1.out]
        go_wp2_with fail
        refine hu.out.mono ?_
        rintro e w' ⟨v', rfl, hs, -, hb⟩
        go_wp2_with fail
        go_ret
        exact ⟨_, rfl, strip_rd hs, hb⟩
    · rw [if_pos h1]
      have e1 := Lib.hid (decide_eq_false h1)
      go_enter Tryd.func13, Tryd.ntmps13
      go_wp2_with fail
      refine hh.out.mono ?_
      rintro e w' ⟨rfl, hw⟩; obtain rfl := hw.symm
      rw [e1.out]
      go_wp2_with fail
      go_ret
      exact ⟨_, rfl, ra.out, Below.refl _ _⟩

set_option maxHeartbeats 1000000 in
theorem rcall_any (ha : RdI w va xa) (hx : RowL w v rs) (na : xa.length ≤ 500) (nx : ∀ x ∈ rs, x.2.2.length ≤ 500) (n : rs.length ≤ 60) :
    Calls Tryd.prog 14 #[va, v] w fun e w' => ∃ v', e = .returned v' ∧ RdI w' v' (callR xa rs) ∧ Below w.heap.size w w' := by
  obtain ⟨a, c, rfl⟩ := hx.form
  obtain ⟨a2, c2, rfl⟩ := ha.form
  rw [List.length_map] at ha ⊢
  go_enter Tryd.func14, Tryd.ntmps14
  go_wp2_with fail
  go_loopw [5, 6] (fun out i wr => ∃ j : Nat, j ≤ rs.length ∧ i = .int .i64 j ∧ Strip wr out (callR xa (rs.take j)) ∧ Below w.heap.size w wr) (fun _ i _ => rs.length - (intOf i).toNat)
  case atStart => exact ⟨0, Nat.zero_le _, rfl, strip_nil _, Below.refl _ _⟩
  case round =>
    obtain ⟨j, hj, rfl, hs, hb⟩ := hrel
    by_cases hlt : j < rs.length
    · obtain ⟨⟨m, p, l⟩, hxj⟩ : ∃ x, rs[j]? = some x := ⟨_, List.getElem?_eq_getElem hlt⟩
      obtain ⟨b, off, cap, e, hbl, c0, c1⟩ := (hx.below hb).at hxj
      simp only [Value.slice.injEq] at e
      obtain ⟨rfl, -, rfl⟩ := e
      have hmem := List.mem_of_getElem? hxj
      have hp := ((hx.below hb).2 m p l hmem).1
      have nl := nx _ hmem
      obtain ⟨pa, pc, rfl⟩ := hp.form
      rw [List.length_map] at c1 hp
      have hln : (callR xa (rs.take j)).length ≤ 500 * (rs.take j).length := callR_len xa na _ (fun x hx => nx x (List.mem_of_mem_take hx))
      have htl : (rs.take j).length ≤ j := List.length_take_le _ _
      have hts := Lib.hid (take_snoc hxj)
      have ha2 := ha.below hb
      simp only at nl
      clear hx hmem hxj
      cases m
      · have hu := Lib.hid (runion_any hs ha2 (by omega) (by omega))
        clear hs hp c1
        go_wp2_with fail
        refine hu.out.mono ?_
        rintro e w2 ⟨v2, rfl, hs2, -, hb2⟩
        replace hb := hb.trans (hb2.mono hb.size)
        clear hu hb2
        go_wp2_with fail
        go_roundw
        case rel => exact ⟨j + 1, by omega, by go_num, by rw [hts.out, callR_snoc]; exact hs2, hb⟩
        case measure => simp [intOf]; omega
      · have hu := Lib.hid (runion_any hs hp (by omega) (by omega))
        clear hs hp
        go_wp2_with fail
        refine hu.out.mono ?_
        rintro e w2 ⟨v2, rfl, hs2, -, hb2⟩
        replace hb := hb.trans (hb2.mono hb.size)
        clear hu hb2
        go_wp2_with fail
        go_roundw
        case rel => exact ⟨j + 1, by omega, by go_num, by rw [hts.out, callR_snoc]; exact hs2, hb⟩
        case measure => simp [intOf]; omega
    · have : j = rs.length := by omega
      subst this
      rw [List.take_length] at hs
      go_wp2_with fail
      go_ret
      exact ⟨_, rfl, strip_rd hs, hb⟩
end
end Go.Proofs.YtdpmpppafkefoaaDoor
