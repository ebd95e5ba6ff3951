/- What is gathered of a memory, and what a store leaves of it. -/
import Derived.Test.YtaidjamcjinooaaWakeC
namespace Go.Proofs.Ytaidjamcjinooaa
open Go.RowKit

def gk (os : List Ob) (o k : Nat) : List (V3 × V3) := (List.range k).filterMap fun (j : Nat) => (look os (1, (o : Int), (j : Int))).map fun x => ((1, (o : Int), (j : Int)), x)
def gs (os : List Ob) (o : Nat) : List (V3 × V3) := (List.range o).flatMap fun i => gk os i 64

theorem gk_zero (os : List Ob) (o : Nat) : gk os o 0 = [] := rfl
theorem gs_zero (os : List Ob) : gs os 0 = [] := rfl
theorem gs_succ (os : List Ob) (o : Nat) : gs os (o + 1) = gs os o ++ gk os o 64 := by simp [gs, List.range_succ]
theorem gk_some {os : List Ob} {o k : Nat} {x : V3} (h : look os (1, o, k) = some x) : gk os o (k + 1) = gk os o k ++ [((1, (o : Int), (k : Int)), x)] := by
  simp [gk, List.range_succ, List.filterMap_append, h]
theorem gk_none {os : List Ob} {o k : Nat} (h : look os (1, o, k) = none) : gk os o (k + 1) = gk os o k := by
  simp [gk, List.range_succ, List.filterMap_append, h]

theorem look_at {os : List Ob} {o : Nat} {ob : Ob} (h : os[o]? = some ob) (k : Nat) : look os (1, o, k) = ob.vals[k]? := by
  unfold look
  simp only
  rw [if_pos ⟨trivial, by omega, by omega⟩, show ((o : Int).toNat) = o by omega, h, show ((k : Int).toNat) = k by omega]
  rfl

theorem gk_len {os : List Ob} {o : Nat} {ob : Ob} (h : os[o]? = some ob) (k : Nat) : (gk os o k).length = min k ob.vals.length := by
  induction k with
  | zero => simp [gk_zero]
  | succ k ih =>
    by_cases hk : k < ob.vals.length
    · rw [gk_some ((look_at h k).trans (List.getElem?_eq_getElem hk)), List.length_append, ih]
      simp
      omega
    · rw [gk_none ((look_at h k).trans (List.getElem?_eq_none (by omega))), ih]
      omega

theorem gs_len {os : List Ob} (hl : ∀ o ∈ os, o.vals.length ≤ 64) : ∀ o, o ≤ os.length → (gs os o).length = many (os.take o) := by
  intro o
  induction o with
  | zero => intro _; simp [gs_zero, many]
  | succ o ih =>
    intro ho
    have hg : os[o]? = some (os[o]'(by omega)) := List.getElem?_eq_getElem (by omega)
    rw [gs_succ, List.length_append, ih (by omega), gk_len hg, take_snoc hg, many_snoc]
    have := hl _ (List.mem_of_getElem? hg)
    omega

theorem gk_mem {os : List Ob} {o k : Nat} {y : V3 × V3} (h : y ∈ gk os o k) : y.1.1 = 1 ∧ look os y.1 = some y.2 := by
  obtain ⟨j, _, hj⟩ := List.mem_filterMap.1 h
  obtain ⟨x, hx, rfl⟩ := Option.map_eq_some_iff.1 hj
  exact ⟨rfl, hx⟩
theorem gs_mem {os : List Ob} {o : Nat} {y : V3 × V3} (h : y ∈ gs os o) : y.1.1 = 1 ∧ look os y.1 = some y.2 := by
  obtain ⟨i, _, hi⟩ := List.mem_flatMap.1 h
  exact gk_mem hi

/-- The address of p, as the law writes it. -/
def adr (p : V3) : V3 := (1, p.2.1, p.2.2)

theorem look_put {os : List Ob} {p u q x : V3} (hq : q.1 = 1) (hx : look os q = some x) : look (put os p u) q = some (if tells os p = 0 ∧ q = adr p then u else x) := by
  rcases look_cases os p with ⟨_, e⟩ | ⟨_, _, e⟩ | ⟨_, _, _, _, _, _, e⟩ | ⟨hk, i, n, o, y, hi, hpi, hpn, hu, e⟩
  · rw [put_none e, hx, if_neg]
    rintro ⟨h, -⟩
    simp only [tells, e, Option.isSome_none, Bool.false_eq_true, if_false] at h
    split at h <;> omega
  · rw [put_none e, hx, if_neg]
    rintro ⟨h, -⟩
    simp only [tells, e, Option.isSome_none, Bool.false_eq_true, if_false] at h
    split at h <;> omega
  · rw [put_none e, hx, if_neg]
    rintro ⟨h, -⟩
    simp only [tells, e, Option.isSome_none, Bool.false_eq_true, if_false] at h
    split at h <;> omega
  · have et : tells os p = 0 := by simp [tells, e]
    have ep : put os p u = os.set i { o with vals := o.vals.set n u } := by
      unfold put
      rw [e, hpi, hpn]
      simp only [Int.toNat_natCast, hi]
    have hil := (List.getElem?_eq_some_iff.1 hi).1
    have hnl := (List.getElem?_eq_some_iff.1 hu).1
    rw [ep, et]
    rcases look_cases os q with ⟨_, f⟩ | ⟨_, _, f⟩ | ⟨_, _, _, _, _, _, f⟩ | ⟨_, i2, n2, o2, y2, hi2, hqi, hqn, hu2, f⟩
    · rw [f] at hx; simp at hx
    · rw [f] at hx; simp at hx
    · rw [f] at hx; simp at hx
    · rw [f] at hx
      obtain rfl := Option.some.inj hx
      have hqq : q = (1, (i2 : Int), (n2 : Int)) := by
        obtain ⟨a, b, c⟩ := q
        simp only at hq hqi hqn
        rw [hq, hqi, hqn]
      subst hqq
      by_cases h1 : i = i2
      · subst h1
        rw [look_at (ob := { o with vals := o.vals.set n u }) (by rw [List.getElem?_set_self hil])]
        simp only
        rw [hi] at hi2
        obtain rfl := Option.some.inj hi2
        by_cases h2 : n = n2
        · subst h2
          rw [List.getElem?_set_self hnl, if_pos ⟨trivial, by simp [adr, hpi, hpn]⟩]
        · rw [List.getElem?_set_ne h2, hu2, if_neg]
          rintro ⟨-, h⟩
          simp [adr, hpn] at h
          omega
      · rw [look_at (ob := o2) (by rw [List.getElem?_set_ne h1, hi2]), hu2, if_neg]
        rintro ⟨-, h⟩
        simp [adr, hpi] at h
        omega
end Go.Proofs.Ytaidjamcjinooaa
