/- CfgRing: the ring, and which of its blocks lie on a circle. -/
import Derived.Test.YtedleliddhhacaaCName
import Derived.Test.YtedleliddhhacaaCWMath
namespace Go.Proofs.Ytedleliddhhacaa
open Go.RowKit Go.Maps

theorem u8n {x : Nat} (h : x < 256) : (UInt8.ofNat x).toNat = x := by
  rw [UInt8.toNat_ofNat', Nat.mod_eq_of_lt h]
theorem nameB_inj {i j : Nat} (hi : i ≤ 60) (hj : j ≤ 60) (h : nameB i = nameB j) : i = j := by
  unfold nameB at h
  have h1 := congrArg (fun b : ByteArray => b.data.toList) h
  simp only [List.cons.injEq, and_true, true_and] at h1
  have h2 := congrArg UInt8.toNat h1.1
  have h3 := congrArg UInt8.toNat h1.2
  rw [u8n (by omega), u8n (by omega)] at h2 h3
  omega
theorem nameB_size (i : Nat) : (nameB i).size = 3 := rfl

/-- The last instruction of block i. -/
def ringI (k tb i : Nat) : Ins := if i + 1 = k then (if tb = k then insRet else insGoto [nameB tb]) else insGoto [nameB (i + 1)]
def ringB (k tb i : Nat) : Blk := ⟨nameB i, [ringI k tb i]⟩
def ringF (k tb : Nat) : Fun := ⟨b0, [], (List.range k).map (ringB k tb)⟩
theorem ring_len (k tb : Nat) : (ringF k tb).blocks.length = k := by simp [ringF]
theorem ring_at {k tb i : Nat} (hi : i < k) : (ringF k tb).blocks[i]? = some (ringB k tb i) := by simp [ringF, hi]
theorem ring_labels (k tb : Nat) : (ringF k tb).labels = (List.range k).map nameB := by simp [Fun.labels, ringF, ringB, Function.comp_def]
theorem ring_ways {k tb i : Nat} : waysB (ringB k tb i) = some (if i + 1 = k then (if tb = k then [] else [nameB tb]) else [nameB (i + 1)]) := by
  unfold waysB ringB ringI
  by_cases h1 : i + 1 = k
  · by_cases h2 : tb = k
    · simp [h1, h2, insRet]
    · simp [h1, h2, insGoto]
  · simp [h1, insGoto]
theorem ring_place {k j : Nat} (hk : k ≤ 40) (hj : j < k) : place ((List.range k).map nameB) (nameB j) = j := by
  refine place_of ?_ (by simp [hj])
  rw [List.nodup_iff_pairwise_ne, List.pairwise_map]
  refine List.Pairwise.imp_of_mem ?_ List.pairwise_lt_range
  intro a b ha hb hlt e
  have := nameB_inj (by have := List.mem_range.1 ha; omega) (by have := List.mem_range.1 hb; omega) e
  omega
theorem ring_mem {k j : Nat} (hj : j < k) : nameB j ∈ (List.range k).map nameB := List.mem_map.2 ⟨j, List.mem_range.2 hj, rfl⟩
theorem ring_ok {k tb : Nat} (hto : tb ≤ k) : ofOk (ringF k tb) = true := by
  unfold ofOk
  rw [List.all_eq_true]
  intro b hb
  obtain ⟨i, hi, rfl⟩ := List.mem_map.1 hb
  have hi := List.mem_range.1 hi
  unfold okB
  rw [ring_ways, ring_labels]
  by_cases h1 : i + 1 = k
  · by_cases h2 : tb = k
    · simp [h1, h2]
    · simp only [h1, h2, if_true, if_false, List.all_cons, List.all_nil, Bool.and_true, decide_eq_true_eq]
      exact ring_mem (by omega)
  · simp only [h1, if_false, List.all_cons, List.all_nil, Bool.and_true, decide_eq_true_eq]
    exact ring_mem (by omega)
theorem ring_small {k tb : Nat} (hk : k ≤ 40) : SmallF (ringF k tb) := by
  refine ⟨by rw [ring_len]; omega, fun b hb => ?_⟩
  obtain ⟨i, hi, rfl⟩ := List.mem_map.1 hb
  have hw : waysL (ringB k tb i) = if i + 1 = k then (if tb = k then [] else [nameB tb]) else [nameB (i + 1)] := by simp [waysL, ring_ways]
  refine ⟨by rw [ringB, nameB_size]; decide, by simp [ringB], ?_, fun s hs => ?_⟩
  · rw [hw]; split
    · split <;> simp
    · simp
  · rw [hw] at hs
    have : ∃ j, s = nameB j := by
      split at hs
      · split at hs
        · cases hs
        · exact ⟨_, List.mem_singleton.1 hs⟩
      · exact ⟨_, List.mem_singleton.1 hs⟩
    obtain ⟨j, rfl⟩ := this
    rw [nameB_size]; decide
theorem ring_edge {k tb a b : Nat} (hk : k ≤ 40) (hto : tb ≤ k) : Edge (rowsF (ringF k tb)) a b ↔ a < k ∧ b < k ∧ (a + 1 < k ∧ b = a + 1 ∨ a + 1 = k ∧ b = tb) := by
  unfold Edge
  rw [rowsF_len, ring_len]
  constructor
  · rintro ⟨hb, r, hr, hm⟩
    have ha : a < k := by
      have := (List.getElem?_eq_some_iff.1 hr).1
      rwa [rowsF_len, ring_len] at this
    rw [rows_at (ring_at ha), ring_labels] at hr
    obtain rfl := Option.some.inj hr
    unfold rowB waysL at hm
    rw [ring_ways] at hm
    refine ⟨ha, hb, ?_⟩
    by_cases h1 : a + 1 = k
    · by_cases h2 : tb = k
      · simp [h1, h2] at hm
      · simp only [h1, h2, if_true, if_false, Option.getD_some, List.map_cons, List.map_nil, List.mem_singleton] at hm
        rw [ring_place hk (by omega)] at hm
        exact .inr ⟨h1, by omega⟩
    · simp only [h1, if_false, Option.getD_some, List.map_cons, List.map_nil, List.mem_singleton] at hm
      rw [ring_place hk (by omega)] at hm
      exact .inl ⟨by omega, by omega⟩
  · rintro ⟨ha, hb, h⟩
    refine ⟨hb, _, rows_at (ring_at ha), ?_⟩
    unfold rowB waysL
    rw [ring_ways, ring_labels]
    rcases h with ⟨h1, rfl⟩ | ⟨h1, rfl⟩
    · simp only [show ¬ a + 1 = k from by omega, if_false, Option.getD_some, List.map_cons, List.map_nil, List.mem_singleton]
      rw [ring_place hk (by omega)]
    · simp only [h1, show ¬ b = k from by omega, if_true, if_false, Option.getD_some, List.map_cons, List.map_nil, List.mem_singleton]
      rw [ring_place hk (by omega)]
theorem ring_up {k tb : Nat} (hk : k ≤ 40) (hto : tb ≤ k) {a : Nat} (ha : a < k) : ∀ {b : Nat}, a ≤ b → b < k → Way (rowsF (ringF k tb)) a b := by
  intro b hab hb
  obtain ⟨c, rfl⟩ : ∃ c, b = a + c := ⟨b - a, by omega⟩
  induction c with
  | zero => exact .refl (by rw [rowsF_len, ring_len]; exact ha)
  | succ c ih => exact .step (ih (by omega) (by omega)) ((ring_edge hk hto).2 ⟨by omega, hb, .inl ⟨by omega, rfl⟩⟩)
theorem ring_cyc {k tb i : Nat} (hk : k ≤ 40) (hto : tb ≤ k) (hi : i < k) : cycB (normL (rowsF (ringF k tb))) i = decide (tb ≤ i) := by
  rw [Bool.eq_iff_iff, decide_eq_true_eq, cycB_iff, cycP_iff]
  constructor
  · rintro ⟨z, he, hw⟩
    rw [edge_norm] at he
    rw [way_norm] at hw
    apply Classical.byContradiction
    intro hlt
    have key : ∀ {a b : Nat}, Way (rowsF (ringF k tb)) a b → i < a → i < b := fun {a b} hw => by
      induction hw with
      | refl _ => exact id
      | @step b c _ e ih =>
        intro ha
        have h1 := ih ha
        obtain ⟨h2, h3, ⟨h4, rfl⟩ | ⟨h4, rfl⟩⟩ := (ring_edge hk hto).1 e <;> omega
    have hz : i < z := by
      obtain ⟨h2, h3, ⟨h4, rfl⟩ | ⟨h4, rfl⟩⟩ := (ring_edge hk hto).1 he <;> omega
    have := key hw hz
    omega
  · intro hle
    have hback : Edge (rowsF (ringF k tb)) (k - 1) tb := (ring_edge hk hto).2 ⟨by omega, by omega, .inr ⟨by omega, rfl⟩⟩
    by_cases h1 : i + 1 < k
    · refine ⟨i + 1, edge_norm.2 ((ring_edge hk hto).2 ⟨hi, h1, .inl ⟨h1, rfl⟩⟩), way_norm.2 ?_⟩
      exact ((ring_up hk hto h1 (b := k - 1) (by omega) (by omega)).trans (.step (.refl hback.lt.1) hback)).trans (ring_up hk hto (by omega) hle hi)
    · obtain rfl : i = k - 1 := by omega
      exact ⟨tb, edge_norm.2 hback, way_norm.2 (ring_up hk hto (by omega) hle hi)⟩
end Go.Proofs.Ytedleliddhhacaa
