/- The package's functions over many sets. -/
import Derived.Test.YtdpmpppafkefoaaDoorBag
namespace Go.Proofs.YtdpmpppafkefoaaDoor
open Go.RowKit Go.Maps

abbrev ptr (s : Nat) : Value := .pointer (some ⟨s, 0, none⟩)
/-- A list as integers. -/
def ints (rs : List Nat) : List Int := rs.map (fun n : Nat => (n : Int))
theorem ints_enc (rs : List Nat) : (ints rs).map encI = rs.map encN := by
  unfold ints
  rw [List.map_map]
  rfl
theorem ints_inj {a b : List Nat} (h : ints a = ints b) : a = b := by
  unfold ints at h
  have h1 := congrArg (List.map Int.toNat) h
  rw [List.map_map, List.map_map] at h1
  have e : (Int.toNat ∘ fun n : Nat => (n : Int)) = id := by funext n; simp
  rwa [e, List.map_id, List.map_id] at h1

theorem uni_len (l o : List Nat) : (uni l o).length ≤ l.length + o.length := by
  unfold uni
  rw [List.length_append]
  have := List.length_filter_le (fun n => !decide (n ∈ l)) o
  omega
theorem less_len (l o : List Nat) : (less l o).length ≤ l.length := List.length_filter_le _ _
theorem both_len (l o : List Nat) : (both l o).length ≤ l.length := List.length_filter_le _ _
theorem mem_less {l o : List Nat} {n : Nat} : n ∈ less l o ↔ n ∈ l ∧ n ∉ o := by unfold less; rw [List.mem_filter]; simp
theorem mem_both {l o : List Nat} {n : Nat} : n ∈ both l o ↔ n ∈ l ∧ n ∈ o := by unfold both; rw [List.mem_filter]; simp
theorem mem_lessN {l : List Nat} (hn : l.Nodup) {i : Int} {n : Nat} : n ∈ lessN l i ↔ n ∈ l ∧ (n : Int) ≠ i := by
  unfold lessN
  split
  · rw [hn.mem_erase_iff]
    constructor
    · rintro ⟨h1, h2⟩; exact ⟨h2, by omega⟩
    · rintro ⟨h1, h2⟩; exact ⟨by omega, h1⟩
  · constructor
    · intro h; exact ⟨h, by omega⟩
    · exact And.left

section
variable {w0 w w' : World} {L : List (Nat × List Nat)} {R : List (Value × List Int)} {i j s t : Nat} {l o : List Nat}

theorem bag_new {f : Nat} {args : Array Value} (B : Bag w0 w L R) (h : Calls Tryd.prog f args w fun e w' => NewSet w w' e l) : Calls Tryd.prog f args w fun e w' => ∃ s, e = .returned (ptr s) ∧ Bag w0 w' (L ++ [(s, l)]) R :=
  h.mono fun _ _ ⟨sb, _, _, he, h1, h2, S, hb⟩ => ⟨sb, he, B.more S h1 h2 hb⟩

theorem bag_of (B : Bag w0 w L R) {v : Value} {xs : List Int} (hs : RdI w v xs) (hx : ∀ x ∈ xs, x < 9223372036854775808) (hlen : xs.length ≤ 1000000) : Calls Tryd.prog 6 #[v] w fun e w' => ∃ s, e = .returned (ptr s) ∧ Bag w0 w' (L ++ [(s, numsOf xs)]) R :=
  (of_any hs hx hlen).mono fun _ _ ⟨he, ⟨_, S⟩, hb⟩ => ⟨_, he, B.more S (Nat.le_succ _) (Nat.le_refl _) hb⟩

theorem bag_of_none (B : Bag w0 w L R) : Calls Tryd.prog 6 #[.slice none 0 0] w fun e w' => ∃ s, e = .returned (ptr s) ∧ Bag w0 w' (L ++ [(s, [])]) R :=
  (of_none w).mono fun _ _ ⟨he, ⟨_, S⟩, hb⟩ => ⟨_, he, B.more S (Nat.le_succ _) (Nat.le_refl _) hb⟩

theorem bag_add (B : Bag w0 w L R) (hi : L[i]? = some (s, l)) {x : Int} (hx : x < 9223372036854775808) (hlen : l.length ≤ 1000000) : Calls Tryd.prog 15 #[ptr s, .int .i64 x] w fun e w' => e = .returned (.bool (decide (0 ≤ x ∧ x.toNat ∉ l))) ∧ Bag w0 w' (L.set i (s, plusN l x)) R := by
  obtain ⟨bm, D, S, _, hgo⟩ := B.turn hi
  exact (add_any S hx hlen).mono fun _ w' ⟨he, ⟨_, S'⟩, ht⟩ => ⟨he, hgo w' _ _ _ S' (Or.inl rfl) ht⟩

theorem bag_union (B : Bag w0 w L R) (hi : L[i]? = some (s, l)) (hj : L[j]? = some (t, o)) (hne : j ≠ i) (hlen : l.length + o.length ≤ 1000000) : Calls Tryd.prog 19 #[ptr s, ptr t] w fun e w' => e = .returned (.bool (decide (l.length < (uni l o).length))) ∧ Bag w0 w' (L.set i (s, uni l o)) R := by
  obtain ⟨bm, D, S, hoth, hgo⟩ := B.turn hi
  obtain ⟨bo, Do, T, h1, h2⟩ := hoth j t o hne hj
  exact (union_any S T h1 h2 hlen).mono fun _ w' ⟨he, ⟨_, S'⟩, ht⟩ => ⟨he, hgo w' _ _ _ S' (Or.inl rfl) ht⟩

theorem bag_same (B : Bag w0 w L R) (hi : L[i]? = some (s, l)) (hj : L[j]? = some (t, o)) : Calls Tryd.prog 17 #[ptr s, ptr t] w fun e w' => e = .returned (.bool (alike l o)) ∧ Bag w0 w' L R :=
  (same_a (B.aset hi) (B.aset hj)).mono fun _ _ ⟨he, hb⟩ => ⟨he, B.below hb⟩

theorem bag_in (B : Bag w0 w L R) (hi : L[i]? = some (s, l)) (hj : L[j]? = some (t, o)) : Calls Tryd.prog 26 #[ptr s, ptr t] w fun e w' => e = .returned (.bool (decide (∀ n ∈ l, n ∈ o))) ∧ Bag w0 w' L R :=
  (in_a (B.aset hi) (B.aset hj)).mono fun _ _ ⟨he, hb⟩ => ⟨he, B.below hb⟩

theorem bag_len (B : Bag w0 w L R) (hi : L[i]? = some (s, l)) : Calls Tryd.prog 16 #[ptr s] w fun e w' => e = .returned (.int .i64 l.length) ∧ w' = w := len_a (B.aset hi)

theorem bag_has (B : Bag w0 w L R) (hi : L[i]? = some (s, l)) {x : Int} (hx : x < 9223372036854775808) : Calls Tryd.prog 18 #[ptr s, .int .i64 x] w fun e w' => e = .returned (.bool (decide (0 ≤ x ∧ x.toNat ∈ l))) ∧ w' = w := by
  obtain ⟨bm, D, S⟩ := B.at hi
  by_cases h0 : 0 ≤ x
  · obtain ⟨n, rfl⟩ := Int.eq_ofNat_of_zero_le h0
    refine (has_any S (i := n) (by omega)).mono ?_
    rintro e w' ⟨he, hw⟩
    refine ⟨?_, hw⟩
    rw [he]
    simp
  · refine (has_less (by omega) _).mono ?_
    rintro e w' ⟨he, hw⟩
    refine ⟨?_, hw⟩
    rw [he]
    simp [h0]

theorem bag_list (B : Bag w0 w L R) (G : Gl w0) (hi : L[i]? = some (s, l)) (hlen : l.length ≤ 100000) : Calls Tryd.prog 12 #[ptr s] w fun e w' => ∃ (v : Value) (rs : List Nat), e = .returned v ∧ rs.Pairwise (· < ·) ∧ (∀ n, n ∈ rs ↔ n ∈ l) ∧
    w'.ownsRow w.heap.size 3 1 v rs.length (rs.map encN) ∧ Below w.heap.size w w' ∧ Bag w0 w' (L) (R ++ [(v, ints rs)]) := by
  obtain ⟨bm, D, S⟩ := B.at hi
  refine (list_any S (B.gl G) hlen).mono ?_
  rintro e w' ⟨v, rs, he, h1, h2, h3, h4⟩
  refine ⟨v, rs, he, h1, h2, h3, h4, B.row ?_ (fun b hb => h3.lt b hb) h4⟩
  rw [RdI, ints_enc]
  rcases h3.2 with ⟨rfl, h0⟩ | ⟨g, cap, cur, rfl, g3, g4, g5⟩
  · have : rs = [] := List.eq_nil_of_length_eq_zero h0
    subst this
    exact rd_none w'
  · refine Or.inr ⟨g, 0, cap, by simp, (h3.lt g rfl).2, fun k u hu => ?_⟩
    have := h3.cells (g := g) rfl k u hu
    rw [add0] at this
    rw [Nat.zero_add]
    exact this

end
end Go.Proofs.YtdpmpppafkefoaaDoor
