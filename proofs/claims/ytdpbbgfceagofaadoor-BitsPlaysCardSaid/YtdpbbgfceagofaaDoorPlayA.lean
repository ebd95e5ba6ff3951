/- Acts, as they lie. -/
import Derived.Test.YtdpbbgfceagofaaDoorPlay
namespace Go.Proofs.YtdpbbgfceagofaaDoor
open Go.RowKit Go.Maps

abbrev Act4 := Int × Int × Int × Int
def InI (z : Int) : Prop := -9223372036854775808 ≤ z ∧ z < 9223372036854775808
def Act4.ok (x : Act4) : Prop := InI x.1 ∧ InI x.2.1 ∧ InI x.2.2.1 ∧ InI x.2.2.2

/-- A slice that reads as these acts. -/
def RdA (w : World) (s : Value) (l : List Act4) : Prop :=
  (l = [] ∧ (s = .slice none 0 0 ∨ ∃ a c, s = .slice (some a) 0 c)) ∨ ∃ b off cap, s = .slice (some ⟨b, off, none⟩) l.length cap ∧ b < w.heap.size ∧
    ∀ i x, l[i]? = some x → w.cell? ⟨b, off + i * 4, none⟩ = some (.int .i64 x.1) ∧ w.cell? ⟨b, off + i * 4 + 1, none⟩ = some (.int .i64 x.2.1) ∧ w.cell? ⟨b, off + i * 4 + 2, none⟩ = some (.int .i64 x.2.2.1) ∧ w.cell? ⟨b, off + i * 4 + 3, none⟩ = some (.int .i64 x.2.2.2)

section
variable {w w' : World} {s : Value} {l : List Act4}
theorem RdA.form (h : RdA w s l) : ∃ a c, s = .slice a l.length c := by
  rcases h with ⟨rfl, rfl | ⟨a, c, rfl⟩⟩ | ⟨b, off, cap, rfl, _⟩
  · exact ⟨none, 0, rfl⟩
  · exact ⟨some a, c, rfl⟩
  · exact ⟨_, cap, rfl⟩
theorem RdA.below (h : RdA w s l) (hb : Below w.heap.size w w') : RdA w' s l := by
  refine h.imp id ?_
  rintro ⟨b, off, cap, e, hlt, hc⟩
  refine ⟨b, off, cap, e, Nat.lt_of_lt_of_le hlt hb.size, fun i x hx => ?_⟩
  obtain ⟨h1, h2, h3, h4⟩ := hc i x hx
  exact ⟨(hb.cell (p := ⟨b, off + i * 4, none⟩) hlt).trans h1, (hb.cell (p := ⟨b, off + i * 4 + 1, none⟩) hlt).trans h2, (hb.cell (p := ⟨b, off + i * 4 + 2, none⟩) hlt).trans h3, (hb.cell (p := ⟨b, off + i * 4 + 3, none⟩) hlt).trans h4⟩
theorem RdA.at (h : RdA w s l) {i : Nat} {x : Act4} (hi : l[i]? = some x) : ∃ b off cap, s = .slice (some ⟨b, off, none⟩) l.length cap ∧
    w.cell? ⟨b, off + i * 4, none⟩ = some (.int .i64 x.1) ∧ w.cell? ⟨b, off + i * 4 + 1, none⟩ = some (.int .i64 x.2.1) ∧ w.cell? ⟨b, off + i * 4 + 2, none⟩ = some (.int .i64 x.2.2.1) ∧ w.cell? ⟨b, off + i * 4 + 3, none⟩ = some (.int .i64 x.2.2.2) := by
  rcases h with ⟨rfl, _⟩ | ⟨b, off, cap, e, hlt, hc⟩
  · simp at hi
  · exact ⟨b, off, cap, e, hc i x hi⟩
end

theorem place4 {p : Int} (h : InI p) : ∃ a : Nat, a < 4 ∧ ∀ w : World, Calls Tryd.prog 12 #[.int .i64 p, .int .i64 4] w fun e w' => e = .returned (.int .i64 a) ∧ w' = w := by
  have ha := Int.emod_nonneg p (show (4 : Int) ≠ 0 by omega)
  have hb := Int.emod_lt_of_pos p (show (0 : Int) < 4 by omega)
  refine ⟨(p % 4).toNat, by omega, fun w => ?_⟩
  refine (place_any (n := 4) h.1 h.2 (by decide) (by decide) w).mono ?_
  rintro e w' ⟨⟨k, hk, hk2, rfl⟩, hw⟩
  have : k = (p % 4).toNat := by omega
  exact ⟨by rw [this], hw⟩

abbrev nilS : Value := .slice none 0 0
theorem Play.start {w w4 : World} {s0 s1 s2 s3 : Nat} (B : Hall w w4 [(s0, []), (s1, []), (s2, []), (s3, [])] (fun _ => False)) :
    Play w ((w4.alloc (.cells #[ptr s0, ptr s1, ptr s2, ptr s3] 24)).alloc (.cells #[nilS, nilS, nilS, nilS] 31)) w4.heap.size (w4.heap.size + 1) [(s0, []), (s1, []), (s2, []), (s3, [])] [nilS, nilS, nilS, nilS] [[], [], [], []] [] [] := by
  have hb : Below w4.heap.size w4 ((w4.alloc (.cells #[ptr s0, ptr s1, ptr s2, ptr s3] 24)).alloc (.cells #[nilS, nilS, nilS, nilS] 31)) := ((Below.refl _ _).alloc (Nat.le_refl _) _).alloc (by simp) _
  have hsz := B.old.size
  have hnil : ∀ (i : Nat) (v : Value), [nilS, nilS, nilS, nilS][i]? = some v → v = nilS := fun i v h => by
    have := List.mem_of_getElem? h
    simpa using this
  have hnil2 : ∀ (i : Nat) (v : List Nat), ([[], [], [], []] : List (List Nat))[i]? = some v → v = [] := fun i v h => by
    have := List.mem_of_getElem? h
    simpa using this
  refine ⟨B.keeping hb (fun b hk => ?_), ?_, ?_, ⟨hsz, by omega, by omega⟩, ⟨rfl, rfl, rfl⟩, fun i v rs hv hr => ?_, fun i s l hi n hn => ?_, by simp⟩
  · rcases hk with rfl | rfl | ⟨v, hv, hb⟩ | ⟨o, h⟩
    · exact Or.inr (by simp; omega)
    · exact Or.inr (by simp)
    · simp only [List.mem_cons, List.not_mem_nil, or_false, or_self] at hv
      subst hv
      cases hb
    · cases h
  · rw [Below.heap_alloc _ _ _ (by simp)]
    exact heap_alloc_new w4 _
  · have := heap_alloc_new (w4.alloc (.cells #[ptr s0, ptr s1, ptr s2, ptr s3] 24)) (.cells #[nilS, nilS, nilS, nilS] 31)
    rwa [World.size_alloc] at this
  · obtain rfl := hnil i v hv
    obtain rfl := hnil2 i rs hr
    exact ⟨strip_nil _, List.Pairwise.nil, by simp [nilS, Value.ownBlock], by simp⟩
  · have := List.mem_of_getElem? hi
    simp only [List.mem_cons, Prod.mk.injEq, List.not_mem_nil, or_false] at this
    rcases this with h | h | h | h <;> rw [h.2] at hn <;> cases hn

theorem Match.start {s0 s1 s2 s3 : Nat} : Match [(s0, []), (s1, []), (s2, []), (s3, [])] [[], [], [], []] := fun i s l rs hi hr n => by
  have h1 := List.mem_of_getElem? hi
  have h2 := List.mem_of_getElem? hr
  simp only [List.mem_cons, Prod.mk.injEq, List.not_mem_nil, or_false, or_self] at h1 h2
  subst h2
  rcases h1 with h | h | h | h <;> rw [h.2]
end Go.Proofs.YtdpbbgfceagofaaDoor
