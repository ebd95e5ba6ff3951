/- Both tables side by side, and what a step of either leaves. -/
import Derived.Test.YtdeoclapamknfaaRef
import Derived.Test.YtdeoclapamknfaaWake
namespace Go.Proofs.Ytdeoclapamknfaa
open Go.RowKit Go.Maps Go.WideMaps Go.WideShapes Str

/-- The table (struct sb, map bm) has the keys ks1, the other one (struct rb) ks2; no block is both's; the blocks X (a number, what lies there) are neither's; all below w0 is as it was. -/
def St (w0 w : World) (sb bm rb : Nat) (X : List (Nat × Obj)) (ks1 ks2 : List ByteArray) : Prop :=
  ∃ v rv B1 B2, TS w0.heap.size B1 w sb bm v ks1 ∧ Ref.RTab w0.heap.size B2 w rb rv ks2 ∧ (∀ k, Own sb bm v k → Ref.ROwn rb rv k → False) ∧
    (∀ p ∈ X, ¬ Own sb bm v p.1 ∧ ¬ Ref.ROwn rb rv p.1 ∧ p.1 < w.heap.size ∧ w.heap[p.1]? = some p.2) ∧ Below w0.heap.size w0 w

section
variable {w0 w : World} {sb bm rb : Nat} {X : List (Nat × Obj)} {ks1 ks2 : List ByteArray}

theorem St.below (h : St w0 w sb bm rb X ks1 ks2) : Below w0.heap.size w0 w := by
  obtain ⟨v, rv, B1, B2, T, R, hd, hX, hlo⟩ := h
  exact hlo

/-- New blocks alone. -/
theorem St.more {w' : World} (h : St w0 w sb bm rb X ks1 ks2) (hb : Below w.heap.size w w') : St w0 w' sb bm rb X ks1 ks2 := by
  obtain ⟨v, rv, B1, B2, T, R, hd, hX, hlo⟩ := h
  have ht := Touch.of_below hb (fun _ => False)
  refine ⟨v, rv, B1, B2, T.kept ht (fun _ _ h => h), R.kept ht (fun _ _ h => h), hd, fun p hp => ?_, hlo.trans (hb.mono hlo.size)⟩
  obtain ⟨h1, h2, h3, h4⟩ := hX p hp
  exact ⟨h1, h2, Nat.lt_of_lt_of_le h3 hb.size, (hb.block p.1 h3).trans h4⟩

/-- A new block is neither's. -/
theorem St.alloc (h : St w0 w sb bm rb X ks1 ks2) (o : Obj) : St w0 (w.alloc o) sb bm rb ((w.heap.size, o) :: X) ks1 ks2 := by
  have h' := h.more ((Below.refl _ _).alloc (Nat.le_refl _) o)
  obtain ⟨v, rv, B1, B2, T, R, hd, hX, hlo⟩ := h
  obtain ⟨v', rv', B1', B2', T', R', hd', hX', hlo'⟩ := h'
  refine ⟨v, rv, B1, B2, T.kept (Touch.of_below ((Below.refl _ _).alloc (Nat.le_refl _) o) (fun _ => False)) (fun _ _ h => h), R.kept (Touch.of_below ((Below.refl _ _).alloc (Nat.le_refl _) o) (fun _ => False)) (fun _ _ h => h), hd, fun p hp => ?_, hlo'⟩
  rcases List.mem_cons.1 hp with rfl | hp
  · exact ⟨fun e => Nat.lt_irrefl _ (T.lt _ e), fun e => Nat.lt_irrefl _ (R.lt _ e).2, by simp, heap_alloc_new w o⟩
  · obtain ⟨h1, h2, h3, h4⟩ := hX p hp
    exact ⟨h1, h2, by simp; omega, (Below.heap_alloc w o p.1 h3).trans h4⟩

/-- A block that is neither's is written. -/
theorem St.set {b i : Nat} {o : Obj} {cs : Array Value} {t : TypeId} {fr : Nat × Nat} (h : St w0 w sb bm rb ((b, o) :: X) ks1 ks2) (ho : o = .cells cs t fr) (hb : w0.heap.size ≤ b) (hX : ∀ p ∈ X, p.1 ≠ b) (u : Value) :
    St w0 (w.setCell ⟨b, i, none⟩ u) sb bm rb ((b, .cells (cs.setIfInBounds i u) t fr) :: X) ks1 ks2 := by
  subst ho
  obtain ⟨v, rv, B1, B2, T, R, hd, hXs, hlo⟩ := h
  obtain ⟨g1, g2, g3, g4⟩ := hXs (b, .cells cs t fr) (by simp)
  have ht : Touch w (w.setCell ⟨b, i, none⟩ u) (fun k => k = b) := Touch.setCell (S := fun k => k = b) (Touch.refl w _) (fun _ => rfl) u
  refine ⟨v, rv, B1, B2, T.kept ht (fun k hk e => g1 (e ▸ hk)), R.kept ht (fun k hk e => g2 (e ▸ hk)), hd, fun p hp => ?_, hlo.setCell (by simpa using hb) u⟩
  rcases List.mem_cons.1 hp with rfl | hp
  · exact ⟨g1, g2, by simpa using g3, blk_set u g4⟩
  · obtain ⟨h1, h2, h3, h4⟩ := hXs p (by simp [hp])
    exact ⟨h1, h2, by simpa using h3, (ht.block p.1 h3 (hX p hp)).trans h4⟩

theorem St.sub {Y : List (Nat × Obj)} (h : St w0 w sb bm rb X ks1 ks2) (hs : ∀ p ∈ Y, p ∈ X) : St w0 w sb bm rb Y ks1 ks2 := by
  obtain ⟨v, rv, B1, B2, T, R, hd, hX, hlo⟩ := h
  exact ⟨v, rv, B1, B2, T, R, hd, fun p hp => hX p (hs p hp), hlo⟩

theorem St.cell (h : St w0 w sb bm rb X ks1 ks2) {b : Nat} {cs : Array Value} {t : TypeId} {fr : Nat × Nat} (hp : (b, Obj.cells cs t fr) ∈ X) (i : Nat) : w.cell? ⟨b, i, none⟩ = cs[i]? := by
  obtain ⟨v, rv, B1, B2, T, R, hd, hX, hlo⟩ := h
  exact blk_cell (hX _ hp).2.2.2 i

/-- A key for the first table. -/
theorem St.id1 (h : St w0 w sb bm rb X ks1 ks2) {k : ByteArray} (hk : k.size ≤ maxLen) (hlen : ks1.length ≤ 1000) :
    Calls Try.prog 11 #[.pointer (some ⟨sb, 0, none⟩), .string k] w fun e w' => e = .returned (.int .i64 (place (plus ks1 k) k)) ∧ St w0 w' sb bm rb X (plus ks1 k) ks2 := by
  by_cases hi : k ∈ ks1
  · obtain ⟨v, rv, B1, B2, T, R, hd, hX, hlo⟩ := h
    rw [plus_in hi]
    refine (Str.id_hit T hk (place_get hi)).mono ?_
    rintro e w' ⟨rfl, rfl⟩
    exact ⟨rfl, v, rv, B1, B2, T, R, hd, hX, hlo⟩
  · obtain ⟨v, rv, B1, B2, T, R, hd, hX, hlo⟩ := h
    rw [plus_out hi, place_new hi]
    refine (Str.id_new T hk hi (by omega)).mono ?_
    rintro e w' ⟨rfl, v', T', ht, hv⟩
    have hnew : ∀ k, Own sb bm v' k → Own sb bm v k ∨ w.heap.size ≤ k := by
      rintro k (rfl | rfl | e)
      · exact Or.inl (Or.inl rfl)
      · exact Or.inl (Or.inr (Or.inl rfl))
      · exact or_map (hv k e) (fun e => Or.inr (Or.inr e)) id
    refine ⟨rfl, v', rv, B1, B2, T', R.kept ht (fun k hk ho => hd k ho hk), fun k h1 h2 => ?_, fun p hp => ?_, hlo.trans (ht.below hlo.size (fun x hx ho => by have := T.low x ho; omega))⟩
    · rcases hnew k h1 with h3 | h3
      · exact hd k h3 h2
      · have := (R.lt k h2).2; omega
    · obtain ⟨h1, h2, h3, h4⟩ := hX p hp
      refine ⟨fun h5 => ?_, h2, Nat.lt_of_lt_of_le h3 ht.size, (ht.block p.1 h3 h1).trans h4⟩
      rcases hnew p.1 h5 with h6 | h6
      · exact h1 h6
      · omega

/-- A key for the second table. -/
theorem St.id2 (h : St w0 w sb bm rb X ks1 ks2) (k : ByteArray) (hlen : ks2.length ≤ 1000) :
    Calls Try.prog 10 #[.pointer (some ⟨rb, 0, none⟩), .string k] w fun e w' => e = .returned (.int .i64 (place (plus ks2 k) k)) ∧ St w0 w' sb bm rb X ks1 (plus ks2 k) := by
  by_cases hi : k ∈ ks2
  · obtain ⟨v, rv, B1, B2, T, R, hd, hX, hlo⟩ := h
    rw [plus_in hi]
    refine (Ref.id_hit R hi (by omega)).mono ?_
    rintro e w' ⟨rfl, rfl⟩
    exact ⟨rfl, v, rv, B1, B2, T, R, hd, hX, hlo⟩
  · obtain ⟨v, rv, B1, B2, T, R, hd, hX, hlo⟩ := h
    rw [plus_out hi, place_new hi]
    refine (Ref.id_new R hi (by omega)).mono ?_
    rintro e w' ⟨rfl, v', R', ht, hv⟩
    have hnew : ∀ k, Ref.ROwn rb v' k → Ref.ROwn rb rv k ∨ w.heap.size ≤ k := by
      rintro k (rfl | e)
      · exact Or.inl (Or.inl rfl)
      · exact or_map (hv k e) (fun e => Or.inr e) id
    refine ⟨rfl, v, v', B1, B2, T.kept ht (fun k hk ho => hd k hk ho), R', fun k h1 h2 => ?_, fun p hp => ?_, hlo.trans (ht.below hlo.size (fun x hx ho => by have := (R.lt x ho).1; omega))⟩
    · rcases hnew k h2 with h3 | h3
      · exact hd k h1 h3
      · have := T.lt k h1; omega
    · obtain ⟨h1, h2, h3, h4⟩ := hX p hp
      refine ⟨h1, fun h5 => ?_, Nat.lt_of_lt_of_le h3 ht.size, (ht.block p.1 h3 h2).trans h4⟩
      rcases hnew p.1 h5 with h6 | h6
      · exact h2 h6
      · omega

theorem St.tab (h : St w0 w sb bm rb X ks1 ks2) : ∃ v B, TS w0.heap.size B w sb bm v ks1 := by
  obtain ⟨v, rv, B1, B2, T, R, hd, hX, hlo⟩ := h
  exact ⟨v, B1, T⟩
theorem St.ref (h : St w0 w sb bm rb X ks1 ks2) : ∃ v B, Ref.RTab w0.heap.size B w rb v ks2 := by
  obtain ⟨v, rv, B1, B2, T, R, hd, hX, hlo⟩ := h
  exact ⟨rv, B2, R⟩
theorem St.drawn (h : St w0 w sb bm rb X ks1 ks2) (n : Nat) : St w0 (w.drewN n) sb bm rb X ks1 ks2 := h.more (below_drawn (Below.refl _ _) n)

/-- Acts that came in: three cells each. -/
def RdA (w : World) (s : Value) (l : List (Int × Int × ByteArray)) : Prop :=
  (l = [] ∧ (s = .slice none 0 0 ∨ ∃ a c, s = .slice (some a) 0 c)) ∨ ∃ b off cap, s = .slice (some ⟨b, off, none⟩) l.length cap ∧ b < w.heap.size ∧
    ∀ i x, l[i]? = some x → w.cell? ⟨b, off + i * 3, none⟩ = some (.int .i64 x.1) ∧ w.cell? ⟨b, off + i * 3 + 1, none⟩ = some (.int .i64 x.2.1) ∧ w.cell? ⟨b, off + i * 3 + 2, none⟩ = some (.string x.2.2)
theorem RdA.form {s : Value} {l : List (Int × Int × ByteArray)} (h : RdA w s l) : ∃ a c, s = .slice a l.length c := by
  rcases h with ⟨rfl, rfl | ⟨a, c, rfl⟩⟩ | ⟨b, off, cap, rfl, _⟩
  · exact ⟨none, 0, rfl⟩
  · exact ⟨some a, c, rfl⟩
  · exact ⟨_, cap, rfl⟩
theorem RdA.below {w' : World} {s : Value} {l : List (Int × Int × ByteArray)} (h : RdA w s l) (hb : Below w.heap.size w w') : RdA w' s l := by
  refine or_map h id ?_
  rintro ⟨b, off, cap, e, hlt, hc⟩
  refine ⟨b, off, cap, e, Nat.lt_of_lt_of_le hlt hb.size, fun i x hx => ?_⟩
  obtain ⟨h1, h2, h3⟩ := hc i x hx
  exact ⟨(hb.cell (p := ⟨b, off + i * 3, none⟩) hlt).trans h1, (hb.cell (p := ⟨b, off + i * 3 + 1, none⟩) hlt).trans h2, (hb.cell (p := ⟨b, off + i * 3 + 2, none⟩) hlt).trans h3⟩
theorem RdA.at {s : Value} {l : List (Int × Int × ByteArray)} (h : RdA w s l) {i : Nat} {x : Int × Int × ByteArray} (hi : l[i]? = some x) : ∃ b off cap, s = .slice (some ⟨b, off, none⟩) l.length cap ∧
    w.cell? ⟨b, off + i * 3, none⟩ = some (.int .i64 x.1) ∧ w.cell? ⟨b, off + i * 3 + 1, none⟩ = some (.int .i64 x.2.1) ∧ w.cell? ⟨b, off + i * 3 + 2, none⟩ = some (.string x.2.2) := by
  rcases h with ⟨rfl, _⟩ | ⟨b, off, cap, e, hlt, hc⟩
  · simp at hi
  · exact ⟨b, off, cap, e, hc i x hi⟩
end
end Go.Proofs.Ytdeoclapamknfaa
