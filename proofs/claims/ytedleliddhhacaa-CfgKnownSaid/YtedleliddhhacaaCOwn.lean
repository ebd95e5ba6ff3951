/- What Of tells, as rows that may be written over. -/
import Derived.Test.YtedleliddhhacaaCLoops
namespace Go.Proofs.Ytedleliddhhacaa
open Go.RowKit Go.Maps

def succL (d : Fun) : List (List Int) := if ofOk d then normL (rowsF d) else []
def predL (d : Fun) : List (List Int) := if ofOk d then backL (rowsF d) else []
def errOf (d : Fun) : Int := if ofOk d then 0 else 4

/-- One cell of an owned row is written over. -/
theorem row_setC {w : World} {base g n cap k : Nat} {e : TypeId} {xs : List Value} (h : w.ownsRow base e 1 (.slice (some ⟨g, 0, none⟩) n cap) n xs) (hk : k < n) {x : Value} (hx : x.oneCell' = true) :
    (w.setCell ⟨g, k, none⟩ x).ownsRow base e 1 (.slice (some ⟨g, 0, none⟩) n cap) n (xs.set k x) := by
  obtain ⟨h0, ⟨e', _⟩ | ⟨g', cap', cur, e', hB, hg, hn, hc, hs, hxs⟩⟩ := h
  · cases e'
  · simp only [Value.slice.injEq, Option.some.injEq, Addr.mk.injEq] at e'
    obtain ⟨⟨rfl, -, -⟩, -, rfl⟩ := e'
    refine ⟨by simpa using h0, .inr ⟨g, cap, cur.setIfInBounds k x, rfl, hB, blk_set x hg, hn, hc, by simpa using hs, ?_⟩⟩
    rw [Array.toList_setIfInBounds, List.take_set, hxs]
theorem row_cellsC {w : World} {base g n cap k : Nat} {e : TypeId} {xs : List Value} {u : Value} (h : w.ownsRow base e 1 (.slice (some ⟨g, 0, none⟩) n cap) n xs) (hk : xs[k]? = some u) : w.cell? ⟨g, k, none⟩ = some u ∧ w.frozen? ⟨g, k, none⟩ = false := by
  obtain ⟨h0, ⟨e', _⟩ | ⟨g', cap', cur, e', hB, hg, hn, hc, hs, hxs⟩⟩ := h
  · cases e'
  · simp only [Value.slice.injEq, Option.some.injEq, Addr.mk.injEq] at e'
    obtain ⟨⟨rfl, -, -⟩, -, rfl⟩ := e'
    refine ⟨?_, by simp [World.frozen?, hg]⟩
    rw [blk_cell hg, ← Array.getElem?_toList]
    rw [Nat.mul_one] at hxs
    rw [← hxs, List.getElem?_take] at hk
    split at hk
    · exact hk
    · cases hk

/-- Rows in blocks of a kind. -/
def RowsM (Z : Nat → Prop) (lo : Nat) (w : World) (v : Value) (L : List (List Int)) : Prop :=
  (L = [] ∧ v = .slice none 0 0) ∨ ∃ G vs, v = .slice (some ⟨G, 0, none⟩) L.length L.length ∧ Mat w lo G vs L ∧ Z G ∧ ∀ (i : Nat) (u : Value) (b : Nat), vs[i]? = some u → u.ownBlock = some b → Z b

section
variable {Z Z' U : Nat → Prop} {lo : Nat} {w w' : World} {v : Value} {L : List (List Int)}
theorem RowsM.form (h : RowsM Z lo w v L) : ∃ a c, v = .slice a L.length c := by
  rcases h with ⟨rfl, rfl⟩ | ⟨G, vs, rfl, _⟩
  · exact ⟨none, 0, rfl⟩
  · exact ⟨_, _, rfl⟩
theorem RowsM.mono (h : RowsM Z lo w v L) (hz : ∀ b, Z b → Z' b) : RowsM Z' lo w v L :=
  h.imp id (fun ⟨G, vs, e, M, hG, hr⟩ => ⟨G, vs, e, M, hz _ hG, fun i u b hu hb => hz _ (hr i u b hu hb)⟩)
theorem RowsM.kept (h : RowsM Z lo w v L) (hT : Touch w w' U) (hZ : ∀ b, Z b → ¬ U b) : RowsM Z lo w' v L :=
  h.imp id (fun ⟨G, vs, e, M, hG, hr⟩ => ⟨G, vs, e, M.kept hT (hZ _ hG) (fun i u b hu hb => hZ _ (hr i u b hu hb)), hG, hr⟩)
theorem RowsM.below (h : RowsM Z lo w v L) (hb : Below w.heap.size w w') : RowsM Z lo w' v L :=
  h.kept (Touch.of_below hb (fun _ => False)) (fun _ _ h => h)
theorem RowsM.rd (h : RowsM Z lo w v L) : RdG w v L := by
  rcases h with ⟨rfl, rfl⟩ | ⟨G, vs, rfl, M, _⟩
  · exact ⟨[], Or.inl ⟨rfl, .inl rfl⟩, rfl, fun i u l hu hl => (by cases hu)⟩
  · exact M.rd rfl
/-- One number of it is written over. -/
theorem RowsM.write {a : Option Addr} {n c k j : Nat} {r : List Int} (h : RowsM Z lo w (.slice a n c) L) (hk : L[k]? = some r) (hj : j < r.length) (x : Int) :
    ∃ G g cg y, a = some ⟨G, 0, none⟩ ∧ w.cell? ⟨G, k, none⟩ = some (.slice (some ⟨g, 0, none⟩) r.length cg) ∧ w.cell? ⟨g, j, none⟩ = some (.int .i64 y) ∧ w.frozen? ⟨g, j, none⟩ = false ∧ Z g ∧ lo ≤ g ∧
      RowsM Z lo (w.setCell ⟨g, j, none⟩ (.int .i64 x)) (.slice a n c) (L.set k (r.set j x)) := by
  rcases h with ⟨rfl, _⟩ | ⟨G, vs, e, M, hG, hr⟩
  · simp at hk
  · simp only [Value.slice.injEq] at e
    obtain ⟨rfl, rfl, rfl⟩ := e
    obtain ⟨u, hu, hrow⟩ := M.at hk
    obtain ⟨g, cg, rfl⟩ := row_form hrow (by omega)
    obtain ⟨y, hy⟩ : ∃ y, r[j]? = some y := ⟨_, List.getElem?_eq_getElem hj⟩
    obtain ⟨hc, hf⟩ := row_cellsC hrow (k := j) (u := encI y) (by simp [hy])
    have hT := (Touch.refl w (fun b => (Value.slice (some ⟨g, 0, none⟩) r.length cg).ownBlock = some b)).setCell (a := ⟨g, j, none⟩) (fun _ => rfl) (.int .i64 x)
    have hrow2 := row_setC hrow hj (x := encI x) rfl
    refine ⟨G, g, cg, y, rfl, M.cell hu, hc, hf, hr k _ g hu rfl, (hrow.lt g rfl).1, .inr ⟨G, vs, by rw [List.length_set], M.here hu hk hT (l' := r.set j x) (by rw [List.length_set, List.map_set]; exact hrow2), hG, hr⟩⟩
/-- A row of it grows by one number. -/
theorem RowsM.append {a : Option Addr} {n c k : Nat} {r : List Int} {x : Int} {o : Obj} (h : RowsM Z lo w (.slice a n c) L) (hk : L[k]? = some r) (hz : ∀ b, w.heap.size ≤ b → Z b) :
    ∃ G u, a = some ⟨G, 0, none⟩ ∧ w.cell? ⟨G, k, none⟩ = some u ∧ w.frozen? ⟨G, k, none⟩ = false ∧ w.ownsRow lo 3 1 u r.length (r.map encI) ∧ u.ownBlock ≠ some G ∧ lo ≤ G ∧ Z G ∧ G < w.heap.size ∧ (∀ b, u.ownBlock = some b → Z b) ∧
      ∀ (v' : Value) (w2 : World), w2.ownsRow lo 3 1 v' (r.length + 1) (r.map encI ++ [.int .i64 x]) → (w.alloc o).grownBy w2 u.ownBlock → (v'.ownBlock = u.ownBlock ∨ v'.ownBlock = some (w.heap.size + 1)) →
        RowsM Z lo (w2.setCell ⟨G, k, none⟩ v') (.slice a n c) (L.set k (r ++ [x])) ∧ Touch w (w2.setCell ⟨G, k, none⟩ v') (fun b => u.ownBlock = some b ∨ b = G) := by
  rcases h with ⟨rfl, _⟩ | ⟨G, vs, e, M, hG, hr⟩
  · simp at hk
  · simp only [Value.slice.injEq] at e
    obtain ⟨rfl, rfl, rfl⟩ := e
    obtain ⟨u, hu, hrow⟩ := M.at hk
    refine ⟨G, u, rfl, M.cell hu, M.free k, hrow, M.notG k u hu, M.low, hG, M.lt, fun b hb => hr k u b hu hb, fun v' w2 hown hgrow hat => ?_⟩
    obtain ⟨-, -, -, hT, hnew, M2⟩ := M.appended hu hk hown hgrow hat
    refine ⟨.inr ⟨G, vs.set k v', by rw [List.length_set], M2, hG, fun i y b hy hb => ?_⟩, ?_⟩
    · by_cases hi : i = k
      · subst hi
        rw [List.getElem?_set_self (List.getElem?_eq_some_iff.1 hu).1] at hy
        obtain rfl := Option.some.inj hy
        rcases hnew b hb with h | h
        · exact hr i u b hu h
        · exact hz b h
      · rw [List.getElem?_set_ne (fun e => hi e.symm)] at hy
        exact hr i y b hy hb
    · exact (Touch.mono hT (fun b _ h => .inl h)).setCell (a := ⟨G, k, none⟩) (fun _ => .inr rfl) v'
/-- A row of it. -/
theorem RowsM.row {a : Option Addr} {n c k : Nat} {r : List Int} (h : RowsM Z lo w (.slice a n c) L) (hk : L[k]? = some r) :
    ∃ G u, a = some ⟨G, 0, none⟩ ∧ w.cell? ⟨G, k, none⟩ = some u ∧ w.ownsRow lo 3 1 u r.length (r.map encI) := by
  rcases h with ⟨rfl, _⟩ | ⟨G, vs, e, M, hG, hr⟩
  · simp at hk
  · simp only [Value.slice.injEq] at e
    obtain ⟨rfl, rfl, rfl⟩ := e
    obtain ⟨u, hu, hrow⟩ := M.at hk
    exact ⟨G, u, rfl, M.cell hu, hrow⟩
end

/-- What Of tells. -/
def Two (lo : Nat) (w : World) (s1 s2 : Value) (L1 L2 : List (List Int)) : Prop := ∃ m, lo ≤ m ∧ m ≤ w.heap.size ∧ RowsM (fun b => lo ≤ b ∧ b < m) lo w s1 L1 ∧ RowsM (fun b => m ≤ b ∧ b < w.heap.size) m w s2 L2

theorem of_two {w : World} {cs : List Value} {d : Fun} (h : RdFun w cs d) (hs : SmallF d) : Calls Try.prog 13 #[.agg cs.toArray] w fun e w' =>
    ∃ s1 s2, e = .returned (.tuple #[.agg #[s1, s2], .int .i64 (errOf d)]) ∧ Two w.heap.size w' s1 s2 (succL d) (predL d) ∧ Below w.heap.size w w' := by
  refine (of_any h hs).mono ?_
  rintro e w' ⟨hyes, hno, hb⟩
  rcases hok : ofOk d with _ | _
  · refine ⟨_, _, ?_, ⟨w.heap.size, Nat.le_refl _, hb.size, .inl ⟨?_, rfl⟩, .inl ⟨?_, rfl⟩⟩, hb⟩
    · rw [hno hok, errOf, hok]; rfl
    · simp [succL, hok]
    · simp [predL, hok]
  · obtain ⟨m, G1, vs1, G2, vs2, he, M1, M2, hm, hG1, hr1⟩ := hyes hok
    have hl1 : (normL (rowsF d)).length = d.blocks.length := by rw [normL_len, rowsF_len]
    have hl2 : (backL (rowsF d)).length = d.blocks.length := by rw [backL_len, rowsF_len]
    have e1 : succL d = normL (rowsF d) := by simp [succL, hok]
    have e2 : predL d = backL (rowsF d) := by simp [predL, hok]
    refine ⟨.slice (some ⟨G1, 0, none⟩) d.blocks.length d.blocks.length, .slice (some ⟨G2, 0, none⟩) d.blocks.length d.blocks.length, ?_, ⟨m, hm, Nat.le_trans M2.low (Nat.le_of_lt M2.lt), Or.inr ⟨G1, vs1, ?_, ?_, ⟨M1.low, hG1⟩, fun i u b hu hb => ⟨?_, hr1 i u b hu hb⟩⟩, Or.inr ⟨G2, vs2, ?_, ?_, ⟨M2.low, M2.lt⟩, fun i u b hu hb => ⟨?_, M2.top i u b hu hb⟩⟩⟩, hb⟩
    · rw [he, errOf, hok]; rfl
    · rw [e1, hl1]
    · rw [e1]; exact M1
    · obtain ⟨l, hl⟩ : ∃ l, (normL (rowsF d))[i]? = some l := ⟨_, List.getElem?_eq_getElem (by rw [← M1.len]; exact (List.getElem?_eq_some_iff.1 hu).1)⟩
      exact ((M1.row i u l hu hl).lt b hb).1
    · rw [e2, hl2]
    · rw [e2]; exact M2
    · obtain ⟨l, hl⟩ : ∃ l, (backL (rowsF d))[i]? = some l := ⟨_, List.getElem?_eq_getElem (by rw [← M2.len]; exact (List.getElem?_eq_some_iff.1 hu).1)⟩
      exact ((M2.row i u l hu hl).lt b hb).1
end Go.Proofs.Ytedleliddhhacaa
