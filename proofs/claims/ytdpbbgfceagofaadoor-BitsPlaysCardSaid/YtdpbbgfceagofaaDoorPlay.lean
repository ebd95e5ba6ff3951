/- Four sets and four lists, played on: what stands in memory between two acts. -/
import Derived.Test.YtdpbbgfceagofaaDoorTells
namespace Go.Proofs.YtdpbbgfceagofaaDoor
open Go.RowKit Go.Maps

theorem nat_row {xs : List Int} (h0 : ∀ x ∈ xs, 0 ≤ x) (hr : xs.Pairwise (· < ·)) : ∃ rs : List Nat, xs = ints rs ∧ rs.Pairwise (· < ·) ∧ ∀ n, n ∈ rs ↔ (n : Int) ∈ xs := by
  have e : xs = ints (xs.map Int.toNat) := by
    unfold ints
    rw [List.map_map]
    conv => lhs; rw [← List.map_id xs]
    exact List.map_congr_left (fun x hx => by have := h0 x hx; simp; omega)
  refine ⟨xs.map Int.toNat, e, ?_, fun n => ?_⟩
  · rw [List.pairwise_map]
    exact hr.imp_of_mem (fun {a b} ha hb hab => by have := h0 a ha; have := h0 b hb; omega)
  · conv => rhs; rw [e]
    rw [mem_ints]
    simp

theorem rise_ints {rs : List Nat} (h : rs.Pairwise (· < ·)) : (ints rs).Pairwise (· < ·) := by
  unfold ints
  rw [List.pairwise_map]
  exact h.imp (fun h => by omega)

/-- What is kept: the two tables, what lies beside, and the lists. -/
def Kept (ps ws : Nat) (vs : List Value) (X : List (Nat × Obj)) (b : Nat) : Prop := b = ps ∨ b = ws ∨ (∃ v ∈ vs, v.ownBlock = some b) ∨ ∃ o, (b, o) ∈ X

structure Play (w0 w : World) (ps ws : Nat) (L : List (Nat × List Nat)) (vs : List Value) (rss : List (List Nat)) (X : List (Nat × Obj)) (V : List Nat) : Prop where
  hall : Hall w0 w L (Kept ps ws vs X)
  pst : w.heap[ps]? = some (.cells (L.map fun p => ptr p.1).toArray 24 (0, 0))
  wst : w.heap[ws]? = some (.cells vs.toArray 31 (0, 0))
  low : w0.heap.size ≤ ps ∧ w0.heap.size ≤ ws ∧ ps ≠ ws
  lens : L.length = 4 ∧ vs.length = 4 ∧ rss.length = 4
  rows : ∀ (i : Nat) (v : Value) (rs : List Nat), vs[i]? = some v → rss[i]? = some rs → Strip w v (ints rs) ∧ rs.Pairwise (· < ·) ∧ (∀ b, v.ownBlock = some b → b ≠ ps ∧ b ≠ ws) ∧ ∀ n ∈ rs, n ∈ V
  sets : ∀ (i s : Nat) (l : List Nat), L[i]? = some (s, l) → ∀ n ∈ l, n ∈ V
  beside : ∀ b o, (b, o) ∈ X → w.heap[b]? = some o ∧ b ≠ ps ∧ b ≠ ws

/-- The lists have the sets' numbers. -/
def Match (L : List (Nat × List Nat)) (rss : List (List Nat)) : Prop := ∀ (i s : Nat) (l rs : List Nat), L[i]? = some (s, l) → rss[i]? = some rs → ∀ n, n ∈ rs ↔ n ∈ l

section
variable {w0 w w1 : World} {ps ws : Nat} {L : List (Nat × List Nat)} {vs : List Value} {rss : List (List Nat)} {X : List (Nat × Obj)} {V V' : List Nat} {a s : Nat} {l : List Nat} {v : Value} {rs : List Nat}

theorem strip_keep {keep : Nat → Prop} (h : Strip w v (ints rs)) (ht : Keeps keep w w1) (hk : ∀ b, v.ownBlock = some b → keep b) : Strip w1 v (ints rs) :=
  ownsRow_touch h ht (fun b hb hn => hn (hk b hb))

theorem Play.kps (P : Play w0 w ps ws L vs rss X V) : Kept ps ws vs X ps := Or.inl rfl
theorem Play.kws (P : Play w0 w ps ws L vs rss X V) : Kept ps ws vs X ws := Or.inr (Or.inl rfl)
theorem Play.kv (P : Play w0 w ps ws L vs rss X V) {i b : Nat} (hv : vs[i]? = some v) (hb : v.ownBlock = some b) : Kept ps ws vs X b := Or.inr (Or.inr (Or.inl ⟨v, List.mem_of_getElem? hv, hb⟩))

theorem Play.keeps (P : Play w0 w ps ws L vs rss X V) {L' : List (Nat × List Nat)} (hL : L'.map (fun p => p.1) = L.map (fun p => p.1)) (hs : ∀ (i s : Nat) (l : List Nat), L'[i]? = some (s, l) → ∀ n ∈ l, n ∈ V') (hV : ∀ n ∈ V, n ∈ V')
    (B : Hall w0 w1 L' (Kept ps ws vs X)) (ht : Keeps (Kept ps ws vs X) w w1) : Play w0 w1 ps ws L' vs rss X V' := by
  have e : (L'.map fun p => ptr p.1) = L.map fun p => ptr p.1 := by
    have := congrArg (List.map ptr) hL
    simpa [List.map_map, Function.comp_def] using this
  have el : L'.length = L.length := by simpa using congrArg List.length hL
  refine ⟨B, ?_, ?_, P.low, ⟨by rw [el]; exact P.lens.1, P.lens.2⟩, fun i v rs hv hr => ?_, hs, fun b o hb => ?_⟩
  · rw [ht.at P.kps (P.hall.kept _ P.kps), e]; exact P.pst
  · rw [ht.at P.kws (P.hall.kept _ P.kws)]; exact P.wst
  · obtain ⟨h1, h2, h3, h4⟩ := P.rows i v rs hv hr
    exact ⟨strip_keep h1 ht (fun b hb => P.kv hv hb), h2, h3, fun n hn => hV n (h4 n hn)⟩
  · obtain ⟨h1, h2⟩ := P.beside b o hb
    have hk : Kept ps ws vs X b := Or.inr (Or.inr (Or.inr ⟨o, hb⟩))
    exact ⟨by rw [ht.at hk (P.hall.kept _ hk)]; exact h1, h2⟩

theorem Play.below (P : Play w0 w ps ws L vs rss X V) (hb : Below w.heap.size w w1) : Play w0 w1 ps ws L vs rss X V :=
  P.keeps rfl P.sets (fun _ h => h) (P.hall.below hb) (keeps_below _ hb)
theorem Play.drawn (P : Play w0 w ps ws L vs rss X V) (n : Nat) : Play w0 (w.drewN n) ps ws L vs rss X V := P.below (below_drawn (Below.refl _ _) n)
theorem Play.drew (P : Play w0 w ps ws L vs rss X V) : Play w0 w.drew ps ws L vs rss X V := P.drawn 1

theorem map_set_fst {L : List (Nat × List Nat)} {a s : Nat} {l l' : List Nat} (ha : L[a]? = some (s, l)) : (L.set a (s, l')).map (fun p => p.1) = L.map (fun p => p.1) := by
  rw [List.map_set]
  obtain ⟨hlt, e⟩ := List.getElem?_eq_some_iff.1 ha
  refine List.ext_getElem? (fun i => ?_)
  by_cases hi : i = a
  · subst hi
    rw [List.getElem?_set_self (by simpa using hlt), List.getElem?_map, ha]
    rfl
  · rw [List.getElem?_set_ne (Ne.symm hi)]

theorem get_set_cases {α : Type} {l : List α} {a i : Nat} {x y : α} (h : (l.set a x)[i]? = some y) : (i = a ∧ y = x) ∨ (i ≠ a ∧ l[i]? = some y) := by
  by_cases hi : i = a
  · subst hi
    have hlt : i < l.length := by have := (List.getElem?_eq_some_iff.1 h).1; simpa using this
    rw [List.getElem?_set_self hlt] at h
    exact Or.inl ⟨rfl, (Option.some.inj h).symm⟩
  · rw [List.getElem?_set_ne (Ne.symm hi)] at h
    exact Or.inr ⟨hi, h⟩

/-- A set turns. -/
theorem Play.turn {l' : List Nat} (P : Play w0 w ps ws L vs rss X V) (ha : L[a]? = some (s, l)) (hV : ∀ n ∈ V, n ∈ V') (hl : ∀ n ∈ l', n ∈ V')
    (B : Hall w0 w1 (L.set a (s, l')) (Kept ps ws vs X)) (ht : Keeps (Kept ps ws vs X) w w1) : Play w0 w1 ps ws (L.set a (s, l')) vs rss X V' :=
  P.keeps (map_set_fst ha) (fun i t m hi n hn => by
    rcases get_set_cases hi with ⟨rfl, e⟩ | ⟨_, e⟩
    · simp only [Prod.mk.injEq] at e
      obtain ⟨rfl, rfl⟩ := e
      exact hl n hn
    · exact hV n (P.sets i t m e n hn)) hV B ht

/-- A set that is new takes a place. -/
theorem Play.setS {s' : Nat} {l' : List Nat} (P : Play w0 w ps ws L vs rss X V) (ha : a < 4) (hV : ∀ n ∈ V, n ∈ V') (hl : ∀ n ∈ l', n ∈ V')
    (B : Hall w0 w1 (L ++ [(s', l')]) (Kept ps ws vs X)) (hb : Below w.heap.size w w1) : Play w0 (w1.setCell ⟨ps, a, none⟩ (ptr s')) ps ws (L.set a (s', l')) vs rss X V' := by
  have P1 := P.below hb
  have hlt : a < L.length := by have := P.lens.1; omega
  have ht : Touch w1 (w1.setCell ⟨ps, a, none⟩ (ptr s')) (fun b => b = ps) := (Touch.refl w1 (fun b => b = ps)).setCell (a := ⟨ps, a, none⟩) (fun _ => rfl) _
  have hlow := P.low
  refine ⟨(B.swap hlt).touch ht (fun k hk e => by omega) (fun k e => Or.inl (by subst e; exact P.kps)), ?_, ?_, P.low, ⟨by rw [List.length_set]; exact P.lens.1, P.lens.2⟩, fun i v rs hv hr => ?_, fun i t m hi n hn => ?_, fun b o hbo => ?_⟩
  · have := blk_set (i := a) (ptr s') P1.pst
    rw [this, List.map_set]
    simp
  · rw [ht.block ws (P1.hall.kept _ P1.kws) (fun e => P.low.2.2 e.symm)]; exact P1.wst
  · obtain ⟨h1, h2, h3, h4⟩ := P1.rows i v rs hv hr
    exact ⟨ownsRow_touch h1 ht (fun b hb e => (h3 b hb).1 e), h2, h3, fun n hn => hV n (h4 n hn)⟩
  · rcases get_set_cases hi with ⟨rfl, e⟩ | ⟨_, e⟩
    · simp only [Prod.mk.injEq] at e
      obtain ⟨rfl, rfl⟩ := e
      exact hl n hn
    · exact hV n (P.sets i t m e n hn)
  · obtain ⟨h1, h2⟩ := P1.beside b o hbo
    have hk : Kept ps ws vs X b := Or.inr (Or.inr (Or.inr ⟨o, hbo⟩))
    exact ⟨by rw [ht.block b (P1.hall.kept _ hk) (fun e => h2.1 e)]; exact h1, h2⟩

/-- A list takes a place. -/
theorem Play.setW {rs' : List Nat} {v' : Value} (P : Play w0 w ps ws L vs rss X V) (ha : a < 4) (hV : ∀ n ∈ V, n ∈ V') (hl : ∀ n ∈ rs', n ∈ V')
    (hs : Strip w1 v' (ints rs')) (hr : rs'.Pairwise (· < ·)) (hn : (∃ i : Nat, vs[i]? = some v') ∨ ∀ b, v'.ownBlock = some b → w.heap.size ≤ b) (hb : Below w.heap.size w w1) :
    Play w0 (w1.setCell ⟨ws, a, none⟩ v') ps ws L (vs.set a v') (rss.set a rs') X V' := by
  have P1 := P.below hb
  have hlt : a < vs.length := by have := P.lens.2.1; omega
  have hlt2 : a < rss.length := by have := P.lens.2.2; omega
  have ht : Touch w1 (w1.setCell ⟨ws, a, none⟩ v') (fun b => b = ws) := (Touch.refl w1 (fun b => b = ws)).setCell (a := ⟨ws, a, none⟩) (fun _ => rfl) _
  have hlow := P.low
  have hps := P.hall.kept _ P.kps
  have hws := P.hall.kept _ P.kws
  have hnew : ∀ b, v'.ownBlock = some b → b ≠ ps ∧ b ≠ ws := fun b hb => by
    rcases hn with ⟨i, hi⟩ | hn
    · obtain ⟨rs0, hrs0⟩ : ∃ rs0, rss[i]? = some rs0 := ⟨_, List.getElem?_eq_getElem (by have := (List.getElem?_eq_some_iff.1 hi).1; have := P.lens; omega)⟩
      exact (P.rows i v' rs0 hi hrs0).2.2.1 b hb
    · have := hn b hb
      omega
  have hmem : ∀ v ∈ vs.set a v', v = v' ∨ v ∈ vs := fun v hv => by
    rcases List.mem_or_eq_of_mem_set hv with h | h
    · exact Or.inr h
    · exact Or.inl h
  have B1 : Hall w0 w1 L (Kept ps ws (vs.set a v') X) := by
    refine P.hall.keeping hb (fun b hk => ?_)
    rcases hk with h | h | ⟨v, hv, hvb⟩ | h
    · exact Or.inl (Or.inl h)
    · exact Or.inl (Or.inr (Or.inl h))
    · rcases hmem v hv with rfl | hv
      · rcases hn with ⟨i, hi⟩ | hn
        · exact Or.inl (P.kv hi hvb)
        · exact Or.inr ⟨hn b hvb, (hs.lt b hvb).2⟩
      · exact Or.inl (Or.inr (Or.inr (Or.inl ⟨v, hv, hvb⟩)))
    · exact Or.inl (Or.inr (Or.inr (Or.inr h)))
  refine ⟨B1.touch ht (fun k hk e => by omega) (fun k e => Or.inl (by subst e; exact Or.inr (Or.inl rfl))), ?_, ?_, P.low, ⟨P.lens.1, by rw [List.length_set]; exact P.lens.2.1, by rw [List.length_set]; exact P.lens.2.2⟩, fun i v rs hv hr' => ?_, fun i t m hi n hn => hV n (P.sets i t m hi n hn), fun b o hbo => ?_⟩
  · rw [ht.block ps (P1.hall.kept _ P1.kps) (fun e => P.low.2.2 e)]; exact P1.pst
  · have := blk_set (i := a) v' P1.wst
    rw [this]
    simp
  · rcases get_set_cases hv with ⟨rfl, rfl⟩ | ⟨hne, hv⟩
    · rw [List.getElem?_set_self hlt2] at hr'
      simp only [Option.some.injEq] at hr'
      subst hr'
      exact ⟨ownsRow_touch hs ht (fun b hb e => (hnew b hb).2 e), hr, hnew, hl⟩
    · rw [List.getElem?_set_ne (Ne.symm hne)] at hr'
      obtain ⟨h1, h2, h3, h4⟩ := P1.rows i v rs hv hr'
      exact ⟨ownsRow_touch h1 ht (fun b hb e => (h3 b hb).2 e), h2, h3, fun n hn => hV n (h4 n hn)⟩
  · obtain ⟨h1, h2⟩ := P1.beside b o hbo
    have hk : Kept ps ws vs X b := Or.inr (Or.inr (Or.inr ⟨o, hbo⟩))
    exact ⟨by rw [ht.block b (P1.hall.kept _ hk) (fun e => h2.2 e)]; exact h1, h2⟩

/-- Something beside, in a new block; and nothing beside. -/
theorem Play.alloc (P : Play w0 w ps ws L vs rss [] V) (o : Obj) : Play w0 (w.alloc o) ps ws L vs rss [(w.heap.size, o)] V := by
  have hb : Below w.heap.size w (w.alloc o) := (Below.refl _ _).alloc (Nat.le_refl _) o
  have P1 := P.below hb
  have hps := P.hall.kept _ P.kps
  have hws := P.hall.kept _ P.kws
  refine ⟨P.hall.keeping hb (fun b hk => ?_), P1.pst, P1.wst, P.low, P.lens, P1.rows, P.sets, fun b o' hbo => ?_⟩
  · rcases hk with h | h | h | ⟨o', h⟩
    · exact Or.inl (Or.inl h)
    · exact Or.inl (Or.inr (Or.inl h))
    · exact Or.inl (Or.inr (Or.inr (Or.inl h)))
    · simp only [List.mem_singleton, Prod.mk.injEq] at h
      rw [h.1, World.size_alloc]
      exact Or.inr ⟨Nat.le_refl _, by omega⟩
  · simp only [List.mem_singleton, Prod.mk.injEq] at hbo
    obtain ⟨rfl, rfl⟩ := hbo
    exact ⟨heap_alloc_new w _, by omega, by omega⟩

theorem Play.drop (P : Play w0 w ps ws L vs rss X V) : Play w0 w ps ws L vs rss [] V :=
  ⟨P.hall.keeping (Below.refl _ _) (fun b hk => Or.inl (by
    rcases hk with h | h | h | ⟨o, h⟩
    · exact Or.inl h
    · exact Or.inr (Or.inl h)
    · exact Or.inr (Or.inr (Or.inl h))
    · cases h)), P.pst, P.wst, P.low, P.lens, P.rows, P.sets, by simp⟩

theorem Play.cellS (P : Play w0 w ps ws L vs rss X V) (ha : L[a]? = some (s, l)) : w.cell? ⟨ps, a, none⟩ = some (ptr s) := by
  rw [blk_cell P.pst]
  simp [ha]
theorem Play.cellW (P : Play w0 w ps ws L vs rss X V) (ha : vs[a]? = some v) : w.cell? ⟨ws, a, none⟩ = some v := by
  rw [blk_cell P.wst]
  simp [ha]
theorem Play.frS (P : Play w0 w ps ws L vs rss X V) (i : Nat) : w.frozen? ⟨ps, i, none⟩ = false := by simp [World.frozen?, P.pst]
theorem Play.frW (P : Play w0 w ps ws L vs rss X V) (i : Nat) : w.frozen? ⟨ws, i, none⟩ = false := by simp [World.frozen?, P.wst]
theorem Play.cellX {b : Nat} {cs : Array Value} {t : TypeId} {fr : Nat × Nat} (P : Play w0 w ps ws L vs rss X V) (h : (b, Obj.cells cs t fr) ∈ X) (i : Nat) : w.cell? ⟨b, i, none⟩ = cs[i]? := blk_cell (P.beside _ _ h).1 i

theorem Play.lenS (P : Play w0 w ps ws L vs rss X V) (ha : L[a]? = some (s, l)) : l.length ≤ V.length := nodup_len_le (P.hall.nodup ha) (fun n hn => P.sets a s l ha n hn)
theorem Play.lenW (P : Play w0 w ps ws L vs rss X V) (ha : vs[a]? = some v) (hr : rss[a]? = some rs) : rs.length ≤ V.length := by
  obtain ⟨_, h2, _, h4⟩ := P.rows a v rs ha hr
  exact nodup_len_le (h2.imp (fun h => Nat.ne_of_lt h)) h4

theorem Match.set {l' rs' : List Nat} {s' : Nat} (M : Match L rss) (h : ∀ n, n ∈ rs' ↔ n ∈ l') : Match (L.set a (s', l')) (rss.set a rs') := fun i t m rs hi hr => by
  rcases get_set_cases hi with ⟨rfl, e⟩ | ⟨hne, e⟩
  · rcases get_set_cases hr with ⟨_, e2⟩ | ⟨hne, _⟩
    · simp only [Prod.mk.injEq] at e
      obtain ⟨-, rfl⟩ := e
      subst e2
      exact h
    · exact absurd rfl hne
  · rcases get_set_cases hr with ⟨rfl, _⟩ | ⟨_, e2⟩
    · exact absurd rfl hne
    · exact M i t m rs e e2
end
end Go.Proofs.YtdpbbgfceagofaaDoor
