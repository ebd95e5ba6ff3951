/- What a table of numbered keys is in memory: its struct, its map, its row of keys; and what a call may turn. -/
import Derived.Test.YtjblhiekccjdcaaRTabD
import Derived.Maps.OwnSet
import Derived.Maps.AppendAt
import Derived.Laws.AppendOwnNone
import Derived.WalkKit
import Derived.Lib.Hide
import Derived.Defers
import Derived.Deep.Draws
import Derived.Recover
namespace Go.Proofs.YtjblhiekccjdcaaR
open Go.RowKit Go.Maps

theorem or_map {a b c d : Prop} (h : a ∨ b) (f : a → c) (g : b → d) : c ∨ d := h.elim (fun x => Or.inl (f x)) (fun x => Or.inr (g x))

/-- All blocks that were there, but those of S, are as they were. -/
structure Touch (w w' : World) (S : Nat → Prop) : Prop where
  os : w'.os = w.os
  tape : w'.tape = w.tape
  output : w'.output = w.output
  size : w.heap.size ≤ w'.heap.size
  block : ∀ k, k < w.heap.size → ¬ S k → w'.heap[k]? = w.heap[k]?

theorem Touch.refl (w : World) (S : Nat → Prop) : Touch w w S := ⟨rfl, rfl, rfl, Nat.le_refl _, fun _ _ _ => rfl⟩
theorem Touch.mono {w w' : World} {S S' : Nat → Prop} (h : Touch w w' S) (hs : ∀ k, k < w.heap.size → S k → S' k) : Touch w w' S' := ⟨h.os, h.tape, h.output, h.size, fun k hk hn => h.block k hk (fun s => hn (hs k hk s))⟩
theorem Touch.trans {a b c : World} {S : Nat → Prop} (h : Touch a b S) (g : Touch b c S) : Touch a c S :=
  ⟨g.os.trans h.os, g.tape.trans h.tape, g.output.trans h.output, Nat.le_trans h.size g.size, fun k hk hn => (g.block k (Nat.lt_of_lt_of_le hk h.size) hn).trans (h.block k hk hn)⟩
theorem Touch.below {w w' : World} {S : Nat → Prop} (h : Touch w w' S) {B : Nat} (hB : B ≤ w.heap.size) (hs : ∀ k, k < B → ¬ S k) : Below B w w' := ⟨h.os, h.tape, h.output, h.size, fun k hk => h.block k (Nat.lt_of_lt_of_le hk hB) (hs k hk)⟩
theorem Touch.of_below {w w' : World} (h : Below w.heap.size w w') (S : Nat → Prop) : Touch w w' S := ⟨h.os, h.tape, h.output, h.size, fun k hk _ => h.block k hk⟩
theorem Touch.of_grown {w w' : World} {row : Option Nat} (h : w.grownBy w' row) {S : Nat → Prop} (hs : ∀ k, row = some k → S k) : Touch w w' S :=
  ⟨h.os, h.tape, h.output, h.size, fun k hk hn => h.block k hk (fun e => hn (hs k e.symm))⟩
theorem Touch.alloc {w w' : World} {S : Nat → Prop} (h : Touch w w' S) (o : Obj) : Touch w (w'.alloc o) S :=
  ⟨h.os, h.tape, h.output, Nat.le_trans h.size (by simp), fun k hk hn => (Below.heap_alloc w' o k (Nat.lt_of_lt_of_le hk h.size)).trans (h.block k hk hn)⟩
theorem Touch.setCell {w w' : World} {S : Nat → Prop} (h : Touch w w' S) {a : Addr} (ha : a.block < w.heap.size → S a.block) (u : Value) : Touch w (w'.setCell a u) S :=
  ⟨h.os, h.tape, h.output, by simpa using h.size, fun k hk hn => (Below.heap_setCell w' a u k (fun e => hn (by subst e; exact ha hk))).trans (h.block k hk hn)⟩
theorem Touch.drew {w w' : World} {S : Nat → Prop} (h : Touch w w' S) : Touch w w'.drew S := ⟨h.os, h.tape, h.output, h.size, h.block⟩

theorem blk_set {w : World} {b i : Nat} {cs : Array Value} {S : TypeId} {fr : Nat × Nat} (v : Value) (h : w.heap[b]? = some (.cells cs S fr)) :
    (w.setCell ⟨b, i, none⟩ v).heap[b]? = some (.cells (cs.setIfInBounds i v) S fr) := by
  simp [World.setCell, Array.getElem?_modify, h]
theorem blk_cell {w : World} {b : Nat} {cs : Array Value} {S : TypeId} {fr : Nat × Nat} (h : w.heap[b]? = some (.cells cs S fr)) (i : Nat) : w.cell? ⟨b, i, none⟩ = cs[i]? := by
  simp [World.cell?, h]

theorem row_form {w : World} {base : Nat} {e : TypeId} {size : Nat} {v : Value} {n : Nat} {xs : List Value} (h : w.ownsRow base e size v n xs) (hn : 0 < n) : ∃ g cap, v = .slice (some ⟨g, 0, none⟩) n cap := by
  rcases h.2 with ⟨_, h0⟩ | ⟨g, cap, cur, e1, _⟩
  · omega
  · exact ⟨g, cap, e1⟩

instance decBytes : DecidableEq ByteArray := fun a b => decidable_of_iff (a.data = b.data) ⟨fun h => ByteArray.ext h, fun h => h ▸ rfl⟩

theorem add0 (g i : Nat) : (⟨g, 0, none⟩ : Addr).add i = ⟨g, i, none⟩ := by
  unfold Addr.add
  split <;> simp_all

/-- A slice that reads as the cells xs (one cell an element). -/
def Rd (w : World) (s : Value) (xs : List Value) : Prop :=
  (xs = [] ∧ (s = .slice none 0 0 ∨ ∃ a c, s = .slice (some a) 0 c)) ∨ ∃ b off cap, s = .slice (some ⟨b, off, none⟩) xs.length cap ∧ b < w.heap.size ∧ ∀ i u, xs[i]? = some u → w.cell? ⟨b, off + i, none⟩ = some u

theorem Rd.form {w : World} {s : Value} {xs : List Value} (h : Rd w s xs) : ∃ a c, s = .slice a xs.length c := by
  rcases h with ⟨rfl, rfl | ⟨a, c, rfl⟩⟩ | ⟨b, off, cap, rfl, _⟩
  · exact ⟨none, 0, rfl⟩
  · exact ⟨some a, c, rfl⟩
  · exact ⟨_, cap, rfl⟩

theorem Rd.below {w w' : World} {s : Value} {xs : List Value} (h : Rd w s xs) (hb : Below w.heap.size w w') : Rd w' s xs := by
  refine or_map h id ?_
  rintro ⟨b, off, cap, e, hlt, hc⟩
  exact ⟨b, off, cap, e, Nat.lt_of_lt_of_le hlt hb.size, fun i u hu => (hb.cell (p := ⟨b, off + i, none⟩) hlt).trans (hc i u hu)⟩

/-- .. and an element of it is where it is. -/
theorem Rd.at {w : World} {s : Value} {xs : List Value} (h : Rd w s xs) {i : Nat} {u : Value} (hi : xs[i]? = some u) : ∃ b off cap, s = .slice (some ⟨b, off, none⟩) xs.length cap ∧ b < w.heap.size ∧ w.cell? ⟨b, off + i, none⟩ = some u := by
  rcases h with ⟨rfl, _⟩ | ⟨b, off, cap, e, hlt, hc⟩
  · simp at hi
  · exact ⟨b, off, cap, e, hlt, hc i u hi⟩

theorem ownsRow_touch {w w' : World} {base : Nat} {e : TypeId} {size : Nat} {v : Value} {n : Nat} {xs : List Value} {S : Nat → Prop} (h : w.ownsRow base e size v n xs) (ht : Touch w w' S) (hd : ∀ b, v.ownBlock = some b → ¬ S b) : w'.ownsRow base e size v n xs := by
  obtain ⟨h1, h2⟩ := h
  refine ⟨h1, or_map h2 id ?_⟩
  rintro ⟨g, cap, cur, rfl, h3, h4, h5⟩
  exact ⟨g, cap, cur, rfl, h3, (ht.block g (Array.getElem?_eq_some_iff.1 h4).1 (hd g rfl)).trans h4, h5⟩

/-- append, of a slice that reads as news (nil included), onto a slice of the call's own: 'wpList_append_own_at' and its twin at nil in one. -/
theorem wpList_append_rd {P : Program} {ops : Array Oper} {rest : List Oper} {o : Oper} {a : Act} {Q : Exit → Act → World → Prop} (w : World) (hgd : o.guard = none) (s x : Operand) (t : TypeId)
    (ho : o.op = .call { callee := .builtin .append, args := #[s, x], argTypes := #[t, t] })
    (base : Nat) (e : TypeId) (i : TypeInfo) (z : Value) (bytes : Nat) (ht : P.underlying t = some (.slice e)) (hi : P.info? e = some i) (hz : i.zero = some z)
    (hsize : i.size = 1) (hby : i.bytes = bytes) (hzs : z.cells.size = 1)
    (v : Value) (n : Nat) (xs : List Value) (hs : a.eval s = v) (hown : w.ownsRow base e 1 v n xs)
    (sv : Value) (news : List Value) (hx : a.eval x = sv) (hrd : Rd w sv news) (h1 : ∀ u ∈ news, u.oneCell' = true)
    (h63 : n + news.length ≤ maxLen) (hbytes : (n + news.length) * bytes ≤ 140737488355328) (hbase : base ≤ w.heap.size)
    (h : ∀ v' w', w'.ownsRow base e 1 v' (n + news.length) (xs ++ news) → w.grownBy w' v.ownBlock → (v'.ownBlock = v.ownBlock ∨ v'.ownBlock = some w.heap.size) → wpList P ops Q rest (a.put o.dst v') w') :
    wpList P ops Q (o :: rest) a w := by
  rcases hrd with ⟨rfl, rfl | ⟨ad, c, rfl⟩⟩ | ⟨b, off, cap, rfl, hlt, hc⟩
  · exact wpList_append_own_none (w := w) hgd s x t ho base e i 1 ht hi v n xs hs hown hx (h v w (by simpa using hown) (World.grownBy.refl w _) (Or.inl rfl))
  · exact wpList_append_own_at w hgd s x t ho base e i z 1 bytes ht hi hz hsize hby hzs (by decide) v n xs hs hown ad 0 c [] hx rfl (by simp) h1 h63 hbytes hbase (fun v' w' h2 h3 _ h4 => h v' w' h2 h3 h4)
  · exact wpList_append_own_at w hgd s x t ho base e i z 1 bytes ht hi hz hsize hby hzs (by decide) v n xs hs hown ⟨b, off, none⟩ news.length cap news hx (by simp) (fun j u hj => by
      have e2 : (⟨b, off, none⟩ : Addr).add j = ⟨b, off + j, none⟩ := by
        unfold Addr.add
        split <;> simp_all
      rw [e2]; exact hc j u hj) h1 h63 hbytes hbase (fun v' w' h2 h3 _ h4 => h v' w' h2 h3 h4)

/-- THE TABLE: a struct in block sb (a map in block bm, a slice v of the keys), in a world w; K the key's type, E its elements' integers, S the struct; a key reads as lit, lies as flat; the slice's row lies at B or behind. -/
structure Tab {κ : Type} (P : Program) (K E S : TypeId) (size : Nat) (flat : κ → List Value) (lit : κ → Lit) (A B : Nat) (w : World) (sb bm : Nat) (v : Value) (ks : List κ) : Prop where
  blk : w.heap[sb]? = some (.cells #[.map (some bm), v] S (0, 0))
  map : w.ownsMap P K (plainElem (H := Unit) P E) bm ks.length (tabD (ks.map lit))
  row : w.ownsRow B K size v ks.length (ks.flatMap flat)
  sbA : A ≤ sb
  bmA : A ≤ bm
  sbB : sb < B
  bmB : bm < B
  ne : sb ≠ bm
  top : B ≤ w.heap.size
  nodup : (ks.map lit).Nodup

/-- The blocks that a table has. -/
def Own (sb bm : Nat) (v : Value) (k : Nat) : Prop := k = sb ∨ k = bm ∨ v.ownBlock = some k

section
variable {κ : Type} {P : Program} {K E S : TypeId} {size : Nat} {flat : κ → List Value} {lit : κ → Lit} {A B : Nat} {w : World} {sb bm : Nat} {v : Value} {ks : List κ}

theorem Tab.c0 (T : Tab P K E S size flat lit A B w sb bm v ks) : w.cell? ⟨sb, 0, none⟩ = some (.map (some bm)) := by simp [World.cell?, T.blk]
theorem Tab.c1 (T : Tab P K E S size flat lit A B w sb bm v ks) : w.cell? ⟨sb, 1, none⟩ = some v := by simp [World.cell?, T.blk]
theorem Tab.f0 (T : Tab P K E S size flat lit A B w sb bm v ks) (i : Nat) : w.frozen? ⟨sb, i, none⟩ = false := by simp [World.frozen?, T.blk]
theorem Tab.lt (T : Tab P K E S size flat lit A B w sb bm v ks) : ∀ k, Own sb bm v k → k < w.heap.size := by
  rintro k (rfl | rfl | h)
  · exact (Array.getElem?_eq_some_iff.1 T.blk).1
  · exact T.map.lt
  · exact (T.row.lt k h).2
theorem Tab.low (T : Tab P K E S size flat lit A B w sb bm v ks) : ∀ k, Own sb bm v k → A ≤ k := by
  rintro k (rfl | rfl | h)
  · exact T.sbA
  · exact T.bmA
  · exact Nat.le_trans T.sbA (Nat.le_trans (Nat.le_of_lt T.sbB) (T.row.lt k h).1)

/-- A table stays what it is where none of its blocks turns. -/
theorem Tab.kept {w' : World} {Q : Nat → Prop} (T : Tab P K E S size flat lit A B w sb bm v ks) (h : Touch w w' Q) (hd : ∀ k, Own sb bm v k → ¬ Q k) : Tab P K E S size flat lit A B w' sb bm v ks := by
  have hb : ∀ k, Own sb bm v k → w'.heap[k]? = w.heap[k]? := fun k hk => h.block k (T.lt k hk) (hd k hk)
  refine ⟨(hb sb (Or.inl rfl)).trans T.blk, ?_, ?_, T.sbA, T.bmA, T.sbB, T.bmB, T.ne, Nat.le_trans T.top h.size, T.nodup⟩
  · obtain ⟨es, clock, h1, h2⟩ := T.map
    exact ⟨es, clock, (hb bm (Or.inr (Or.inl rfl))).trans h1, h2⟩
  · obtain ⟨h1, h2⟩ := T.row
    refine ⟨h1, or_map h2 id ?_⟩
    rintro ⟨g, cap, cur, rfl, h3, h4, h5⟩
    exact ⟨g, cap, cur, rfl, h3, (hb g (Or.inr (Or.inr rfl))).trans h4, h5⟩

theorem Tab.form (T : Tab P K E S size flat lit A B w sb bm v ks) : ∃ a cap, v = .slice a ks.length cap := by
  rcases T.row.2 with ⟨rfl, h⟩ | ⟨g, cap, cur, rfl, _⟩
  · exact ⟨none, 0, by rw [h]⟩
  · exact ⟨_, cap, rfl⟩

/-- A world in which a map has turned and one cell of a struct was stored, put together to the table with one key more. -/
theorem Tab.more {w' : World} {v' : Value} {k : κ} (T : Tab P K E S size flat lit A B w sb bm v ks) (hnew : lit k ∉ ks.map lit)
    (hblk : w'.heap[sb]? = some (.cells #[.map (some bm), v'] S (0, 0)))
    (hmap : w'.ownsMap P K (plainElem (H := Unit) P E) bm (ks.length + 1) ((tabD (ks.map lit)).put (lit k) (num ks.length)))
    (hrow : w'.ownsRow B K size v' (ks.length + 1) (ks.flatMap flat ++ flat k)) (hs : w.heap.size ≤ w'.heap.size) : Tab P K E S size flat lit A B w' sb bm v' (ks ++ [k]) := by
  refine ⟨hblk, ?_, ?_, T.sbA, T.bmA, T.sbB, T.bmB, T.ne, Nat.le_trans T.top hs, ?_⟩
  · rw [List.map_append, List.map_cons, List.map_nil, tabD_snoc, List.length_append, List.length_map]
    exact hmap
  · rw [List.flatMap_append, List.length_append, List.flatMap_cons, List.flatMap_nil, List.append_nil]
    exact hrow
  · rw [List.map_append, List.map_cons, List.map_nil, List.nodup_append]
    refine ⟨T.nodup, by simp, fun a ha b hb => ?_⟩
    simp at hb
    subst hb
    exact fun e => hnew (e ▸ ha)

theorem Tab.mono {A' : Nat} (T : Tab P K E S size flat lit A B w sb bm v ks) (h : A' ≤ A) : Tab P K E S size flat lit A' B w sb bm v ks :=
  ⟨T.blk, T.map, T.row, Nat.le_trans h T.sbA, Nat.le_trans h T.bmA, T.sbB, T.bmB, T.ne, T.top, T.nodup⟩

theorem Tab.drewN (T : Tab P K E S size flat lit A B w sb bm v ks) (n : Nat) : Tab P K E S size flat lit A B (w.drewN n) sb bm v ks :=
  T.kept (Q := fun _ => False) ⟨rfl, rfl, rfl, Nat.le_refl _, fun _ _ _ => rfl⟩ (fun _ _ h => h)

theorem Tab.fresh (P : Program) (K E S : TypeId) (size : Nat) (flat : κ → List Value) (lit : κ → Lit) (w : World) :
    Tab P K E S size flat lit w.heap.size (w.heap.size + 2) ((w.alloc (.map #[] 0)).alloc (.cells #[.map (some w.heap.size), .slice none 0 0] S)) (w.heap.size + 1) w.heap.size (.slice none 0 0) [] ∧
      Below w.heap.size w ((w.alloc (.map #[] 0)).alloc (.cells #[.map (some w.heap.size), .slice none 0 0] S)) := by
  refine ⟨⟨by have := heap_alloc_new (w.alloc (.map #[] 0)) (.cells #[.map (some w.heap.size), .slice none 0 0] S); rwa [World.size_alloc] at this, ?_, World.ownsRow_nil _ _ _ _, by omega, by omega, by omega, by omega, by omega, by simp, List.nodup_nil⟩, ((Below.refl _ _).alloc (Nat.le_refl _) _).alloc (by simp) _⟩
  rw [List.map_nil, tabD_nil]
  exact (World.ownsMap_made w P K _).alloc _

/-- Made by this call: a table in new blocks, and all old blocks as they were. -/
def Made (P : Program) (K E S : TypeId) (size : Nat) (flat : κ → List Value) (lit : κ → Lit) (A B : Nat) (w w' : World) (sb bm : Nat) (ks : List κ) : Prop :=
  ∃ v, Tab P K E S size flat lit A B w' sb bm v ks ∧ Below A w w'

end

section
variable {κ : Type} [DecidableEq κ]
theorem Touch.drewN (w : World) (n : Nat) (S : Nat → Prop) : Touch w (w.drewN n) S := ⟨rfl, rfl, rfl, Nat.le_refl _, fun _ _ _ => rfl⟩
theorem Rd.touch {w w' : World} {s : Value} {xs : List Value} {S : Nat → Prop} (h : Rd w s xs) (ht : Touch w w' S) (hd : ∀ b, s.ownBlock = some b → ¬ S b) : Rd w' s xs := by
  refine or_map h id ?_
  rintro ⟨b, off, cap, rfl, hlt, hc⟩
  exact ⟨b, off, cap, rfl, Nat.lt_of_lt_of_le hlt ht.size, fun i u hu => (World.cell?_of_block (w := w) (ht.block b hlt (hd b rfl))).trans (hc i u hu)⟩
theorem below_drawn {B : Nat} {a w : World} (h : Below B a w) (n : Nat) : Below B a (w.drewN n) := h.trans ⟨rfl, rfl, rfl, Nat.le_refl _, fun _ _ => rfl⟩

/-- The keys that a list has, each where it came first. -/
def keysOf (ss : List κ) : List κ := ss.foldl (fun acc k => if k ∈ acc then acc else acc ++ [k]) []
theorem keysOf_snoc (ss : List κ) (k : κ) : keysOf (ss ++ [k]) = if k ∈ keysOf ss then keysOf ss else keysOf ss ++ [k] := by
  unfold keysOf
  rw [List.foldl_append, List.foldl_cons, List.foldl_nil]
theorem keysOf_len (ss : List κ) : (keysOf ss).length ≤ ss.length := by
  refine snoc_ind (Q := fun ss => (keysOf ss).length ≤ ss.length) (Nat.le_refl _) (fun l x ih => ?_) ss
  rw [keysOf_snoc]
  split <;> simp <;> omega
theorem mem_keysOf (ss : List κ) (k : κ) : k ∈ keysOf ss ↔ k ∈ ss := by
  refine snoc_ind (Q := fun ss => k ∈ keysOf ss ↔ k ∈ ss) (by simp [keysOf]) (fun l x ih => ?_) ss
  rw [keysOf_snoc]
  by_cases h : x ∈ keysOf l
  · rw [if_pos h, List.mem_append, List.mem_singleton, ih]
    constructor
    · exact Or.inl
    · rintro (h1 | rfl)
      · exact h1
      · exact ih.1 h
  · rw [if_neg h, List.mem_append, List.mem_append, ih]
theorem nodup_keysOf (ss : List κ) : (keysOf ss).Nodup := by
  refine snoc_ind (Q := fun ss => (keysOf ss).Nodup) (by simp [keysOf]) (fun l x ih => ?_) ss
  rw [keysOf_snoc]
  by_cases h : x ∈ keysOf l
  · rw [if_pos h]; exact ih
  · rw [if_neg h, List.nodup_append]
    refine ⟨ih, by simp, fun a ha b hb e => ?_⟩
    simp at hb
    subst hb; subst e
    exact h ha
theorem keysOf_nodup (ss : List κ) (h : ss.Nodup) : keysOf ss = ss := by
  refine snoc_ind (Q := fun ss => ss.Nodup → keysOf ss = ss) (fun _ => rfl) (fun l x ih h => ?_) ss h
  rw [List.nodup_append] at h
  rw [keysOf_snoc, ih h.1, if_neg]
  exact fun hx => h.2.2 x hx x (by simp) rfl

/-- A list with a key that it may lack. -/
def plus (ks : List κ) (k : κ) : List κ := if k ∈ ks then ks else ks ++ [k]
theorem plus_in {ks : List κ} {k : κ} (h : k ∈ ks) : plus ks k = ks := if_pos h
theorem plus_out {ks : List κ} {k : κ} (h : k ∉ ks) : plus ks k = ks ++ [k] := if_neg h
theorem plus_len (ks : List κ) (k : κ) : (plus ks k).length ≤ ks.length + 1 := by
  unfold plus
  split <;> simp

/-- A key's place. -/
def place (ks : List κ) (k : κ) : Nat := ks.findIdx (fun x => decide (x = k))
theorem place_lt {ks : List κ} {k : κ} (h : k ∈ ks) : place ks k < ks.length := List.findIdx_lt_length_of_exists ⟨k, h, by simp⟩
theorem place_get {ks : List κ} {k : κ} (h : k ∈ ks) : ks[place ks k]? = some k := by
  have h1 := place_lt h
  have h2 : decide (ks[place ks k] = k) = true := List.findIdx_getElem (p := fun x => decide (x = k)) (xs := ks) (w := h1)
  rw [List.getElem?_eq_getElem h1]
  exact congrArg some (of_decide_eq_true h2)
theorem place_first {ks : List κ} {k : κ} {j : Nat} (h : ks[j]? = some k) (hf : ∀ t, t < j → ks[t]? ≠ some k) : place ks k = j := by
  have hg := place_get (List.mem_of_getElem? h)
  rcases Nat.lt_trichotomy (place ks k) j with h1 | h1 | h1
  · exact absurd hg (hf _ h1)
  · exact h1
  · have h2 := List.not_of_lt_findIdx (p := fun x => decide (x = k)) (xs := ks) h1
    obtain ⟨hlt, e⟩ := List.getElem?_eq_some_iff.1 h
    simp [e] at h2
theorem place_new {ks : List κ} {k : κ} (h : k ∉ ks) : place (ks ++ [k]) k = ks.length := by
  unfold place
  rw [List.findIdx_append, if_neg]
  · simp
  · have : ks.findIdx (fun x => decide (x = k)) = ks.length := List.findIdx_eq_length.2 (fun x hx => by simp; rintro rfl; exact h hx)
    omega
theorem place_of {ks : List κ} {k : κ} {i : Nat} (hn : ks.Nodup) (h : ks[i]? = some k) : place ks k = i := by
  have hm := List.mem_of_getElem? h
  exact ((List.getElem?_inj (place_lt hm) hn).1 ((place_get hm).trans h.symm))
theorem keysOf_app (a b : List κ) : ∃ t, keysOf (a ++ b) = keysOf a ++ t := by
  refine snoc_ind (Q := fun b => ∃ t, keysOf (a ++ b) = keysOf a ++ t) ⟨[], by simp⟩ (fun l x ih => ?_) b
  obtain ⟨t, ht⟩ := ih
  rw [← List.append_assoc, keysOf_snoc]
  split
  · exact ⟨t, ht⟩
  · exact ⟨t ++ [x], by rw [ht, List.append_assoc]⟩
theorem place_app {a b : List κ} {k : κ} (h : k ∈ a) : place (keysOf a) k = place (keysOf (a ++ b)) k := by
  obtain ⟨t, ht⟩ := keysOf_app a b
  have hk : k ∈ keysOf a := (mem_keysOf a k).2 h
  refine (place_of (nodup_keysOf _) ?_).symm
  rw [ht, List.getElem?_append_left (place_lt hk)]
  exact place_get hk
theorem place_inj {ks : List κ} {x y : κ} (hx : x ∈ ks) (hy : y ∈ ks) (h : place ks x = place ks y) : x = y := by
  have h1 := place_get hx
  rw [h, place_get hy] at h1
  exact (Option.some.inj h1).symm
end

theorem take_snoc {α : Type} {l : List α} {j : Nat} {x : α} (h : l[j]? = some x) : l.take (j + 1) = l.take j ++ [x] := by
  obtain ⟨hlt, e⟩ := List.getElem?_eq_some_iff.1 h
  rw [List.take_succ_eq_append_getElem hlt, e]
end Go.Proofs.YtjblhiekccjdcaaR
