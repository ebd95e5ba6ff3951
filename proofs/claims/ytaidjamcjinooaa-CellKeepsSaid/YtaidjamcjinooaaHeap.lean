/- A run's memory as it lies: a struct of objects, each a row of values. -/
import Derived.Test.YtaidjamcjinooaaTab
import Derived.ProofKit
import Derived.Outline
import Derived.WalkSpells
import Derived.Deep.QuietTactic
import Derived.BigQuiet
namespace Go.Proofs.Ytaidjamcjinooaa
open Go.RowKit

abbrev V3 := Int × Int × Int
def vcells (p : V3) : List Value := [.int .u8 p.1, .int .i64 p.2.1, .int .i64 p.2.2]
structure Ob where
  blk : Nat
  base : Int
  vals : List V3
def oflat (o : Ob) : List Value := [.slice (some ⟨o.blk, 0, none⟩) o.vals.length o.vals.length, .int .i64 o.base]
def many (os : List Ob) : Nat := (os.map fun o => o.vals.length).sum

structure Hp (A B : Nat) (w : World) (hb : Nat) (v : Value) (os : List Ob) (room : Int) : Prop where
  blk : w.heap[hb]? = some (.cells #[v, .int .i64 (many os), .int .i64 room] 43 (0, 0))
  row : w.ownsRow B 46 2 v os.length (os.flatMap oflat)
  obs : ∀ o ∈ os, ∃ cs, w.heap[o.blk]? = some (.cells cs 24 (0, 0)) ∧ cs.toList = o.vals.flatMap vcells
  low : A ≤ hb
  hbB : hb < B
  top : B ≤ w.heap.size
  obl : ∀ o ∈ os, B ≤ o.blk
  dist : (os.map Ob.blk).Nodup
  off : ∀ o ∈ os, v.ownBlock ≠ some o.blk

def HOwn (hb : Nat) (v : Value) (os : List Ob) (k : Nat) : Prop := k = hb ∨ v.ownBlock = some k ∨ ∃ o ∈ os, o.blk = k

section
variable {A B : Nat} {w : World} {hb : Nat} {v : Value} {os : List Ob} {room : Int}

theorem Hp.lt (h : Hp A B w hb v os room) : ∀ k, HOwn hb v os k → A ≤ k ∧ k < w.heap.size := by
  have h1 := h.low
  have h2 := h.hbB
  have h3 := h.top
  rintro k (rfl | e | ⟨o, ho, rfl⟩)
  · omega
  · have := h.row.lt k e; omega
  · obtain ⟨cs, hc, _⟩ := h.obs o ho
    have := (Array.getElem?_eq_some_iff.1 hc).1
    have := h.obl o ho
    omega

theorem Hp.kept {w' : World} {Q : Nat → Prop} (h : Hp A B w hb v os room) (ht : Touch w w' Q) (hd : ∀ k, HOwn hb v os k → ¬ Q k) : Hp A B w' hb v os room := by
  have hk : ∀ k, HOwn hb v os k → w'.heap[k]? = w.heap[k]? := fun k hk => ht.block k (h.lt k hk).2 (hd k hk)
  refine ⟨(hk hb (Or.inl rfl)).trans h.blk, ownsRow_touch h.row ht (fun b hb => hd b (Or.inr (Or.inl hb))), fun o ho => ?_, h.low, h.hbB, Nat.le_trans h.top ht.size, h.obl, h.dist, h.off⟩
  obtain ⟨cs, h1, h2⟩ := h.obs o ho
  exact ⟨cs, (hk o.blk (Or.inr (Or.inr ⟨o, ho, rfl⟩))).trans h1, h2⟩

theorem Hp.more {w' : World} (h : Hp A B w hb v os room) (hb' : Below w.heap.size w w') : Hp A B w' hb v os room := h.kept (Touch.of_below hb' (fun _ => False)) (fun _ _ h => h)

theorem Hp.c0 (h : Hp A B w hb v os room) : w.cell? ⟨hb, 0, none⟩ = some v := blk_cell h.blk 0
theorem Hp.c1 (h : Hp A B w hb v os room) : w.cell? ⟨hb, 1, none⟩ = some (.int .i64 (many os)) := blk_cell h.blk 1
theorem Hp.c2 (h : Hp A B w hb v os room) : w.cell? ⟨hb, 2, none⟩ = some (.int .i64 room) := blk_cell h.blk 2
theorem Hp.f (h : Hp A B w hb v os room) (i : Nat) : w.frozen? ⟨hb, i, none⟩ = false := by simp [World.frozen?, h.blk]
theorem Hp.form (h : Hp A B w hb v os room) : ∃ a cap, v = .slice a os.length cap := by
  rcases h.row.2 with ⟨rfl, h0⟩ | ⟨g, cap, cur, rfl, _⟩
  · exact ⟨none, 0, by rw [h0]⟩
  · exact ⟨_, cap, rfl⟩

theorem flat_at {α : Type} (f : α → List Value) (n : Nat) (hf : ∀ x, (f x).length = n) : ∀ (l : List α) (i j : Nat) (x : α), l[i]? = some x → j < n → (l.flatMap f)[i * n + j]? = (f x)[j]?
  | [], i, j, x, h, _ => by simp at h
  | y :: r, 0, j, x, h, hj => by
    simp at h
    subst h
    rw [List.flatMap_cons, Nat.zero_mul, Nat.zero_add, List.getElem?_append_left (by rw [hf]; exact hj)]
  | y :: r, i + 1, j, x, h, hj => by
    have e : (i + 1) * n + j - n = i * n + j := by rw [Nat.add_mul, Nat.one_mul]; omega
    rw [List.flatMap_cons, List.getElem?_append_right (by rw [hf, Nat.add_mul]; omega), hf, e]
    exact flat_at f n hf r i j x (by simpa using h) hj

/-- An object's two cells. -/
theorem Hp.obj (h : Hp A B w hb v os room) {i : Nat} {o : Ob} (hi : os[i]? = some o) : ∃ g cap, v = .slice (some ⟨g, 0, none⟩) os.length cap ∧ g < w.heap.size ∧
    w.cell? ⟨g, i * 2, none⟩ = some (.slice (some ⟨o.blk, 0, none⟩) o.vals.length o.vals.length) ∧ w.cell? ⟨g, i * 2 + 1, none⟩ = some (.int .i64 o.base) := by
  obtain ⟨g, cap, e⟩ := row_form h.row (by have := (List.getElem?_eq_some_iff.1 hi).1; omega)
  have hg : v.ownBlock = some g := by rw [e]; rfl
  refine ⟨g, cap, e, (h.row.lt g hg).2, ?_, ?_⟩
  · have := h.row.cells (g := g) hg (i * 2 + 0) _ ((flat_at oflat 2 (fun _ => rfl) os i 0 o hi (by omega)).trans rfl)
    rwa [add0] at this
  · have := h.row.cells (g := g) hg (i * 2 + 1) _ ((flat_at oflat 2 (fun _ => rfl) os i 1 o hi (by omega)).trans rfl)
    rwa [add0] at this

/-- A value's three cells. -/
theorem Hp.val (h : Hp A B w hb v os room) {i n : Nat} {o : Ob} {p : V3} (hi : os[i]? = some o) (hn : o.vals[n]? = some p) :
    w.cell? ⟨o.blk, n * 3, none⟩ = some (.int .u8 p.1) ∧ w.cell? ⟨o.blk, n * 3 + 1, none⟩ = some (.int .i64 p.2.1) ∧ w.cell? ⟨o.blk, n * 3 + 2, none⟩ = some (.int .i64 p.2.2) := by
  obtain ⟨cs, h1, h2⟩ := h.obs o (List.mem_of_getElem? hi)
  have hc : ∀ j, j < 3 → w.cell? ⟨o.blk, n * 3 + j, none⟩ = (vcells p)[j]? := fun j hj => by
    rw [blk_cell h1, ← Array.getElem?_toList, h2]
    exact flat_at vcells 3 (fun _ => rfl) o.vals n j p hn hj
  exact ⟨hc 0 (by omega), hc 1 (by omega), hc 2 (by omega)⟩
theorem Hp.valF (h : Hp A B w hb v os room) {o : Ob} (ho : o ∈ os) (j : Nat) : w.frozen? ⟨o.blk, j, none⟩ = false := by
  obtain ⟨cs, h1, h2⟩ := h.obs o ho
  simp [World.frozen?, h1]
end

theorem objs_any {A B : Nat} {w : World} {hb : Nat} {v : Value} {os : List Ob} {room : Int} (h : Hp A B w hb v os room) :
    Calls Try.prog 6 #[.pointer (some ⟨hb, 0, none⟩)] w fun e w' => e = .returned (.int .i64 os.length) ∧ w = w' := by
  obtain ⟨a, cap, rfl⟩ := h.form
  have c0 := h.c0
  clear h
  go_enter Try.func6, Try.ntmps6
  go_wp2
  go_ret
  exact ⟨rfl, rfl⟩
theorem cells_any {A B : Nat} {w : World} {hb : Nat} {v : Value} {os : List Ob} {room : Int} (h : Hp A B w hb v os room) :
    Calls Try.prog 10 #[.pointer (some ⟨hb, 0, none⟩)] w fun e w' => e = .returned (.int .i64 (many os)) ∧ w = w' := by
  have c1 := h.c1
  clear h
  go_enter Try.func10, Try.ntmps10
  go_wp2
  go_ret
  exact ⟨rfl, rfl⟩

theorem has_yes (a : Option Addr) (n c : Nat) (i : Int) (w : World) (h0 : 0 ≤ i) (h1 : i < n) :
    Calls Try.prog 17 #[.slice a n c, .int .i64 i] w fun e w' => e = .returned (.bool true) ∧ w' = w := by
  go_enter Try.func17, Try.ntmps17
  go_wp2
  go_ret
  exact ⟨by simp, rfl⟩
theorem has_no (a : Option Addr) (n c : Nat) (i : Int) (w : World) (h : i < 0 ∨ (n : Int) ≤ i) :
    Calls Try.prog 17 #[.slice a n c, .int .i64 i] w fun e w' => e = .returned (.bool false) ∧ w' = w := by
  rcases h with h | h
  · have hd : decide (0 ≤ i) = false := by simp; omega
    go_enter Try.func17, Try.ntmps17
    go_wp2
    go_ret
    exact ⟨rfl, rfl⟩
  · have hd : decide (0 ≤ i) = true := by simp; omega
    go_enter Try.func17, Try.ntmps17
    go_wp2
    go_ret
    exact ⟨by simp; omega, rfl⟩
end Go.Proofs.Ytaidjamcjinooaa
