/- A memory under a law's hands. -/
import Derived.Test.YtaidjamcjinooaaKeepsM
namespace Go.Proofs.Ytaidjamcjinooaa
open Go.RowKit

abbrev Act9 := Int × Int × Int × V3 × V3
def flat9 (x : Act9) : List Value := [.int .i64 x.1, .int .i64 x.2.1, .int .i64 x.2.2.1, .int .u8 x.2.2.2.1.1, .int .i64 x.2.2.2.1.2.1, .int .i64 x.2.2.2.1.2.2, .int .u8 x.2.2.2.2.1, .int .i64 x.2.2.2.2.2.1, .int .i64 x.2.2.2.2.2.2]
def RdAct (w : World) (a : Value) (l : List Act9) : Prop :=
  (l = [] ∧ (a = .slice none 0 0 ∨ ∃ d k, a = .slice (some d) 0 k)) ∨ ∃ b off cap, a = .slice (some ⟨b, off, none⟩) l.length cap ∧ b < w.heap.size ∧ ∀ j x, l[j]? = some x → ∀ t u, (flat9 x)[t]? = some u → w.cell? ⟨b, off + j * 9 + t, none⟩ = some u

theorem RdAct.form {w : World} {a : Value} {l : List Act9} (h : RdAct w a l) : ∃ d c, a = .slice d l.length c := by
  rcases h with ⟨rfl, rfl | ⟨d, k, rfl⟩⟩ | ⟨b, off, cap, rfl, _⟩
  · exact ⟨_, _, rfl⟩
  · exact ⟨_, _, rfl⟩
  · exact ⟨_, _, rfl⟩

theorem RdAct.below {w w' : World} {B : Nat} {a : Value} {l : List Act9} (h : RdAct w a l) (hB : w.heap.size ≤ B) (hb : Below B w w') : RdAct w' a l := by
  rcases h with h | ⟨b, off, cap, rfl, hlt, hc⟩
  · exact Or.inl h
  · exact Or.inr ⟨b, off, cap, rfl, by have := hb.size; omega, fun j x hj t u hu => (hb.cell (p := ⟨b, off + j * 9 + t, none⟩) (Nat.lt_of_lt_of_le hlt hB)).trans (hc j x hj t u hu)⟩

theorem RdAct.at {w : World} {a : Value} {l : List Act9} (h : RdAct w a l) {j : Nat} {x : Act9} (hj : l[j]? = some x) : ∃ b off cap, a = .slice (some ⟨b, off, none⟩) l.length cap ∧ b < w.heap.size ∧
    w.cell? ⟨b, off + j * 9, none⟩ = some (.int .i64 x.1) ∧ w.cell? ⟨b, off + j * 9 + 1, none⟩ = some (.int .i64 x.2.1) ∧ w.cell? ⟨b, off + j * 9 + 2, none⟩ = some (.int .i64 x.2.2.1) ∧
    w.cell? ⟨b, off + j * 9 + 3, none⟩ = some (.int .u8 x.2.2.2.1.1) ∧ w.cell? ⟨b, off + j * 9 + 4, none⟩ = some (.int .i64 x.2.2.2.1.2.1) ∧ w.cell? ⟨b, off + j * 9 + 5, none⟩ = some (.int .i64 x.2.2.2.1.2.2) ∧
    w.cell? ⟨b, off + j * 9 + 6, none⟩ = some (.int .u8 x.2.2.2.2.1) ∧ w.cell? ⟨b, off + j * 9 + 7, none⟩ = some (.int .i64 x.2.2.2.2.2.1) ∧ w.cell? ⟨b, off + j * 9 + 8, none⟩ = some (.int .i64 x.2.2.2.2.2.2) := by
  rcases h with ⟨rfl, _⟩ | ⟨b, off, cap, rfl, hlt, hc⟩
  · simp at hj
  · exact ⟨b, off, cap, rfl, hlt, hc j x hj 0 _ rfl, hc j x hj 1 _ rfl, hc j x hj 2 _ rfl, hc j x hj 3 _ rfl, hc j x hj 4 _ rfl, hc j x hj 5 _ rfl, hc j x hj 6 _ rfl, hc j x hj 7 _ rfl, hc j x hj 8 _ rfl⟩

theorem put_shape (os : List Ob) (p u : V3) : (put os p u).map (fun o => o.vals.length) = os.map (fun o => o.vals.length) := by
  unfold put
  split
  · rename_i o _ ho
    exact map_set_same (fun o => o.vals.length) o { o with vals := o.vals.set p.2.2.toNat u } (by simp) os _ ho
  · rfl

structure Sized (os : List Ob) : Prop where
  len : os.length ≤ 12
  sum : (many os : Int) ≤ 16384
  each : ∀ o ∈ os, 1 ≤ o.vals.length ∧ o.vals.length ≤ 64

theorem Sized.put {os : List Ob} (h : Sized os) (p u : V3) : Sized (put os p u) := by
  have hs := put_shape os p u
  refine ⟨?_, ?_, ?_⟩
  · have := congrArg List.length hs
    simp only [List.length_map] at this
    rw [this]
    exact h.len
  · unfold many
    rw [hs]
    exact h.sum
  · intro o ho
    have hm : o.vals.length ∈ (Go.Proofs.Ytaidjamcjinooaa.put os p u).map (fun o => o.vals.length) := List.mem_map.2 ⟨o, ho, rfl⟩
    rw [hs] at hm
    obtain ⟨o', ho', e⟩ := List.mem_map.1 hm
    rw [← e]
    exact h.each o' ho'

def Mem (W0 wr : World) (os : List Ob) : Prop := (∃ v, Hp W0.heap.size (W0.heap.size + 1) wr W0.heap.size v os 16384) ∧ Sized os ∧ Below W0.heap.size W0 wr

theorem Mem.drewN {W0 wr : World} {os : List Ob} (h : Mem W0 wr os) (n : Nat) : Mem W0 (wr.drewN n) os :=
  ⟨let ⟨v, h1⟩ := h.1; ⟨v, h1.kept (Touch.drewN _ n (fun _ => False)) (fun _ _ h => h)⟩, h.2.1, below_drawn h.2.2 n⟩
theorem Mem.objs {W0 wr : World} {os : List Ob} (h : Mem W0 wr os) : Calls Try.prog 6 #[.pointer (some ⟨W0.heap.size, 0, none⟩)] wr fun e w' => e = .returned (.int .i64 os.length) ∧ wr = w' := let ⟨_, h1⟩ := h.1; objs_any h1
theorem Mem.cells {W0 wr : World} {os : List Ob} (h : Mem W0 wr os) : Calls Try.prog 10 #[.pointer (some ⟨W0.heap.size, 0, none⟩)] wr fun e w' => e = .returned (.int .i64 (many os)) ∧ wr = w' := let ⟨_, h1⟩ := h.1; cells_any h1
theorem Mem.store {W0 wr : World} {os : List Ob} (h : Mem W0 wr os) (p u : V3) : Calls Try.prog 8 #[.pointer (some ⟨W0.heap.size, 0, none⟩), .agg #[.int .u8 p.1, .int .i64 p.2.1, .int .i64 p.2.2], .agg #[.int .u8 u.1, .int .i64 u.2.1, .int .i64 u.2.2]] wr fun e w' =>
    e = .returned (.int .u8 (tells os p)) ∧ Mem W0 w' (put os p u) := by
  obtain ⟨⟨v, h1⟩, hs, hb⟩ := h
  exact (store_any h1 (by have := hs.len; omega) p u).mono fun _ _ ⟨a, b, c⟩ => ⟨a, ⟨v, c⟩, hs.put p u, h1.belowT hb b⟩
theorem Mem.make {W0 wr : World} {os : List Ob} (h : Mem W0 wr os) (h12 : os.length < 12) (base n : Int) : Calls Try.prog 7 #[.pointer (some ⟨W0.heap.size, 0, none⟩), .int .i64 base, .int .i64 n] wr fun e w' => ∃ u, e = .returned u ∧ ∃ os', Mem W0 w' os' := by
  obtain ⟨⟨v, h1⟩, hs, hb⟩ := h
  by_cases hn : n < 1 ∨ 64 < n ∨ 16384 - (many os : Int) < n
  · exact (make_full h1 (by decide) hs.sum base n hn).mono fun _ _ ⟨a, b⟩ => ⟨_, a, os, ⟨v, h1.more b⟩, hs, h1.belowB hb b⟩
  · obtain ⟨k, rfl⟩ := Int.eq_ofNat_of_zero_le (show 0 ≤ n by omega)
    refine (make_new h1 (by omega) (by decide) hs.sum base (n := k) (by omega) (by omega) (by omega)).mono ?_
    rintro e w' ⟨a, v', g, h2, ht⟩
    refine ⟨_, a, _, ⟨v', h2⟩, ⟨by simp; omega, by rw [many_snoc]; simp; omega, ?_⟩, h1.belowT hb ht⟩
    intro o ho
    rcases List.mem_append.1 ho with ho | ho
    · exact hs.each o ho
    · rw [List.mem_singleton] at ho
      subst ho
      simp
      omega

theorem Mem.more {W0 wr w' : World} {os : List Ob} (h : Mem W0 wr os) (hb : Below wr.heap.size wr w') : Mem W0 w' os :=
  let ⟨v, h1⟩ := h.1; ⟨⟨v, h1.more hb⟩, h.2.1, h1.belowB h.2.2 hb⟩
theorem Mem.load {W0 wr : World} {os : List Ob} (h : Mem W0 wr os) (p : V3) : Calls Try.prog 9 #[.pointer (some ⟨W0.heap.size, 0, none⟩), .agg #[.int .u8 p.1, .int .i64 p.2.1, .int .i64 p.2.2]] wr fun e w' =>
    e = .returned (.tuple #[agg3 ((look os p).getD (0, 0, 0)), .int .u8 (tells os p)]) ∧ Below wr.heap.size wr w' := let ⟨_, h1⟩ := h.1; load_any h1 (by have := h.2.1.len; omega) p

theorem gk_le (os : List Ob) (o k : Nat) : (gk os o k).length ≤ k := by
  induction k with
  | zero => simp [gk_zero]
  | succ k ih =>
    cases h : look os (1, (o : Int), (k : Int)) with
    | none => rw [gk_none h]; omega
    | some x => rw [gk_some h, List.length_append]; simp; omega
theorem gs_le (os : List Ob) (o : Nat) : (gs os o).length ≤ o * 64 := by
  induction o with
  | zero => simp [gs_zero]
  | succ o ih =>
    rw [gs_succ, List.length_append]
    have := gk_le os o 64
    omega

/-- The addresses and their values, gathered in two rows of this call's own. -/
structure Gath (W1 wr : World) (va vb : Value) (G : List (V3 × V3)) : Prop where
  ra : wr.ownsRow W1.heap.size 24 3 va G.length ((G.map Prod.fst).flatMap vcells)
  rb : wr.ownsRow W1.heap.size 24 3 vb G.length ((G.map Prod.snd).flatMap vcells)
  dis : ∀ b, va.ownBlock = some b → vb.ownBlock ≠ some b
  low : Below W1.heap.size W1 wr

theorem Gath.more {W1 wr w' : World} {va vb : Value} {G : List (V3 × V3)} (h : Gath W1 wr va vb G) (hb : Below wr.heap.size wr w') : Gath W1 w' va vb G :=
  ⟨ownsRow_touch h.ra (Touch.of_below hb (fun _ => False)) (fun _ _ h => h), ownsRow_touch h.rb (Touch.of_below hb (fun _ => False)) (fun _ _ h => h), h.dis, h.low.trans (hb.mono h.low.size)⟩
theorem Gath.zero (W1 : World) : Gath W1 W1 (.slice none 0 0) (.slice none 0 0) [] := ⟨World.ownsRow_nil _ _ _ _, World.ownsRow_nil _ _ _ _, by simp [Value.ownBlock], Below.refl _ _⟩

theorem equal_agg (y k : V3) (w : World) : (Op.equalIn 10000 24 (.agg #[.int .u8 y.1, .int .i64 y.2.1, .int .i64 y.2.2]) (.agg #[.int .u8 k.1, .int .i64 k.2.1, .int .i64 k.2.2])).run Try.prog w = .ok (decide (y = k)) w := by
  have h := eq_agg y k w
  rw [run_eql_struct] at h
  cases e : (Op.equalIn 10000 24 (.agg #[.int .u8 y.1, .int .i64 y.2.1, .int .i64 y.2.2]) (.agg #[.int .u8 k.1, .int .i64 k.2.1, .int .i64 k.2.2])).run Try.prog w with
  | ok b w' =>
    rw [e, Result.andThen_ok] at h
    simp only [Result.ok.injEq, Value.bool.injEq] at h
    rw [h.1, h.2]
  | _ => rw [e] at h; simp [Result.andThen] at h

theorem Mem.store2 {W0 W1 wr : World} {os : List Ob} (h : Mem W0 W1 os) (hb1 : Below W1.heap.size W1 wr) (p u : V3) : Calls Try.prog 8 #[.pointer (some ⟨W0.heap.size, 0, none⟩), .agg #[.int .u8 p.1, .int .i64 p.2.1, .int .i64 p.2.2], .agg #[.int .u8 u.1, .int .i64 u.2.1, .int .i64 u.2.2]] wr fun e w' =>
    e = .returned (.int .u8 (tells os p)) ∧ Mem W0 w' (put os p u) ∧ Touch wr w' (fun b => b < W1.heap.size) := by
  obtain ⟨⟨v, h1⟩, hs, hb⟩ := h
  exact (store_any (h1.more hb1) (by have := hs.len; omega) p u).mono fun _ _ ⟨a, b, c⟩ => ⟨a, ⟨⟨v, c⟩, hs.put p u, (h1.more hb1).belowT (h1.belowB hb hb1) b⟩, b.mono (fun k _ e => (h1.lt k e).2)⟩

theorem own_form {w : World} {base n : Nat} {v : Value} {xs : List Value} (h : w.ownsRow base 24 3 v n xs) : ∃ a cap, v = .slice a n cap := by
  rcases h.2 with ⟨rfl, h0⟩ | ⟨g, cap, cur, rfl, _⟩
  · exact ⟨none, 0, by rw [h0]⟩
  · exact ⟨_, cap, rfl⟩

theorem own_at {w : World} {base n : Nat} {v : Value} {L : List V3} (h : w.ownsRow base 24 3 v n (L.flatMap vcells)) {i : Nat} {q : V3} (hi : L[i]? = some q) (hn : 0 < n) : ∃ g cap, v = .slice (some ⟨g, 0, none⟩) n cap ∧ g < w.heap.size ∧
    w.cell? ⟨g, i * 3, none⟩ = some (.int .u8 q.1) ∧ w.cell? ⟨g, i * 3 + 1, none⟩ = some (.int .i64 q.2.1) ∧ w.cell? ⟨g, i * 3 + 2, none⟩ = some (.int .i64 q.2.2) := by
  obtain ⟨g, cap, e⟩ := row_form h hn
  have hg : v.ownBlock = some g := by rw [e]; rfl
  have hc : ∀ j, j < 3 → w.cell? ⟨g, i * 3 + j, none⟩ = (vcells q)[j]? := fun j hj => by
    have hf := flat_at vcells 3 (fun _ => rfl) L i j q hi hj
    obtain ⟨y, hy⟩ : ∃ y, (vcells q)[j]? = some y := ⟨_, List.getElem?_eq_getElem (by simpa [vcells] using hj)⟩
    rw [hy] at hf ⊢
    have := h.cells (g := g) hg (i * 3 + j) y hf
    rwa [add0] at this
  refine ⟨g, cap, e, (h.lt g hg).2, ?_, ?_, ?_⟩
  · have := hc 0 (by omega)
    rwa [Nat.add_zero] at this
  · exact hc 1 (by omega)
  · exact hc 2 (by omega)
end Go.Proofs.Ytaidjamcjinooaa
