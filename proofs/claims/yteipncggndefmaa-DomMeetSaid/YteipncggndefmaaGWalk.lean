/- graph.walk: its state; entering a node. -/
import Derived.Test.YteipncggndefmaaGBackW
import Derived.Test.YteipncggndefmaaGPost
import Derived.Shelf.Abstract
namespace Go.Proofs.Yteipncggndefmaa
open Go.RowKit Go.Maps Go.Shelf

theorem infoB1 : (Try.prog.info? 4).map (fun i => (i.zero, i.size, i.bytes)) = some (some (.bool false), 1, 1) := by kernel_rfl
theorem infoV1 : (Try.prog.info? 55).map (fun i => (i.zero, i.size, i.bytes)) = some (some (.agg #[.int .i64 0, .int .i64 0]), 2, 16) := by kernel_rfl

/-- What is seen, as cells. -/
def seenA (n : Nat) (s : List Nat) : Array Value := ((List.range n).map (fun x => Value.bool (decide (x ∈ s)))).toArray
theorem seenA_at {n x : Nat} {s : List Nat} (h : x < n) : (seenA n s)[x]? = some (.bool (decide (x ∈ s))) := by
  unfold seenA
  simp [h]
theorem seenA_set {n x : Nat} {s : List Nat} (h : x < n) : (seenA n s).setIfInBounds x (.bool true) = seenA n (x :: s) := by
  apply Array.ext'
  unfold seenA
  rw [Array.toList_setIfInBounds]
  apply List.ext_getElem?
  intro i
  by_cases hi : i = x
  · subst hi
    rw [List.getElem?_set_self (by simpa using h)]
    simp [h]
  · rw [List.getElem?_set_ne (by omega)]
    by_cases hin : i < n
    · simp [hin, hi]
    · rw [List.getElem?_eq_none (by simp; omega), List.getElem?_eq_none (by simp; omega)]

/-- The visits that are open, the last one first. -/
def cellsVis (p : Nat × Nat) : List Value := [.int .i64 p.1, .int .i64 p.2]
def stkV (k : List (Nat × Nat)) : List Value := k.reverse.flatMap cellsVis
theorem stkV_cons (p : Nat × Nat) (k : List (Nat × Nat)) : stkV (p :: k) = stkV k ++ cellsVis p := by simp [stkV]
theorem stkV_len (k : List (Nat × Nat)) : (stkV k).length = k.length * 2 := by
  induction k with
  | nil => rfl
  | cons p k ih => rw [stkV_cons, List.length_append, ih, List.length_cons]; simp [cellsVis]; omega

/-- How a walk stands: the boxes of the graph, of what is seen, of what is open; their contents. -/
structure WK (wr : World) (gb sb ob S n base : Nat) (gv : Value) (seen : List Nat) (ov : Value) (stk : List (Nat × Nat)) : Prop where
  g : wr.heap[gb]? = some (.cells #[gv] 22 (0, 0))
  s : wr.heap[sb]? = some (.cells #[.slice (some ⟨S, 0, none⟩) n n] 34 (0, 0))
  o : wr.heap[ob]? = some (.cells #[ov] 53 (0, 0))
  bs : wr.heap[S]? = some (.cells (seenA n seen) 4 (0, 0))
  row : wr.ownsRow base 55 2 ov stk.length (stkV stk)
  lt : gb < base ∧ sb < base ∧ ob < base ∧ S < base
  ne : gb ≠ S ∧ gb ≠ ob ∧ sb ≠ S ∧ sb ≠ ob ∧ ob ≠ S
  size : base ≤ wr.heap.size
section
variable {w wr w' : World} {gb sb ob S n base : Nat} {gv ov : Value} {seen : List Nat} {stk : List (Nat × Nat)}
theorem WK.kept {U : Nat → Prop} (K : WK wr gb sb ob S n base gv seen ov stk) (h : Touch wr w' U) (hU : ∀ b, U b → b ≠ gb ∧ b ≠ sb ∧ b ≠ ob ∧ b ≠ S ∧ ov.ownBlock ≠ some b) : WK w' gb sb ob S n base gv seen ov stk := by
  have lt : ∀ {b : Nat} {o : Obj}, wr.heap[b]? = some o → b < wr.heap.size := fun h => (Array.getElem?_eq_some_iff.1 h).1
  exact ⟨(h.block gb (lt K.g) (fun e => (hU _ e).1 rfl)).trans K.g, (h.block sb (lt K.s) (fun e => (hU _ e).2.1 rfl)).trans K.s, (h.block ob (lt K.o) (fun e => (hU _ e).2.2.1 rfl)).trans K.o, (h.block S (lt K.bs) (fun e => (hU _ e).2.2.2.1 rfl)).trans K.bs,
    ownsRow_touch K.row h (fun b hb e => (hU b e).2.2.2.2 hb), K.lt, K.ne, Nat.le_trans K.size h.size⟩
end

/-- What a call of enter does. -/
def Entered (wr : World) (gb sb ob S n base : Nat) (gv : Value) (seen : List Nat) (ov : Value) (stk : List (Nat × Nat)) (y : Int) (e : Ending) (w' : World) : Prop :=
  e = .returned (.tuple #[]) ∧ (((0 ≤ y ∧ y < n) → y.toNat ∈ seen) → WK w' gb sb ob S n base gv seen ov stk ∧ Touch wr w' (fun _ => False)) ∧
    ((0 ≤ y ∧ y < n) → y.toNat ∉ seen → ∃ ov', WK w' gb sb ob S n base gv (y.toNat :: seen) ov' ((y.toNat, 0) :: stk) ∧ Touch wr w' (fun b => b = ob ∨ b = S ∨ ov.ownBlock = some b) ∧ ∀ b, ov'.ownBlock = some b → ov.ownBlock = some b ∨ wr.heap.size ≤ b)

set_option maxRecDepth 20000 in
set_option maxHeartbeats 4000000 in
theorem enter_any {wr : World} {gb sb ob S n base : Nat} {gv ov : Value} {seen : List Nat} {stk : List (Nat × Nat)} {y : Int} {ag : Option Addr} {cg : Nat} (K : WK wr gb sb ob S n base gv seen ov stk) (hgv : gv = .slice ag n cg) (hn : n ≤ 100000) (hs : stk.length ≤ 1000000) :
    Calls Try.prog 44 #[.int .i64 y, .pointer (some ⟨gb, 0, none⟩), .pointer (some ⟨sb, 0, none⟩), .pointer (some ⟨ob, 0, none⟩)] wr (Entered wr gb sb ob S n base gv seen ov stk y) := by
  subst hgv
  have g0 : wr.cell? ⟨gb, 0, none⟩ = some (.slice ag n cg) := by rw [blk_cell K.g]; rfl
  have s0 : wr.cell? ⟨sb, 0, none⟩ = some (.slice (some ⟨S, 0, none⟩) n n) := by rw [blk_cell K.s]; rfl
  have o0 : wr.cell? ⟨ob, 0, none⟩ = some ov := by rw [blk_cell K.o]; rfl
  have hiN := Lib.hid (isnode_any (w := wr) (v := .slice ag n cg) (x := y) rfl)
  cases hv : validI n y with
  | false =>
    rw [hv] at hiN
    have hno : ¬ (0 ≤ y ∧ y < n) := by simpa [validI] using hv
    replace hv := Lib.hid hv
    replace hno := Lib.hid hno
    go_enter Try.func44, Try.ntmps44
    go_wp2_with (go_at_call 32; refine hiN.out.mono ?_; rintro e w' ⟨rfl, rfl⟩)
    go_end0
    exact ⟨rfl, fun _ => ⟨K, Touch.refl _ _⟩, fun h => absurd h hno.out⟩
  | true =>
    rw [hv] at hiN
    have hyes : 0 ≤ y ∧ y < n := by simpa [validI] using hv
    replace hv := Lib.hid hv
    obtain ⟨x, rfl⟩ : ∃ x : Nat, y = x := ⟨y.toNat, by omega⟩
    have hxn : x < n := by omega
    have i1 : (x : Int) < (n : Int) := by omega
    have hsx : wr.cell? ⟨S, x, none⟩ = some (.bool (decide (x ∈ seen))) := by rw [blk_cell K.bs]; exact seenA_at hxn
    by_cases hin : x ∈ seen
    · rw [decide_eq_true hin] at hsx
      replace hin := Lib.hid hin
      go_enter Try.func44, Try.ntmps44
      go_wp2_with (go_at_call 32; refine hiN.out.mono ?_; rintro e w' ⟨rfl, rfl⟩)
      go_end0
      exact ⟨rfl, fun _ => ⟨K, Touch.refl _ _⟩, fun _ h => absurd (by simpa using hin.out) h⟩
    · rw [decide_eq_false hin] at hsx
      replace hin := Lib.hid hin
      obtain ⟨i0, hi0, hz0, hz1, hz2⟩ := info_parts infoV1
      have hsf : wr.frozen? ⟨S, x, none⟩ = false := by simp [World.frozen?, K.bs]
      have hne := K.ne
      have hlt := K.lt
      have hob : ob < wr.heap.size := (Array.getElem?_eq_some_iff.1 K.o).1
      have hset : Touch wr (wr.setCell ⟨S, x, none⟩ (.bool true)) (fun b => b = S) := (Touch.refl wr (fun b => b = S)).setCell (a := ⟨S, x, none⟩) (fun _ => rfl) _
      have hrow : (wr.setCell ⟨S, x, none⟩ (.bool true)).ownsRow base 55 2 ov stk.length (stkV stk) := ownsRow_touch K.row hset (fun b hb e => by have := (K.row.lt b hb).1; omega)
      obtain ⟨ao, co, rfl⟩ := own_form K.row
      have s1 : (wr.setCell ⟨S, x, none⟩ (.bool true)).cell? ⟨sb, 0, none⟩ = some (.slice (some ⟨S, 0, none⟩) n n) := (cell_off hset (Array.getElem?_eq_some_iff.1 K.s).1 hne.2.2.1).trans s0
      have o1 : (wr.setCell ⟨S, x, none⟩ (.bool true)).cell? ⟨ob, 0, none⟩ = some (.slice ao stk.length co) := (cell_off hset hob hne.2.2.2.2).trans o0
      have hbs : (wr.setCell ⟨S, x, none⟩ (.bool true)).heap[S]? = some (.cells (seenA n (x :: seen)) 4 (0, 0)) := by rw [blk_set _ K.bs, seenA_set hxn]
      go_enter Try.func44, Try.ntmps44
      go_wp2_with (first | (go_at_call 32; refine hiN.out.mono ?_; rintro e w' ⟨rfl, rfl⟩) | (at_builtin; refine wpList_append_own_at _ rfl _ _ 53 rfl base 55 i0 _ 2 16 Try.underlying53 hi0 hz0 hz1 hz2 rfl (by decide) _ _ _ rfl (hrow.alloc _) ⟨wr.heap.size, 0, none⟩ 1 1 [.int .i64 x, .int .i64 0] rfl rfl (World.news_of_block (cs := #[.int .i64 x, .int .i64 0]) (t := 55) (fr := (0, 0)) (by rw [show wr.heap.size = (wr.setCell ⟨S, x, none⟩ (.bool true)).heap.size from by simp [World.setCell]]; exact heap_alloc_new _ _)) (by simp [Value.oneCell']) (by unfold maxLen; omega) (by omega) (by have := K.size; simp [World.setCell]; omega) ?_))
      intro v' w2 hown2 hgrow hnil hat
      obtain ⟨av2, cv2, rfl⟩ := own_form hown2
      have hoB : ∀ b, (Value.slice ao stk.length co).ownBlock = some b → base ≤ b ∧ b < wr.heap.size := fun b hb => K.row.lt b hb
      have T : Touch wr w2 (fun b => b = S ∨ (Value.slice ao stk.length co).ownBlock = some b) :=
        Touch.trans ((Touch.mono hset (fun k _ h => .inl h)).alloc _) (Touch.of_grown hgrow (fun k hk => .inr hk))
      have keep : ∀ {b : Nat} {o : Obj}, wr.heap[b]? = some o → b ≠ S → b < base → w2.heap[b]? = some o := by
        intro b o h h1 h2
        exact (T.block b (Array.getElem?_eq_some_iff.1 h).1 (by rintro (e | e); exact h1 e; have := (hoB b e).1; omega)).trans h
      have hb2 : w2.heap[S]? = some (.cells (seenA n (x :: seen)) 4 (0, 0)) := by
        have T2 : Touch (wr.setCell ⟨S, x, none⟩ (.bool true)) w2 (fun b => (Value.slice ao stk.length co).ownBlock = some b) := Touch.trans ((Touch.refl _ (fun b => (Value.slice ao stk.length co).ownBlock = some b)).alloc _) (Touch.of_grown hgrow (fun k hk => hk))
        exact (T2.block S (by have := (Array.getElem?_eq_some_iff.1 hbs).1; exact this) (fun e => by have := (hoB S e).1; omega)).trans hbs
      have ho2 := keep K.o hne.2.2.2.2 hlt.2.2.1
      have o2 : w2.cell? ⟨ob, 0, none⟩ = some (.slice ao stk.length co) := by rw [blk_cell ho2]; rfl
      have of2 : w2.frozen? ⟨ob, 0, none⟩ = false := by simp [World.frozen?, ho2]
      have hg2 := keep K.g hne.1 hlt.1
      have hs2 := keep K.s hne.2.2.1 hlt.2.1
      have hn2 : ∀ b, (Value.slice av2 (stk.length + 1) cv2).ownBlock = some b → (Value.slice ao stk.length co).ownBlock = some b ∨ wr.heap.size ≤ b := fun b hb => by
        rcases hat with e | e
        · exact .inl (e ▸ hb)
        · rw [e] at hb
          exact .inr (by injection hb with hb; omega)
      have T3 : Touch w2 (w2.setCell ⟨ob, 0, none⟩ (.slice av2 (stk.length + 1) cv2)) (fun b => b = ob) := (Touch.refl w2 (fun b => b = ob)).setCell (a := ⟨ob, 0, none⟩) (fun _ => rfl) _
      have hfin : Hid (Entered wr gb sb ob S n base (.slice ag n cg) seen (.slice ao stk.length co) stk x (.returned (.tuple #[])) (w2.setCell ⟨ob, 0, none⟩ (.slice av2 (stk.length + 1) cv2))) := by
        have lt2 : ∀ {b : Nat} {o : Obj}, w2.heap[b]? = some o → b < w2.heap.size := fun h => (Array.getElem?_eq_some_iff.1 h).1
        refine Lib.hid ⟨rfl, fun h => absurd (by simpa using h ⟨by omega, i1⟩) hin.out, fun _ _ => ⟨_, ⟨?_, ?_, ?_, ?_, ?_, hlt, hne, ?_⟩, ?_, hn2⟩⟩
        · exact (T3.block gb (lt2 hg2) (by omega)).trans hg2
        · exact (T3.block sb (lt2 hs2) (by omega)).trans hs2
        · rw [blk_set _ ho2]; rfl
        · exact (T3.block S (lt2 hb2) (by omega)).trans hb2
        · rw [stkV_cons, List.length_cons, Int.toNat_natCast]
          exact ownsRow_touch hown2 T3 (fun b hb e => by
            rcases hn2 b hb with h | h
            · have := (hoB b h).1; omega
            · omega)
        · have := K.size; have := T.size; simp [World.setCell]; omega
        · exact Touch.trans (Touch.mono T (fun k _ h => by rcases h with h | h; exact .inr (.inl h); exact .inr (.inr h))) (Touch.mono T3 (fun k _ h => .inl h))
      clear hown2 hgrow hnil hat T keep hb2 hg2 hs2 hn2 T3 hbs hset hrow
      go_wp2_with fail
      go_end0
      exact hfin.out
end Go.Proofs.Yteipncggndefmaa
