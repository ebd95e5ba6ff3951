/- Lists of numbers, and the document's own answers over them. -/
import Derived.Test.YtcimhljnboeobaaDoorRead
import Derived.Test.YtcimhljnboeobaaDoorReadE
import Derived.Test.YtcimhljnboeobaaDoorQSt
import Derived.Lib.Hide
import Derived.Maps.AppendAt
import Derived.Deep.Strs
import Derived.Deep.Slices
import Derived.Deep.Draws
import Derived.Deep.AppendLies
import Derived.Deep.RegionHeld3
import Derived.Deep.RegionLaw
import Derived.Deep.QuietTactic
import Derived.BigQuiet
import Derived.StillTailTactics
import Derived.WalkSpells
import Derived.Outline
import Derived.Deep.LoopGhost
import Derived.Deep.Cut
import Derived.Laws.MakeOwn
import Derived.Laws.AppendOwnNone
import Derived.Maps.Own
import Derived.Maps.OwnSet
namespace Go.Proofs.YtcimhljnboeobaaDoor
open Go.RowKit Go.Maps

theorem own_form {W : World} {base e size : Nat} {v : Value} {n : Nat} {xs : List Value} (h : W.ownsRow base e size v n xs) : ∃ a cap, v = .slice a n cap := by
  rcases h.2 with ⟨rfl, h0⟩ | ⟨g, cap, cur, rfl, _⟩
  · exact ⟨none, 0, by rw [h0]⟩
  · exact ⟨_, cap, rfl⟩

/-- A slice that reads as these numbers. -/
abbrev RdI (w : World) (s : Value) (xs : List Int) : Prop := Rd w s (xs.map encI)
theorem RdI.cell {w : World} {s : Value} {xs : List Int} (h : RdI w s xs) {i : Nat} {x : Int} (hi : xs[i]? = some x) : ∃ b off cap, s = .slice (some ⟨b, off, none⟩) xs.length cap ∧ w.cell? ⟨b, off + i, none⟩ = some (.int .i64 x) := by
  obtain ⟨b, off, cap, e, _, hc⟩ := Rd.at h (i := i) (u := encI x) (by simp [hi])
  rw [List.length_map] at e
  exact ⟨b, off, cap, e, hc⟩
theorem row_cell {w : World} {b off n cap : Nat} {xs : List Int} (h : RdI w (.slice (some ⟨b, off, none⟩) n cap) xs) {j : Nat} {x : Int} (hj : xs[j]? = some x) : w.cell? ⟨b, off + j, none⟩ = some (.int .i64 x) := by
  obtain ⟨b', off', cap', e, hc⟩ := RdI.cell h hj
  simp only [Value.slice.injEq, Option.some.injEq, Addr.mk.injEq] at e
  obtain ⟨⟨rfl, rfl, -⟩, rfl, rfl⟩ := e
  exact hc

/-- A list with a number more, ahead of the first that is not less. -/
def addL (l : List Int) (i : Int) : List Int := if i < 0 ∨ i ∈ l then l else l.takeWhile (· < i) ++ i :: l.dropWhile (· < i)
/-- A slice in a block of its own. -/
abbrev Strip (w : World) (v : Value) (xs : List Int) : Prop := w.ownsRow 0 3 1 v xs.length (xs.map encI)

theorem strip_rd {w : World} {base n : Nat} {v : Value} {xs : List Int} (h : w.ownsRow base 3 1 v n (xs.map encI)) : RdI w v xs := by
  rcases h.2 with ⟨rfl, h0⟩ | ⟨g, cap, cur, rfl, h1, h2, h3, h4, h5, h6⟩
  · have : xs = [] := by have := h.1; rw [h0, List.length_map] at this; exact List.eq_nil_of_length_eq_zero (by omega)
    subst this
    exact rd_none w
  · have hl : n = xs.length := by have := h.1; rw [List.length_map] at this; omega
    subst hl
    refine Or.inr ⟨g, 0, cap, by simp, (h.lt g rfl).2, fun k u hu => ?_⟩
    have := h.cells (g := g) rfl k u hu
    rw [add0] at this
    rw [Nat.zero_add]
    exact this

theorem strip_down {w : World} {base n : Nat} {v : Value} {xs : List Value} {t : TypeId} (h : w.ownsRow base t 1 v n xs) : w.ownsRow 0 t 1 v n xs := by
  refine ⟨h.1, h.2.imp id ?_⟩
  rintro ⟨g, cap, cur, e, _, h2⟩
  exact ⟨g, cap, cur, e, Nat.zero_le _, h2⟩

theorem strip_nil (w : World) : Strip w (.slice none 0 0) [] := World.ownsRow_nil _ _ _ _

theorem strip_below {w w' : World} {v : Value} {xs : List Int} (h : Strip w v xs) (hb : Below w.heap.size w w') : Strip w' v xs := by
  refine ⟨h.1, h.2.imp id ?_⟩
  rintro ⟨g, cap, cur, e, h1, h2, h3⟩
  exact ⟨g, cap, cur, e, h1, by rw [hb.block g (Array.getElem?_eq_some_iff.1 h2).1]; exact h2, h3⟩

theorem take_while {l : List Int} {i : Int} : ∀ {k : Nat}, k = (l.takeWhile (· < i)).length → l.takeWhile (· < i) = l.take k ∧ l.dropWhile (· < i) = l.drop k := by
  induction l with
  | nil => intro k _; simp
  | cons a l ih =>
    intro k hk
    by_cases h : a < i
    · simp only [List.takeWhile_cons, List.dropWhile_cons, h, decide_true, if_true] at hk ⊢
      rw [List.length_cons] at hk
      obtain ⟨h1, h2⟩ := ih rfl
      subst hk
      exact ⟨by rw [List.take_succ_cons, ← h1], by rw [List.drop_succ_cons, ← h2]⟩
    · simp only [List.takeWhile_cons, List.dropWhile_cons, h, decide_false, Bool.false_eq_true, if_false] at hk ⊢
      subst hk
      exact ⟨rfl, rfl⟩

theorem while_lt {l : List Int} {i : Int} {j : Nat} (hj : j < (l.takeWhile (· < i)).length) : ∃ x, l[j]? = some x ∧ x < i := by
  have h2 : l[j]? = some (l.takeWhile (· < i))[j] := by
    have e : l[j]? = (l.takeWhile (· < i) ++ l.dropWhile (· < i))[j]? := by rw [List.takeWhile_append_dropWhile]
    rw [e, List.getElem?_append_left hj, List.getElem?_eq_getElem hj]
  have h3 := List.getElem_mem hj
  have h4 := List.all_eq_true.1 (List.all_takeWhile (p := fun x => decide (x < i)) (l := l)) _ h3
  exact ⟨_, h2, by simpa using h4⟩

theorem while_end {l : List Int} {i : Int} {k : Nat} (hk : k = (l.takeWhile (· < i)).length) (hl : k < l.length) : ∃ x, l[k]? = some x ∧ ¬ x < i := by
  refine ⟨l[k], List.getElem?_eq_getElem hl, fun hx => ?_⟩
  have hd := (take_while (l := l) hk).2
  have hne : l.drop k ≠ [] := by simp; omega
  have h1 := List.head?_dropWhile_not (fun x => decide (x < i)) l
  rw [hd, List.head?_drop, List.getElem?_eq_getElem hl] at h1
  simp [hx] at h1

theorem mem_addL {l : List Int} {i y : Int} : y ∈ addL l i ↔ y ∈ l ∨ (y = i ∧ 0 ≤ i) := by
  unfold addL
  split
  · rename_i h
    constructor
    · exact Or.inl
    · rintro (h1 | ⟨rfl, h2⟩)
      · exact h1
      · rcases h with h | h
        · omega
        · exact h
  · rename_i h
    have e := List.takeWhile_append_dropWhile (p := fun x => decide (x < i)) (l := l)
    have : y ∈ l ↔ y ∈ l.takeWhile (· < i) ∨ y ∈ l.dropWhile (· < i) := by
      constructor
      · intro hy; rw [← e] at hy; exact List.mem_append.1 hy
      · intro hy; rw [← e]; exact List.mem_append.2 hy
    rw [List.mem_append, List.mem_cons, this]
    have h0 : 0 ≤ i := by
      apply Classical.byContradiction
      intro h0
      exact h (Or.inl (by omega))
    constructor
    · rintro (h1 | h1 | h1)
      · exact Or.inl (Or.inl h1)
      · exact Or.inr ⟨h1, h0⟩
      · exact Or.inl (Or.inr h1)
    · rintro ((h1 | h1) | ⟨h1, _⟩)
      · exact Or.inl h1
      · exact Or.inr (Or.inr h1)
      · exact Or.inr (Or.inl h1)

theorem rise_addL {l : List Int} {i : Int} (hl : l.Pairwise (· < ·)) : (addL l i).Pairwise (· < ·) := by
  unfold addL
  split
  · exact hl
  · rename_i h
    have e := List.takeWhile_append_dropWhile (p := fun x => decide (x < i)) (l := l)
    have hp : (l.takeWhile (· < i) ++ l.dropWhile (· < i)).Pairwise (· < ·) := by rw [e]; exact hl
    rw [List.pairwise_append] at hp ⊢
    obtain ⟨h1, h2, h3⟩ := hp
    have hlt : ∀ x ∈ l.takeWhile (· < i), x < i := fun x hx => by
      have := List.all_eq_true.1 (List.all_takeWhile (p := fun x => decide (x < i)) (l := l)) _ hx
      simpa using this
    have hge : ∀ y ∈ l.dropWhile (· < i), i < y := fun y hy => by
      have hyl : y ∈ l := by rw [← e]; exact List.mem_append.2 (Or.inr hy)
      have hyi : y ≠ i := fun e => h (Or.inr (e ▸ hyl))
      rcases hd : l.dropWhile (· < i) with _ | ⟨z, t⟩
      · rw [hd] at hy; cases hy
      · have hz := List.head?_dropWhile_not (fun x => decide (x < i)) l
        rw [hd] at hz hy h2
        simp at hz
        rcases List.mem_cons.1 hy with rfl | hy
        · omega
        · have := (List.pairwise_cons.1 h2).1 y hy
          omega
    refine ⟨h1, List.pairwise_cons.2 ⟨hge, h2⟩, fun x hx y hy => ?_⟩
    rcases List.mem_cons.1 hy with rfl | hy
    · exact hlt x hx
    · exact h3 x hx y hy

theorem addL_len (l : List Int) (i : Int) : (addL l i).length ≤ l.length + 1 ∧ l.length ≤ (addL l i).length := by
  unfold addL
  split
  · omega
  · have e := congrArg List.length (List.takeWhile_append_dropWhile (p := fun x => decide (x < i)) (l := l))
    rw [List.length_append] at e
    rw [List.length_append, List.length_cons]
    omega

section
variable {w : World} {v : Value} {xs : List Int} {i : Int}

theorem rhas_any (h : RdI w v xs) (hlen : xs.length ≤ 1000000) : Calls Tryd.prog 17 #[v, .int .i64 i] w fun e w' => e = .returned (.bool (decide (i ∈ xs))) ∧ w' = w := by
  obtain ⟨a, c, rfl⟩ := h.form
  rw [List.length_map] at *
  go_enter Tryd.func17, Tryd.ntmps17
  go_wp2
  go_loopw [5] (fun k wr => ∃ j : Nat, j ≤ xs.length ∧ k = .int .i64 j ∧ wr = w ∧ Hid (i ∉ xs.take j)) (fun k _ => xs.length - (intOf k).toNat)
  case atStart => exact ⟨0, Nat.zero_le _, rfl, rfl, Lib.hid (by simp)⟩
  case round =>
    obtain ⟨j, hj, rfl, rfl, ht⟩ := hrel
    by_cases hlt : j < xs.length
    · obtain ⟨x, hx⟩ : ∃ x, xs[j]? = some x := ⟨_, List.getElem?_eq_getElem hlt⟩
      obtain ⟨b, o, cap, e, _, hc⟩ := h.at (i := j) (u := encI x) (by simp [hx])
      unfold encI at hc
      simp only [Value.slice.injEq] at e
      obtain ⟨rfl, -, rfl⟩ := e
      have htx := Lib.hid (take_snoc hx)
      have hmem := Lib.hid (List.mem_of_getElem? hx)
      clear hx h
      by_cases hxi : x = i
      · subst hxi
        go_wp2
        go_ret
        exact ⟨by simp [hmem.out], (by first | rfl | exact trivial)⟩
      · have hb : (x == i) = false := by simpa using hxi
        replace hxi := Lib.hid hxi
        go_wp2
        go_roundw
        case rel => exact ⟨j + 1, by omega, by go_num, (by first | rfl | exact trivial), Lib.hid (by rw [htx.out, List.mem_append, List.mem_singleton]; rintro (h | h); exact ht.out h; exact hxi.out h.symm)⟩
        case measure => simp [intOf]; omega
    · have : j = xs.length := by omega
      subst this
      have hn : i ∉ xs := by have := ht.out; rwa [List.take_length] at this
      clear ht h
      go_wp2
      go_ret
      exact ⟨by simp [hn], (by first | rfl | exact trivial)⟩

theorem infoL : (Tryd.prog.info? 3).map (fun i => (i.zero, i.size, i.bytes)) = some (some (.int .i64 0), 1, 8) := by kernel_rfl

theorem radd_old (h : Strip w v xs) (hi : i < 0 ∨ i ∈ xs) (hlen : xs.length ≤ 100000) : Calls Tryd.prog 13 #[v, .int .i64 i] w fun e w' => e = .returned v ∧ w' = w := by
  have hr := Lib.hid (rhas_any (i := i) (strip_rd h) (by omega))
  by_cases h0 : i < 0
  · have hd : decide (i < 0) = true := decide_eq_true h0
    go_enter Tryd.func13, Tryd.ntmps13
    go_wp2
    go_ret
    exact ⟨rfl, rfl⟩
  · have hd : decide (i < 0) = false := decide_eq_false h0
    have hm : decide (i ∈ xs) = true := decide_eq_true (hi.resolve_left h0)
    have hr2 := hr.out
    rw [hm] at hr2
    replace hr2 := Lib.hid hr2
    clear hr hm h hi
    go_enter Tryd.func13, Tryd.ntmps13
    go_wp2_with (go_at_call 17; refine hr2.out.mono ?_; rintro e w' ⟨rfl, hw⟩; obtain rfl := hw.symm)
    go_ret
    exact ⟨rfl, rfl⟩

theorem rd_take {w : World} {g cap k : Nat} {xs : List Int} (hg : g < w.heap.size) (hc : ∀ j x, xs[j]? = some x → w.cell? ⟨g, j, none⟩ = some (.int .i64 x)) (hk : k ≤ xs.length) : Rd w (.slice (some ⟨g, 0, none⟩) k cap) ((xs.take k).map encI) := by
  refine Or.inr ⟨g, 0, cap, by simp; omega, hg, fun j u hu => ?_⟩
  rw [List.getElem?_map, List.getElem?_take] at hu
  split at hu
  · rcases hx : xs[j]? with _ | x
    · rw [hx] at hu; cases hu
    · rw [hx] at hu
      simp only [Option.map_some, Option.some.injEq] at hu
      subst hu
      rw [Nat.zero_add]
      exact hc j x hx
  · cases hu

theorem rd_drop {w : World} {g cap k : Nat} {xs : List Int} (hg : g < w.heap.size) (hc : ∀ j x, xs[j]? = some x → w.cell? ⟨g, j, none⟩ = some (.int .i64 x)) (hk : k ≤ xs.length) : Rd w (.slice (some ⟨g, k, none⟩) (xs.length - k) cap) ((xs.drop k).map encI) := by
  refine Or.inr ⟨g, k, cap, by simp, hg, fun j u hu => ?_⟩
  rw [List.getElem?_map, List.getElem?_drop] at hu
  rcases hx : xs[k + j]? with _ | x
  · rw [hx] at hu; cases hu
  · rw [hx] at hu
    simp only [Option.map_some, Option.some.injEq] at hu
    subst hu
    exact hc (k + j) x hx

theorem rd_over {w : World} {a : Addr} {cap k : Nat} {xs : List Int} (hk : k = xs.length) : Rd w (.slice (some a) (xs.length - k) cap) ((xs.drop k).map encI) := by
  subst hk
  rw [Nat.sub_self]
  exact Or.inl ⟨by simp, Or.inr ⟨_, _, rfl⟩⟩

theorem radd_fin {w : World} {base n : Nat} {v : Value} {ys : List Int} {us : List Value} (h : w.ownsRow base 3 1 v n us) (hu : us = ys.map encI) : w.ownsRow base 3 1 v ys.length (ys.map encI) := by
  subst hu
  have h1 := h.1
  rw [List.length_map, Nat.mul_one] at h1
  rw [h1]
  exact h

theorem cell_new1 (w : World) (t : TypeId) (x : Int) : ∀ (j : Nat) (u : Value), ([x].map encI)[j]? = some u → (w.alloc (.cells #[.int .i64 x] t)).cell? ⟨w.heap.size, 0 + j, none⟩ = some u := fun j u hu => by
  have := cell_one_new w (.int .i64 x) t j u hu
  rw [add0] at this
  rwa [Nat.zero_add]

theorem oneCells (l : List Int) : ∀ u ∈ l.map encI, u.oneCell' = true := fun u hu => by
  obtain ⟨x, _, rfl⟩ := List.mem_map.1 hu
  rfl

set_option maxHeartbeats 2000000 in
theorem radd_new (h : Strip w v xs) (h0 : 0 ≤ i) (hi : i ∉ xs) (hlen : xs.length ≤ 100000) : Calls Tryd.prog 13 #[v, .int .i64 i] w fun e w' => ∃ v', e = .returned v' ∧
    w'.ownsRow w.heap.size 3 1 v' (addL xs i).length ((addL xs i).map encI) ∧ Below w.heap.size w w' := by
  obtain ⟨i0, hi0, hz0, hz1, hz2⟩ := info_parts infoL
  have hr := rhas_any (i := i) (strip_rd h) (by omega)
  rw [show decide (i ∈ xs) = false from decide_eq_false hi] at hr
  replace hr := Lib.hid hr
  have hd : decide (i < 0) = false := decide_eq_false (by omega)
  have hadd : addL xs i = xs.takeWhile (· < i) ++ i :: xs.dropWhile (· < i) := by unfold addL; rw [if_neg]; rintro (h | h); omega; exact hi h
  obtain ⟨k, hk⟩ : ∃ k, k = (xs.takeWhile (· < i)).length := ⟨_, rfl⟩
  obtain ⟨e1, e2⟩ := take_while (l := xs) (i := i) hk
  rw [e1, e2] at hadd
  have hkl : k ≤ xs.length := by
    have := congrArg List.length (List.takeWhile_append_dropWhile (p := fun x => decide (x < i)) (l := xs))
    rw [List.length_append] at this
    omega
  have hlt := Lib.hid (fun j (hj : j < k) => while_lt (l := xs) (i := i) (j := j) (by omega))
  have hend := Lib.hid (fun hl => while_end (l := xs) (i := i) hk hl)
  have hrd := Lib.hid (strip_rd h)
  replace hadd := Lib.hid hadd
  clear e1 e2 hk hi
  rcases h.2 with ⟨rfl, hx0⟩ | ⟨g, cap, cur, rfl, -, g1, hcap, -⟩
  · have hxe : xs = [] := List.eq_nil_of_length_eq_zero hx0
    subst hxe
    have hk0 : k = 0 := by simpa using hkl
    subst hk0
    clear h hx0
    go_enter Tryd.func13, Tryd.ntmps13
    go_wp2_with (go_at_call 17; refine hr.out.mono ?_; rintro e w' ⟨rfl, hw⟩; obtain rfl := hw.symm)
    go_loopw [5] (fun u wr => ∃ j : Nat, j ≤ 0 ∧ u = .int .i64 j ∧ wr = w) (fun u _ => 0 - (intOf u).toNat)
    case atStart => exact ⟨0, Nat.zero_le _, rfl, rfl⟩
    case round =>
      obtain ⟨j, hj, rfl, hwr⟩ := hrel
      obtain rfl := hwr.symm
      have hj0 : j = 0 := by omega
      subst hj0
      clear hj
      go_wp2_with (at_builtin; go_loud (refine wpList_append_rd _ rfl _ _ 27 rfl w.heap.size 3 i0 (.int .i64 0) 8 Tryd.underlying27 hi0 hz0 hz1 hz2 rfl _ 0 [] rfl (World.ownsRow_nil _ _ _ _) _ ((([] : List Int).take 0).map encI) rfl (rd_none _) (oneCells _) (by unfold maxLen; simp <;> omega) (by simp <;> omega) (by exact Nat.le_refl _) ?_))
      intro v1 w1 hown1 hg1 _
      have hb1 : Below w.heap.size w w1 := (Below.refl _ _).grown hg1 (Nat.le_refl _) (by simp [Value.ownBlock])
      replace hown1 : w1.ownsRow w.heap.size 3 1 v1 0 ((([] : List Int).take 0).map encI) := by first | exact hown1 | simpa [Nat.min_eq_left hkl] using hown1
      obtain ⟨av1, cv1, rfl⟩ := own_form hown1
      go_wp2_with (at_builtin; go_loud (refine wpList_append_rd _ rfl _ _ 27 rfl w.heap.size 3 i0 (.int .i64 0) 8 Tryd.underlying27 hi0 hz0 hz1 hz2 rfl _ _ _ rfl (hown1.alloc _) _ ([i].map encI) rfl (Or.inr ⟨w1.heap.size, 0, 1, rfl, by simp, cell_new1 _ _ _⟩) (oneCells _) (by unfold maxLen; simp <;> omega) (by simp <;> omega) (by have := hb1.size; simp <;> omega) ?_))
      intro v2 w2 hown2 hg2 _
      have hb2 : Below w.heap.size w w2 := (hb1.alloc hb1.size _).grown hg2 (by have := hb1.size; simp; omega) (fun b hb => (hown1.lt b hb).1)
      replace hown2 : w2.ownsRow w.heap.size 3 1 v2 (0 + 1) ((([] : List Int).take 0).map encI ++ [i].map encI) := by first | exact hown2 | simpa using hown2
      obtain ⟨av2, cv2, rfl⟩ := own_form hown2
      go_wp2_with (at_builtin; go_loud (refine wpList_append_rd _ rfl _ _ 27 rfl w.heap.size 3 i0 (.int .i64 0) 8 Tryd.underlying27 hi0 hz0 hz1 hz2 rfl _ _ _ rfl hown2 _ ((([] : List Int).drop 0).map encI) rfl (rd_none _) (oneCells _) (by unfold maxLen; simp <;> omega) (by simp <;> omega) (by exact hb2.size) ?_))
      intro v3 w3 hown3 hg3 _
      have hb3 : Below w.heap.size w w3 := hb2.grown hg3 hb2.size (fun b hb => (hown2.lt b hb).1)
      go_wp2_with fail
      go_ret
      exact ⟨_, rfl, radd_fin hown3 (by rw [hadd.out]; simp), hb3⟩
  · have hg : g < w.heap.size := (Array.getElem?_eq_some_iff.1 g1).1
    have hcell : Hid (∀ j x, xs[j]? = some x → w.cell? ⟨g, j, none⟩ = some (.int .i64 x)) := Lib.hid (fun j x hx => by have := row_cell hrd.out hx; rwa [Nat.zero_add] at this)
    have hkc : k ≤ cap := by omega
    replace h := Lib.hid h
    clear g1
    by_cases hkn : k < xs.length
    · have hc0 : (cap = 0) = False := by simp; omega
      have hck : (cap = k) = False := by simp; omega
      go_enter Tryd.func13, Tryd.ntmps13
      go_wp2_with (go_at_call 17; refine hr.out.mono ?_; rintro e w' ⟨rfl, hw⟩; obtain rfl := hw.symm)
      go_loopw [5] (fun u wr => ∃ j : Nat, j ≤ k ∧ u = .int .i64 j ∧ wr = w) (fun u _ => k - (intOf u).toNat)
      case atStart => exact ⟨0, Nat.zero_le _, rfl, rfl⟩
      case round =>
        obtain ⟨j, hj, rfl, hwr⟩ := hrel
        obtain rfl := hwr.symm
        by_cases hjk : j < k
        · obtain ⟨x, hx, hxi⟩ := hlt.out j hjk
          have hjn : j < xs.length := by omega
          have hdx : decide (x < i) = true := decide_eq_true hxi
          have c1 := hcell.out j x hx
          clear hx
          go_wp2_with fail
          go_roundw
          case rel => exact ⟨j + 1, by omega, by go_num, (by first | rfl | exact trivial)⟩
          case measure => simp [intOf]; omega
        · have hjk2 : k = j := by omega
          clear hj hjk
          subst hjk2
          obtain ⟨x, hx, hxi⟩ := hend.out hkn
          have hdx : decide (x < i) = false := decide_eq_false (by omega)
          have c1 := hcell.out k x hx
          clear hx
          go_wp2_with (at_builtin; go_loud (refine wpList_append_rd _ rfl _ _ 27 rfl w.heap.size 3 i0 (.int .i64 0) 8 Tryd.underlying27 hi0 hz0 hz1 hz2 rfl _ 0 [] rfl (World.ownsRow_nil _ _ _ _) _ ((xs.take k).map encI) rfl (rd_take hg hcell.out hkl) (oneCells _) (by unfold maxLen; simp <;> omega) (by simp <;> omega) (by exact Nat.le_refl _) ?_))
          intro v1 w1 hown1 hg1 _
          have hb1 : Below w.heap.size w w1 := (Below.refl _ _).grown hg1 (Nat.le_refl _) (by simp [Value.ownBlock])
          replace hown1 : w1.ownsRow w.heap.size 3 1 v1 k ((xs.take k).map encI) := by first | exact hown1 | simpa [Nat.min_eq_left hkl] using hown1
          obtain ⟨av1, cv1, rfl⟩ := own_form hown1
          go_wp2_with (at_builtin; go_loud (refine wpList_append_rd _ rfl _ _ 27 rfl w.heap.size 3 i0 (.int .i64 0) 8 Tryd.underlying27 hi0 hz0 hz1 hz2 rfl _ _ _ rfl (hown1.alloc _) _ ([i].map encI) rfl (Or.inr ⟨w1.heap.size, 0, 1, rfl, by simp, cell_new1 _ _ _⟩) (oneCells _) (by unfold maxLen; simp <;> omega) (by simp <;> omega) (by have := hb1.size; simp <;> omega) ?_))
          intro v2 w2 hown2 hg2 _
          have hb2 : Below w.heap.size w w2 := (hb1.alloc hb1.size _).grown hg2 (by have := hb1.size; simp; omega) (fun b hb => (hown1.lt b hb).1)
          replace hown2 : w2.ownsRow w.heap.size 3 1 v2 (k + 1) ((xs.take k).map encI ++ [i].map encI) := by first | exact hown2 | simpa using hown2
          obtain ⟨av2, cv2, rfl⟩ := own_form hown2
          go_wp2_with (at_builtin; go_loud (refine wpList_append_rd _ rfl _ _ 27 rfl w.heap.size 3 i0 (.int .i64 0) 8 Tryd.underlying27 hi0 hz0 hz1 hz2 rfl _ _ _ rfl hown2 _ ((xs.drop k).map encI) rfl ((rd_drop hg hcell.out hkl).below hb2) (oneCells _) (by unfold maxLen; simp <;> omega) (by simp <;> omega) (by exact hb2.size) ?_))
          intro v3 w3 hown3 hg3 _
          have hb3 : Below w.heap.size w w3 := hb2.grown hg3 hb2.size (fun b hb => (hown2.lt b hb).1)
          go_wp2_with fail
          go_ret
          exact ⟨_, rfl, radd_fin hown3 (by rw [hadd.out]; simp), hb3⟩
    · by_cases hck : cap = k
      · by_cases hc0 : cap = 0
        · have hkn2 : k = xs.length := by omega
          have hkd1 : decide ((k : Int) < (xs.length : Int)) = false := by simp; omega
          have hkd2 : decide (k < xs.length) = false := decide_eq_false hkn
          replace hkn2 := Lib.hid hkn2
          clear hkn
          have hc0t : (cap = 0) = True := by simp [hc0]
          have hckt : (cap = k) = True := by simp [hck]
          replace hck := Lib.hid hck
          replace hc0 := Lib.hid hc0
          go_enter Tryd.func13, Tryd.ntmps13
          go_wp2_with (go_at_call 17; refine hr.out.mono ?_; rintro e w' ⟨rfl, hw⟩; obtain rfl := hw.symm)
          go_loopw [5] (fun u wr => ∃ j : Nat, j ≤ k ∧ u = .int .i64 j ∧ wr = w) (fun u _ => k - (intOf u).toNat)
          case atStart => exact ⟨0, Nat.zero_le _, rfl, rfl⟩
          case round =>
            obtain ⟨j, hj, rfl, hwr⟩ := hrel
            obtain rfl := hwr.symm
            by_cases hjk : j < k
            · obtain ⟨x, hx, hxi⟩ := hlt.out j hjk
              have hjn : j < xs.length := by omega
              have hdx : decide (x < i) = true := decide_eq_true hxi
              have c1 := hcell.out j x hx
              clear hx
              go_wp2_with fail
              go_roundw
              case rel => exact ⟨j + 1, by omega, by go_num, (by first | rfl | exact trivial)⟩
              case measure => simp [intOf]; omega
            · have hjk2 : k = j := by omega
              clear hj hjk
              subst hjk2
              go_wp2_with (at_builtin; go_loud (refine wpList_append_rd _ rfl _ _ 27 rfl w.heap.size 3 i0 (.int .i64 0) 8 Tryd.underlying27 hi0 hz0 hz1 hz2 rfl _ 0 [] rfl (World.ownsRow_nil _ _ _ _) _ ((xs.take k).map encI) rfl (rd_take hg hcell.out hkl) (oneCells _) (by unfold maxLen; simp <;> omega) (by simp <;> omega) (by exact Nat.le_refl _) ?_))
              intro v1 w1 hown1 hg1 _
              have hb1 : Below w.heap.size w w1 := (Below.refl _ _).grown hg1 (Nat.le_refl _) (by simp [Value.ownBlock])
              replace hown1 : w1.ownsRow w.heap.size 3 1 v1 k ((xs.take k).map encI) := by first | exact hown1 | simpa [Nat.min_eq_left hkl] using hown1
              obtain ⟨av1, cv1, rfl⟩ := own_form hown1
              go_wp2_with (at_builtin; go_loud (refine wpList_append_rd _ rfl _ _ 27 rfl w.heap.size 3 i0 (.int .i64 0) 8 Tryd.underlying27 hi0 hz0 hz1 hz2 rfl _ _ _ rfl (hown1.alloc _) _ ([i].map encI) rfl (Or.inr ⟨w1.heap.size, 0, 1, rfl, by simp, cell_new1 _ _ _⟩) (oneCells _) (by unfold maxLen; simp <;> omega) (by simp <;> omega) (by have := hb1.size; simp <;> omega) ?_))
              intro v2 w2 hown2 hg2 _
              have hb2 : Below w.heap.size w w2 := (hb1.alloc hb1.size _).grown hg2 (by have := hb1.size; simp; omega) (fun b hb => (hown1.lt b hb).1)
              replace hown2 : w2.ownsRow w.heap.size 3 1 v2 (k + 1) ((xs.take k).map encI ++ [i].map encI) := by first | exact hown2 | simpa using hown2
              obtain ⟨av2, cv2, rfl⟩ := own_form hown2
              go_wp2_with (at_builtin; go_loud (refine wpList_append_rd _ rfl _ _ 27 rfl w.heap.size 3 i0 (.int .i64 0) 8 Tryd.underlying27 hi0 hz0 hz1 hz2 rfl _ _ _ rfl hown2 _ ((xs.drop k).map encI) rfl (rd_over hkn2.out) (oneCells _) (by unfold maxLen; simp <;> omega) (by simp <;> omega) (by exact hb2.size) ?_))
              intro v3 w3 hown3 hg3 _
              have hb3 : Below w.heap.size w w3 := hb2.grown hg3 hb2.size (fun b hb => (hown2.lt b hb).1)
              go_wp2_with fail
              go_ret
              exact ⟨_, rfl, radd_fin hown3 (by rw [hadd.out]; simp), hb3⟩
        · have hkn2 : k = xs.length := by omega
          have hkd1 : decide ((k : Int) < (xs.length : Int)) = false := by simp; omega
          have hkd2 : decide (k < xs.length) = false := decide_eq_false hkn
          replace hkn2 := Lib.hid hkn2
          clear hkn
          have hc0t : (cap = 0) = False := by simp [hc0]
          have hckt : (cap = k) = True := by simp [hck]
          replace hck := Lib.hid hck
          replace hc0 := Lib.hid hc0
          go_enter Tryd.func13, Tryd.ntmps13
          go_wp2_with (go_at_call 17; refine hr.out.mono ?_; rintro e w' ⟨rfl, hw⟩; obtain rfl := hw.symm)
          go_loopw [5] (fun u wr => ∃ j : Nat, j ≤ k ∧ u = .int .i64 j ∧ wr = w) (fun u _ => k - (intOf u).toNat)
          case atStart => exact ⟨0, Nat.zero_le _, rfl, rfl⟩
          case round =>
            obtain ⟨j, hj, rfl, hwr⟩ := hrel
            obtain rfl := hwr.symm
            by_cases hjk : j < k
            · obtain ⟨x, hx, hxi⟩ := hlt.out j hjk
              have hjn : j < xs.length := by omega
              have hdx : decide (x < i) = true := decide_eq_true hxi
              have c1 := hcell.out j x hx
              clear hx
              go_wp2_with fail
              go_roundw
              case rel => exact ⟨j + 1, by omega, by go_num, (by first | rfl | exact trivial)⟩
              case measure => simp [intOf]; omega
            · have hjk2 : k = j := by omega
              clear hj hjk
              subst hjk2
              go_wp2_with (at_builtin; go_loud (refine wpList_append_rd _ rfl _ _ 27 rfl w.heap.size 3 i0 (.int .i64 0) 8 Tryd.underlying27 hi0 hz0 hz1 hz2 rfl _ 0 [] rfl (World.ownsRow_nil _ _ _ _) _ ((xs.take k).map encI) rfl (rd_take hg hcell.out hkl) (oneCells _) (by unfold maxLen; simp <;> omega) (by simp <;> omega) (by exact Nat.le_refl _) ?_))
              intro v1 w1 hown1 hg1 _
              have hb1 : Below w.heap.size w w1 := (Below.refl _ _).grown hg1 (Nat.le_refl _) (by simp [Value.ownBlock])
              replace hown1 : w1.ownsRow w.heap.size 3 1 v1 k ((xs.take k).map encI) := by first | exact hown1 | simpa [Nat.min_eq_left hkl] using hown1
              obtain ⟨av1, cv1, rfl⟩ := own_form hown1
              go_wp2_with (at_builtin; go_loud (refine wpList_append_rd _ rfl _ _ 27 rfl w.heap.size 3 i0 (.int .i64 0) 8 Tryd.underlying27 hi0 hz0 hz1 hz2 rfl _ _ _ rfl (hown1.alloc _) _ ([i].map encI) rfl (Or.inr ⟨w1.heap.size, 0, 1, rfl, by simp, cell_new1 _ _ _⟩) (oneCells _) (by unfold maxLen; simp <;> omega) (by simp <;> omega) (by have := hb1.size; simp <;> omega) ?_))
              intro v2 w2 hown2 hg2 _
              have hb2 : Below w.heap.size w w2 := (hb1.alloc hb1.size _).grown hg2 (by have := hb1.size; simp; omega) (fun b hb => (hown1.lt b hb).1)
              replace hown2 : w2.ownsRow w.heap.size 3 1 v2 (k + 1) ((xs.take k).map encI ++ [i].map encI) := by first | exact hown2 | simpa using hown2
              obtain ⟨av2, cv2, rfl⟩ := own_form hown2
              go_wp2_with (at_builtin; go_loud (refine wpList_append_rd _ rfl _ _ 27 rfl w.heap.size 3 i0 (.int .i64 0) 8 Tryd.underlying27 hi0 hz0 hz1 hz2 rfl _ _ _ rfl hown2 _ ((xs.drop k).map encI) rfl (rd_over hkn2.out) (oneCells _) (by unfold maxLen; simp <;> omega) (by simp <;> omega) (by exact hb2.size) ?_))
              intro v3 w3 hown3 hg3 _
              have hb3 : Below w.heap.size w w3 := hb2.grown hg3 hb2.size (fun b hb => (hown2.lt b hb).1)
              go_wp2_with fail
              go_ret
              exact ⟨_, rfl, radd_fin hown3 (by rw [hadd.out]; simp), hb3⟩
      · have hkn2 : k = xs.length := by omega
        have hkd1 : decide ((k : Int) < (xs.length : Int)) = false := by simp; omega
        have hkd2 : decide (k < xs.length) = false := decide_eq_false hkn
        replace hkn2 := Lib.hid hkn2
        clear hkn
        have hc0t : (cap = 0) = False := by simp; have := hkn2.out; omega
        have hckt : (cap = k) = False := by simp [hck]
        replace hck := Lib.hid hck
        go_enter Tryd.func13, Tryd.ntmps13
        go_wp2_with (go_at_call 17; refine hr.out.mono ?_; rintro e w' ⟨rfl, hw⟩; obtain rfl := hw.symm)
        go_loopw [5] (fun u wr => ∃ j : Nat, j ≤ k ∧ u = .int .i64 j ∧ wr = w) (fun u _ => k - (intOf u).toNat)
        case atStart => exact ⟨0, Nat.zero_le _, rfl, rfl⟩
        case round =>
          obtain ⟨j, hj, rfl, hwr⟩ := hrel
          obtain rfl := hwr.symm
          by_cases hjk : j < k
          · obtain ⟨x, hx, hxi⟩ := hlt.out j hjk
            have hjn : j < xs.length := by omega
            have hdx : decide (x < i) = true := decide_eq_true hxi
            have c1 := hcell.out j x hx
            clear hx
            go_wp2_with fail
            go_roundw
            case rel => exact ⟨j + 1, by omega, by go_num, (by first | rfl | exact trivial)⟩
            case measure => simp [intOf]; omega
          · have hjk2 : k = j := by omega
            clear hj hjk
            subst hjk2
            go_wp2_with (at_builtin; go_loud (refine wpList_append_rd _ rfl _ _ 27 rfl w.heap.size 3 i0 (.int .i64 0) 8 Tryd.underlying27 hi0 hz0 hz1 hz2 rfl _ 0 [] rfl (World.ownsRow_nil _ _ _ _) _ ((xs.take k).map encI) rfl (rd_take hg hcell.out hkl) (oneCells _) (by unfold maxLen; simp <;> omega) (by simp <;> omega) (by exact Nat.le_refl _) ?_))
            intro v1 w1 hown1 hg1 _
            have hb1 : Below w.heap.size w w1 := (Below.refl _ _).grown hg1 (Nat.le_refl _) (by simp [Value.ownBlock])
            replace hown1 : w1.ownsRow w.heap.size 3 1 v1 k ((xs.take k).map encI) := by first | exact hown1 | simpa [Nat.min_eq_left hkl] using hown1
            obtain ⟨av1, cv1, rfl⟩ := own_form hown1
            go_wp2_with (at_builtin; go_loud (refine wpList_append_rd _ rfl _ _ 27 rfl w.heap.size 3 i0 (.int .i64 0) 8 Tryd.underlying27 hi0 hz0 hz1 hz2 rfl _ _ _ rfl (hown1.alloc _) _ ([i].map encI) rfl (Or.inr ⟨w1.heap.size, 0, 1, rfl, by simp, cell_new1 _ _ _⟩) (oneCells _) (by unfold maxLen; simp <;> omega) (by simp <;> omega) (by have := hb1.size; simp <;> omega) ?_))
            intro v2 w2 hown2 hg2 _
            have hb2 : Below w.heap.size w w2 := (hb1.alloc hb1.size _).grown hg2 (by have := hb1.size; simp; omega) (fun b hb => (hown1.lt b hb).1)
            replace hown2 : w2.ownsRow w.heap.size 3 1 v2 (k + 1) ((xs.take k).map encI ++ [i].map encI) := by first | exact hown2 | simpa using hown2
            obtain ⟨av2, cv2, rfl⟩ := own_form hown2
            go_wp2_with (at_builtin; go_loud (refine wpList_append_rd _ rfl _ _ 27 rfl w.heap.size 3 i0 (.int .i64 0) 8 Tryd.underlying27 hi0 hz0 hz1 hz2 rfl _ _ _ rfl hown2 _ ((xs.drop k).map encI) rfl ((rd_drop hg hcell.out hkl).below hb2) (oneCells _) (by unfold maxLen; simp <;> omega) (by simp <;> omega) (by exact hb2.size) ?_))
            intro v3 w3 hown3 hg3 _
            have hb3 : Below w.heap.size w w3 := hb2.grown hg3 hb2.size (fun b hb => (hown2.lt b hb).1)
            go_wp2_with fail
            go_ret
            exact ⟨_, rfl, radd_fin hown3 (by rw [hadd.out]; simp), hb3⟩

theorem radd_any (h : Strip w v xs) (hlen : xs.length ≤ 100000) : Calls Tryd.prog 13 #[v, .int .i64 i] w fun e w' => ∃ v', e = .returned v' ∧ Strip w' v' (addL xs i) ∧ (v' = v ∨ ∀ b, v'.ownBlock = some b → w.heap.size ≤ b) ∧ Below w.heap.size w w' := by
  by_cases hi : i < 0 ∨ i ∈ xs
  · refine (radd_old h hi hlen).mono ?_
    rintro e w' ⟨rfl, rfl⟩
    rw [show addL xs i = xs from if_pos hi]
    exact ⟨_, rfl, h, Or.inl rfl, Below.refl _ _⟩
  · refine (radd_new h (by omega) (fun h => hi (Or.inr h)) hlen).mono ?_
    rintro e w' ⟨v', rfl, h1, h2⟩
    exact ⟨_, rfl, strip_down h1, Or.inr (fun b hb => (h1.lt b hb).1), h2⟩
end
end Go.Proofs.YtcimhljnboeobaaDoor
