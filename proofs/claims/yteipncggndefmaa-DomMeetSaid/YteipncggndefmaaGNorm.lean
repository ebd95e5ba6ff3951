/- A graph in form: the contract of graph.Norm. -/
import Derived.Test.YteipncggndefmaaGMat
namespace Go.Proofs.Yteipncggndefmaa
open Go.RowKit Go.Maps Go.Shelf

/-- A slice of slices that the call made: its block, its rows in blocks of their own. -/
structure Mat (w : World) (base G : Nat) (vs : List Value) (L : List (List Int)) : Prop where
  len : vs.length = L.length
  blk : w.heap[G]? = some (.cells vs.toArray 25 (0, 0))
  low : base ≤ G
  row : ∀ (i : Nat) (u : Value) (l : List Int), vs[i]? = some u → L[i]? = some l → w.ownsRow base 3 1 u l.length (l.map encI)
  notG : ∀ (i : Nat) (u : Value), vs[i]? = some u → u.ownBlock ≠ some G
  apart : ∀ (i j : Nat) (u v : Value) (b : Nat), i ≠ j → vs[i]? = some u → vs[j]? = some v → u.ownBlock = some b → v.ownBlock ≠ some b

section
variable {w w' : World} {base G : Nat} {vs : List Value} {L : List (List Int)}
theorem Mat.lt (M : Mat w base G vs L) : G < w.heap.size := (Array.getElem?_eq_some_iff.1 M.blk).1
theorem Mat.cell (M : Mat w base G vs L) {i : Nat} {u : Value} (h : vs[i]? = some u) : w.cell? ⟨G, i, none⟩ = some u := by
  rw [blk_cell M.blk]; simpa using h
theorem Mat.free (M : Mat w base G vs L) (i : Nat) : w.frozen? ⟨G, i, none⟩ = false := by simp [World.frozen?, M.blk]
theorem Mat.at (M : Mat w base G vs L) {i : Nat} {l : List Int} (h : L[i]? = some l) : ∃ u, vs[i]? = some u ∧ w.ownsRow base 3 1 u l.length (l.map encI) := by
  have hi := (List.getElem?_eq_some_iff.1 h).1
  obtain ⟨u, hu⟩ : ∃ u, vs[i]? = some u := ⟨_, List.getElem?_eq_getElem (by rw [M.len]; exact hi)⟩
  exact ⟨u, hu, M.row i u l hu h⟩
/-- Nothing of it is touched. -/
theorem Mat.kept {S : Nat → Prop} (M : Mat w base G vs L) (h : Touch w w' S) (hG : ¬ S G) (hr : ∀ (i : Nat) (u : Value) (b : Nat), vs[i]? = some u → u.ownBlock = some b → ¬ S b) : Mat w' base G vs L :=
  ⟨M.len, (h.block G M.lt hG).trans M.blk, M.low, fun i u l hu hl => ownsRow_touch (M.row i u l hu hl) h (fun b hb => hr i u b hu hb), M.notG, M.apart⟩
theorem Mat.below (M : Mat w base G vs L) (h : Below w.heap.size w w') : Mat w' base G vs L :=
  M.kept (Touch.of_below h (fun _ => False)) (fun h => h) (fun _ _ _ _ _ h => h)
/-- A row turns, in place or into a new block, and is stored. -/
theorem Mat.turn (M : Mat w base G vs L) {i : Nat} {u u' : Value} {l l' : List Int} (hu : vs[i]? = some u) (hl : L[i]? = some l) (h : Touch w w' (fun b => u.ownBlock = some b))
    (h' : w'.ownsRow base 3 1 u' l'.length (l'.map encI)) (hn : ∀ b, u'.ownBlock = some b → u.ownBlock = some b ∨ w.heap.size ≤ b) :
    Mat (w'.setCell ⟨G, i, none⟩ u') base G (vs.set i u') (L.set i l') := by
  have hiv := (List.getElem?_eq_some_iff.1 hu).1
  have hil := (List.getElem?_eq_some_iff.1 hl).1
  have hG := M.lt
  have hblk : w'.heap[G]? = some (.cells vs.toArray 25 (0, 0)) := (h.block G hG (M.notG i u hu)).trans M.blk
  have hset : Touch w' (w'.setCell ⟨G, i, none⟩ u') (fun b => b = G) := (Touch.refl w' (fun b => b = G)).setCell (a := ⟨G, i, none⟩) (fun _ => rfl) _
  have hnG : ∀ b, u'.ownBlock = some b → b ≠ G := by
    rintro b hb rfl
    rcases hn _ hb with h1 | h1
    · exact M.notG i u hu h1
    · omega
  refine ⟨by simp [M.len], ?_, M.low, fun j x m hx hm => ?_, fun j x hx => ?_, fun j k x y b hjk hx hy hb => ?_⟩
  · rw [blk_set u' hblk]
    simp
  · by_cases hj : j = i
    · subst hj
      rw [List.getElem?_set_self hiv] at hx
      rw [List.getElem?_set_self hil] at hm
      obtain rfl := Option.some.inj hx
      obtain rfl := Option.some.inj hm
      exact ownsRow_touch h' hset hnG
    · rw [List.getElem?_set_ne (by omega)] at hx hm
      exact ownsRow_touch (ownsRow_touch (M.row j x m hx hm) h (fun b hb hb' => M.apart i j u x b (by omega) hu hx hb' hb)) hset (fun b hb e => M.notG j x hx (by rw [hb, e]))
  · by_cases hj : j = i
    · subst hj
      rw [List.getElem?_set_self hiv] at hx
      obtain rfl := Option.some.inj hx
      exact fun e => hnG _ e rfl
    · rw [List.getElem?_set_ne (by omega)] at hx
      exact M.notG j x hx
  · have hsz : ∀ (t : Nat) (z : Value) (c : Nat), vs[t]? = some z → z.ownBlock = some c → c < w.heap.size := by
      intro t z c hz hc
      obtain ⟨m, hm⟩ : ∃ m, L[t]? = some m := ⟨_, List.getElem?_eq_getElem (by rw [← M.len]; exact (List.getElem?_eq_some_iff.1 hz).1)⟩
      exact ((M.row t z m hz hm).lt c hc).2
    by_cases hj : j = i
    · subst hj
      rw [List.getElem?_set_self hiv] at hx
      rw [List.getElem?_set_ne (by omega)] at hy
      obtain rfl := Option.some.inj hx
      rcases hn b hb with h1 | h1
      · exact M.apart j k u y b hjk hu hy h1
      · exact fun e => by have := hsz k y b hy e; omega
    · rw [List.getElem?_set_ne (by omega)] at hx
      by_cases hk : k = i
      · subst hk
        rw [List.getElem?_set_self hiv] at hy
        obtain rfl := Option.some.inj hy
        intro e
        rcases hn b e with h1 | h1
        · exact M.apart k j u x b (by omega) hu hx h1 hb
        · have := hsz j x b hx hb; omega
      · rw [List.getElem?_set_ne (by omega)] at hy
        exact M.apart j k x y b hjk hx hy hb
/-- One more is appended to a row, and the row is stored: what is known ahead of the store, and behind it. -/
theorem Mat.appended (M : Mat w base G vs L) {w2 : World} {i : Nat} {u v' : Value} {F : List Int} {x : Int} {o : Obj} (hu : vs[i]? = some u) (hl : L[i]? = some F) (hown : w2.ownsRow base 3 1 v' (F.length + 1) (F.map encI ++ [.int .i64 x]))
    (hgrow : (w.alloc o).grownBy w2 u.ownBlock) (hat : v'.ownBlock = u.ownBlock ∨ v'.ownBlock = some (w.heap.size + 1)) :
    (∃ a c, v' = .slice a (F.length + 1) c) ∧ w2.cell? ⟨G, i, none⟩ = some u ∧ w2.frozen? ⟨G, i, none⟩ = false ∧ Touch w w2 (fun b => u.ownBlock = some b) ∧ (∀ b, v'.ownBlock = some b → u.ownBlock = some b ∨ w.heap.size ≤ b) ∧
      Mat (w2.setCell ⟨G, i, none⟩ v') base G (vs.set i v') (L.set i (F ++ [x])) := by
  have T : Touch w w2 (fun b => u.ownBlock = some b) := Touch.trans ((Touch.refl w (fun b => u.ownBlock = some b)).alloc o) (Touch.of_grown hgrow (fun k hk => hk))
  have hblk2 := (T.block G M.lt (M.notG i _ hu)).trans M.blk
  have hn : ∀ b, v'.ownBlock = some b → u.ownBlock = some b ∨ w.heap.size ≤ b := fun b hb => by
    rcases hat with e | e
    · exact .inl (e ▸ hb)
    · rw [e] at hb
      exact .inr (by injection hb with hb; omega)
  exact ⟨own_form hown, by rw [blk_cell hblk2]; simpa using hu, by simp [World.frozen?, hblk2], T, hn, M.turn hu hl T (by simpa [encI] using hown) hn⟩
/-- A row turns where it stands. -/
theorem Mat.here (M : Mat w base G vs L) {i : Nat} {u : Value} {l l' : List Int} (hu : vs[i]? = some u) (hl : L[i]? = some l) (h : Touch w w' (fun b => u.ownBlock = some b))
    (h' : w'.ownsRow base 3 1 u l'.length (l'.map encI)) : Mat w' base G vs (L.set i l') := by
  have hil := (List.getElem?_eq_some_iff.1 hl).1
  refine ⟨by simp [M.len], (h.block G M.lt (M.notG i u hu)).trans M.blk, M.low, fun j x m hx hm => ?_, M.notG, M.apart⟩
  by_cases hj : j = i
  · subst hj
    rw [List.getElem?_set_self hil] at hm
    rw [hu] at hx
    obtain rfl := Option.some.inj hx
    obtain rfl := Option.some.inj hm
    exact h'
  · rw [List.getElem?_set_ne (by omega)] at hm
    exact ownsRow_touch (M.row j x m hx hm) h (fun b hb hb' => M.apart i j u x b (by omega) hu hx hb' hb)
theorem Mat.rd (M : Mat w base G vs L) {n cap : Nat} (hn : n = L.length) : RdG w (.slice (some ⟨G, 0, none⟩) n cap) L := by
  subst hn
  refine ⟨vs, ?_, M.len, fun i u l hu hl => ?_⟩
  · refine Or.inr ⟨G, 0, cap, by rw [M.len], M.lt, fun i x hx => ?_⟩
    rw [Nat.zero_add]
    exact M.cell hx
  · exact strip_rd (M.row i u l hu hl)
end

theorem isnode_any {w : World} {v : Value} {n : Nat} {a : Option Addr} {cap : Nat} {x : Int} (hv : v = .slice a n cap) : Calls Try.prog 32 #[v, .int .i64 x] w fun e w' => e = .returned (.bool (validI n x)) ∧ w = w' := by
  subst hv
  by_cases h0 : 0 ≤ x
  · have d1 : decide (x ≥ 0) = true := by simpa using h0
    by_cases h1 : x < n
    · have d2 : decide (x < (n : Int)) = true := by simpa using h1
      have d3 : validI n x = true := by simp [validI, h0, h1]
      rw [d3]
      go_enter Try.func32, Try.ntmps32
      go_wp2_with fail
      go_ret
      exact ⟨rfl, rfl⟩
    · have d2 : decide (x < (n : Int)) = false := by simpa using h1
      have d3 : validI n x = false := by simp [validI, h1]
      rw [d3]
      go_enter Try.func32, Try.ntmps32
      go_wp2_with fail
      go_ret
      exact ⟨rfl, rfl⟩
  · have d1 : decide (x ≥ 0) = false := by simpa using h0
    have d3 : validI n x = false := by simp [validI, h0]
    rw [d3]
    go_enter Try.func32, Try.ntmps32
    go_wp2_with fail
    go_ret
    exact ⟨rfl, rfl⟩

theorem sort_row {n : Nat} {r : List Int} : Lib.compact ((r.filter (validI n)).mergeSort fun x y => decide (x ≤ y)) = rowL n r := by
  have hs : ((r.filter (validI n)).mergeSort fun x y => decide (x ≤ y)).Pairwise (· ≤ ·) := by
    have := List.pairwise_mergeSort (le := fun (x y : Int) => decide (x ≤ y)) (by intro a b c; simp; omega) (by intro a b; simp; omega) (r.filter (validI n))
    exact this.imp (by intro a b h; simpa using h)
  obtain ⟨h1, h2⟩ := compact_rise _ hs
  refine (rowL_eq h1 (fun x => ?_)).symm
  rw [h2, List.mem_mergeSort, List.mem_filter]
  simp [validI]

/-- The rows of which the first are in form. -/
def curL (L : List (List Int)) (i : Nat) : List (List Int) := (L.take i).map (rowL L.length) ++ List.replicate (L.length - i) []
theorem curL_len {L : List (List Int)} {i : Nat} (hi : i ≤ L.length) : (curL L i).length = L.length := by simp [curL]; omega
theorem curL_zero (L : List (List Int)) : curL L 0 = List.replicate L.length [] := by simp [curL]
theorem curL_end (L : List (List Int)) : curL L L.length = normL L := by simp [curL, normL]
theorem curL_at {L : List (List Int)} {i : Nat} (hi : i < L.length) : (curL L i)[i]? = some [] := by
  unfold curL
  rw [List.getElem?_append_right (by simp; omega), show i - ((L.take i).map (rowL L.length)).length = 0 from by simp; omega, show L.length - i = (L.length - (i + 1)) + 1 from by omega, List.replicate_succ]
  rfl
theorem curL_succ {L : List (List Int)} {i : Nat} {r : List Int} (hr : L[i]? = some r) : (curL L i).set i (rowL L.length r) = curL L (i + 1) := by
  have hi := (List.getElem?_eq_some_iff.1 hr).1
  unfold curL
  rw [List.set_append_right _ _ (by simp; omega), take_snoc hr, List.map_append, List.append_assoc]
  congr 1
  have : i - ((L.take i).map (rowL L.length)).length = 0 := by simp; omega
  rw [this, show L.length - i = (L.length - (i + 1)) + 1 from by omega, List.replicate_succ]
  rfl
end Go.Proofs.Yteipncggndefmaa
