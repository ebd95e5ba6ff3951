/- scc's gather: back from a node past those that have a component. -/
import Derived.Test.YtedleliddhhacaaSMath
import Derived.Test.YtedleliddhhacaaGReach
namespace Go.Proofs.Ytedleliddhhacaa
open Go.RowKit Go.Maps Go.Shelf

/-- Marks, as cells. -/
def markA (n : Nat) (m : Nat → Int) : Array Value := ((List.range n).map (fun x => Value.int .i64 (m x))).toArray
theorem markA_at {n x : Nat} {m : Nat → Int} (h : x < n) : (markA n m)[x]? = some (.int .i64 (m x)) := by
  unfold markA
  simp [h]
theorem markA_set {n x : Nat} {m m' : Nat → Int} {f : Int} (h : x < n) (h1 : m' x = f) (h2 : ∀ y, y ≠ x → m' y = m y) : (markA n m).setIfInBounds x (.int .i64 f) = markA n m' := by
  apply Array.ext'
  unfold markA
  rw [Array.toList_setIfInBounds]
  apply List.ext_getElem?
  intro i
  by_cases hi : i = x
  · subst hi
    rw [List.getElem?_set_self (by simpa using h)]
    simp [h, h1]
  · rw [List.getElem?_set_ne (by omega)]
    by_cases hin : i < n
    · simp [hin, h2 i hi]
    · rw [List.getElem?_eq_none (by simp; omega), List.getElem?_eq_none (by simp; omega)]
theorem markA_len (n : Nat) (m : Nat → Int) : (markA n m).size = n := by simp [markA]
open Classical in
/-- Marks with those of a list set. -/
noncomputable def withD (m : Nat → Int) (D : List Nat) (f : Nat) : Nat → Int := fun x => if x ∈ D then (f : Int) else m x

/-- How gather stands. -/
structure GS (w1 wr : World) (C n : Nat) (B : List (List Int)) (f : Nat) (s : List Nat) (m : Nat → Int) (D : List Nat) (k : List Int) (nv : Value) : Prop where
  c : wr.heap[C]? = some (.cells (markA n (withD m D f)) 3 (0, 0))
  row : wr.ownsRow w1.heap.size 3 1 nv k.length (k.map encI)
  T : Touch w1 wr (fun b => b = C)
  val : ∀ y ∈ k, 0 ≤ y ∧ y < n
  D1 : ∀ x ∈ D, Av B s f x
  k1 : ∀ y : Nat, (y : Int) ∈ k → y ∉ s → Av B s f y
  close : ∀ x ∈ D, ∀ z, Edge B x z → z ∈ D ∨ z ∈ s ∨ (z : Int) ∈ k
  start : f ∈ D ∨ f ∈ s ∨ (f : Int) ∈ k
  few : k.length + unseen n (D ++ s) * 100001 ≤ n * 100001 + 1
section
variable {w1 wr w' : World} {C n f : Nat} {B : List (List Int)} {s D : List Nat} {m : Nat → Int} {k : List Int} {nv nv' : Value}
theorem unseen_all2 (n : Nat) (s : List Nat) : unseen n s ≤ n := by
  unfold unseen
  exact Nat.le_trans (List.length_filter_le _ _) (by simp)
theorem GS.done (H : GS w1 wr C n B f s m D [] nv) (x : Nat) : x ∈ D ↔ Av B s f x := by
  refine ⟨H.D1 x, fun h => ?_⟩
  have hf := h.out.1
  have h0 : f ∈ D := by
    rcases H.start with h | h | h
    · exact h
    · exact absurd h hf
    · cases h
  exact h.closed (fun x hx z e hz => by
    rcases H.close x hx z e with h | h | h
    · exact h
    · exact absurd h hz
    · cases h) h0
theorem GS.pop {y : Nat} (H : GS w1 wr C n B f s m D (k ++ [(y : Int)]) nv) (hrow : wr.ownsRow w1.heap.size 3 1 nv' k.length (k.map encI)) (hy : y ∈ D ∨ y ∈ s) : GS w1 wr C n B f s m D k nv' := by
  have hm : ∀ z : Nat, (z : Int) ∈ k ++ [(y : Int)] → z = y ∨ (z : Int) ∈ k := by
    intro z hz
    rcases List.mem_append.1 hz with h | h
    · exact .inr h
    · exact .inl (Int.ofNat_inj.1 (by simpa using h))
  refine ⟨H.c, hrow, H.T, fun y hy => H.val y (List.mem_append_left _ hy), H.D1, fun y hy => H.k1 y (List.mem_append_left _ hy), fun x hx z e => ?_, ?_, ?_⟩
  · rcases H.close x hx z e with h | h | h
    · exact .inl h
    · exact .inr (.inl h)
    · rcases hm z h with rfl | h
      · rcases hy with h | h
        · exact .inl h
        · exact .inr (.inl h)
      · exact .inr (.inr h)
  · rcases H.start with h | h | h
    · exact .inl h
    · exact .inr (.inl h)
    · rcases hm f h with rfl | h
      · rcases hy with h | h
        · exact .inl h
        · exact .inr (.inl h)
      · exact .inr (.inr h)
  · have := H.few
    simp at this
    omega
theorem GS.go {y : Nat} {r : List Int} (H : GS w1 wr C n B f s m D (k ++ [(y : Int)]) nv) (hc : w'.heap[C]? = some (.cells (markA n (withD m (y :: D) f)) 3 (0, 0))) (hT : Touch w1 w' (fun b => b = C))
    (hrow : w'.ownsRow w1.heap.size 3 1 nv' (k.length + r.length) (k.map encI ++ r.map encI)) (hB : B.length = n) (hr : B[y]? = some r) (hrl : r.length ≤ 100000) (hv : ∀ x ∈ r, 0 ≤ x ∧ x < n) (hy : y ∉ D ++ s) (hyn : y < n) : GS w1 w' C n B f s m (y :: D) (k ++ r) nv' := by
  have hyD : y ∉ D := fun h => hy (List.mem_append_left _ h)
  have hys : y ∉ s := fun h => hy (List.mem_append_right _ h)
  have hway : Av B s f y := H.k1 y (by simp) hys
  have hm : ∀ z : Nat, (z : Int) ∈ k ++ [(y : Int)] → z = y ∨ (z : Int) ∈ k := by
    intro z hz
    rcases List.mem_append.1 hz with h | h
    · exact .inr h
    · exact .inl (Int.ofNat_inj.1 (by simpa using h))
  have he : ∀ z : Nat, Edge B y z → (z : Int) ∈ r := by
    rintro z ⟨hz, r', hr', hm⟩
    rw [hr] at hr'
    obtain rfl := Option.some.inj hr'
    exact hm
  refine ⟨hc, by rw [List.length_append, List.map_append]; exact hrow, hT, fun z hz => ?_, fun x hx => ?_, fun z hz hzs => ?_, fun x hx z e => ?_, ?_, ?_⟩
  · rcases List.mem_append.1 hz with h | h
    · exact H.val z (List.mem_append_left _ h)
    · exact hv z h
  · rcases List.mem_cons.1 hx with rfl | hx
    · exact hway
    · exact H.D1 x hx
  · rcases List.mem_append.1 hz with h | h
    · exact H.k1 z (List.mem_append_left _ h) hzs
    · exact .step hway ⟨by have := hv z h; omega, r, hr, h⟩ hzs
  · rcases List.mem_cons.1 hx with rfl | hx
    · exact .inr (.inr (List.mem_append_right _ (he z e)))
    · rcases H.close x hx z e with h | h | h
      · exact .inl (List.Mem.tail _ h)
      · exact .inr (.inl h)
      · rcases hm z h with rfl | h
        · exact .inl (List.Mem.head _)
        · exact .inr (.inr (List.mem_append_left _ h))
  · rcases H.start with h | h | h
    · exact .inl (List.Mem.tail _ h)
    · exact .inr (.inl h)
    · rcases hm f h with rfl | h
      · exact .inl (List.Mem.head _)
      · exact .inr (.inr (List.mem_append_left _ h))
  · have h1 := H.few
    have h2 := unseen_lt (n := n) hyn hy
    rw [List.cons_append]
    simp only [List.length_append, List.length_cons, List.length_nil] at h1 ⊢
    omega
end
theorem own_one {w : World} {base : Nat} {x : Value} (hb : base ≤ w.heap.size) : (w.alloc (.cells #[x] 3)).ownsRow base 3 1 (.slice (some ⟨w.heap.size, 0, none⟩) 1 1) 1 [x] :=
  ⟨rfl, .inr ⟨w.heap.size, 1, #[x], rfl, hb, heap_alloc_new w _, Nat.le_refl _, by decide, rfl, rfl⟩⟩

def GatIn (w1 : World) (C n : Nat) (B : List (List Int)) (f : Nat) (s : List Nat) (m : Nat → Int) (wr : World) (nv : Value) (g : Nat) : Prop :=
  ∃ D k nv', nv' = nv ∧ GS w1 wr C n B f s m D k nv' ∧ Hid (g = k.length + unseen n (D ++ s) * 100001)

set_option maxRecDepth 20000 in
set_option maxHeartbeats 4000000 in
theorem gather_any {w : World} {W C n f : Nat} {gv : Value} {B : List (List Int)} {m : Nat → Int} {s : List Nat}
    (hW : w.heap[W]? = some (.cells #[gv, .slice (some ⟨C, 0, none⟩) n n] 73 (0, 0))) (hC : w.heap[C]? = some (.cells (markA n m) 3 (0, 0))) (hCW : W ≠ C)
    (hg : RdX (fun b => b = C) w gv B) (hB : B.length = n) (hn : n ≤ 100000) (hr : ∀ r ∈ B, r.length ≤ 100000) (hv : ∀ r ∈ B, ∀ x ∈ r, 0 ≤ x ∧ x < n) (hf : f < n) (hs : ∀ x, x ∈ s ↔ m x ≠ -1) :
    Calls Try.prog 34 #[.pointer (some ⟨W, 0, none⟩), .int .i64 f] w fun e w' => e = .returned (.tuple #[]) ∧ ∃ D, w'.heap[C]? = some (.cells (markA n (withD m D f)) 3 (0, 0)) ∧ (∀ x, x ∈ D ↔ Av B s f x) ∧ Touch w w' (fun b => b = C) := by
  have hT0 : Touch w (w.alloc (.cells #[.int .i64 f] 3)) (fun b => b = C) := (Touch.refl _ _).alloc _
  have hCl : C < w.heap.size := (Array.getElem?_eq_some_iff.1 hC).1
  have hWl : W < w.heap.size := (Array.getElem?_eq_some_iff.1 hW).1
  have hS : GS w (w.alloc (.cells #[.int .i64 f] 3)) C n B f s m [] [(f : Int)] (.slice (some ⟨w.heap.size, 0, none⟩) 1 1) := by
    refine ⟨?_, own_one (Nat.le_refl _), hT0, by simp; omega, by simp, fun y hy hys => ?_, by simp, by simp, ?_⟩
    · have : markA n (withD m [] f) = markA n m := by unfold markA withD; simp
      rw [this]
      exact (((Touch.refl w (fun _ => False)).alloc (.cells #[.int .i64 f] 3)).block C hCl (fun h => h)).trans hC
    · obtain rfl : y = f := by
        have : (y : Int) = f := by simpa using hy
        omega
      exact .refl (by omega) hys
    · have := unseen_all2 n s
      simp only [List.nil_append, List.length_cons, List.length_nil]
      omega
  have hwr : ∀ {wr : World}, Touch w wr (fun b => b = C) → wr.heap[W]? = some (.cells #[gv, .slice (some ⟨C, 0, none⟩) n n] 73 (0, 0)) := fun hT => (hT.block W hWl hCW).trans hW
  replace hr := Lib.hid hr
  replace hv := Lib.hid hv
  replace hs := Lib.hid hs
  replace hwr := @Lib.hid _ @hwr
  clear hT0 hW
  go_enter Try.func34, Try.ntmps34
  go_wp2_with fail
  go_loopg [4, 5] (1 + unseen n s * 100001) (fun g nv _ wr => GatIn w C n B f s m wr nv g)
  case atStart => exact ⟨[], [(f : Int)], _, rfl, hS, Lib.hid rfl⟩
  case round =>
    clear hS
    obtain ⟨D, k, nv, hnv, H, hgk⟩ := hrel
    subst hnv
    have W0 : wr.cell? ⟨W, 0, none⟩ = some gv := by rw [blk_cell (hwr.out H.T)]; rfl
    have W1 : wr.cell? ⟨W, 1, none⟩ = some (.slice (some ⟨C, 0, none⟩) n n) := by rw [blk_cell (hwr.out H.T)]; rfl
    rcases List.eq_nil_or_concat k with rfl | ⟨k', y, rfl⟩
    · obtain ⟨ao, co, rfl⟩ : ∃ a c, nv = .slice a 0 c := own_form H.row
      have d1 : decide ((0 : Int) > 0) = false := by simp
      replace H := Lib.hid H
      go_wp2_with fail
      go_end0
      exact ⟨rfl, D, H.out.c, H.out.done, H.out.T⟩
    · rw [List.concat_eq_append] at H hgk
      have hrow0 : wr.ownsRow w.heap.size 3 1 nv (k'.length + 1) (k'.map encI ++ [encI y]) := by
        have := H.row
        rwa [List.length_append, List.map_append] at this
      obtain ⟨hy0, hyn⟩ := H.val y (by simp)
      obtain ⟨y, rfl⟩ : ∃ z : Nat, y = z := ⟨y.toNat, by omega⟩
      have hyn' : y < n := by omega
      obtain ⟨rb, co, rfl⟩ := row_form hrow0 (by omega)
      have hcapk : k'.length + 1 ≤ co ∧ w.heap.size ≤ rb := by
        obtain ⟨_, ⟨e, _⟩ | ⟨g', cap', cur', e, hB', _, hnc, _⟩⟩ := hrow0
        · cases e
        · simp only [Value.slice.injEq, Option.some.injEq, Addr.mk.injEq] at e; exact ⟨by omega, by omega⟩
      have hfew := H.few
      rw [List.length_append] at hfew
      simp only [List.length_cons, List.length_nil] at hfew
      have hklen : k'.length ≤ 10000200000 := by
        have : n * 100001 ≤ 100000 * 100001 := Nat.mul_le_mul_right _ hn
        omega
      have hpop := own_pop hrow0 (by simp)
      have v0 : wr.cell? ⟨rb, k'.length, none⟩ = some (.int .i64 y) := by
        rw [hrow0.cellAt k'.length (by simp), List.getElem?_append_right (by simp)]
        simp [encI]
      have hsl1 : (k'.length : Int) ≤ (co : Int) := by omega
      have d1 : decide ((k'.length : Int) + 1 > 0) = true := by simp
      have d2 : (k'.length : Int) + 1 - 1 = (k'.length : Int) := by omega
      have d3 : IntKind.i64.wrap ((k'.length : Int) + 1 - 1) = (k'.length : Int) := by rw [d2]; exact IntWalk.i64_in _ (by omega)
      have d4 : IntKind.i64.wrap (k'.length : Int) = (k'.length : Int) := IntWalk.i64_in _ (by omega)
      have i3 : (y : Int) < (n : Int) := by omega
      have c0 : wr.cell? ⟨C, y, none⟩ = some (.int .i64 (withD m D f y)) := by rw [blk_cell H.c]; exact markA_at hyn'
      obtain ⟨r, hry⟩ : ∃ r, B[y]? = some r := ⟨_, List.getElem?_eq_getElem (by omega)⟩
      by_cases hin : y ∈ D ∨ y ∈ s
      · have hne : withD m D f y ≠ -1 := by
          unfold withD
          split
          · omega
          · exact (hs.out y).1 (hin.resolve_left (by assumption))
        obtain ⟨z, hz⟩ : ∃ z, z = withD m D f y := ⟨_, rfl⟩
        rw [← hz] at hne c0
        have d5 : (z == -1) = false := by simp [hne]
        have H2 := Lib.hid (H.pop hpop hin)
        have hlt : k'.length + unseen n (D ++ s) * 100001 < gk := by rw [hgk.out, List.length_append]; simp
        clear H hpop hrow0 hne hz hin hgk
        go_wp2_with fail
        go_roundg (k'.length + unseen n (D ++ s) * 100001)
        case rel => exact ⟨D, k', _, rfl, H2.out, Lib.hid rfl⟩
        case measure => exact hlt
      · have hinD : y ∉ D := fun h => hin (.inl h)
        have hins : y ∉ s := fun h => hin (.inr h)
        have hz : withD m D f y = -1 := by
          unfold withD
          rw [if_neg hinD]
          have := hs.out y
          by_cases h : m y = -1
          · exact h
          · exact absurd (this.2 h) hins
        rw [hz] at c0
        have cf : wr.frozen? ⟨C, y, none⟩ = false := by simp [World.frozen?, H.c]
        have hrl : r.length ≤ 100000 := hr.out r (List.mem_of_getElem? hry)
        have hrv := hv.out r (List.mem_of_getElem? hry)
        obtain ⟨bg, og, cg', u, eg, hbg, hUg, hcg, hrg, hog⟩ := hg.at hry
        rw [hB] at eg
        have TS : Touch wr (wr.setCell ⟨C, y, none⟩ (.int .i64 f)) (fun b => b = C) := (Touch.refl wr (fun b => b = C)).setCell (a := ⟨C, y, none⟩) (fun _ => rfl) _
        have TS1 : Touch w (wr.setCell ⟨C, y, none⟩ (.int .i64 f)) (fun b => b = C) := H.T.trans TS
        have hrx : RdI (wr.setCell ⟨C, y, none⟩ (.int .i64 f)) u r := Rd.off hrg TS1 (by rw [List.length_map]; exact hog)
        have gx : (wr.setCell ⟨C, y, none⟩ (.int .i64 f)).cell? ⟨bg, og + y, none⟩ = some u := (cell_off TS1 hbg hUg).trans hcg
        have wx0 : (wr.setCell ⟨C, y, none⟩ (.int .i64 f)).cell? ⟨W, 0, none⟩ = some gv := by rw [blk_cell (hwr.out TS1)]; rfl
        have hbs : (wr.setCell ⟨C, y, none⟩ (.int .i64 f)).heap[C]? = some (.cells (markA n (withD m (y :: D) f)) 3 (0, 0)) := by
          rw [blk_set _ H.c, markA_set hyn' (m' := withD m (y :: D) f)]
          · simp [withD]
          · intro x hx
            simp [withD, hx]
        have hpopS : (wr.setCell ⟨C, y, none⟩ (.int .i64 f)).ownsRow w.heap.size 3 1 (.slice (some ⟨rb, 0, none⟩) k'.length co) k'.length (k'.map encI) :=
          ownsRow_touch hpop TS (fun b hb e => by simp [Value.ownBlock] at hb; omega)
        have hsz := TS1.size
        obtain ⟨i0, hi0, hz0, hz1, hz2⟩ := info_parts infoI1
        obtain ⟨ar, cr, rfl⟩ := hrx.shape
        obtain ⟨gb, rfl⟩ : ∃ c, gv = .slice (some ⟨bg, og, none⟩) n c := ⟨_, eg⟩
        replace hrx := Lib.hid hrx
        replace hpopS := Lib.hid hpopS
        replace hbs := Lib.hid hbs
        replace TS1 := Lib.hid TS1
        replace H := Lib.hid H
        have hnotin : Hid (y ∉ D ++ s) := Lib.hid (fun h => hin (by simpa using h))
        clear hin hinD hins hz hpop hrow0 hcg hrg hog TS eg
        go_wp2_with (at_builtin; go_loud (refine wpList_append_rd _ rfl _ _ 45 rfl w.heap.size 3 i0 (.int .i64 0) 8 Try.underlying45 hi0 hz0 hz1 hz2 rfl _ _ _ rfl hpopS.out _ (r.map encI) rfl hrx.out (oneCells _) (by unfold maxLen; simp <;> omega) (by simp <;> omega) (by exact hsz) ?_))
        intro v' w2 hown2 hgrow hat
        have TG : Touch (wr.setCell ⟨C, y, none⟩ (.int .i64 f)) w2 (fun b => (Value.slice (some ⟨rb, 0, none⟩) k'.length co).ownBlock = some b) := Touch.of_grown hgrow (fun k hk => hk)
        have hT2 : Touch w w2 (fun b => b = C) := Touch.join TS1.out TG (fun k hk e => by simp [Value.ownBlock] at e; omega)
        have hc2 : w2.heap[C]? = some (.cells (markA n (withD m (y :: D) f)) 3 (0, 0)) := (TG.block C (Nat.lt_of_lt_of_le hCl hsz) (fun e => by simp [Value.ownBlock] at e; omega)).trans hbs.out
        have H2 := Lib.hid (H.out.go hc2 hT2 hown2 hB hry hrl hrv hnotin.out hyn')
        have hlt : (k' ++ r).length + unseen n ((y :: D) ++ s) * 100001 < gk := by
          rw [hgk.out, List.length_append, List.length_append, List.cons_append]
          have := unseen_lt (n := n) hyn' hnotin.out
          simp only [List.length_cons, List.length_nil]
          omega
        clear H hown2 hgrow hat TG hT2 hc2 hgk
        go_wp2_with fail
        go_roundg ((k' ++ r).length + unseen n ((y :: D) ++ s) * 100001)
        case rel => exact ⟨y :: D, k' ++ r, _, rfl, H2.out, Lib.hid rfl⟩
        case measure => exact hlt
end Go.Proofs.Ytedleliddhhacaa
