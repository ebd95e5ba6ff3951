/- scc.Comps, walked. -/
import Derived.Test.YtedleliddhhacaaSLeast
namespace Go.Proofs.Ytedleliddhhacaa
open Go.RowKit Go.Maps Go.Shelf

theorem size_any {w : World} {v : Value} {n cap : Nat} {a : Option Addr} (hv : v = .slice a n cap) : Calls Try.prog 32 #[v] w fun e w' => e = .returned (.int .i64 n) ∧ w = w' := by
  subst hv
  go_enter Try.func32, Try.ntmps32
  go_wp2_with fail
  go_ret
  exact ⟨rfl, rfl⟩

/-- The walk's state, made in any order: the graph turned round, the marks, the struct. -/
structure CP (w w3 : World) (K : Array Value) (n : Nat) (B : List (List Int)) (oB oC oW : Option Nat) : Prop where
  old : Below w.heap.size w w3
  bk : ∀ G, oB = some G → RdX (fun b => oC = some b ∨ oW = some b) w3 (.slice (some ⟨G, 0, none⟩) n n) B
  cm : ∀ C, oC = some C → w3.heap[C]? = some (.cells (markA n (fun _ => 0)) 3 (0, 0)) ∧ w.heap.size ≤ C ∧ C < w3.heap.size
  wk : ∀ W, oW = some W → w3.heap[W]? = some (.cells K 73 (0, 0)) ∧ w.heap.size ≤ W ∧ W < w3.heap.size
  apart : ∀ C W, oC = some C → oW = some W → C ≠ W
section
variable {w w3 : World} {K : Array Value} {n : Nat} {B : List (List Int)} {oB oC oW : Option Nat}
abbrev K0 : Array Value := #[.slice none 0 0, .slice none 0 0]
theorem CP.start (w : World) : CP w w K0 n B none none none := ⟨Below.refl _ _, fun _ h => (by cases h), fun _ h => (by cases h), fun _ h => (by cases h), fun _ _ h => (by cases h)⟩
theorem CP.below {w4 : World} (p : CP w w3 K n B oB oC oW) (hb : Below w3.heap.size w3 w4) : CP w w4 K n B oB oC oW := by
  have hle := hb.size
  refine ⟨p.old.trans (hb.mono p.old.size), fun G hG => (p.bk G hG).below hb, fun C hC => ?_, fun W hW => ?_, p.apart⟩
  · obtain ⟨h1, h2, h3⟩ := p.cm C hC
    exact ⟨(hb.block C h3).trans h1, h2, by omega⟩
  · obtain ⟨h1, h2, h3⟩ := p.wk W hW
    exact ⟨(hb.block W h3).trans h1, h2, by omega⟩
theorem CP.drew (p : CP w w3 K n B oB oC oW) : CP w w3.drew K n B oB oC oW := p.below (Below.refl _ _).drew
theorem CP.marks (p : CP w w3 K n B oB none oW) {C : Nat} (hC : C = w3.heap.size) : CP w (w3.alloc (.cells (markA n (fun _ => 0)) 3)) K n B oB (some C) oW := by
  subst hC
  have hb : Below w3.heap.size w3 (w3.alloc (.cells (markA n (fun _ => 0)) 3)) := (Below.refl _ _).alloc (Nat.le_refl _) _
  have q := p.below hb
  have hlt : w3.heap.size < (w3.alloc (.cells (markA n (fun _ => 0)) 3)).heap.size := by simp
  refine ⟨q.old, fun G hG => ?_, fun C h => ?_, q.wk, fun C W h1 h2 => ?_⟩
  · refine RdX.mono ((p.bk G hG).plus.below hb) (fun b e => ?_)
    rcases e with e | e
    · obtain rfl := Option.some.inj e
      exact .inr (Nat.le_refl _)
    · exact .inl (.inr e)
  · obtain rfl := Option.some.inj h
    exact ⟨heap_alloc_new _ _, p.old.size, hlt⟩
  · obtain rfl := Option.some.inj h1
    have := (p.wk W h2).2.2
    omega
theorem CP.box {K' : Array Value} (p : CP w w3 K n B oB oC none) {W : Nat} (hW : W = w3.heap.size) : CP w (w3.alloc (.cells K' 73)) K' n B oB oC (some W) := by
  subst hW
  have hb : Below w3.heap.size w3 (w3.alloc (.cells K' 73)) := (Below.refl _ _).alloc (Nat.le_refl _) _
  have q := p.below hb
  have hlt : w3.heap.size < (w3.alloc (.cells K' 73)).heap.size := by simp
  refine ⟨q.old, fun G hG => ?_, q.cm, fun W h => ?_, fun C W h1 h2 => ?_⟩
  · refine RdX.mono ((p.bk G hG).plus.below hb) (fun b e => ?_)
    rcases e with e | e
    · exact .inl (.inl e)
    · obtain rfl := Option.some.inj e
      exact .inr (Nat.le_refl _)
  · obtain rfl := Option.some.inj h
    exact ⟨heap_alloc_new _ _, p.old.size, hlt⟩
  · obtain rfl := Option.some.inj h2
    have := (p.cm C h1).2.2
    omega
theorem CP.c0 {W : Nat} (p : CP w w3 K0 n B oB oC (some W)) : w3.cell? ⟨W, 0, none⟩ = some (.slice none 0 0) := by rw [blk_cell (p.wk W rfl).1]; rfl
theorem CP.c1 {W : Nat} (p : CP w w3 K0 n B oB oC (some W)) : w3.cell? ⟨W, 1, none⟩ = some (.slice none 0 0) := by rw [blk_cell (p.wk W rfl).1]; rfl
theorem CP.fr {W : Nat} (p : CP w w3 K n B oB oC (some W)) (i : Nat) : w3.frozen? ⟨W, i, none⟩ = false := by simp [World.frozen?, (p.wk W rfl).1]
theorem CP.back (p : CP w w3 K n B none oC oW) {G : Nat} {vs : List Value} {w4 : World} (hb : Below w3.heap.size w3 w4) (M : Mat w4 w3.heap.size G vs B) (hn : B.length = n) : CP w w4 K n B (some G) oC oW := by
  have q := p.below hb
  refine ⟨q.old, fun G' h => ?_, q.cm, q.wk, q.apart⟩
  obtain rfl := Option.some.inj h
  refine M.off (fun b e => ?_) hn.symm
  rcases e with e | e
  · exact (p.cm b e).2.2
  · exact (p.wk b e).2.2
end
/-- The walk's state, ready. -/
def CMid (w wx : World) (n : Nat) (B : List (List Int)) (v : Value) : Prop :=
  ∃ W C gv, v = .pointer (some ⟨W, 0, none⟩) ∧ wx.heap[W]? = some (.cells #[gv, .slice (some ⟨C, 0, none⟩) n n] 73 (0, 0)) ∧ wx.heap[C]? = some (.cells (markA n (fun _ => 0)) 3 (0, 0)) ∧ W ≠ C ∧ RdX (fun b => b = C) wx gv B ∧ w.heap.size ≤ C ∧ Below w.heap.size w wx
theorem CP.ready {w w3 : World} {n : Nat} {B : List (List Int)} {G C W : Nat} (p : CP w w3 #[.slice (some ⟨G, 0, none⟩) n n, .slice (some ⟨C, 0, none⟩) n n] n B (some G) (some C) (some W)) :
    CMid w w3 n B (.pointer (some ⟨W, 0, none⟩)) := by
  obtain ⟨c1, c2, c3⟩ := p.cm C rfl
  obtain ⟨k1, k2, k3⟩ := p.wk W rfl
  exact ⟨W, C, _, rfl, k1, c1, Ne.symm (p.apart C W rfl rfl), (p.bk G rfl).mono (fun b e => .inl (by rw [e])), c2, p.old⟩
theorem CP.set {w w3 : World} {K : Array Value} {n i : Nat} {B : List (List Int)} {oB oC : Option Nat} {W : Nat} {x : Value} (p : CP w w3 K n B oB oC (some W)) : CP w (w3.setCell ⟨W, i, none⟩ x) (K.setIfInBounds i x) n B oB oC (some W) := by
  obtain ⟨k1, k2, k3⟩ := p.wk W rfl
  have T : Touch w3 (w3.setCell ⟨W, i, none⟩ x) (fun b => b = W) := (Touch.refl w3 (fun b => b = W)).setCell (a := ⟨W, i, none⟩) (fun _ => rfl) _
  refine ⟨p.old.trans (T.below p.old.size (fun b hb e => by omega)), fun G hG => ?_, fun C hC => ?_, fun W' h => ?_, p.apart⟩
  · exact (p.bk G hG).touch (Touch.mono T (fun k _ h => .inr (by rw [h])))
  · obtain ⟨c1, c2, c3⟩ := p.cm C hC
    exact ⟨(T.block C c3 (p.apart C W hC rfl)).trans c1, c2, by have := T.size; omega⟩
  · obtain rfl := Option.some.inj h
    exact ⟨blk_set _ k1, k2, by have := T.size; omega⟩

theorem markA_congr {n : Nat} {m m' : Nat → Int} (h : ∀ x, x < n → m x = m' x) : markA n m = markA n m' := by
  unfold markA
  congr 1
  apply List.map_congr_left
  intro x hx
  rw [h x (List.mem_range.1 hx)]
theorem av_turn {L B : List (List Int)} (hl : B.length = L.length) (he : ∀ a b, Edge B a b ↔ Edge L b a) {s : List Nat} {a b : Nat} : Av B s a b ↔ Av L s b a := by
  constructor
  · intro h
    induction h with
    | refl h1 h2 => exact .refl (hl ▸ h1) h2
    | step _ e h2 ih => exact Av.head h2 ((he _ _).1 e) ih
  · intro h
    induction h with
    | refl h1 h2 => exact .refl (hl ▸ h1) h2
    | step _ e h2 ih => exact Av.head h2 ((he _ _).2 e) ih
theorem compF_far {L : List (List Int)} {p : List Nat} {x : Nat} (h : L.length ≤ x) : compF L p x = -1 := compF_none.2 (fun f _ k => by have := k.1.lt.1; omega)
theorem compF_wf {L : List (List Int)} {o : List Nat} (h : Lead L o) (hn : L.length ≤ 90000) (k : Nat) (x : Nat) : (Lit.int .i64 (compF L (o.take k) x)).wf = true := by
  have key : -1 ≤ compF L (o.take k) x ∧ compF L (o.take k) x < 90000 := by
    by_cases hc : compF L (o.take k) x = -1
    · omega
    · obtain ⟨f, hf, _, e⟩ := compF_some rfl hc
      have := (h.mem f).1 (List.mem_of_mem_take hf)
      omega
  generalize compF L (o.take k) x = z at key
  have h1 : IntKind.i64.min = -9223372036854775808 := by decide
  have h2 : IntKind.i64.max = 9223372036854775807 := by decide
  simp only [Lit.wf, h1, h2, Bool.and_eq_true, decide_eq_true_iff]
  omega

set_option maxRecDepth 20000 in
set_option maxHeartbeats 4000000 in
theorem comps_any {w : World} {v : Value} {L : List (List Int)} (h : RdG w v L) (hL : L.length ≤ 90000) (hr : ∀ r ∈ L, r.length ≤ 100000) :
    Calls Try.prog 28 #[v] w fun e w' => ∃ R m, e = .returned (.slice (some ⟨R, 0, none⟩) L.length L.length) ∧ w'.heap[R]? = some (.cells (markA L.length (numF L.length m)) 3 (0, 0)) ∧ (∀ x y, x < L.length → y < L.length → (m x = m y ↔ SC L x y)) ∧ w.heap.size ≤ R ∧ Below w.heap.size w w' := by
  obtain ⟨av, c0, rfl⟩ := h.form
  have hN := Lib.hid (norm_any h (by omega) hr)
  have hlensN : ∀ r ∈ normL L, r.length ≤ 100000 := by
    intro r hr'
    obtain ⟨q, hq, rfl⟩ := List.mem_map.1 hr'
    exact Nat.le_trans (rowL_len _ _) (hr q hq)
  obtain ⟨n, hn⟩ : ∃ n, n = L.length := ⟨_, rfl⟩
  rw [← hn] at hN hL ⊢
  obtain ⟨N, hNe⟩ : ∃ N, N = normL L := ⟨_, rfl⟩
  rw [← hNe] at hlensN hN
  have hNl : N.length = n := by rw [hNe, normL_len, hn]
  have hmk := fun w' => make_ints n (by omega) w'
  have hB := Lib.hid (fun (w1 w3 : World) (v1 : Value) (oC oW : Option Nat) (hg : RdG w1 v1 N) (p : CP w1 w3 K0 n (backL N) none oC oW) => (back_any (hg.below p.old) (by rw [hNl]; omega) hlensN).mono (R' := fun e w2 => ∃ G, e = .returned (.slice (some ⟨G, 0, none⟩) n n) ∧ CP w1 w2 K0 n (backL N) (some G) oC oW) (fun e w2 ⟨G, vs, he, M, hb⟩ => ⟨G, by rw [he, hNl], p.back hb M (by rw [backL_len, hNl])⟩))
  replace hn := Lib.hid hn
  replace hNe := Lib.hid hNe
  replace hNl := Lib.hid hNl
  replace hlensN := Lib.hid hlensN
  clear h hr
  go_enter Try.func28, Try.ntmps28
  go_wp2_with fail
  refine hN.out.mono ?_
  rintro e w1 ⟨Gn, vsn, rfl, Mn, hb1⟩
  have hg1 : RdG w1 (.slice (some ⟨Gn, 0, none⟩) n n) N := Mn.rd hNl.out.symm
  have P0 := Lib.hid (CP.start (n := n) (B := backL N) w1)
  replace hg1 := Lib.hid hg1
  clear Mn hN
  go_upto_region 2 with fail
  go_cut [4] from 10 to 15 (fun p wx => CMid w1 wx n (backL N) p)
  case first =>
    go_region_with (first
      | (go_at_call 23; refine Calls.mono (hB.out _ _ _ _ _ hg1.out (by first | exact P0.out.drew | exact (P0.out.marks (C := w1.heap.size) (by simp)).drew | exact (P0.out.box (K' := K0) (W := w1.heap.size) (by simp)).drew | exact ((P0.out.marks (C := w1.heap.size) (by simp)).box (K' := K0) (W := w1.heap.size + 1) (by simp)).drew | exact ((P0.out.box (K' := K0) (W := w1.heap.size) (by simp)).marks (C := w1.heap.size + 1) (by simp)).drew)) ?_; rintro e w2 ⟨G, rfl, p⟩; first | (have k0 := p.c0; have k1 := p.c1; have k2 := p.fr 0; have k3 := p.fr 1; (try (have k4 := (p.marks rfl).c0; have k5 := (p.marks rfl).c1; have k6 := (p.marks rfl).fr 0; have k7 := (p.marks rfl).fr 1))) | (have k0 := (p.box (K' := K0) rfl).c0; have k1 := (p.box (K' := K0) rfl).c1; have k2 := (p.box (K' := K0) rfl).fr 0; have k3 := (p.box (K' := K0) rfl).fr 1; (try (have k4 := ((p.marks rfl).box (K' := K0) rfl).c0; have k5 := ((p.marks rfl).box (K' := K0) rfl).c1; have k6 := ((p.marks rfl).box (K' := K0) rfl).fr 0; have k7 := ((p.marks rfl).box (K' := K0) rfl).fr 1; have k8 := ((p.box (K' := K0) rfl).marks rfl).c0; have k9 := ((p.box (K' := K0) rfl).marks rfl).c1; have ka := ((p.box (K' := K0) rfl).marks rfl).fr 0; have kb := ((p.box (K' := K0) rfl).marks rfl).fr 1)))))
    all_goals
      go_wp2_with fail
      go_meet
      first
        | exact ((p.marks rfl).box (by simp)).ready
        | exact ((p.box rfl).marks (by simp)).ready
        | exact (p.box rfl).ready
        | exact (((p.marks rfl).set (i := 0)).set (i := 1)).ready
        | exact ((p.set (i := 0)).set (i := 1)).ready
        | exact (((p.set (i := 0)).set (i := 1)).marks (by simp [World.setCell])).ready
  case rest =>
    clear hB hmk
    obtain ⟨W, C, gv, rfl, hWb, hCb, hne, hX, hCl, hbc⟩ := hcut
    obtain ⟨bg, bc, rfl⟩ : ∃ a c, gv = .slice a n c := by
      obtain ⟨a, c, e⟩ := hX.rd.form
      exact ⟨a, c, by rw [e, backL_len, hNl.out]⟩
    have hWl : W < wc.heap.size := (Array.getElem?_eq_some_iff.1 hWb).1
    have hWr : Hid (∀ (wr : World), Touch wc wr (fun b => b = C) → wr.heap[W]? = some (.cells #[.slice bg n bc, .slice (some ⟨C, 0, none⟩) n n] 73 (0, 0))) := Lib.hid (fun wr hT => (hT.block W hWl hne).trans hWb)
    have w0 : wc.cell? ⟨W, 0, none⟩ = some (.slice bg n bc) := by rw [blk_cell hWb]; rfl
    have hsz := Lib.hid (size_any (w := wc) (v := .slice bg n bc) rfl)
    have hCb' := Lib.hid hCb
    have hX' := Lib.hid hX
    clear hCb hX P0
    go_wp2_with fail
    refine hsz.out.mono ?_
    rintro e wx ⟨rfl, rfl⟩
    clear w0 hsz
    go_wp2_with fail
    go_loopw [5, 19] (fun _ i wr => ∃ k : Nat, k ≤ n ∧ i = .int .i64 k ∧ wr.heap[C]? = some (.cells (markA n (fun x => if x < k then -1 else 0)) 3 (0, 0)) ∧ Touch wc wr (fun b => b = C)) (fun _ i _ => n - (intOf i).toNat)
    case atStart => exact ⟨0, Nat.zero_le _, rfl, by simpa using hCb'.out, Touch.refl _ _⟩
    case round =>
      clear hCb'
      obtain ⟨k, hk, rfl, hAk, hT⟩ := hrel
      by_cases hlt : k < n
      · have i1 : (k : Int) < (n : Int) := by omega
        have w1c : wr.cell? ⟨W, 1, none⟩ = some (.slice (some ⟨C, 0, none⟩) n n) := by rw [blk_cell (hWr.out _ hT)]; rfl
        have cf : wr.frozen? ⟨C, k, none⟩ = false := by simp [World.frozen?, hAk]
        have c0 : wr.cell? ⟨C, k, none⟩ = some (.int .i64 0) := by rw [blk_cell hAk]; simp [markA_at hlt]
        have hb : (wr.setCell ⟨C, k, none⟩ (.int .i64 (-1))).heap[C]? = some (.cells (markA n (fun x => if x < k + 1 then -1 else 0)) 3 (0, 0)) := by
          rw [blk_set _ hAk, markA_set hlt (m' := (fun x => if x < k + 1 then -1 else 0))]
          · simp
          · intro x hx
            by_cases h : x < k
            · rw [if_pos (by omega), if_pos h]
            · rw [if_neg (by omega), if_neg h]
        have hT2 := hT.trans ((Touch.refl wr (fun b => b = C)).setCell (a := ⟨C, k, none⟩) (fun _ => rfl) (.int .i64 (-1)))
        replace hb := Lib.hid hb
        replace hT2 := Lib.hid hT2
        clear hAk hT
        go_wp2_with fail
        exact ⟨⟨k + 1, by omega, by go_num, hb.out, hT2.out⟩, by simp [intOf]; omega⟩
      · obtain rfl : k = n := by omega
        have i1 : decide ((k : Int) < (k : Int)) = false := by simp
        have hall : wr.heap[C]? = some (.cells (markA k (fun _ => -1)) 3 (0, 0)) := by
          rw [hAk, markA_congr (fun x hx => by rw [if_pos hx])]
        have hb1r : Below w1.heap.size w1 wr := hbc.trans (hT.below hbc.size (fun b hb e => by omega))
        have hgr : RdG wr (.slice (some ⟨Gn, 0, none⟩) k k) N := hg1.out.below hb1r
        rw [hNe.out] at hgr
        have hlv := Lib.hid (leaving_any (L := L) rfl hgr hn.out (by rw [← hn.out]; exact hL))
        have hCsz : C < wr.heap.size := (Array.getElem?_eq_some_iff.1 hall).1
        have hall' := Lib.hid hall
        have hT' := Lib.hid hT
        clear hAk hall hT hgr
        go_wp2_with fail
        refine hlv.out.mono ?_
        rintro e w5 ⟨rv, o, rfl, hro, hlead, hb5, hrvb⟩
        have hol : o.length = k := by rw [hlead.len, ← hn.out]
        obtain ⟨ra, rc, rfl⟩ : ∃ a c, rv = .slice a k c := by
          obtain ⟨a, c, e⟩ := hro.form
          exact ⟨a, c, by rw [e]; simp [hol]⟩
        have hT5 : Touch wc w5 (fun b => b = C) := hT'.out.trans (Touch.of_below hb5 _)
        have hC5 : w5.heap[C]? = some (.cells (markA k (compF L (o.take 0))) 3 (0, 0)) := by
          rw [hb5.block C (Array.getElem?_eq_some_iff.1 hall'.out).1, hall'.out]
          rfl
        replace hrvb := Lib.hid hrvb
        replace hro := Lib.hid hro
        replace hlead := Lib.hid hlead
        replace hol := Lib.hid hol
        clear hlv hall' hT'
        go_wp2_with fail
        go_loopw [7, 30] (fun _ i wr => ∃ j : Nat, j ≤ k ∧ i = .int .i64 j ∧ wr.heap[C]? = some (.cells (markA k (compF L (o.take j))) 3 (0, 0)) ∧ Touch wc wr (fun b => b = C) ∧ Touch w5 wr (fun b => b = C)) (fun _ i _ => k - (intOf i).toNat)
        case atStart => exact ⟨0, Nat.zero_le _, rfl, hC5, hT5, Touch.refl _ _⟩
        case round =>
          clear hC5 hT5
          obtain ⟨j, hj, rfl, hCj, hTw, hT5⟩ := hrel
          by_cases hlt : j < k
          · obtain ⟨f, hf⟩ : ∃ f, o[j]? = some f := ⟨_, List.getElem?_eq_getElem (by rw [hol.out]; exact hlt)⟩
            have hfn : f < k := by rw [hn.out]; exact (hlead.out.mem f).1 (List.mem_of_getElem? hf)
            have hrw : RdI wr (.slice ra k rc) (o.map fun x : Nat => (x : Int)) := Rd.off hro.out hT5 (fun _ b e hb => by have := hrvb.out b e; omega)
            obtain ⟨b, off, cap', e, hc⟩ := RdI.cell hrw (i := j) (x := (f : Int)) (by rw [List.getElem?_map, hf]; rfl)
            simp only [Value.slice.injEq] at e
            obtain ⟨rfl, -, rfl⟩ := e
            have i1 : (j : Int) < (k : Int) := by omega
            have hlensB : ∀ r ∈ backL N, r.length ≤ 100000 := by
              intro r hr
              obtain ⟨h1, h2⟩ := back_form N r hr
              have := rise_lenN h1 h2
              rw [backL_len, hNl.out] at this
              omega
            have hvalB : ∀ r ∈ backL N, ∀ x ∈ r, 0 ≤ x ∧ x < k := by
              intro r hr x hx
              have := (back_form N r hr).2 x hx
              rwa [backL_len, hNl.out] at this
            have hXr : RdX (fun b => b = C) wr (.slice bg k bc) (backL N) := hX'.out.touch hTw
            have hsm : ∀ x, x ∈ (List.range k).filter (fun x => decide (compF L (o.take j) x ≠ -1)) ↔ compF L (o.take j) x ≠ -1 := by
              intro x
              rw [List.mem_filter, List.mem_range, decide_eq_true_iff]
              refine ⟨fun h => h.2, fun h => ⟨?_, h⟩⟩
              by_cases hx : x < k
              · exact hx
              · exact absurd (compF_far (by rw [← hn.out]; omega)) h
            obtain ⟨s, hs⟩ : ∃ s, s = (List.range k).filter (fun x => decide (compF L (o.take j) x ≠ -1)) := ⟨_, rfl⟩
            rw [← hs] at hsm
            have hga := Lib.hid (gather_any (hWr.out _ hTw) hCj hne hXr (by rw [backL_len, hNl.out]) (by omega) hlensB hvalB hfn hsm)
            have hEB : ∀ a b, Edge (backL N) a b ↔ Edge L b a := fun a b => by rw [edge_back, hNe.out, edge_norm]
            have hstep : ∀ D, (∀ x, x ∈ D ↔ Av (backL N) s f x) → markA k (withD (compF L (o.take j)) D f) = markA k (compF L (o.take (j + 1))) := by
              intro D hD
              refine markA_congr (fun x hx => ?_)
              have h1 : x ∈ D ↔ compF L (o.take j) x = -1 ∧ SC L x f := by
                rw [hD, av_turn (L := L) (by rw [backL_len, hNl.out, hn.out]) hEB]
                exact hlead.out.gather hf hsm x
              rw [List.take_add_one, hf, Option.toList_some, compF_snoc]
              unfold withD
              by_cases hx1 : compF L (o.take j) x = -1
              · by_cases hx2 : SC L x f
                · rw [if_pos (h1.2 ⟨hx1, hx2⟩), if_pos hx1, if_pos hx2]
                · rw [if_neg (fun h => hx2 (h1.1 h).2), if_pos hx1, if_neg hx2, hx1]
              · rw [if_neg (fun h => hx1 (h1.1 h).1), if_neg hx1]
            replace hstep := Lib.hid hstep
            replace hrw := Lib.hid hrw
            clear hCj hXr hsm hs hEB hlensB hvalB
            go_wp2_with fail
            refine hga.out.mono ?_
            rintro e w6 ⟨rfl, D, hC6, hD, hT6⟩
            rw [hstep.out D hD] at hC6
            have hTw6 := hTw.trans hT6
            have hT56 := hT5.trans hT6
            clear hga hD hT6 hTw hT5
            go_wp2_with fail
            go_roundw
            case rel => exact ⟨j + 1, by omega, by go_num, hC6, hTw6, hT56⟩
            case measure => simp [intOf]; omega
          · obtain rfl : j = k := by omega
            have i1 : decide ((j : Int) < (j : Int)) = false := by simp
            have w1c : wr.cell? ⟨W, 1, none⟩ = some (.slice (some ⟨C, 0, none⟩) j j) := by rw [blk_cell (hWr.out _ hTw)]; rfl
            have hby := Lib.hid (byleast_any rfl hCj hL (fun x hx => compF_wf hlead.out (by rw [← hn.out]; exact hL) j x))
            have hker : Hid (∀ x y, x < j → y < j → (compF L (o.take j) x = compF L (o.take j) y ↔ SC L x y)) := by
              refine Lib.hid (fun x y hx hy => ?_)
              rw [List.take_of_length_le (by rw [hol.out]; exact Nat.le_refl _)]
              exact hlead.out.done (by rw [← hn.out]; exact hx) (by rw [← hn.out]; exact hy)
            have hbw5 : Below w.heap.size w wr := (hb1.trans (hbc.mono hb1.size)).trans (hTw.below (by have := hb1.size; have := hbc.size; omega) (fun b hb e => by have := hb1.size; omega))
            clear hCj hTw hT5
            go_wp2_with fail
            refine hby.out.mono ?_
            rintro e w7 ⟨R, rfl, hR, hRl, hb7⟩
            have hbw7 : Below w.heap.size w w7 := hbw5.trans (hb7.mono hbw5.size)
            have hRw := Nat.le_trans hbw5.size hRl
            replace hR := Lib.hid hR
            clear hby hb7
            go_wp2_with fail
            go_ret
            exact ⟨R, _, rfl, hR.out, hker.out, hRw, hbw7⟩
end Go.Proofs.Ytedleliddhhacaa
