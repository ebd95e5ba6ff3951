/- The document's own graph in form. -/
import Derived.Test.YteipncggndefmaaGPostW
namespace Go.Proofs.Yteipncggndefmaa
open Go.RowKit Go.Maps Go.Shelf

/-- The rows so far: a slice of its own, each row read, and none of them in its block. -/
structure Outs (base : Nat) (wr : World) (v : Value) (k : Nat) (vs : List Value) (N : List (List Int)) : Prop where
  own : wr.ownsRow base 25 1 v k vs
  row : ∀ (i : Nat) (u : Value) (l : List Int), vs[i]? = some u → N[i]? = some l → RdI wr u l ∧ Off (fun b => v.ownBlock = some b) u l.length ∧ Off (fun b => b < base) u l.length
theorem Outs.below {base k : Nat} {wr w' : World} {v : Value} {vs : List Value} {N : List (List Int)} (h : Outs base wr v k vs N) (hb : Below wr.heap.size wr w') : Outs base w' v k vs N :=
  ⟨ownsRow_touch h.own (Touch.of_below hb (fun _ => False)) (fun _ _ h => h), fun i u l hu hl => ⟨Rd.below (h.row i u l hu hl).1 hb, (h.row i u l hu hl).2⟩⟩
theorem Outs.more {base k : Nat} {wr w2 : World} {v v' u : Value} {vs : List Value} {N : List (List Int)} {l : List Int} {o : Obj} (h : Outs base wr v k vs N) (hl : N[k]? = some l) (hu : RdI wr u l) (ho : Off (fun b => v.ownBlock = some b) u l.length) (hb : Off (fun b => b < base) u l.length)
    (hown : w2.ownsRow base 25 1 v' (k + 1) (vs ++ [u])) (hgrow : (wr.alloc o).grownBy w2 v.ownBlock) (hat : v'.ownBlock = v.ownBlock ∨ v'.ownBlock = some (wr.heap.size + 1)) : Outs base w2 v' (k + 1) (vs ++ [u]) N := by
  have T : Touch wr w2 (fun b => v.ownBlock = some b) := Touch.trans ((Touch.refl wr (fun b => v.ownBlock = some b)).alloc o) (Touch.of_grown hgrow (fun k hk => hk))
  have hvs : vs.length = k := by have := h.own.1; rw [Nat.mul_one] at this; exact this
  have key : ∀ {u : Value} {l : List Int}, RdI wr u l → Off (fun b => v.ownBlock = some b) u l.length → RdI w2 u l ∧ Off (fun b => v'.ownBlock = some b) u l.length := by
    intro u l h1 h2
    refine ⟨Rd.off h1 T (by rw [List.length_map]; exact h2), fun h0 b e hb => ?_⟩
    rcases hat with e' | e'
    · exact h2 h0 b e (e' ▸ hb)
    · obtain ⟨b', off, cap, rfl, hlt⟩ := Rd.lt h1 (by rw [List.length_map]; exact h0)
      obtain rfl : b' = b := Option.some.inj e
      rw [e'] at hb
      injection hb with hb
      omega
  refine ⟨hown, fun i x m hx hm => ?_⟩
  rcases Nat.lt_or_ge i k with hi | hi
  · rw [List.getElem?_append_left (by omega)] at hx
    obtain ⟨h1, h2, h3⟩ := h.row i x m hx hm
    exact ⟨(key h1 h2).1, (key h1 h2).2, h3⟩
  · rw [List.getElem?_append_right (by omega), hvs] at hx
    obtain rfl : i = k := by
      rcases Nat.lt_or_ge k i with h | h
      · rw [List.getElem?_eq_none (by simp; omega)] at hx; cases hx
      · omega
    rw [Nat.sub_self] at hx
    obtain rfl := Option.some.inj hx
    rw [hl] at hm
    obtain rfl := Option.some.inj hm
    exact ⟨(key hu ho).1, (key hu ho).2, hb⟩
theorem Outs.rd {base : Nat} {wr : World} {v : Value} {vs : List Value} {N : List (List Int)} (h : Outs base wr v N.length vs N) : RdX (fun b => b < base) wr v N := by
  have hvs : vs.length = N.length := by have := h.own.1; rw [Nat.mul_one] at this; exact this
  refine ⟨vs, ?_, hvs, fun _ b e hb => by have := (h.own.lt b e).1; omega, fun i u l hu hl => ⟨(h.row i u l hu hl).1, (h.row i u l hu hl).2.2⟩⟩
  rcases h.own.2 with ⟨rfl, e⟩ | ⟨g, cap, cur, rfl, hB, hg, hn, hc, hs, hx⟩
  · have : vs = [] := List.length_eq_zero_iff.1 (by omega)
    subst this
    exact .inl ⟨rfl, .inl rfl⟩
  · refine .inr ⟨g, 0, cap, by rw [hvs], (Array.getElem?_eq_some_iff.1 hg).1, fun i u hu => ?_⟩
    rw [blk_cell hg, Nat.zero_add, ← Array.getElem?_toList]
    rw [Nat.mul_one] at hx
    have hi := (List.getElem?_eq_some_iff.1 hu).1
    rw [← hx, List.getElem?_take, if_pos (by omega)] at hu
    exact hu

def RNOut (w wr : World) (L : List (List Int)) (v i : Value) : Prop :=
  ∃ (k : Nat) (vs : List Value), k ≤ L.length ∧ i = .int .i64 k ∧ Outs w.heap.size wr v k vs (normL L) ∧ Below w.heap.size w wr
def RNIn (w wr : World) (L : List (List Int)) (v : Value) (k : Nat) (vs : List Value) (r : List Int) (u j : Value) : Prop :=
  ∃ m : Nat, m ≤ r.length ∧ j = .int .i64 m ∧ Outs w.heap.size wr v k vs (normL L) ∧ Strip wr u (rowL L.length (r.take m)) ∧ (∀ b, u.ownBlock = some b → v.ownBlock ≠ some b ∧ w.heap.size ≤ b) ∧ Below w.heap.size w wr
theorem rowL_snoc (n : Nat) (r : List Int) (x : Int) : rowL n (r ++ [x]) = if validI n x then addL (rowL n r) x else rowL n r := by
  unfold rowL
  rw [List.filter_append]
  by_cases h : validI n x = true
  · simp [h]
  · simp [h]

set_option maxRecDepth 20000 in
set_option maxHeartbeats 4000000 in
theorem rnorm_any {w : World} {v : Value} {L : List (List Int)} (h : RdG w v L) (hL : L.length ≤ 100000) (hr : ∀ r ∈ L, r.length ≤ 100000) : Calls Try.prog 30 #[v] w fun e w' => ∃ v', e = .returned v' ∧ RdX (fun b => b < w.heap.size) w' v' (normL L) ∧ Below w.heap.size w w' := by
  obtain ⟨av, cap, rfl⟩ := h.form
  obtain ⟨i0, hi0, hz0, hz1, hz2⟩ := info_parts infoL1
  have hr' := Lib.hid hr
  clear hr
  go_enter Try.func30, Try.ntmps30
  go_wp2_with fail
  go_loopw [3, 4, 5, 6] (fun v i _ _ wr => RNOut w wr L v i) (fun _ i _ _ _ => L.length - (intOf i).toNat)
  case atStart => exact ⟨0, [], Nat.zero_le _, rfl, ⟨World.ownsRow_nil _ _ _ _, fun i u l hu _ => by simp at hu⟩, Below.refl _ _⟩
  case round =>
    obtain ⟨k, vs, hk, rfl, hO, hbw⟩ := hrel
    by_cases hlt : k < L.length
    · obtain ⟨r, hrk⟩ : ∃ r, L[k]? = some r := ⟨_, List.getElem?_eq_getElem hlt⟩
      have hrl : r.length ≤ 100000 := hr'.out r (List.mem_of_getElem? hrk)
      obtain ⟨b, off, cap', u, e, hbl, hcell0, hrd0⟩ := h.at hrk
      simp only [Value.slice.injEq] at e
      obtain ⟨rfl, -, rfl⟩ := e
      obtain ⟨ar, cr, rfl⟩ := hrd0.shape
      have i1 : (k : Int) < (L.length : Int) := by omega
      obtain ⟨ao, co, rfl⟩ := own_form hO.own
      go_wp2_with fail
      go_loopw [5, 6] (fun u j wx => RNIn w wx L (.slice ao k co) k vs r u j) (fun _ j _ => r.length - (intOf j).toNat)
      case atStart => exact ⟨0, Nat.zero_le _, rfl, hO, strip_nil _, (fun b hb => nomatch hb), hbw⟩
      case round =>
        clear hO hbw
        obtain ⟨m, hm, rfl, hO, hst, hoff, hbw⟩ := hrel
        have hcell := (hbw.cell (p := ⟨b, off + k, none⟩) hbl).trans hcell0
        by_cases hltm : m < r.length
        · obtain ⟨x, hx⟩ : ∃ x, r[m]? = some x := ⟨_, List.getElem?_eq_getElem hltm⟩
          obtain ⟨b2, off2, cap2, e2, hc2⟩ := RdI.cell (Rd.below hrd0 hbw) hx
          simp only [Value.slice.injEq] at e2
          obtain ⟨rfl, -, rfl⟩ := e2
          have i2 : (m : Int) < (r.length : Int) := by omega
          have htk := take_snoc hx
          have hsn := rowL_snoc L.length (r.take m) x
          rw [← htk] at hsn
          have hacc : (rowL L.length (r.take m)).length ≤ 100000 := Nat.le_trans (rowL_len _ _) (by rw [List.length_take]; omega)
          have hA := Lib.hid (radd_any (i := x) hst hacc)
          have hsnT := fun h : validI L.length x = true => hsn.trans (if_pos h)
          have hsnF := fun h : ¬ validI L.length x = true => hsn.trans (if_neg h)
          replace hsnT := Lib.hid hsnT
          replace hsnF := Lib.hid hsnF
          clear htk hsn
          by_cases h0 : 0 ≤ x
          · have d1 : decide (x ≥ 0) = true := by simpa using h0
            by_cases h1 : x < L.length
            · have d2 : decide (x < (L.length : Int)) = true := by simpa using h1
              have hv : validI L.length x = true := by simp [validI, h0, h1]
              have hs2 := Lib.hid (hsnT.out hv)
              replace hv := Lib.hid hv
              go_wp2_with fail
              refine hA.out.mono ?_
              rintro e w2 ⟨u2, rfl, hst2, hnew, hb2⟩
              have hO2 := hO.below hb2
              have hb3 := hbw.trans (hb2.mono hbw.size)
              have hoff2 : ∀ b, u2.ownBlock = some b → (Value.slice ao k co).ownBlock ≠ some b ∧ w.heap.size ≤ b := fun b hb => by
                rcases hnew with rfl | hnew
                · exact hoff b hb
                · have h1 := hnew b hb
                  have h2 := hbw.size
                  exact ⟨fun e => by have := (hO.own.lt b e).2; omega, by omega⟩
              rw [← hs2.out] at hst2
              clear hA hst hoff hnew hO
              go_wp2_with fail
              exact ⟨⟨m + 1, by omega, by go_num, hO2, hst2, hoff2, hb3⟩, by simp [intOf]; omega⟩
            · have d2 : decide (x < (L.length : Int)) = false := by simpa using h1
              have hv : ¬ validI L.length x = true := by simp [validI, h1]
              have hs2 := hsnF.out hv
              rw [← hs2] at hst
              clear hs2 hv
              go_wp2_with fail
              exact ⟨⟨m + 1, by omega, by go_num, hO, hst, hoff, hbw⟩, by simp [intOf]; omega⟩
          · have d1 : decide (x ≥ 0) = false := by simpa using h0
            have hv : ¬ validI L.length x = true := by simp [validI, h0]
            have hs2 := hsnF.out hv
            rw [← hs2] at hst
            clear hs2 hv
            go_wp2_with fail
            exact ⟨⟨m + 1, by omega, by go_num, hO, hst, hoff, hbw⟩, by simp [intOf]; omega⟩
        · obtain rfl : m = r.length := by omega
          rw [List.take_length] at hst
          have i2 : decide ((r.length : Int) < (r.length : Int)) = false := by simp
          obtain ⟨au, cu, rfl⟩ := own_form hst
          have hNk := normL_at hrk
          have hrdu := strip_rd hst
          have hofu : Off (fun b => (Value.slice ao k co).ownBlock = some b) (.slice au (rowL L.length r).length cu) (rowL L.length r).length := fun _ b e hb => (hoff b e).1 hb
          have hofb : Off (fun b => b < w.heap.size) (.slice au (rowL L.length r).length cu) (rowL L.length r).length := fun _ b e hb => by have := (hoff b e).2; omega
          replace hNk := Lib.hid hNk
          replace hrdu := Lib.hid hrdu
          replace hst := Lib.hid hst
          have hown := hO.own
          go_wp2_with (at_builtin; refine wpList_append_own_at _ rfl _ _ 22 rfl w.heap.size 25 i0 _ 1 24 Try.underlying22 hi0 hz0 hz1 hz2 rfl (by decide) _ _ _ rfl (hown.alloc _) ⟨wr.heap.size, 0, none⟩ 1 1 [.slice au (rowL L.length r).length cu] rfl rfl (World.news_of_block (cs := #[.slice au (rowL L.length r).length cu]) (t := 25) (fr := (0, 0)) (heap_alloc_new wr _)) (by simp [Value.oneCell']) (by unfold maxLen; omega) (by omega) (by have := hbw.size; simp at this ⊢; omega) ?_)
          intro v' w2 hown2 hgrow hnil hat
          have hO2 := hO.more hNk.out hrdu.out hofu hofb hown2 hgrow hat
          have hb2 : Below w.heap.size w w2 := (hbw.alloc hbw.size _).grown hgrow (by have := hbw.size; simp; omega) (fun b hb => (hown.lt b hb).1)
          clear hown2 hgrow hnil hat hown
          go_wp2_with fail
          exact ⟨⟨k + 1, _, by omega, by go_num, hO2, hb2⟩, by simp [intOf]; omega⟩
    · obtain rfl : k = L.length := by omega
      have i1 : decide ((L.length : Int) < (L.length : Int)) = false := by simp
      have hfin := Lib.hid (show RdX (fun b => b < w.heap.size) wr _ (normL L) from Outs.rd (by rw [normL_len]; exact hO))
      clear hO
      go_wp2_with fail
      go_ret
      exact ⟨_, rfl, hfin.out, hbw⟩
end Go.Proofs.Yteipncggndefmaa
