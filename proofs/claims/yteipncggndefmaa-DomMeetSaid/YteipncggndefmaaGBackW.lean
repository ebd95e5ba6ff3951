/- The contract of graph.Back, walked. -/
import Derived.Test.YteipncggndefmaaGNormW
import Derived.Test.YteipncggndefmaaGBackM
namespace Go.Proofs.Yteipncggndefmaa
open Go.RowKit Go.Maps Go.Shelf

/-- A slice that reads so, and none of it in these blocks. -/
def Off (U : Nat → Prop) (v : Value) (n : Nat) : Prop := 0 < n → ∀ b, v.ownBlock = some b → ¬ U b
theorem Rd.off {w w' : World} {U : Nat → Prop} {s : Value} {xs : List Value} (h : Rd w s xs) (ht : Touch w w' U) (ho : Off U s xs.length) : Rd w' s xs := by
  rcases h with ⟨rfl, h⟩ | ⟨b, off, cap, rfl, hb, hc⟩
  · exact .inl ⟨rfl, h⟩
  · by_cases h0 : 0 < xs.length
    · have hne : ¬ U b := ho h0 b rfl
      refine .inr ⟨b, off, cap, rfl, Nat.lt_of_lt_of_le hb ht.size, fun i x hx => ?_⟩
      rw [World.cell?_of_block (w := w) (a := ⟨b, off + i, none⟩) (ht.block b hb hne)]
      exact hc i x hx
    · have : xs = [] := List.length_eq_zero_iff.1 (by omega)
      subst this
      exact .inl ⟨rfl, .inr ⟨_, _, rfl⟩⟩
def RdX (U : Nat → Prop) (w : World) (v : Value) (L : List (List Int)) : Prop :=
  ∃ vs : List Value, Rd w v vs ∧ vs.length = L.length ∧ Off U v L.length ∧ ∀ (i : Nat) (u : Value) (l : List Int), vs[i]? = some u → L[i]? = some l → RdI w u l ∧ Off U u l.length
theorem RdX.rd {U : Nat → Prop} {w : World} {v : Value} {L : List (List Int)} (h : RdX U w v L) : RdG w v L := by
  obtain ⟨vs, h1, h2, -, h3⟩ := h
  exact ⟨vs, h1, h2, fun i u l hu hl => (h3 i u l hu hl).1⟩
theorem RdX.touch {U : Nat → Prop} {w w' : World} {v : Value} {L : List (List Int)} (h : RdX U w v L) (ht : Touch w w' U) : RdX U w' v L := by
  obtain ⟨vs, h1, h2, h4, h3⟩ := h
  exact ⟨vs, h1.off ht (by rw [h2]; exact h4), h2, h4, fun i u l hu hl => ⟨Rd.off (h3 i u l hu hl).1 ht (by rw [List.length_map]; exact (h3 i u l hu hl).2), (h3 i u l hu hl).2⟩⟩
theorem Off.mono {U V : Nat → Prop} {v : Value} {n : Nat} (h : Off U v n) (hv : ∀ b, V b → U b) : Off V v n := fun h0 b e hb => h h0 b e (hv b hb)
theorem RdX.mono {U V : Nat → Prop} {w : World} {v : Value} {L : List (List Int)} (h : RdX U w v L) (hv : ∀ b, V b → U b) : RdX V w v L := by
  obtain ⟨vs, h1, h2, h4, h3⟩ := h
  exact ⟨vs, h1, h2, h4.mono hv, fun i u l hu hl => ⟨(h3 i u l hu hl).1, (h3 i u l hu hl).2.mono hv⟩⟩
theorem Rd.lt {w : World} {s : Value} {xs : List Value} (h : Rd w s xs) (h0 : 0 < xs.length) : ∃ b off cap, s = .slice (some ⟨b, off, none⟩) xs.length cap ∧ b < w.heap.size := by
  rcases h with ⟨rfl, _⟩ | ⟨b, off, cap, e, hb, _⟩
  · cases h0
  · exact ⟨b, off, cap, e, hb⟩
theorem Rd.old {U : Nat → Prop} {w : World} (hU : ∀ b, U b → w.heap.size ≤ b) {s : Value} {xs : List Value} (hr : Rd w s xs) : Off U s xs.length := by
  intro h0 b e hb
  obtain ⟨b', off, cap, rfl, hb'⟩ := hr.lt h0
  obtain rfl : b' = b := Option.some.inj e
  have := hU _ hb
  omega
theorem RdG.off {U : Nat → Prop} {w : World} {v : Value} {L : List (List Int)} (h : RdG w v L) (hU : ∀ b, U b → w.heap.size ≤ b) : RdX U w v L := by
  obtain ⟨vs, h1, h2, h3⟩ := h
  exact ⟨vs, h1, h2, by rw [← h2]; exact h1.old hU, fun i u l hu hl => ⟨h3 i u l hu hl, by have := Rd.old hU (h3 i u l hu hl); rwa [List.length_map] at this⟩⟩
theorem RdX.at {U : Nat → Prop} {w : World} {v : Value} {L : List (List Int)} (h : RdX U w v L) {i : Nat} {l : List Int} (hl : L[i]? = some l) :
    ∃ b off cap u, v = .slice (some ⟨b, off, none⟩) L.length cap ∧ b < w.heap.size ∧ ¬ U b ∧ w.cell? ⟨b, off + i, none⟩ = some u ∧ RdI w u l ∧ Off U u l.length := by
  obtain ⟨vs, h1, h2, h4, h3⟩ := h
  have hi := (List.getElem?_eq_some_iff.1 hl).1
  obtain ⟨u, hu⟩ : ∃ u, vs[i]? = some u := ⟨_, List.getElem?_eq_getElem (by omega)⟩
  obtain ⟨b, off, cap, e, hlt, hc⟩ := h1.at hu
  have h5 := h3 i u l hu hl
  exact ⟨b, off, cap, u, by rw [← h2]; exact e, hlt, h4 (by omega) b (by rw [e]; rfl), hc, h5.1, h5.2⟩
theorem cell_off {U : Nat → Prop} {w w' : World} (ht : Touch w w' U) {b i : Nat} (hb : b < w.heap.size) (hne : ¬ U b) : w'.cell? ⟨b, i, none⟩ = w.cell? ⟨b, i, none⟩ := World.cell?_of_block (w := w) (a := ⟨b, i, none⟩) (ht.block b hb hne)
theorem Mat.off {U : Nat → Prop} {w : World} {base Gn : Nat} {vs : List Value} {L : List (List Int)} (M : Mat w base Gn vs L) (hU : ∀ b, U b → b < base) {n cap : Nat} (hn : n = L.length) : RdX U w (.slice (some ⟨Gn, 0, none⟩) n cap) L := by
  have hlow := M.low
  refine ⟨vs, ?_, M.len, fun _ b e hb => ?_, fun i u l hu hl => ⟨strip_rd (M.row i u l hu hl), fun _ b e hb => ?_⟩⟩
  · subst hn
    refine Or.inr ⟨Gn, 0, cap, by rw [M.len], M.lt, fun i x hx => ?_⟩
    rw [Nat.zero_add]
    exact M.cell hx
  · obtain rfl : Gn = b := Option.some.inj e
    have := hU _ hb
    omega
  · have := ((M.row i u l hu hl).lt b e).1
    have := hU _ hb
    omega

/-- A slice of slices that is filled: nothing older turns but its own block. -/
structure Fill (w1 wr : World) (base G : Nat) (vs : List Value) (B : List (List Int)) : Prop where
  M : Mat wr base G vs B
  fresh : ∀ (i : Nat) (u : Value) (b : Nat), vs[i]? = some u → u.ownBlock = some b → w1.heap.size ≤ b
  T : Touch w1 wr (fun b => b = G)
theorem Fill.appended {w1 w w2 : World} {base G : Nat} {vs : List Value} {B : List (List Int)} (hF : Fill w1 w base G vs B) {i : Nat} {u v' : Value} {F : List Int} {x : Int} {o : Obj} (hu : vs[i]? = some u) (hl : B[i]? = some F) (hown : w2.ownsRow base 3 1 v' (F.length + 1) (F.map encI ++ [.int .i64 x]))
    (hgrow : (w.alloc o).grownBy w2 u.ownBlock) (hat : v'.ownBlock = u.ownBlock ∨ v'.ownBlock = some (w.heap.size + 1)) :
    (∃ a c, v' = .slice a (F.length + 1) c) ∧ w2.cell? ⟨G, i, none⟩ = some u ∧ w2.frozen? ⟨G, i, none⟩ = false ∧ Fill w1 (w2.setCell ⟨G, i, none⟩ v') base G (vs.set i v') (B.set i (F ++ [x])) := by
  obtain ⟨h1, h2, h3, T, hn, M⟩ := hF.M.appended hu hl hown hgrow hat
  refine ⟨h1, h2, h3, M, fun j y b hy hb => ?_, ?_⟩
  · by_cases hj : j = i
    · subst hj
      rw [List.getElem?_set_self (List.getElem?_eq_some_iff.1 hu).1] at hy
      obtain rfl := Option.some.inj hy
      rcases hn b hb with h | h
      · exact hF.fresh j u b hu h
      · exact Nat.le_trans hF.T.size h
    · rw [List.getElem?_set_ne (by omega)] at hy
      exact hF.fresh j y b hy hb
  · have T1 := Touch.mono hF.T (S' := fun b => b = G ∨ w1.heap.size ≤ b) (fun k _ h => .inl h)
    have hle := hF.T.size
    refine ⟨T.os.trans hF.T.os, T.tape.trans hF.T.tape, T.output.trans hF.T.output, by simp [World.setCell]; exact Nat.le_trans hle T.size, fun k hk hS => ?_⟩
    rw [Below.heap_setCell _ _ _ _ (by simpa using hS), T.block k (by omega) (fun e => by have := hF.fresh i u k hu e; omega), hF.T.block k hk hS]
theorem fill_new {w : World} {n : Nat} : Fill (w.alloc (.cells (Array.replicate n (Value.slice none 0 0)) 25)) (w.alloc (.cells (Array.replicate n (Value.slice none 0 0)) 25)) w.heap.size w.heap.size (List.replicate n (Value.slice none 0 0)) (List.replicate n []) := by
  refine ⟨⟨by simp, by rw [heap_alloc_new]; simp, Nat.le_refl _, fun i u l hu hl => ?_, fun i u hu => ?_, fun i j u v b _ hu _ hb => ?_⟩, fun i u b hu hb => ?_, Touch.refl _ _⟩
  · obtain rfl := List.eq_of_mem_replicate (List.mem_of_getElem? hu)
    obtain rfl := List.eq_of_mem_replicate (List.mem_of_getElem? hl)
    exact World.ownsRow_nil _ _ _ _
  · obtain rfl := List.eq_of_mem_replicate (List.mem_of_getElem? hu)
    exact fun e => by cases e
  · obtain rfl := List.eq_of_mem_replicate (List.mem_of_getElem? hu)
    cases hb
  · obtain rfl := List.eq_of_mem_replicate (List.mem_of_getElem? hu)
    cases hb

def BackOut (w w1 wr : World) (G : Nat) (N : List (List Int)) (i : Value) : Prop :=
  ∃ (k : Nat) (vs : List Value), k ≤ N.length ∧ i = .int .i64 k ∧ Fill w1 wr w.heap.size G vs (backTo N k)
def BackIn (w w1 wr : World) (G k : Nat) (N : List (List Int)) (r : List Int) (j : Value) : Prop :=
  ∃ (m : Nat) (vs : List Value), m ≤ r.length ∧ j = .int .i64 m ∧ Fill w1 wr w.heap.size G vs (pushRow (backTo N k) k (r.take m))

set_option maxRecDepth 20000 in
set_option maxHeartbeats 4000000 in
theorem back_any {w : World} {v : Value} {L : List (List Int)} (h : RdG w v L) (hL : L.length ≤ 100000) (hr : ∀ r ∈ L, r.length ≤ 100000) : Calls Try.prog 20 #[v] w fun e w' => ∃ G vs, e = .returned (.slice (some ⟨G, 0, none⟩) L.length L.length) ∧ Mat w' w.heap.size G vs (backL L) ∧ Below w.heap.size w w' := by
  obtain ⟨av, cap, rfl⟩ := h.form
  obtain ⟨i0, hi0, hz0, hz1, hz2⟩ := info_parts infoI1
  have hmk := make_rows L.length hL w
  have hbe0 : Below w.heap.size w (w.alloc (.cells (Array.replicate L.length (Value.slice none 0 0)) 25)) := (Below.refl _ _).alloc (Nat.le_refl _) _
  have hlt0 : w.heap.size < (w.alloc (.cells (Array.replicate L.length (Value.slice none 0 0)) 25)).heap.size := by simp
  have hN := Lib.hid (norm_any (h.below hbe0) hL hr)
  have hF0 := Lib.hid (fill_new (w := w) (n := L.length))
  have hnr := norm_rise L
  have hnl := norm_low L
  have hnf := norm_form L
  have hlens : ∀ r ∈ normL L, r.length ≤ 100000 := by
    intro r hr'
    obtain ⟨s, hs, rfl⟩ := List.mem_map.1 hr'
    exact Nat.le_trans (rowL_len _ _) (hr s hs)
  have hlow := Lib.hid (Low.back hlens)
  replace hlens := Lib.hid hlens
  replace hnf := Lib.hid hnf
  clear hr hnr hnl
  go_enter Try.func20, Try.ntmps20
  go_wp2_with fail
  clear hmk
  refine hN.out.mono ?_
  rintro e w1 ⟨Gn, vsn, rfl, Mn, hb1⟩
  have hX := Mn.off (U := fun b => b = w.heap.size) (fun b e => by rw [e]; exact hlt0) (cap := L.length) (normL_len L).symm
  obtain ⟨N, hNe⟩ : ∃ N, Hid (normL L = N) := ⟨_, Lib.hid rfl⟩
  have hNl : N.length = L.length := by rw [← hNe.out, normL_len]
  rw [hNe.out] at hX hlens hlow hnf
  have hF1 : Fill w1 w1 w.heap.size w.heap.size (List.replicate L.length (Value.slice none 0 0)) (backTo N 0) := by
    have h1 := hF0.out.M.below hb1
    refine ⟨by rw [backTo, hNl]; exact h1, fun i u b hu hb => ?_, Touch.refl _ _⟩
    obtain rfl := List.eq_of_mem_replicate (List.mem_of_getElem? hu)
    cases hb
  have hb2 := hbe0.trans (hb1.mono hbe0.size)
  clear Mn hF0 hN hb1 hbe0 hlt0
  replace hF1 := Lib.hid hF1
  obtain ⟨G, hG⟩ : ∃ G, G = w.heap.size := ⟨_, rfl⟩
  rw [← hG] at hX ⊢
  replace hG := Lib.hid hG
  obtain ⟨n, hn⟩ : ∃ n, n = L.length := ⟨_, rfl⟩
  rw [← hn] at hNl hX hL ⊢
  replace hn := Lib.hid hn
  go_wp2_with fail
  go_loopw [4, 5, 7, 14, 19, 20, 21] (fun _ _ _ i _ _ _ wr => BackOut w w1 wr G N i) (fun _ _ _ i _ _ _ _ => n - (intOf i).toNat)
  case atStart => exact ⟨0, _, Nat.zero_le _, rfl, by rw [hG.out]; exact hF1.out⟩
  case round =>
    obtain ⟨k, vs, hk, rfl, hF⟩ := hrel
    by_cases hlt : k < n
    · obtain ⟨r, hrk⟩ : ∃ r, N[k]? = some r := ⟨_, List.getElem?_eq_getElem (by omega)⟩
      have hrl : r.length ≤ 100000 := hlens.out r (List.mem_of_getElem? hrk)
      have hrf := hnf.out r (List.mem_of_getElem? hrk)
      obtain ⟨b, off, cap', u, e, hbl, hbG, hcell1, hrd1, hoff⟩ := hX.at hrk
      simp only [Value.slice.injEq, Option.some.injEq, Addr.mk.injEq] at e
      obtain ⟨⟨rfl, rfl, -⟩, -, rfl⟩ := e
      obtain ⟨ar, cr, rfl⟩ := hrd1.shape
      rw [Nat.zero_add] at hcell1
      have hcell := (cell_off hF.T hbl hbG).trans hcell1
      have i1 : (k : Int) < (n : Int) := by omega
      replace hrf := Lib.hid hrf
      replace hrd1 := Lib.hid hrd1
      clear hcell1
      go_wp2_with fail
      clear hcell
      go_loopw [7, 21] (fun _ j wx => BackIn w w1 wx G k N r j) (fun _ j _ => r.length - (intOf j).toNat)
      case atStart => exact ⟨0, vs, Nat.zero_le _, rfl, hF⟩
      case round =>
        clear hF
        obtain ⟨m, vs1, hm, rfl, hF⟩ := hrel
        by_cases hltm : m < r.length
        · obtain ⟨x, hx⟩ : ∃ x, r[m]? = some x := ⟨_, List.getElem?_eq_getElem hltm⟩
          obtain ⟨hx0, hxn⟩ := hrf.out.2 x (List.mem_of_getElem? hx)
          obtain ⟨y, rfl⟩ : ∃ y : Nat, x = y := ⟨x.toNat, by omega⟩
          obtain ⟨b2, off2, cap2, e2, hc2⟩ := RdI.cell (Rd.off hrd1.out hF.T (by rw [List.length_map]; exact hoff)) hx
          simp only [Value.slice.injEq] at e2
          obtain ⟨rfl, -, rfl⟩ := e2
          have i2 : (m : Int) < (r.length : Int) := by omega
          have hyn : y < n := by rw [hNl] at hxn; omega
          have i3 : (y : Int) < (n : Int) := by omega
          obtain ⟨F, hFy⟩ : ∃ F, (pushRow (backTo N k) k (r.take m))[y]? = some F := ⟨_, List.getElem?_eq_getElem (by rw [pushRow_len, backTo_len]; omega)⟩
          have hfl : F.length ≤ k * 100000 + 100000 := by
            have := (Low.row (i := k) (r := r.take m) (hlow.out k)) F (List.mem_of_getElem? hFy)
            rw [List.length_take] at this
            omega
          have hfl2 : k * 100000 ≤ 10000000000 := by omega
          obtain ⟨u1, hu1, hrow⟩ := hF.M.at hFy
          have hgc := hF.M.cell hu1
          have htk := Lib.hid (take_snoc hx)
          have hle := Nat.le_trans hb2.size hF.T.size
          have hrow' := hrow
          obtain ⟨au, cu, rfl⟩ := own_form hrow
          go_wp2_with (at_builtin; refine wpList_append_own_at _ rfl _ _ 25 rfl w.heap.size 3 i0 _ 1 8 Try.underlying25 hi0 hz0 hz1 hz2 rfl (by decide) _ _ _ rfl (hrow.alloc _) ⟨wr.heap.size, 0, none⟩ 1 1 [.int .i64 k] rfl rfl (World.news_of_block (cs := #[.int .i64 k]) (t := 3) (fr := (0, 0)) (heap_alloc_new wr _)) (by simp [Value.oneCell']) (by unfold maxLen; omega) (by omega) (by simp; omega) ?_)
          intro v' w2 hown2 hgrow hnil hat
          obtain ⟨⟨av2, cv2, rfl⟩, hc3, hf3, hF2⟩ := hF.appended hu1 hFy hown2 hgrow hat
          replace hF2 := Lib.hid hF2
          clear hown2 hgrow hnil hat hgc hrow hrow' hu1
          go_wp2_with fail
          refine ⟨⟨m + 1, vs1.set y (.slice av2 (F.length + 1) cv2), by omega, by go_num, ?_⟩, by simp [intOf]; omega⟩
          rw [htk.out, pushRow_snoc]
          unfold push
          rw [Int.toNat_natCast, hFy, Option.getD_some]
          exact hF2.out
        · obtain rfl : m = r.length := by omega
          rw [List.take_length] at hF
          have i2 : decide ((r.length : Int) < (r.length : Int)) = false := by simp
          replace hF := Lib.hid hF
          go_wp2_with fail
          refine ⟨⟨k + 1, vs1, by omega, by go_num, ?_⟩, by simp [intOf]; omega⟩
          rw [backTo, hrk, Option.getD_some]
          exact hF.out
    · obtain rfl : k = n := by omega
      have i1 : decide ((k : Int) < (k : Int)) = false := by simp
      have hfin : Hid (Mat wr w.heap.size G vs (backL L)) := by
        have := hF.M
        rw [← hNe.out] at this
        unfold backL
        rw [← hn.out]
        exact Lib.hid this
      have hb3 : Below w.heap.size w wr := hb2.trans (hF.T.below hb2.size (fun b hb e => by have := hG.out; omega))
      clear hF
      go_wp2_with fail
      go_ret
      exact ⟨G, vs, by rw [← hn.out]; rfl, hfin.out, hb3⟩
end Go.Proofs.Yteipncggndefmaa
