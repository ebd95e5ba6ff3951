/- GraphForms: the walk. -/
import Derived.Test.YtfhckabhaidhmaaGLawK
namespace Go.Proofs.Ytfhckabhaidhmaa
open Go.RowKit Go.Maps Go.Shelf Go.WideShapes Go.ChangeShapes Go.ChangeAt Go.Deep

/-- One cell of an owned row is written over. -/
theorem row_set {w : World} {base g n cap k : Nat} {e : TypeId} {xs : List Value} (h : w.ownsRow base e 1 (.slice (some ⟨g, 0, none⟩) n cap) n xs) (hk : k < n) {x : Value} (hx : x.oneCell' = true) :
    (w.setCell ⟨g, k, none⟩ x).ownsRow base e 1 (.slice (some ⟨g, 0, none⟩) n cap) n (xs.set k x) := by
  obtain ⟨h0, ⟨e', _⟩ | ⟨g', cap', cur, e', hB, hg, hn, hc, hs, hxs⟩⟩ := h
  · cases e'
  · simp only [Value.slice.injEq, Option.some.injEq, Addr.mk.injEq] at e'
    obtain ⟨⟨rfl, -, -⟩, -, rfl⟩ := e'
    refine ⟨by simpa using h0, .inr ⟨g, cap, cur.setIfInBounds k x, rfl, hB, blk_set x hg, hn, hc, by simpa using hs, ?_⟩⟩
    rw [Array.toList_setIfInBounds, List.take_set, hxs]
theorem row_cells {w : World} {base g n cap k : Nat} {e : TypeId} {xs : List Value} {u : Value} (h : w.ownsRow base e 1 (.slice (some ⟨g, 0, none⟩) n cap) n xs) (hk : xs[k]? = some u) : w.cell? ⟨g, k, none⟩ = some u ∧ w.frozen? ⟨g, k, none⟩ = false := by
  obtain ⟨h0, ⟨e', _⟩ | ⟨g', cap', cur, e', hB, hg, hn, hc, hs, hxs⟩⟩ := h
  · cases e'
  · simp only [Value.slice.injEq, Option.some.injEq, Addr.mk.injEq] at e'
    obtain ⟨⟨rfl, -, -⟩, -, rfl⟩ := e'
    refine ⟨?_, by simp [World.frozen?, hg]⟩
    rw [blk_cell hg, ← Array.getElem?_toList]
    rw [Nat.mul_one] at hxs
    rw [← hxs, List.getElem?_take] at hk
    split at hk
    · exact hk
    · cases hk

def FormsOut (wA wr : World) (G : Nat) (vs : List Value) (N : List (List Int)) (i : Value) : Prop :=
  ∃ (k : Nat) (A : List (List Int)), k ≤ N.length ∧ i = .int .i64 k ∧ Mat wr wA.heap.size G vs A ∧ A.map List.length = N.map List.length ∧ Below wA.heap.size wA wr
def FormsIn (wA wr : World) (G : Nat) (vs : List Value) (N : List (List Int)) (n : Nat) (j : Value) : Prop :=
  ∃ (m : Nat) (A : List (List Int)), m ≤ n ∧ j = .int .i64 m ∧ Mat wr wA.heap.size G vs A ∧ A.map List.length = N.map List.length ∧ Below wA.heap.size wA wr
theorem norm_lens {L : List (List Int)} {m : Nat} (h : ∀ r ∈ L, r.length ≤ m) : ∀ r ∈ normL L, r.length ≤ m := by
  intro r hr'
  obtain ⟨s, hs, rfl⟩ := List.mem_map.1 hr'
  exact Nat.le_trans (rowL_len _ _) (h s hs)
theorem back_lens {L : List (List Int)} {m : Nat} (h : ∀ r ∈ L, r.length ≤ m) : ∀ r ∈ backL L, r.length ≤ L.length * m := fun r hr => Low.back (norm_lens h) L.length r hr

set_option maxRecDepth 20000 in
set_option maxHeartbeats 4000000 in
theorem forms_any {w : World} {v : Value} {L : List (List Int)} (h : RdG w v L) : Calls Try.prog 3 #[v] w fun e w' => e = .returned (.bool true) ∧ Below w.heap.size w w' := by
  obtain ⟨av, cap, rfl⟩ := h.form
  go_enter Try.func3, Try.ntmps3
  go_wp2_with fail
  refine (great_any h).mono ?_
  rintro e w' ⟨q, rfl, rfl, hq⟩
  cases q with
  | true =>
    go_wp2_with fail
    refine wakes_g.mono ?_
    rintro e w1 ⟨rfl, hb⟩
    go_wp2_with fail
    go_ret
    exact ⟨rfl, hb⟩
  | false =>
    obtain ⟨hL, hr⟩ := hq rfl
    clear hq
    have hr1 : Hid (∀ r ∈ L, r.length ≤ 100000) := Lib.hid (fun r hr' => by have := hr r hr'; omega)
    replace hr := Lib.hid hr
    go_wp2_with fail
    refine (own_any h (by omega) hr1.out).mono ?_
    rintro e wA ⟨vi, rfl, hin, hbA⟩
    replace hin := hin.rd
    have hgA := h.below hbA
    have hold := hbA
    clear hbA
    go_wp2_with fail
    refine (norm_any hin (by omega) hr1.out).mono ?_
    rintro e w1 ⟨G, vs, rfl, M, hb1⟩
    have hin1 := hin.below hb1
    go_wp2_with fail
    refine (back_any hin1 (by omega) hr1.out).mono ?_
    rintro e w2 ⟨G2, vs2, rfl, M2, hb2⟩
    replace M := M.below hb2
    have hb := hb1.trans (hb2.mono hb1.size)
    have hg2 := hgA.below hb
    clear hin1 hb1 hb2
    go_wp2_with fail
    refine (rnorm_any hg2 (by omega) hr1.out).mono ?_
    rintro e w3 ⟨vn, rfl, hX, hb3⟩
    replace M := M.below hb3
    replace M2 := M2.below hb3
    replace hb := hb.trans (hb3.mono hb.size)
    replace hX := hX.rd
    have hg3 := hg2.below hb3
    clear hg2 hb3
    go_wp2_with fail
    have hlen := normL_len L
    refine (rsameg_yes (L := normL L) (M.rd (n := L.length) hlen.symm) hX (by omega) (fun r hr' => by have := norm_lens hr1.out r hr'; omega)).mono ?_
    rintro e w4 ⟨rfl, n4, e4⟩
    have hb4 : Below w3.heap.size w3 w4 := by rw [e4]; exact below_drawn (Below.refl _ _) n4
    replace M := M.below hb4
    replace M2 := M2.below hb4
    replace hb := hb.trans (hb4.mono hb.size)
    have hg4 := hg3.below hb4
    clear e4 hb4 hX hg3
    go_wp2_with fail
    refine (rback_any hg4 (by omega) hr1.out).mono ?_
    rintro e w5 ⟨G5, vs5, rfl, M5, hb5⟩
    replace M := M.below hb5
    replace M2 := M2.below hb5
    replace hb := hb.trans (hb5.mono hb.size)
    clear hb5 hg4
    go_wp2_with fail
    have hbl := backL_len L
    refine (rsameg_yes (L := backL L) (M2.rd (n := L.length) hbl.symm) (M5.rd (n := L.length) hbl.symm) (by omega) (fun r hr' => by have := back_lens hr.out r hr'; have : L.length * 3000 ≤ 200 * 3000 := Nat.mul_le_mul_right _ hL; omega)).mono ?_
    rintro e w6 ⟨rfl, n6, e6⟩
    have hb6 : Below w5.heap.size w5 w6 := by rw [e6]; exact below_drawn (Below.refl _ _) n6
    replace M := M.below hb6
    replace hb := hb.trans (hb6.mono hb.size)
    clear e6 hb6 M2 M5
    obtain ⟨N, hN⟩ : ∃ N, Hid (normL L = N) := ⟨_, Lib.hid rfl⟩
    obtain ⟨n, hn⟩ : ∃ n, n = L.length := ⟨_, rfl⟩
    rw [hN.out] at M hlen
    rw [← hn] at hlen
    have hrN : Hid (∀ r ∈ N, r.length ≤ 100000) := Lib.hid (by rw [← hN.out]; exact norm_lens hr1.out)
    rw [← hn] at hL ⊢
    replace hn := Lib.hid hn
    go_wp2_with fail
    go_loopw [6, 7] (fun i _ wr => FormsOut wA wr G vs N i) (fun i _ _ => n - (intOf i).toNat)
    case atStart => exact ⟨0, N, Nat.zero_le _, rfl, M, rfl, hb⟩
    case round =>
      clear M hb
      obtain ⟨k, A, hk, rfl, M, hA, hb⟩ := hrel
      by_cases hlt : k < n
      · have i1 : (k : Int) < (n : Int) := by omega
        have hAl : A.length = N.length := by simpa using congrArg List.length hA
        obtain ⟨r, hrk⟩ : ∃ r, A[k]? = some r := ⟨_, List.getElem?_eq_getElem (by omega)⟩
        obtain ⟨u, hu, hrow⟩ := M.at hrk
        have hrl : r.length ≤ 100000 := by
          have h1 : (A.map List.length)[k]? = some r.length := by simp [hrk]
          rw [hA] at h1
          obtain ⟨s, hs, e⟩ := List.getElem?_map .. ▸ h1 |> Option.map_eq_some_iff.1
          have := hrN.out s (List.mem_of_getElem? hs)
          omega
        obtain ⟨au, cu, rfl⟩ := own_form hrow
        obtain ⟨rl, hrle⟩ : ∃ rl, rl = r.length := ⟨_, rfl⟩
        rw [← hrle] at hu hrl
        replace hu := Lib.hid hu
        replace hrle := Lib.hid hrle
        clear hrow hAl
        go_wp2_with fail
        go_loopw [7] (fun j wr => FormsIn wA wr G vs N rl j) (fun j _ => rl - (intOf j).toNat)
        case atStart => exact ⟨0, A, Nat.zero_le _, rfl, M, hA, hb⟩
        case round =>
          replace hrk := Lib.hid hrk
          replace hA := Lib.hid hA
          clear M hb
          obtain ⟨m, A2, hm, rfl, M, hA2, hb⟩ := hrel
          have hgc := M.cell hu.out
          by_cases hltm : m < rl
          · have i2 : (m : Int) < (rl : Int) := by omega
            have hAl : A2.length = N.length := by simpa using congrArg List.length hA2
            obtain ⟨r2, hrk2⟩ : ∃ r, A2[k]? = some r := ⟨_, List.getElem?_eq_getElem (by omega)⟩
            have hr2l : r2.length = rl := by
              have h1 : (A2.map List.length)[k]? = (A.map List.length)[k]? := by rw [hA2, hA.out]
              simp [hrk2, hrk.out] at h1
              rw [h1, ← hrle.out]
            obtain ⟨u2, hu2, hrow⟩ := M.at hrk2
            rw [hu.out] at hu2
            obtain rfl := Option.some.inj hu2
            rw [hr2l] at hrow
            obtain ⟨g, cg, e⟩ := row_form hrow (by omega)
            simp only [Value.slice.injEq] at e
            obtain ⟨rfl, -, rfl⟩ := e
            obtain ⟨x2, hx2⟩ : ∃ x, r2[m]? = some x := ⟨_, List.getElem?_eq_getElem (by omega)⟩
            obtain ⟨hc, hf⟩ := row_cells hrow (k := m) (u := encI x2) (by simp [hx2])
            unfold encI at hc
            clear hx2
            have hT := (Touch.refl wr (fun b => (Value.slice (some ⟨g, 0, none⟩) rl cu).ownBlock = some b)).setCell (a := ⟨g, m, none⟩) (fun _ => rfl) (.int .i64 (-9))
            have hrow2 := row_set hrow hltm (x := encI (-9)) rfl
            have M2 := M.here hu.out hrk2 hT (l' := r2.set m (-9)) (by rw [List.length_set, hr2l, List.map_set]; exact hrow2)
            have hbS := hb.setCell (p := ⟨g, m, none⟩) (hrow.lt g rfl).1 (.int .i64 (-9))
            have hA3 : (A2.set k (r2.set m (-9))).map List.length = N.map List.length := by
              rw [List.map_set, List.length_set, ← hA2]
              have h1 : (A2.map List.length)[k]? = some r2.length := by simp [hrk2]
              obtain ⟨hh, e⟩ := List.getElem?_eq_some_iff.1 h1
              rw [← e, List.set_getElem_self]
            replace M2 := Lib.hid M2
            replace hA3 := Lib.hid hA3
            replace hrk2 := Lib.hid hrk2
            clear hT hrow hrow2 hAl hA2 hr2l M
            go_wp2_with fail
            exact ⟨⟨m + 1, _, by omega, by go_num, M2.out, hA3.out, hbS⟩, by simp [intOf]; omega⟩
          · obtain rfl : m = rl := by omega
            have i2 : decide ((m : Int) < (m : Int)) = false := by simp
            replace hA2 := Lib.hid hA2
            go_wp2_with fail
            exact ⟨⟨k + 1, A2, by omega, by go_num, M, hA2.out, hb⟩, by simp [intOf]; omega⟩
      · obtain rfl : k = n := by omega
        have i1 : decide ((k : Int) < (k : Int)) = false := by simp
        have hin2 := hin.below hb
        have hg2 := hgA.below hb
        have hk2 := hn.out
        replace hA := Lib.hid hA
        clear M hin hgA
        go_wp2_with fail
        refine (rsameg_yes hin2 hg2 (by omega) (fun r hr' => by have := hr1.out r hr'; omega)).mono ?_
        rintro e w7 ⟨rfl, n7, e7⟩
        have hb7 := below_drawn (hold.trans (hb.mono hold.size)) n7
        rw [← e7] at hb7
        clear e7 hin2 hg2
        go_wp2_with fail
        refine wakes_g.mono ?_
        rintro e w8 ⟨rfl, hb8⟩
        replace hb7 := hb7.trans (hb8.mono hb7.size)
        go_wp2_with fail
        go_ret
        exact ⟨rfl, hb7⟩
end Go.Proofs.Ytfhckabhaidhmaa
