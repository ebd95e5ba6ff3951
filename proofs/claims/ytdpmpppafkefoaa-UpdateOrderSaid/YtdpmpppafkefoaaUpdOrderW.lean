/- UpdateOrder: the walk. -/
import Derived.Test.YtdpmpppafkefoaaUpdG
import Derived.Deep.RegionHeld3
import Derived.Deep.AppendLies
namespace Go.Proofs.Ytdpmpppafkefoaa
open Go.RowKit Go.Maps

/-- What stands behind place k, each twice, from behind. -/
def backs (xs : List Ex) (k : Nat) : List Ex := (xs.drop k).reverse.flatMap (fun x => [x, x])
theorem backs_step {xs : List Ex} {k : Nat} {x : Ex} (h : xs[k]? = some x) : backs xs k = backs xs (k + 1) ++ [x, x] := by
  obtain ⟨hlt, e⟩ := List.getElem?_eq_some_iff.1 h
  unfold backs
  rw [List.drop_eq_getElem_cons hlt, e, List.reverse_cons, List.flatMap_append]
  simp
theorem own_below {w w1 : World} {base e size : Nat} {v : Value} {n : Nat} {us : List Value} (h : w.ownsRow base e size v n us) (hb : Below w.heap.size w w1) : w1.ownsRow base e size v n us :=
  ownsRow_touch h (Touch.of_below hb (fun _ => False)) (fun _ _ h => h)
theorem New.grown {w w1 w2 : World} {s : Nat} {l : List Nat} {Q : Nat → Prop} (h : New w w1 s l) (ht : Touch w1 w2 Q) (hq : ∀ k, Q k → k < w.heap.size) : ASet w2 (ptr s) l := by
  obtain ⟨bm, D, S, h1, h2, h3⟩ := h
  exact Or.inr ⟨s, bm, D, rfl, S.kept ht (fun k hk q => by have := hq k q; rcases hk with rfl | rfl <;> omega)⟩
theorem setsX_hall {w0 w : World} {X : List Mx} {keep : Nat → Prop} (h : Hall w0 w (X.map (·.2)) keep) : SetsX w (X.map exOf) := by
  intro m p l hm _
  obtain ⟨x, hx, e⟩ := List.mem_map.1 hm
  obtain ⟨i, hi⟩ := List.mem_iff_getElem?.1 hx
  simp [exOf] at e
  obtain ⟨rfl, rfl, rfl⟩ := e
  exact h.aset (i := i) (by simp [hi])
theorem backs_end (xs : List Ex) : backs xs xs.length = [] := by simp [backs]
theorem backs_len (xs : List Ex) (k : Nat) : (backs xs k).length = 2 * (xs.length - k) := by
  have h : ∀ l : List Ex, (l.flatMap (fun x => [x, x])).length = 2 * l.length := by
    intro l
    induction l with
    | nil => rfl
    | cons y l ih => rw [List.flatMap_cons, List.length_append, ih]; simp; omega
  unfold backs
  rw [h]
  simp
theorem mem_backs {xs : List Ex} {x : Ex} : x ∈ backs xs 0 ↔ x ∈ xs := by unfold backs; simp
theorem order_same {A : List Nat} {xs : List Ex} {n : Nat} : n ∈ callL A xs ↔ n ∈ callL A (backs xs 0) := by
  rw [mem_callL, mem_callL]
  constructor
  · rintro ⟨x, hx, hn⟩
    exact ⟨x, mem_backs.2 hx, hn⟩
  · rintro ⟨x, hx, hn⟩
    exact ⟨x, mem_backs.1 hx, hn⟩

section
variable {w : World} {va vl : Value} {xa : List Int} {ls : List Lx}

set_option maxRecDepth 20000 in
theorem order_great (ha : RdI w va xa) (hl : RowL w vl ls) (h : Great xa [] [] ls) : Calls Try.prog 5 #[va, vl] w fun e w' => e = .returned (.bool true) ∧ Below w.heap.size w w' := by
  have hg := Lib.hid (great_yes ha (rdI_none w) (rdI_none w) hl h)
  have hw := Lib.hid (uwakes_any w)
  obtain ⟨a, c, rfl⟩ := ha.form
  obtain ⟨a3, c3, rfl⟩ := hl.form
  rw [List.length_map] at hg ⊢
  clear ha hl
  go_enter Try.func5, Try.ntmps5
  go_wp2_with fail
  refine hg.out.mono ?_
  rintro e w' ⟨rfl, hw'⟩
  obtain rfl := hw'.symm
  go_wp2_with fail
  refine hw.out.mono ?_
  rintro e w' ⟨rfl, hb⟩
  go_wp2_with fail
  go_ret
  exact ⟨rfl, hb⟩

set_option maxRecDepth 20000 in
set_option maxHeartbeats 4000000 in
theorem order_any (ha : RdI w va xa) (hl : RowL w vl ls) (xa63 : ∀ x ∈ xa, x < 9223372036854775808) (h : ¬ Great xa [] [] ls) : Calls Try.prog 5 #[va, vl] w fun e w' => e = .returned (.bool true) ∧ Below w.heap.size w w' := by
  obtain ⟨i0, hi0, hz0, hz1, hz2⟩ := info_parts infoX
  obtain ⟨na, -, -, nl, nx⟩ := great_not h
  have hg := Lib.hid (great_no' ha (rdI_none w) (rdI_none w) hl h)
  have hform := hl.form
  obtain ⟨a, c, rfl⟩ := ha.form
  obtain ⟨a3, c3, rfl⟩ := hl.form
  rw [List.length_map] at ha hg ⊢
  clear h hform
  have hold := Below.refl w.heap.size w
  go_enter Try.func5, Try.ntmps5
  go_wp2_with fail
  refine hg.out.mono ?_
  rintro e w' ⟨rfl, hw'⟩
  obtain rfl := hw'.symm
  clear hg
  have hlx := hl
  clear hl
  go_wp2_with fail
  refine (of_new ha xa63 (by omega)).mono ?_
  rintro e w1 ⟨s_a, rfl, N_a⟩
  have hb := N_a.below
  replace hlx := hlx.below hb
  replace hold := hold.trans (hb.mono hold.size)
  clear hb
  have a := N_a.aset
  clear N_a
  clear ha xa63
  have hA : (numsOf xa).length ≤ 300 := Nat.le_trans (numsOf_len xa) na
  generalize numsOf xa = A at a hA
  go_wp2_with fail
  refine (exits_any hlx (by omega) (fun x hx => Nat.le_trans (nx x hx) (by decide))).mono ?_
  rintro e w2 ⟨v, X, rfl, hE, hX⟩
  have hXl : X.length ≤ 60 := by
    have := congrArg List.length hX
    simp at this
    omega
  have hX1 : ∀ x ∈ X.map exOf, x.2.2.length ≤ 300 := by
    intro x hx
    obtain ⟨y, hy, rfl⟩ := List.mem_map.1 hx
    have h1 : (y.1, y.2.2) ∈ ls.map (fun x => (x.1, numsOf x.2.2)) := hX ▸ List.mem_map.2 ⟨y, hy, rfl⟩
    obtain ⟨z, hz, e⟩ := List.mem_map.1 h1
    have h2 : numsOf z.2.2 = y.2.2 := congrArg Prod.snd e
    show y.2.2.length ≤ 300
    rw [← h2]
    exact Nat.le_trans (numsOf_len _) (nx z hz)
  replace hX1 := Lib.hid hX1
  clear hX hlx nx nl
  obtain ⟨av, cv, rfl⟩ := own_form hE.1
  have hb2 := hE.2.old
  have hold1 := hold
  replace hold := hold.trans (hb2.mono hold.size)
  have a2 := a.below hb2
  have a1 := a
  clear a
  have hEl := hE.1
  rw [cells_MX] at hEl
  have hlen : (X.map exOf).length = X.length := by simp
  have hEs : RowX w2 _ (X.map exOf) := rowX_of_own hEl hlen.symm
  have hEt := hE.setsX
  have hlow : ∀ b, (Value.slice av X.length cv).ownBlock = some b → w1.heap.size ≤ b ∧ b < w2.heap.size := fun b e => hE.1.lt b e
  obtain ⟨xs, hxs⟩ : ∃ xs, xs = X.map exOf := ⟨_, rfl⟩
  rw [← hxs] at hEl hEs hEt hX1 hlen
  replace hxs := Lib.hid hxs
  have hlen2 : X.length = xs.length := hlen.symm
  clear hlen
  obtain ⟨n, hn⟩ : ∃ n, n = X.length := ⟨_, rfl⟩
  rw [← hn] at hEl hEs hlow hlen2 hXl ⊢
  replace hn := Lib.hid hn
  obtain rfl := hlen2
  go_wp2_with fail
  go_loopw [7, 8] (fun bk i wr => ∃ (k : Nat) (v' : Value), k ≤ xs.length ∧ i = .int .i64 ((k : Int) - 1) ∧ bk = v' ∧ wr.ownsRow w2.heap.size 37 2 v' (2 * (xs.length - k)) ((backs xs k).flatMap cellsE) ∧ Below w2.heap.size w2 wr) (fun _ i _ => (intOf i + 1).toNat)
  case atStart => exact ⟨xs.length, _, Nat.le_refl _, rfl, rfl, by rw [backs_end, Nat.sub_self]; exact World.ownsRow_nil _ _ _ _, Below.refl _ _⟩
  case round =>
    obtain ⟨k, v', hk, rfl, rfl, hrow, hbr⟩ := hrel
    by_cases hlt : 0 < k
    · obtain ⟨j, rfl⟩ : ∃ j, k = j + 1 := ⟨k - 1, by omega⟩
      obtain ⟨⟨m, p, l⟩, hxj⟩ : ∃ x, xs[j]? = some x := ⟨_, List.getElem?_eq_getElem (by omega)⟩
      obtain ⟨b, off, cap, e, hb, c0, c1⟩ := hEs.at hxj
      simp only [Value.slice.injEq] at e
      obtain ⟨rfl, -, rfl⟩ := e
      have d0 := (hbr.cell (p := ⟨b, off + j * 2, none⟩) hb).trans c0
      have d1 := (hbr.cell (p := ⟨b, off + j * 2 + 1, none⟩) hb).trans c1
      have hbw : b < wr.heap.size := Nat.lt_of_lt_of_le hb hbr.size
      have hst := Lib.hid (backs_step hxj)
      clear c0 c1 hxj
      rw [show (((j + 1 : Nat) : Int) - 1) = (j : Int) from by omega]
      have g0 : decide ((j : Int) ≥ 0) = true := by simp
      have i1 : (j : Int) < (xs.length : Int) := by omega
      have i2 : (0 : Int) ≤ (j : Int) := by omega
      have hne : u7.ownBlock ≠ some b := fun e => by have := (hrow.lt b e).1; omega
      have hrz := hbr.size
      go_wp2_with fail
      go_region_held3 (fun w' => w'.cell? ⟨b, off + j * 2, none⟩ = some (.bool m) ∧ w'.cell? ⟨b, off + j * 2 + 1, none⟩ = some (.pointer p))
        (first
          | go_keep
          | (go_split_ands
             refine ⟨?_, ?_⟩
             · (rw [hgrow.cell_far _ (by simp; omega) (Ne.symm hne)]; assumption)
             · (rw [hgrow.cell_far _ (by simp; omega) (Ne.symm hne)]; assumption)))
        ((refine step_append_lies _ (by rfl) _ _ _ (by rfl) w2.heap.size 37 i0 _ 2 16 Try.underlying30 hi0 hz0 hz1 hz2 rfl (by omega) u7 (2 * (xs.length - (j + 1))) _ (by rfl) ((hrow.alloc _).drew)
            ⟨wr.heap.size, 0, none⟩ 2 2 [.bool m, .pointer p, .bool m, .pointer p] (by rfl) (by rfl) (World.news_of_block (cs := #[.bool m, .pointer p, .bool m, .pointer p]) (t := 37) (fr := (0, 0)) (heap_alloc_new wr _)) (by simp [Value.oneCell'])
            (by omega) (by unfold maxLen; omega) (by omega) (by simp; omega) (wr.heap.size + 1) (by simp) ?_; intro gg cap' w3 hown2 hgrow hat hlt2))
      have hb3 : Below w2.heap.size wr w3 := (below_drawn ((Below.refl _ wr).alloc hrz (.cells #[.bool m, .pointer p, .bool m, .pointer p] 37)) 1).trans ((Touch.of_grown hgrow (S := fun k => u7.ownBlock = some k) (fun k e => e)).below (by simp; omega) (fun k hk e => by have := (hrow.lt k e).1; omega))
      have hrow3 : w3.ownsRow w2.heap.size 37 2 (.slice (some ⟨gg, 0, none⟩) (2 * (xs.length - (j + 1)) + 2) cap') (2 * (xs.length - j)) ((backs xs j).flatMap cellsE) := by
        have e1 : 2 * (xs.length - (j + 1)) + 2 = 2 * (xs.length - j) := by omega
        rw [hst.out, List.flatMap_append]
        rw [← e1]
        exact hown2
      replace hb3 := Lib.hid (hbr.trans hb3)
      replace hrow3 := Lib.hid hrow3
      clear hrow hown2 hgrow hat d0 d1 hne hst
      go_wp2_with fail
      go_roundw
      case rel => exact ⟨j, _, by omega, rfl, rfl, hrow3.out, hb3.out⟩
      case measure => simp [intOf]
    · have : k = 0 := by omega
      subst this
      have g0 : decide ((((0 : Nat) : Int) - 1) ≥ 0) = false := by simp
      have hbl : (backs xs 0).length = 2 * xs.length := by rw [backs_len]; rfl
      rw [Nat.sub_zero] at hrow
      replace hold := hold.trans (hbr.mono hold.size)
      have holda := hb2.trans (hbr.mono hb2.size)
      have a := a2.below hbr
      have hH := hE.2.below hbr
      have hEl3 := own_below hEl hbr
      have hEs3 := hEs.below hbr
      have hEt3 := hEt.below hbr
      have hvlt : ∀ b, (Value.slice av xs.length cv).ownBlock = some b → w1.heap.size ≤ b ∧ b < w2.heap.size := hlow
      have hX3 : ∀ x ∈ xs, x.2.2.length ≤ 1000 := fun x hx => Nat.le_trans (hX1.out x hx) (by decide)
      have hrz := hbr.size
      replace hX3 := Lib.hid hX3
      replace hvlt := Lib.hid hvlt
      clear hE hEs hEt hEl a2 hbr hlow
      go_wp2_with fail
      refine (news (call_new a hEs3 hEt3 (by omega) hX3.out (by omega))).mono ?_
      rintro e w11 ⟨s_u, rfl, N_u⟩
      clear hEs3 hEt3
      have hU : (callL A xs).length ≤ 1000 * xs.length := callL_len A (by omega) xs hX3.out
      have N0_u := N_u
      have hb := N_u.below
      replace a := a.below hb
      replace hH := hH.below hb
      replace hEl3 := own_below hEl3 hb
      replace hrow := own_below hrow hb
      replace holda := holda.trans (hb.mono holda.size)
      replace hold := hold.trans (hb.mono hold.size)
      clear hb
      have u := N_u.aset
      clear N_u
      have N_u := N0_u
      clear N0_u
      have N_u0 := N_u
      go_wp2_with fail
      refine (of_lit w11 (x := 1099511627776) (by decide)).mono ?_
      rintro e w12 ⟨s_x, rfl, N_x⟩
      change New _ _ _ [1099511627776] at N_x
      have N0_x := N_x
      have hb := N_x.below
      replace a := a.below hb
      replace u := u.below hb
      replace hH := hH.below hb
      replace hEl3 := own_below hEl3 hb
      replace hrow := own_below hrow hb
      replace holda := holda.trans (hb.mono holda.size)
      replace N_u := N_u.later hb
      replace hold := hold.trans (hb.mono hold.size)
      clear hb
      have x := N_x.aset
      clear N_x
      have N_x := N0_x
      clear N0_x
      go_wp2_with (at_builtin; go_must (refine wpList_append_own_at _ rfl _ _ 30 rfl w1.heap.size 37 i0 _ 2 16 Try.underlying30 hi0 hz0 hz1 hz2 rfl (by decide) _ _ _ rfl (hEl3.alloc _) ⟨w12.heap.size, 0, none⟩ 1 1 [.bool false, ptr s_x] rfl rfl ?c1 ?c2 ?c3 ?c4 ?c5 ?_))
      case c1 => exact World.news_of_block (cs := #[.bool false, ptr s_x]) (t := 37) (fr := (0, 0)) (heap_alloc_new w12 _)
      case c2 => simp [Value.oneCell']
      case c3 => unfold maxLen; omega
      case c4 => omega
      case c5 => have := holda.size; simp; omega
      intro v5 w20 hown5 hgrow _ _
      have hz11 := N_u0.below.size
      have hba : Below w12.heap.size w12 (w12.alloc (.cells #[.bool false, ptr s_x] 37)) := (Below.refl _ _).alloc (Nat.le_refl _) _
      have hT : Touch (w12.alloc (.cells #[.bool false, ptr s_x] 37)) w20 (fun k => (Value.slice av xs.length cv).ownBlock = some k) := Touch.of_grown hgrow (fun k e => e)
      have hbg : Below w1.heap.size w12 w20 := ((Below.refl _ w12).alloc holda.size _).trans (hT.below (by have := holda.size; simp; omega) (fun k hk e => by have := (hvlt.out k e).1; omega))
      replace hold := hold.trans (hbg.mono hold1.size)
      replace holda := holda.trans hbg
      replace a := a1.below holda
      replace u := (N_u.later hba).grown hT (fun k e => by have := (hvlt.out k e).2; omega)
      replace x := (N_x.later hba).grown hT (fun k e => by have := (hvlt.out k e).2; omega)
      replace hH := (hH.below hba).touch hT (fun k hk e => by have := (hvlt.out k e).1; omega) (fun k e => by rw [hn.out] at e; exact Or.inl e)
      replace hrow := ownsRow_touch (own_below hrow hba) hT (fun b hb e => by have h1 := (hrow.lt b hb).1; have h2 := (hvlt.out b e).2; omega)
      have hS : SetsX w20 xs := hxs.out ▸ setsX_hall hH
      have hRx : RowX w20 v5 (xs ++ [(false, some ⟨s_x, 0, none⟩, [1099511627776])]) := rowX_of_own (xs := xs ++ [(false, some ⟨s_x, 0, none⟩, [1099511627776])]) (by rw [List.flatMap_append]; exact hown5) (by simp)
      have hSx : SetsX w20 (xs ++ [(false, some ⟨s_x, 0, none⟩, [1099511627776])]) := by
        intro m p l hm ht
        rcases List.mem_append.1 hm with h | h
        · exact hS m p l h ht
        · simp at h
          obtain ⟨rfl, -, -⟩ := h
          cases ht
      have hXx : ∀ y ∈ xs ++ [(false, some ⟨s_x, 0, none⟩, [1099511627776])], y.2.2.length ≤ 1000 := by
        intro y hy
        rcases List.mem_append.1 hy with h | h
        · exact hX3.out y h
        · rw [List.mem_singleton] at h
          subst h
          simp
      replace hXx := Lib.hid hXx
      clear hown5 hgrow hT hba hbg N_u N_x N_u0 hEl3 hS hz11
      go_wp2_with fail
      refine (news (call_new a hRx hSx (by omega) hXx.out (by simp; omega))).mono ?_
      rintro e w21 ⟨s_s, rfl, N_s⟩
      rw [show callL A (xs ++ [(false, some ⟨s_x, 0, none⟩, [1099511627776])]) = uni (callL A xs) A from by rw [callL_snoc]; rfl] at N_s
      have hb := N_s.below
      replace a := a.below hb
      replace u := u.below hb
      replace x := x.below hb
      replace hH := hH.below hb
      replace hrow := own_below hrow hb
      replace holda := holda.trans (hb.mono holda.size)
      replace hold := hold.trans (hb.mono hold.size)
      clear hb
      have s := N_s.aset
      clear N_s
      clear hRx hSx hXx
      clear x
      go_wp2_with fail
      refine (copy_new u (by omega)).mono ?_
      rintro e w22 ⟨s_c, rfl, N_c⟩
      go_wp2_with fail
      refine (new_union N_c a (by omega)).mono ?_
      rintro e w23 ⟨⟨r23, rfl⟩, M_c⟩
      clear N_c
      have N_c := M_c
      clear M_c
      have hb := N_c.below
      replace a := a.below hb
      replace u := u.below hb
      replace s := s.below hb
      replace hH := hH.below hb
      replace hrow := own_below hrow hb
      replace holda := holda.trans (hb.mono holda.size)
      replace hold := hold.trans (hb.mono hold.size)
      clear hb
      have c := N_c.aset
      clear N_c
      go_wp2_with fail
      have hSb : SetsX w23 (backs xs 0) := fun m p l hm ht => (hxs.out ▸ setsX_hall hH : SetsX w23 xs) m p l (mem_backs.1 hm) ht
      go_wp2_with fail
      refine (news (call_new a (rowX_of_own hrow hbl.symm) hSb (by omega) (fun y hy => hX3.out y (mem_backs.1 hy)) (by omega))).mono ?_
      rintro e w24 ⟨s_d, rfl, N_d⟩
      have hb := N_d.below
      replace a := a.below hb
      replace u := u.below hb
      replace s := s.below hb
      replace c := c.below hb
      replace hH := hH.below hb
      replace hrow := own_below hrow hb
      replace holda := holda.trans (hb.mono holda.size)
      replace hold := hold.trans (hb.mono hold.size)
      clear hb
      have d := N_d.aset
      clear N_d
      clear hSb
      go_wp2_with fail
      refine (same_a u d).mono ?_
      rintro e w25 ⟨rfl, hb⟩
      replace a := a.below hb
      replace u := u.below hb
      replace s := s.below hb
      replace c := c.below hb
      replace d := d.below hb
      replace hH := hH.below hb
      replace hrow := own_below hrow hb
      replace holda := holda.trans (hb.mono holda.size)
      replace hold := hold.trans (hb.mono hold.size)
      clear hb
      rw [alike_of u.nodup d.nodup (fun n => order_same)]
      clear d
      clear hH hrow holda
      go_wp2_with fail
      refine (news (call_new a (v := .slice none 0 0) (xs := []) (Or.inl ⟨rfl, Or.inl rfl⟩) (fun _ _ _ h => by cases h) (by omega) (by simp) (by decide))).mono ?_
      rintro e w26 ⟨s_d, rfl, N_d⟩
      have hb := N_d.below
      replace a := a.below hb
      replace u := u.below hb
      replace s := s.below hb
      replace c := c.below hb
      replace hold := hold.trans (hb.mono hold.size)
      clear hb
      have d := N_d.aset
      clear N_d
      go_wp2_with fail
      refine (len_a d).mono ?_
      rintro e w' ⟨rfl, hw⟩
      obtain rfl := hw.symm
      rw [show (callL A []).length = 0 from rfl]
      clear d
      go_wp2_with fail
      have hba : Below w26.heap.size w26 (w26.alloc (.cells #[.bool false, .pointer none] 37)) := (Below.refl _ _).alloc (Nat.le_refl _) _
      go_wp2_with fail
      refine (news (call_new (a.below hba) (xs := [(false, none, [])]) (rowX_block w26 false none []) (fun m p l h ht => by simp at h; obtain ⟨rfl, rfl, rfl⟩ := h; cases ht) (by omega) (by simp) (by simp))).mono ?_
      rintro e w27 ⟨s_d, rfl, N_d⟩
      replace N_d := N_d.down hba
      rw [show callL A [(false, none, [])] = A from nil_uni A] at N_d
      have hb := N_d.below
      replace a := a.below hb
      replace u := u.below hb
      replace s := s.below hb
      replace c := c.below hb
      replace hold := hold.trans (hb.mono hold.size)
      clear hb
      have d := N_d.aset
      clear N_d
      clear hba
      go_wp2_with fail
      refine (same_a d a).mono ?_
      rintro e w28 ⟨rfl, hb⟩
      replace a := a.below hb
      replace u := u.below hb
      replace s := s.below hb
      replace c := c.below hb
      replace d := d.below hb
      replace hold := hold.trans (hb.mono hold.size)
      clear hb
      rw [alike_refl]
      go_wp2_with fail
      refine (same_a s c).mono ?_
      rintro e w29 ⟨rfl, hb⟩
      replace a := a.below hb
      replace u := u.below hb
      replace s := s.below hb
      replace c := c.below hb
      replace d := d.below hb
      replace hold := hold.trans (hb.mono hold.size)
      clear hb
      rw [alike_refl]
      go_wp2_with fail
      refine (uwakes_any _).mono ?_
      rintro e w30 ⟨rfl, hb⟩
      replace a := a.below hb
      replace u := u.below hb
      replace s := s.below hb
      replace c := c.below hb
      replace d := d.below hb
      replace hold := hold.trans (hb.mono hold.size)
      clear hb
      go_wp2_with fail
      go_ret
      exact ⟨rfl, hold⟩
  end
  end Go.Proofs.Ytdpmpppafkefoaa

