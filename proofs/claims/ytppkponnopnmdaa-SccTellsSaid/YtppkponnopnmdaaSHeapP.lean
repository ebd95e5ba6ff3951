/- container/heap's Push and Pop over scc's numbers, walked. -/
import Derived.Test.YtppkponnopnmdaaSHeapD
namespace Go.Proofs.Ytppkponnopnmdaa
open Go.RowKit Go.Maps Go.Shelf
theorem getD_left {l r : List Int} {k : Nat} (h : k < l.length) : (l ++ r).getD k 0 = l.getD k 0 := by
  unfold List.getD
  rw [List.getElem?_append_left h]
theorem Ord.push {l : List Int} {x : Int} (h : Ord l l.length) : OrdUp (l ++ [x]) (l ++ [x]).length l.length := by
  rw [List.length_append, List.length_singleton]
  refine ⟨fun k k0 kn kp => ?_, fun k k0 kn kp p0 => by omega⟩
  rw [getD_left (by omega), getD_left (by omega)]
  exact h k k0 (by omega)
theorem Ord.swap {l : List Int} {n : Nat} {x z : Int} (h : Ord l l.length) (hn : l.length = n + 1) (hx : l[0]? = some x) (hz : l[n]? = some z) : OrdDown (swapL l 0 n x z) n 0 := by
  refine ⟨fun k k0 kn kp => ?_, fun k k0 kn kp p0 => by omega⟩
  rw [swapL_getD hx hz, swapL_getD hx hz, if_neg (by omega), if_neg (by omega), if_neg (by omega), if_neg (by omega)]
  exact h k k0 (by omega)
section
variable {w : World} {hb : Nat} {v : Value} {l : List Int}
set_option maxRecDepth 20000 in
set_option maxHeartbeats 4000000 in
theorem hpush_any (H : HS w hb v l) (x : Int) (hl : l.length ≤ 90000) (ho : Ord l l.length) :
    Calls Try.prog 35 #[.iface 47 (.pointer (some ⟨hb, 0, none⟩)), .iface 3 (.int .i64 x)] w fun e w' => e = .returned (.tuple #[]) ∧ ∃ v' l', l'.Perm (x :: l) ∧ Ord l' l'.length ∧ HS w' hb v' l' ∧ HTo w w' hb v v' := by
  have hm1 := meth_push ⟨hb, 0, none⟩ w
  have hpu := Lib.hid (push_h H x (by omega))
  replace ho := Lib.hid ho
  go_enter Try.func35, Try.ntmps35
  go_wp2_with fail
  refine hpu.out.mono ?_
  rintro e w2 ⟨rfl, v2, H2, T2⟩
  have hm2 := meth_val row_len H2.c0
  have hln := Lib.hid (len_h H2)
  have hup := Lib.hid (up_any H2 (j := l.length) (by simp) (by simp; omega) ho.out.push)
  have d1 : (((l ++ [x]).length : Nat) : Int) - 1 = (l.length : Int) := by simp
  have d2 : IntKind.i64.wrap (l.length : Int) = (l.length : Int) := IntWalk.i64_in _ (by omega)
  have hlx : Hid ((l ++ [x]).Perm (x :: l)) := Lib.hid (List.perm_append_comm (l₁ := l) (l₂ := [x]))
  obtain ⟨lx, hlxe⟩ : ∃ lx, lx = l ++ [x] := ⟨_, rfl⟩
  rw [← hlxe] at hln d1 hlx hup
  clear hm1 hpu hlxe H2
  go_wp2_with fail
  refine hln.out.mono ?_
  rintro e w3 ⟨rfl, rfl⟩
  clear hm2 hln
  go_wp2_with fail
  refine hup.out.mono ?_
  rintro e w4 ⟨rfl, l', hp, ho', H4, T4⟩
  have hT := Lib.hid (T2.trans T4)
  have hpp := Lib.hid (hp.trans hlx.out)
  clear hup hp
  go_wp2_with fail
  go_end0
  exact ⟨rfl, _, l', hpp.out, ho', H4, hT.out⟩
set_option maxRecDepth 20000 in
set_option maxHeartbeats 4000000 in
theorem hpop_any (H : HS w hb v l) (h0 : 0 < l.length) (hl : l.length ≤ 90000) (ho : Ord l l.length) :
    Calls Try.prog 37 #[.iface 47 (.pointer (some ⟨hb, 0, none⟩))] w fun e w' => ∃ x v' l', e = .returned (.iface 3 (.int .i64 x)) ∧ (x :: l').Perm l ∧ (∀ y ∈ l, x ≤ y) ∧ Ord l' l'.length ∧ HS w' hb v' l' ∧ HTo w w' hb v v' := by
  obtain ⟨n, hn⟩ : ∃ n, l.length = n + 1 := ⟨l.length - 1, by omega⟩
  obtain ⟨x, hx⟩ : ∃ x, l[0]? = some x := ⟨_, List.getElem?_eq_getElem (by omega)⟩
  obtain ⟨z, hz⟩ : ∃ z, l[n]? = some z := ⟨_, List.getElem?_eq_getElem (by omega)⟩
  have hmin : Hid (∀ y ∈ l, x ≤ y) := Lib.hid (fun y hy => by
    obtain ⟨k, hk⟩ := List.getElem?_of_mem hy
    have h1 := ho.root k (List.getElem?_eq_some_iff.1 hk).1
    rwa [getD_at hx, getD_at hk] at h1)
  have hod := Lib.hid (ho.swap hn hx hz)
  have hsp := Lib.hid (swapL_perm hx hz)
  have hsl := swapL_len l 0 n x z
  have hsn : Hid ((swapL l 0 n x z)[n]? = some x) := Lib.hid (by
    unfold swapL
    rw [List.getElem?_set_self (by simp; omega)])
  have hm1 := meth_val row_len H.c0
  have hln := Lib.hid (len_h H)
  have hm2 := meth_val row_swap H.c0
  have hsw := Lib.hid (swap_h H (i := 0) hx hz (by omega))
  have d1 : (l.length : Int) - 1 = (n : Int) := by omega
  have d2 : IntKind.i64.wrap (n : Int) = (n : Int) := IntWalk.i64_in _ (by omega)
  obtain ⟨ls, hls⟩ : ∃ ls, ls = swapL l 0 n x z := ⟨_, rfl⟩
  rw [← hls] at hod hsp hsl hsn hsw
  replace hn := Lib.hid hn
  replace hsl := Lib.hid hsl
  clear hls ho
  go_enter Try.func37, Try.ntmps37
  go_wp2_with fail
  refine hln.out.mono ?_
  rintro e w1 ⟨rfl, rfl⟩
  clear hm1 hln
  go_wp2_with fail
  refine hsw.out.mono ?_
  rintro e w2 ⟨rfl, H2, T2⟩
  have hdn := Lib.hid (down_any H2 (n := n) (by rw [hsl.out, hn.out]; omega) (by rw [hsl.out, hn.out]; have := hn.out; omega) hod.out)
  clear hm2 hsw
  go_wp2_with fail
  refine hdn.out.mono ?_
  rintro e w3 ⟨b, rfl, l3, hp3, ho3, hk3, H3, T3⟩
  have hl3 : l3.length = n + 1 := by rw [hp3.length_eq, hsl.out, hn.out]
  have h3n : l3[n]? = some x := by rw [hk3 n (Nat.le_refl _)]; exact hsn.out
  obtain ⟨l', hl'⟩ : ∃ l', l' = l3.take n := ⟨_, rfl⟩
  have he : l3 = l' ++ [x] := by
    rw [hl']
    calc l3 = l3.take (n + 1) := (List.take_of_length_le (by omega)).symm
      _ = l3.take n ++ [x] := by rw [List.take_add_one, h3n]; rfl
  have hl'n : l'.length = n := by rw [hl', List.length_take]; omega
  have ho' : Hid (Ord l' l'.length) := Lib.hid (by
    rw [hl'n]
    intro k k0 kn
    have := ho3 k k0 kn
    rwa [he, getD_left (by omega), getD_left (by omega)] at this)
  have hpf : Hid ((x :: l').Perm l) := Lib.hid ((List.perm_append_comm (l₁ := [x]) (l₂ := l')).trans ((he ▸ hp3).trans hsp.out))
  rw [he] at H3
  have hpo := Lib.hid (pop_h H3 (by rw [hl'n]; have := hn.out; omega))
  have hm3 := meth_pop ⟨hb, 0, none⟩ w3
  have hT3 := T2.trans T3
  clear hdn hl3 h3n hl' he ho3 hk3 hp3 hl'n
  go_wp2_with fail
  refine hpo.out.mono ?_
  rintro e w4 ⟨rfl, v4, H4, T4⟩
  have hT := Lib.hid (hT3.trans T4)
  clear hm3 hpo
  go_wp2_with fail
  go_ret
  exact ⟨x, v4, l', rfl, hpf.out, hmin.out, ho'.out, H4, hT.out⟩
end
end Go.Proofs.Ytppkponnopnmdaa
