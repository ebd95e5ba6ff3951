/- IdsAgain, walked. -/
import Derived.Test.YtdeoclapamknfaaWake
namespace Go.Proofs.Ytdeoclapamknfaa
open Go.RowKit Go.Maps Go.WideMaps Str

namespace Str
theorem id_hit_q {A B sb bm : Nat} {v : Value} {ks : List ByteArray} {w : World} (T : TS A B w sb bm v ks) {k : ByteArray} (hk : k.size ≤ maxLen) {i : Nat} (hi : ks[i]? = some k) (n : Nat) :
    Calls Try.prog 11 #[.pointer (some ⟨sb, 0, none⟩), .string k] (w.drewN n) fun e w' => e = .returned (.int .i64 i) ∧ ∃ m, w' = w.drewN m :=
  (id_hit (T.drewN n) hk hi).mono fun _ _ ⟨h1, h2⟩ => ⟨h1, n, h2.symm⟩
end Str

set_option maxRecDepth 100000 in
theorem again_great {s : Value} {l : List ByteArray} {k : ByteArray} {w : World} (hs : Rd w s (l.map Value.string)) (hlen : 200 < l.length) (hm : l.length ≤ maxLen) :
    Calls Try.prog 6 #[s, .string k] w fun e w' => e = .returned (.bool true) ∧ Below w.heap.size w w' := by
  obtain ⟨a, c, rfl⟩ := hs.form
  rw [List.length_map] at *
  clear hs
  unfold maxLen at hm
  go_enter Try.func6, Try.ntmps6
  go_wp2_with (go_at_call 8; refine (wakes_any _).mono ?_; rintro e w' ⟨rfl, hb⟩)
  go_ret
  exact ⟨rfl, hb⟩

set_option maxHeartbeats 1000000 in
set_option maxRecDepth 100000 in
theorem again_in {s : Value} {l : List ByteArray} {k : ByteArray} {w : World} (hs : Rd w s (l.map Value.string)) (hl : ∀ x ∈ l, x.size ≤ maxLen) (hk : k.size ≤ maxLen) (hlen : l.length ≤ 200) (hin : k ∈ keysOf l) :
    Calls Try.prog 6 #[s, .string k] w fun e w' => e = .returned (.bool true) ∧ Below w.heap.size w w' := by
  obtain ⟨a, c, hs0⟩ := hs.form
  subst hs0
  rw [List.length_map] at *
  have hkl := keysOf_len l
  have hn := Lib.hid (new_any hs hl (by omega))
  have hd : decide ((200 : Int) < (l.length : Int)) = false := by simp; omega
  go_enter Try.func6, Try.ntmps6
  go_wp2_with fail
  refine hn.out.mono ?_
  rintro e w1 ⟨rfl, v1, T1, hb1⟩
  replace hb1 := Lib.hid hb1
  have hw1 : w.heap.size + 2 ≤ w1.heap.size := T1.top
  have hTl := Lib.hid T1.lt
  go_wp2_with fail
  refine (keys_any T1 (by omega)).mono ?_
  rintro e w2 ⟨v2, rfl, hcl⟩
  have hr2 := rd_cloned hcl
  have hb2 := hcl.2
  have hv2 : ∀ b, v2.ownBlock = some b → w1.heap.size ≤ b := fun b hb => (hcl.1.lt b hb).1
  have hkk : keysOf (keysOf l) = keysOf l := keysOf_nodup _ (nodup_keysOf l)
  have hkeys : ∀ x ∈ keysOf l, x.size ≤ maxLen := fun x hx => hl x ((mem_keysOf l x).1 hx)
  have hn2 := new_any hr2 hkeys (by omega)
  rw [hkk] at hn2
  replace hn2 := Lib.hid hn2
  have T2 : TS w.heap.size (w.heap.size + 2) w2 (w.heap.size + 1) w.heap.size v1 (keysOf l) := T1.kept (Touch.of_below hb2 (fun k => w1.heap.size ≤ k)) (fun x hx => by have := T1.lt x hx; omega)
  go_wp2_with fail
  refine hn2.out.mono ?_
  rintro e w3 ⟨rfl, v3, U3, hb3⟩
  have T3 : TS w.heap.size (w.heap.size + 2) w3 (w.heap.size + 1) w.heap.size v1 (keysOf l) := T2.kept (Touch.of_below hb3 (fun k => w2.heap.size ≤ k)) (fun x hx => by have := T2.lt x hx; omega)
  have hr3 := hr2.below hb3
  have hb23 : Below w.heap.size w w3 := (hb1.out.trans (hb2.mono hb1.out.size)).trans (hb3.mono (Nat.le_trans hb1.out.size hb2.size))
  have hs3 := hs.below hb23
  replace hb23 := Lib.hid hb23
  have hz : w1.heap.size ≤ w2.heap.size ∧ w2.heap.size ≤ w3.heap.size := ⟨hb2.size, hb3.size⟩
  replace hcl := Lib.hid hcl
  replace hkk := Lib.hid hkk
  replace hr2 := Lib.hid hr2
  replace hb3 := Lib.hid hb3
  clear T1 T2 hb2 hb1 hn hn2 hs
  go_wp2_with fail
  go_loopw [8] (fun i wr => ∃ j n : Nat, j ≤ l.length ∧ i = .int .i64 j ∧ wr = w3.drewN n) (fun i _ => l.length - (intOf i).toNat)
  case atStart => exact ⟨0, 0, Nat.zero_le _, rfl, rfl⟩
  case round =>
    obtain ⟨j, n, hj, rfl, hwr⟩ := hrel
    have T4 : TS w.heap.size (w.heap.size + 2) wr (w.heap.size + 1) w.heap.size v1 (keysOf l) := hwr ▸ T3.drewN n
    have U4 : TS w2.heap.size (w2.heap.size + 2) wr (w2.heap.size + 1) w2.heap.size v3 (keysOf l) := hwr ▸ U3.drewN n
    have hs4 := hs3.below (below_drawn (Below.refl _ w3) n)
    rw [← hwr] at hs4
    replace hwr := Lib.hid hwr
    clear hs3
    by_cases hlt : j < l.length
    · obtain ⟨x, hx⟩ : ∃ x, l[j]? = some x := ⟨_, List.getElem?_eq_getElem hlt⟩
      obtain ⟨p, o, cap, e, _, hc⟩ := hs4.at (i := j) (u := .string x) (by simp [hx])
      simp only [Value.slice.injEq] at e
      obtain ⟨rfl, -, rfl⟩ := e
      have hxl := hl x (List.mem_of_getElem? hx)
      have hxm : x ∈ keysOf l := (mem_keysOf l x).2 (List.mem_of_getElem? hx)
      have c1 := id_hit_q T4 hxl (place_get hxm)
      have c2 := id_hit_q U4 hxl (place_get hxm)
      replace c1 := Lib.hid c1
      replace c2 := Lib.hid c2
      clear hx hs4
      go_wp2_with fail
      go_quiet (first | (with_reducible exact c1.out _) | (with_reducible exact c2.out _))
      go_wp2_with fail
      go_roundw
      case rel => exact ⟨j + 1, n + nq, by omega, by go_num, by rw [hwr.out, World.drewN_drewN]⟩
      case measure => simp [intOf]; omega
    · have hjl : j = l.length := by omega
      subst hjl
      have hi := place_get hin
      have hpl := place_lt hin
      have hkl2 : (keysOf l).length ≤ 1000000 := by omega
      have hbw : Below w.heap.size w wr := by rw [hwr.out]; exact below_drawn hb23.out n
      replace hbw := Lib.hid hbw
      have hr4 : Rd wr v2 ((keysOf l).map Value.string) := by rw [hwr.out]; exact (hr2.out.below hb3.out).below (below_drawn (Below.refl _ w3) n)
      replace hr4 := Lib.hid hr4
      replace hi := Lib.hid hi
      go_wp2_with fail
      refine (find_hit T4 hk hi.out).mono ?_
      rintro e w4 ⟨rfl, rfl⟩
      go_wp2_with fail
      refine (find_hit U4 hk hi.out).mono ?_
      rintro e w4 ⟨rfl, rfl⟩
      go_wp2_with fail
      refine (len_any T4).mono ?_
      rintro e w4 ⟨rfl, rfl⟩
      go_wp2_with fail
      refine (id_hit T4 hk hi.out).mono ?_
      rintro e w4 ⟨rfl, rfl⟩
      go_wp2_with fail
      refine (len_any T4).mono ?_
      rintro e w4 ⟨rfl, rfl⟩
      go_wp2_with fail
      refine (len_any U4).mono ?_
      rintro e w4 ⟨rfl, rfl⟩
      go_wp2_with fail
      refine (keys_any U4 hkl2).mono ?_
      rintro e w5 ⟨v5, rfl, hc5⟩
      have hr5 := rd_cloned hc5
      have hr6 := hr4.out.below hc5.2
      have hb5 : Below w.heap.size w w5 := hbw.out.trans (hc5.2.mono hbw.out.size)
      replace hb5 := Lib.hid hb5
      go_wp2_with fail
      refine (same_any hr5 hr6 hkl2).mono ?_
      rintro e w6 ⟨rfl, n6, rfl⟩
      rw [decide_eq_true (rfl : keysOf l = keysOf l)]
      go_wp2_with fail
      refine (wakes_any _).mono ?_
      rintro e w7 ⟨rfl, hb7⟩
      go_wp2_with fail
      go_ret
      exact ⟨rfl, (below_drawn hb5.out n6).trans (hb7.mono hb5.out.size)⟩
set_option maxHeartbeats 1000000 in
set_option maxRecDepth 100000 in
theorem again_out {s : Value} {l : List ByteArray} {k : ByteArray} {w : World} (hs : Rd w s (l.map Value.string)) (hl : ∀ x ∈ l, x.size ≤ maxLen) (hk : k.size ≤ maxLen) (hlen : l.length ≤ 200) (hin : k ∉ keysOf l) :
    Calls Try.prog 6 #[s, .string k] w fun e w' => e = .returned (.bool true) ∧ Below w.heap.size w w' := by
  obtain ⟨a, c, hs0⟩ := hs.form
  subst hs0
  rw [List.length_map] at *
  have hkl := keysOf_len l
  have hn := Lib.hid (new_any hs hl (by omega))
  have hd : decide ((200 : Int) < (l.length : Int)) = false := by simp; omega
  go_enter Try.func6, Try.ntmps6
  go_wp2_with fail
  refine hn.out.mono ?_
  rintro e w1 ⟨rfl, v1, T1, hb1⟩
  replace hb1 := Lib.hid hb1
  have hw1 : w.heap.size + 2 ≤ w1.heap.size := T1.top
  have hTl := Lib.hid T1.lt
  go_wp2_with fail
  refine (keys_any T1 (by omega)).mono ?_
  rintro e w2 ⟨v2, rfl, hcl⟩
  have hr2 := rd_cloned hcl
  have hb2 := hcl.2
  have hv2 : ∀ b, v2.ownBlock = some b → w1.heap.size ≤ b := fun b hb => (hcl.1.lt b hb).1
  have hkk : keysOf (keysOf l) = keysOf l := keysOf_nodup _ (nodup_keysOf l)
  have hkeys : ∀ x ∈ keysOf l, x.size ≤ maxLen := fun x hx => hl x ((mem_keysOf l x).1 hx)
  have hn2 := new_any hr2 hkeys (by omega)
  rw [hkk] at hn2
  replace hn2 := Lib.hid hn2
  have T2 : TS w.heap.size (w.heap.size + 2) w2 (w.heap.size + 1) w.heap.size v1 (keysOf l) := T1.kept (Touch.of_below hb2 (fun k => w1.heap.size ≤ k)) (fun x hx => by have := T1.lt x hx; omega)
  go_wp2_with fail
  refine hn2.out.mono ?_
  rintro e w3 ⟨rfl, v3, U3, hb3⟩
  have T3 : TS w.heap.size (w.heap.size + 2) w3 (w.heap.size + 1) w.heap.size v1 (keysOf l) := T2.kept (Touch.of_below hb3 (fun k => w2.heap.size ≤ k)) (fun x hx => by have := T2.lt x hx; omega)
  have hr3 := hr2.below hb3
  have hb23 : Below w.heap.size w w3 := (hb1.out.trans (hb2.mono hb1.out.size)).trans (hb3.mono (Nat.le_trans hb1.out.size hb2.size))
  have hs3 := hs.below hb23
  replace hb23 := Lib.hid hb23
  have hz : w1.heap.size ≤ w2.heap.size ∧ w2.heap.size ≤ w3.heap.size := ⟨hb2.size, hb3.size⟩
  replace hcl := Lib.hid hcl
  replace hkk := Lib.hid hkk
  replace hr2 := Lib.hid hr2
  replace hb3 := Lib.hid hb3
  clear T1 T2 hb2 hb1 hn hn2 hs
  go_wp2_with fail
  go_loopw [8] (fun i wr => ∃ j n : Nat, j ≤ l.length ∧ i = .int .i64 j ∧ wr = w3.drewN n) (fun i _ => l.length - (intOf i).toNat)
  case atStart => exact ⟨0, 0, Nat.zero_le _, rfl, rfl⟩
  case round =>
    obtain ⟨j, n, hj, rfl, hwr⟩ := hrel
    have T4 : TS w.heap.size (w.heap.size + 2) wr (w.heap.size + 1) w.heap.size v1 (keysOf l) := hwr ▸ T3.drewN n
    have U4 : TS w2.heap.size (w2.heap.size + 2) wr (w2.heap.size + 1) w2.heap.size v3 (keysOf l) := hwr ▸ U3.drewN n
    have hs4 := hs3.below (below_drawn (Below.refl _ w3) n)
    rw [← hwr] at hs4
    replace hwr := Lib.hid hwr
    clear hs3
    by_cases hlt : j < l.length
    · obtain ⟨x, hx⟩ : ∃ x, l[j]? = some x := ⟨_, List.getElem?_eq_getElem hlt⟩
      obtain ⟨p, o, cap, e, _, hc⟩ := hs4.at (i := j) (u := .string x) (by simp [hx])
      simp only [Value.slice.injEq] at e
      obtain ⟨rfl, -, rfl⟩ := e
      have hxl := hl x (List.mem_of_getElem? hx)
      have hxm : x ∈ keysOf l := (mem_keysOf l x).2 (List.mem_of_getElem? hx)
      have c1 := id_hit_q T4 hxl (place_get hxm)
      have c2 := id_hit_q U4 hxl (place_get hxm)
      replace c1 := Lib.hid c1
      replace c2 := Lib.hid c2
      clear hx hs4
      go_wp2_with fail
      go_quiet (first | (with_reducible exact c1.out _) | (with_reducible exact c2.out _))
      go_wp2_with fail
      go_roundw
      case rel => exact ⟨j + 1, n + nq, by omega, by go_num, by rw [hwr.out, World.drewN_drewN]⟩
      case measure => simp [intOf]; omega
    · have hjl : j = l.length := by omega
      subst hjl
      have hkl2 : (keysOf l).length ≤ 1000000 := by omega
      have hbw : Below w.heap.size w wr := by rw [hwr.out]; exact below_drawn hb23.out n
      replace hbw := Lib.hid hbw
      have hr4 : Rd wr v2 ((keysOf l).map Value.string) := by rw [hwr.out]; exact (hr2.out.below hb3.out).below (below_drawn (Below.refl _ w3) n)
      replace hr4 := Lib.hid hr4
      go_wp2_with fail
      refine (find_miss T4 hk hin).mono ?_
      rintro e w4 ⟨rfl, rfl⟩
      go_wp2_with fail
      refine (find_miss U4 hk hin).mono ?_
      rintro e w4 ⟨rfl, rfl⟩
      go_wp2_with fail
      refine (len_any T4).mono ?_
      rintro e w4 ⟨rfl, rfl⟩
      go_wp2_with fail
      refine (id_new T4 hk hin hkl2).mono ?_
      rintro e w4 ⟨rfl, v4, T5, ht5, -⟩
      have U5 : TS w2.heap.size (w2.heap.size + 2) w4 (w2.heap.size + 1) w2.heap.size v3 (keysOf l) := U4.kept ht5 (fun x hx ho => by have := U4.low x hx; have := hTl.out x ho; omega)
      have hr5 : Rd w4 v2 ((keysOf l).map Value.string) := hr4.out.touch ht5 (fun b hb ho => by have := hv2 b hb; have := hTl.out b ho; omega)
      have hb5 : Below w.heap.size w w4 := hbw.out.trans (ht5.below (Nat.le_trans (by omega) T4.top) (fun x hx ho => by have := T4.low x ho; omega))
      replace hb5 := Lib.hid hb5
      replace hr5 := Lib.hid hr5
      have hln : (keysOf l ++ [k]).length = (keysOf l).length + 1 := by simp
      clear ht5 T4 U4
      go_wp2_with fail
      refine (len_any T5).mono ?_
      rw [hln]
      rintro e w5 ⟨rfl, rfl⟩
      go_wp2_with fail
      refine (len_any U5).mono ?_
      rintro e w5 ⟨rfl, rfl⟩
      go_wp2_with fail
      refine (keys_any U5 hkl2).mono ?_
      rintro e w5 ⟨v5, rfl, hc5⟩
      have hr6 := rd_cloned hc5
      have hr7 := hr5.out.below hc5.2
      have hb6 : Below w.heap.size w w5 := hb5.out.trans (hc5.2.mono hb5.out.size)
      replace hb6 := Lib.hid hb6
      go_wp2_with fail
      refine (same_any hr6 hr7 hkl2).mono ?_
      rintro e w6 ⟨rfl, n6, rfl⟩
      rw [decide_eq_true (rfl : keysOf l = keysOf l)]
      go_wp2_with fail
      refine (wakes_any _).mono ?_
      rintro e w7 ⟨rfl, hb7⟩
      go_wp2_with fail
      go_ret
      exact ⟨rfl, (below_drawn hb6.out n6).trans (hb7.mono hb6.out.size)⟩
end Go.Proofs.Ytdeoclapamknfaa
