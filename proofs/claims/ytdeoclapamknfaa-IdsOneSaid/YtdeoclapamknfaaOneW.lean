/- IdsOne, walked. -/
import Derived.Test.YtdeoclapamknfaaPtB
import Derived.Test.YtdeoclapamknfaaPtEq
import Derived.Test.YtdeoclapamknfaaWake
import Derived.Deep.RegionHeld3
namespace Go.Proofs.Ytdeoclapamknfaa
open Go.RowKit Go.Maps Go.WideMaps

theorem rd_row1 {w : World} {base : Nat} {e : TypeId} {v : Value} {n : Nat} {xs : List Value} (h : w.ownsRow base e 1 v n xs) : Rd w v xs := by
  have hn : xs.length = n := by have := h.1; omega
  rcases h.2 with ⟨rfl, h0⟩ | ⟨g, cap, cur, rfl, h1, h2, _⟩
  · have : xs = [] := List.eq_nil_of_length_eq_zero (by omega)
    subst this
    exact Or.inl ⟨rfl, Or.inl rfl⟩
  · refine Or.inr ⟨g, 0, cap, by rw [hn], (Array.getElem?_eq_some_iff.1 h2).1, fun i u hu => ?_⟩
    have := h.cells (g := g) rfl i u hu
    rwa [add0, ← Nat.zero_add i] at this

namespace Pt
set_option maxHeartbeats 400000 in
theorem key_hit {A B sb bm : Nat} {v : Value} {ks : List (Int × Int × Int)} {w : World} (T : TS A B w sb bm v ks) {i : Nat} {k : (Int × Int × Int)} (hi : ks[i]? = some k) (hlen : ks.length ≤ 1000000) :
    Calls Try.prog 22 #[.pointer (some ⟨sb, 0, none⟩), .int .i64 i] w fun e w' => e = .returned (.tuple #[.agg #[.int .i64 k.1, .int .i64 k.2.1, .int .i64 k.2.2], .int .i64 0]) ∧ Below w.heap.size w w' := by
  have hlt : i < ks.length := (List.getElem?_eq_some_iff.1 hi).1
  obtain ⟨g, cap, rfl⟩ := row_form T.row (by omega)
  have c1 := T.c1
  have hg : g < w.heap.size := (T.row.lt g rfl).2
  have hsb : sb < w.heap.size := T.lt sb (Or.inl rfl)
  have hcs : ∀ j u, (flat k)[j]? = some u → w.cell? ⟨g, i * 3 + j, none⟩ = some u := by
    intro j u hu
    have h := T.row.cells (g := g) rfl (i * 3 + j) u (by
      have hf : ∀ (l : List (Int × Int × Int)) (i : Nat) (x : (Int × Int × Int)), l[i]? = some x → (l.flatMap flat)[i * 3 + j]? = some u ∨ (flat x)[j]? ≠ some u := by
        intro l
        induction l with
        | nil => intro i x h; simp at h
        | cons y r ih =>
          intro i x h
          cases i with
          | zero =>
            simp at h
            subst h
            by_cases hq : (flat y)[j]? = some u
            · left
              rw [List.flatMap_cons, Nat.zero_mul, Nat.zero_add, List.getElem?_append_left (List.getElem?_eq_some_iff.1 hq).1]
              exact hq
            · exact Or.inr hq
          | succ i =>
            rcases ih i x (by simpa using h) with h2 | h2
            · left
              rw [List.flatMap_cons, List.getElem?_append_right (by simp [flat]; omega)]
              have e : (i + 1) * 3 + j - (flat y).length = i * 3 + j := by simp [flat]; omega
              rw [e]
              exact h2
            · exact Or.inr h2
      exact (hf ks i k hi).resolve_right (fun h => h hu))
    rwa [add0] at h
  have k0 : w.cell? ⟨g, i * 3, none⟩ = some (.int .i64 k.1) := hcs 0 _ rfl
  have k1 := hcs 1 _ rfl
  have k2 := hcs 2 _ rfl
  clear T hi hcs
  go_enter Try.func22, Try.ntmps22
  go_wp2
  refine bodyPost_ret (v := .tuple #[.agg #[.int .i64 k.1, .int .i64 k.2.1, .int .i64 k.2.2], .int .i64 0]) (by simp [results, Try.results22, go_sem]) rfl ⟨rfl, ?_⟩
  exact ((Below.refl _ _).alloc (Nat.le_refl _) _).alloc (by simp) _
theorem infoI : (Try.prog.info? 3).map (fun i => (i.zero, i.size, i.bytes)) = some (some (.int .i64 0), 1, 8) := by kernel_rfl

/-- The numbers that were told. -/
def told (K l : List (Int × Int × Int)) : List Value := l.map fun x => .int .i64 (place K x)

/-- Behind j keys: the table, the numbers told, all in blocks of this call's own. -/
def Stage (w wr : World) (l : List (Int × Int × Int)) (j : Nat) (vid : Value) : Prop :=
  ∃ v, TS w.heap.size (w.heap.size + 2) wr (w.heap.size + 1) w.heap.size v (keysOf (l.take j)) ∧ wr.ownsRow w.heap.size 3 1 vid j (told (keysOf l) (l.take j)) ∧
    (∀ b, vid.ownBlock = some b → ¬ Own (w.heap.size + 1) w.heap.size v b) ∧ Below w.heap.size w wr

set_option maxHeartbeats 4000000 in
set_option maxRecDepth 100000 in
theorem one_any {s : Value} {l : List (Int × Int × Int)} {w : World} (hs : RdK w s l) (hl : ∀ k ∈ l, ok k) (hlen : l.length ≤ 200) :
    Calls Try.prog 5 #[s] w fun e w' => e = .returned (.bool true) ∧ Below w.heap.size w w' := by
  obtain ⟨i0, hi0, hz0, hz1, hz2⟩ := info_parts infoI
  obtain ⟨a, c, hs0⟩ := hs.form
  subst hs0
  have hd : decide ((200 : Int) < (l.length : Int)) = false := by simp; omega
  have hn0 := Lib.hid (new_any (s := .slice none 0 0) (ss := []) (w := w) (Or.inl ⟨rfl, Or.inl rfl⟩) (by simp) (by simp))
  have hnot : ∀ (x : Bool) (w : World), (Op.unary .not (.bool x)).run Try.prog w = .ok (.bool (!x)) w := fun _ _ => rfl
  go_enter Try.func5, Try.ntmps5
  go_wp2_with fail
  refine hn0.out.mono ?_
  rintro e w1 ⟨rfl, v1, T1, hb1⟩
  have hst : Stage w w1 l 0 (.slice none 0 0) := ⟨v1, T1, World.ownsRow_nil _ _ _ _, by simp [Value.ownBlock], hb1⟩
  clear T1 hb1 hn0
  go_wp2_with fail
  go_loopw [4, 5] (fun vid i wr => ∃ j : Nat, j ≤ l.length ∧ i = .int .i64 j ∧ Stage w wr l j vid) (fun _ i _ => l.length - (intOf i).toNat)
  case atStart => exact ⟨0, Nat.zero_le _, rfl, hst⟩
  case round =>
    clear hst
    obtain ⟨j, hj, rfl, v, T, hrow, hdis, hb⟩ := hrel
    by_cases hlt : j < l.length
    · obtain ⟨k, hk⟩ : ∃ k, l[j]? = some k := ⟨_, List.getElem?_eq_getElem hlt⟩
      obtain ⟨b, off, cap, e, hc⟩ := (hs.below hb).at hk
      simp only [Value.slice.injEq] at e
      obtain ⟨rfl, -, rfl⟩ := e
      have hkl := hl k (List.mem_of_getElem? hk)
      have hid := id_any T (fun x hx => hl x (List.mem_of_mem_take hx)) hkl (by simp; omega)
      have hts := take_snoc hk
      rw [← hts] at hid
      have hpl : place (keysOf (l.take (j + 1))) k = place (keysOf l) k := by
        have := place_app (a := l.take (j + 1)) (b := l.drop (j + 1)) (k := k) (by rw [hts]; simp)
        rwa [List.take_append_drop] at this
      rw [hpl] at hid
      have htold : told (keysOf l) (l.take (j + 1)) = told (keysOf l) (l.take j) ++ [.int .i64 (place (keysOf l) k)] := by rw [hts]; simp [told]
      replace hid := Lib.hid hid
      replace htold := Lib.hid htold
      clear hk hpl hts
      go_wp2_with fail
      refine hid.out.mono ?_
      rintro e w2 ⟨rfl, v2, T2, ht, hv2⟩
      have hrow2 := ownsRow_touch hrow ht (fun b hb => hdis b hb)
      have hT2n : ∀ b, u4.ownBlock = some b → ¬ Own (w.heap.size + 1) w.heap.size v2 b := by
        intro b hb ho
        have hlt2 := (hrow.lt b hb).2
        rcases ho with h | h | h
        · exact hdis b hb (Or.inl h)
        · exact hdis b hb (Or.inr (Or.inl h))
        · rcases hv2 b h with h3 | h3
          · exact hdis b hb (Or.inr (Or.inr h3))
          · omega
      go_wp2_with (at_builtin; refine wpList_append_own_at _ rfl _ _ 48 rfl w.heap.size 3 i0 (.int .i64 0) 1 8 Try.underlying48 hi0 hz0 hz1 hz2 rfl (by decide) _ _ _ rfl (hrow2.alloc _) ⟨w2.heap.size, 0, none⟩ 1 1 [.int .i64 (place (keysOf l) k)] rfl rfl ?c1 ?c2 ?c3 ?c4 ?c5 ?_)
      case c1 => exact cell_one_new _ _ _
      case c2 => intro u hu; simp at hu; subst hu; rfl
      case c3 => unfold maxLen; omega
      case c4 => omega
      case c5 => have := T2.top; simp; omega
      intro vid2 w3 hrow3 hg3 _ hloc
      have hb3 : Below w.heap.size w w3 := ((hb.trans (ht.below (by have := T.top; omega) (fun x hx ho => by have := T.low x ho; omega))).alloc (by have := T2.top; omega) _).grown hg3 (by have := T2.top; simp; omega) (fun b h => (hrow.lt b h).1)
      have T3 : TS w.heap.size (w.heap.size + 2) w3 (w.heap.size + 1) w.heap.size v2 (keysOf (l.take (j + 1))) :=
        (T2.kept ((Touch.refl _ (fun _ => False)).alloc _) (fun _ _ h => h)).kept (Touch.of_grown (S := fun b => u4.ownBlock = some b) hg3 (fun b h => h)) (fun b ho h => hT2n b h ho)
      have hdis3 : ∀ b, vid2.ownBlock = some b → ¬ Own (w.heap.size + 1) w.heap.size v2 b := by
        intro b hb ho
        rcases hloc with h | h
        · exact hT2n b (h ▸ hb) ho
        · rw [h] at hb
          have := T2.lt b ho
          simp at hb
          omega
      clear T T2 hrow hrow2 ht hv2 hg3 hdis hb hid hT2n hloc
      go_wp2_with fail
      go_roundw
      case rel => exact ⟨j + 1, by omega, by go_num, v2, T3, by rw [htold.out]; exact hrow3, hdis3, hb3⟩
      case measure => simp [intOf]; omega
    · have hjl : j = l.length := by omega
      subst hjl
      rw [List.take_length] at T hrow
      have hrl : (told (keysOf l) l).length = l.length := by simp [told]
      have hnu := Lib.hid (new_any (hs.below hb) hl (by omega))
      have hru := rd_row1 hrow
      go_wp2_with fail
      refine hnu.out.mono ?_
      rintro e w4 ⟨rfl, v4, U, hb4⟩
      have T4 : TS w.heap.size (w.heap.size + 2) w4 (w.heap.size + 1) w.heap.size v (keysOf l) := T.kept (Touch.of_below hb4 (fun b => wr.heap.size ≤ b)) (fun x hx => by have := T.lt x hx; omega)
      have hr4 := hru.below hb4
      have hbw4 : Below w.heap.size w w4 := hb.trans (hb4.mono hb.size)
      have hs4 := hs.below hbw4
      obtain ⟨ia, ic, hvi⟩ := hr4.form
      rw [hrl] at hvi
      subst hvi
      replace hbw4 := Lib.hid hbw4
      clear T hrow hdis hnu hb hs hru hb4 hrl
      go_wp2_with fail
      refine (len_any U).mono ?_
      rintro e w5 ⟨rfl, rfl⟩
      go_wp2_with fail
      refine (len_any T4).mono ?_
      rintro e w5 ⟨rfl, rfl⟩
      go_wp2_with fail
      go_loopw [7] (fun i wr => ∃ j : Nat, j ≤ l.length ∧ i = .int .i64 j ∧ Below w4.heap.size w4 wr) (fun i _ => l.length - (intOf i).toNat)
      case atStart => exact ⟨0, Nat.zero_le _, rfl, Below.refl _ _⟩
      case round =>
        obtain ⟨j, hj, rfl, hb5⟩ := hrel
        generalize hwq : wr = wq at *
        have T5 := T4.kept (Touch.of_below hb5 (fun _ => False)) (fun _ _ h => h)
        have U5 := U.kept (Touch.of_below hb5 (fun _ => False)) (fun _ _ h => h)
        have hr5 := hr4.below hb5
        have hs5 := hs4.below hb5
        replace hb5 := Lib.hid hb5
        replace hr4 := Lib.hid hr4
        replace hs4 := Lib.hid hs4
        by_cases hlt : j < l.length
        · obtain ⟨k, hk⟩ : ∃ k, l[j]? = some k := ⟨_, List.getElem?_eq_getElem hlt⟩
          obtain ⟨b, off, cap, e, hc⟩ := hs5.at hk
          simp only [Value.slice.injEq] at e
          obtain ⟨rfl, -, rfl⟩ := e
          obtain ⟨hc0, hc1, hc2⟩ := hc
          have hkl := hl k (List.mem_of_getElem? hk)
          have hkm : k ∈ keysOf l := (mem_keysOf l k).2 (List.mem_of_getElem? hk)
          obtain ⟨g, off2, cap2, e2, hg, hci⟩ := hr5.at (i := j) (u := .int .i64 (place (keysOf l) k)) (by simp [told, hk])
          simp only [Value.slice.injEq] at e2
          obtain ⟨rfl, -, rfl⟩ := e2
          have hp := Lib.hid (place_get hkm)
          have hpl := place_lt hkm
          have hkn : (keysOf l).length ≤ 200 := Nat.le_trans (keysOf_len l) hlen
          replace hk := Lib.hid hk
          generalize hpq : place (keysOf l) k = pk at *
          replace hpq := Lib.hid hpq
          have ck := Lib.hid (key_hit T5 hp.out (by omega))
          go_wp2_with fail
          refine ck.out.mono ?_
          rintro e w6 ⟨rfl, hb6⟩
          have hbl := World.block_lt_of_cell? wq _ hc0
          have hb7 : Below wq.heap.size wq (w6.alloc (.cells #[.int .i64 k.1, .int .i64 k.2.1, .int .i64 k.2.2] 47)) := hb6.alloc hb6.size _
          have bx : ∀ i, (w6.alloc (.cells #[.int .i64 k.1, .int .i64 k.2.1, .int .i64 k.2.2] 47)).cell? ⟨w6.heap.size, i, none⟩ = (#[.int .i64 k.1, .int .i64 k.2.1, .int .i64 k.2.2] : Array Value)[i]? := fun i => World.cell?_alloc_new _ _ _ _
          have hz7 : w6.heap.size < (w6.alloc (.cells #[.int .i64 k.1, .int .i64 k.2.1, .int .i64 k.2.2] 47)).heap.size := by simp
          generalize hw7 : w6.alloc (.cells #[.int .i64 k.1, .int .i64 k.2.1, .int .i64 k.2.2] 47) = w7 at *
          obtain ⟨bx0, bx1, bx2⟩ : w7.cell? ⟨w6.heap.size, 0, none⟩ = some (.int .i64 k.1) ∧ w7.cell? ⟨w6.heap.size, 1, none⟩ = some (.int .i64 k.2.1) ∧ w7.cell? ⟨w6.heap.size, 2, none⟩ = some (.int .i64 k.2.2) := ⟨bx 0, bx 1, bx 2⟩
          have q0 := (hb7.cell (p := ⟨b, off + j * 3, none⟩) hbl).trans hc0
          have q1 := (hb7.cell (p := ⟨b, off + j * 3 + 1, none⟩) hbl).trans hc1
          have q2 := (hb7.cell (p := ⟨b, off + j * 3 + 2, none⟩) hbl).trans hc2
          have qi := (hb7.cell (p := ⟨g, off2 + j, none⟩) hg).trans hci
          have T7 := T5.kept (Touch.of_below hb7 (fun _ => False)) (fun _ _ h => h)
          have U7 := U5.kept (Touch.of_below hb7 (fun _ => False)) (fun _ _ h => h)
          have hgl : g < w7.heap.size := Nat.lt_of_lt_of_le hg hb7.size
          have hbl7 : b < w7.heap.size := Nat.lt_of_lt_of_le hbl hb7.size
          replace hb7 := Lib.hid hb7
          have cf := Lib.hid (find_hit T7 hkl hp.out)
          clear hb6 ck hc0 hc1 hc2 hci T5 U5 hg hbl bx
          go_wp2_with fail
          refine cf.out.mono ?_
          rintro e w8 ⟨rfl, hb8⟩
          clear hw7
          have q0 := (hb8.cell (p := ⟨b, off + j * 3, none⟩) hbl7).trans q0
          have q1 := (hb8.cell (p := ⟨b, off + j * 3 + 1, none⟩) hbl7).trans q1
          have q2 := (hb8.cell (p := ⟨b, off + j * 3 + 2, none⟩) hbl7).trans q2
          have qi := (hb8.cell (p := ⟨g, off2 + j, none⟩) hgl).trans qi
          have bx0 := (hb8.cell (p := ⟨w6.heap.size, 0, none⟩) hz7).trans bx0
          have bx1 := (hb8.cell (p := ⟨w6.heap.size, 1, none⟩) hz7).trans bx1
          have bx2 := (hb8.cell (p := ⟨w6.heap.size, 2, none⟩) hz7).trans bx2
          have T8 := T7.kept (Touch.of_below hb8 (fun _ => False)) (fun _ _ h => h)
          have U8 := U7.kept (Touch.of_below hb8 (fun _ => False)) (fun _ _ h => h)
          have cu := Lib.hid (find_hit U8 hkl hp.out)
          clear T7 U7 cf
          go_wp2_with fail
          refine cu.out.mono ?_
          rintro e w9 ⟨rfl, hb9⟩
          have hb79 : Below w7.heap.size w7 w9 := hb8.trans (hb9.mono hb8.size)
          have q0 := (hb9.cell (p := ⟨b, off + j * 3, none⟩) (Nat.lt_of_lt_of_le hbl7 hb8.size)).trans q0
          have q1 := (hb9.cell (p := ⟨b, off + j * 3 + 1, none⟩) (Nat.lt_of_lt_of_le hbl7 hb8.size)).trans q1
          have q2 := (hb9.cell (p := ⟨b, off + j * 3 + 2, none⟩) (Nat.lt_of_lt_of_le hbl7 hb8.size)).trans q2
          have qi := (hb9.cell (p := ⟨g, off2 + j, none⟩) (Nat.lt_of_lt_of_le hgl hb8.size)).trans qi
          have bx0 := (hb9.cell (p := ⟨w6.heap.size, 0, none⟩) (Nat.lt_of_lt_of_le hz7 hb8.size)).trans bx0
          have bx1 := (hb9.cell (p := ⟨w6.heap.size, 1, none⟩) (Nat.lt_of_lt_of_le hz7 hb8.size)).trans bx1
          have bx2 := (hb9.cell (p := ⟨w6.heap.size, 2, none⟩) (Nat.lt_of_lt_of_le hz7 hb8.size)).trans bx2
          have T9 := T8.kept (Touch.of_below hb9 (fun _ => False)) (fun _ _ h => h)
          have hlast := Lib.hid (hb7.out.trans (hb79.mono hb7.out.size))
          have hb9s := hb79.size
          clear T8 U8 cu hb8 hb9 hb79 hb7
          go_wp2_with fail
          have hgl9 : g < w9.heap.size := Nat.lt_of_lt_of_le hgl hb9s
          have hbl9 : b < w9.heap.size := Nat.lt_of_lt_of_le hbl7 hb9s
          have hz9 : w6.heap.size < w9.heap.size := Nat.lt_of_lt_of_le hz7 hb9s
          have ci := Lib.hid (id_hit (w := w9.drew) (T9.drewN 1) hkl hp.out)
          clear hs5 hr5
          go_region_held3 (fun w' => w'.cell? ⟨b, off + j * 3, none⟩ = some (.int .i64 k.1) ∧ w'.cell? ⟨b, off + j * 3 + 1, none⟩ = some (.int .i64 k.2.1) ∧ w'.cell? ⟨b, off + j * 3 + 2, none⟩ = some (.int .i64 k.2.2) ∧ w'.cell? ⟨g, off2 + j, none⟩ = some (.int .i64 pk) ∧
              w'.cell? ⟨w6.heap.size, 0, none⟩ = some (.int .i64 k.1) ∧ w'.cell? ⟨w6.heap.size, 1, none⟩ = some (.int .i64 k.2.1) ∧ w'.cell? ⟨w6.heap.size, 2, none⟩ = some (.int .i64 k.2.2)) (go_keep)
            (first
              | (go_at_call 20; refine ci.out.mono ?_; rintro e w10 ⟨rfl, hb10⟩; have r0 := (hb10.cell (p := ⟨b, off + j * 3, none⟩) hbl9).trans q0; have r1 := (hb10.cell (p := ⟨b, off + j * 3 + 1, none⟩) hbl9).trans q1; have r2 := (hb10.cell (p := ⟨b, off + j * 3 + 2, none⟩) hbl9).trans q2; have ri := (hb10.cell (p := ⟨g, off2 + j, none⟩) hgl9).trans qi; have s0 := (hb10.cell (p := ⟨w6.heap.size, 0, none⟩) hz9).trans bx0; have s1 := (hb10.cell (p := ⟨w6.heap.size, 1, none⟩) hz9).trans bx1; have s2 := (hb10.cell (p := ⟨w6.heap.size, 2, none⟩) hz9).trans bx2; have T10 := (T9.drewN 1).kept (Touch.of_below hb10 (fun _ => False)) (fun _ _ h => h); have hb10h := Lib.hid hb10; clear hb10)
              | (go_at_call 21; refine (len_any T10).mono ?_; rintro e w11 ⟨rfl, rfl⟩))
          go_wp2_with fail
          have hb410 : Below w4.heap.size w4 w10 := (hb5.out.trans (hlast.out.mono hb5.out.size)).trans (Below.trans (b := w9.drew) ⟨rfl, rfl, rfl, Nat.le_refl _, fun _ _ => rfl⟩ (hb10h.out.mono (Nat.le_trans hb5.out.size hlast.out.size)))
          have hs10 := hs4.out.below hb410
          have hr10 := hr4.out.below hb410
          replace hb410 := Lib.hid hb410
          clear ci hb10h hlast hb5 hr4 hs4 T9 T10 bx0 bx1 bx2 q0 q1 q2 qi s0 s1 s2
          go_loopw [14] (fun i wr => ∃ (jj m : Nat), jj ≤ j ∧ i = .int .i64 jj ∧ wr = w10.drewN m) (fun i _ => j - (intOf i).toNat)
          case atStart => exact ⟨0, 0, Nat.zero_le _, rfl, rfl⟩
          case round =>
            obtain ⟨jj, m, hjj, rfl, rfl⟩ := hrel
            by_cases hl3 : jj < j
            · obtain ⟨y, hy⟩ : ∃ y, l[jj]? = some y := ⟨_, List.getElem?_eq_getElem (by omega)⟩
              obtain ⟨b', off', cap', e, y0, y1, y2⟩ := hs10.at hy
              simp only [Value.slice.injEq, Option.some.injEq, Addr.mk.injEq] at e
              obtain ⟨⟨rfl, rfl, -⟩, -, rfl⟩ := e
              obtain ⟨g', off2', cap2', e2, _, hyi⟩ := hr10.at (i := jj) (u := .int .i64 (place (keysOf l) y)) (by simp [told, hy])
              simp only [Value.slice.injEq, Option.some.injEq, Addr.mk.injEq] at e2
              obtain ⟨⟨rfl, rfl, -⟩, -, rfl⟩ := e2
              have hym : y ∈ keysOf l := (mem_keysOf l y).2 (List.mem_of_getElem? hy)
              have hljj : jj < l.length := by omega
              replace hy := Lib.hid hy
              by_cases hyk : y = k
              · subst hyk
                rw [hpq.out] at hyi
                have heq : ∀ w, (Op.equalIn 10000 47 (.agg #[.int .i64 y.1, .int .i64 y.2.1, .int .i64 y.2.2]) (.agg #[.int .i64 y.1, .int .i64 y.2.1, .int .i64 y.2.2])).run Try.prog w = .ok true w := fun w => by rw [equal_agg y y w, decide_eq_true rfl]
                have heb : ∀ w, (binOp .eql 47 (.agg #[.int .i64 y.1, .int .i64 y.2.1, .int .i64 y.2.2]) (.agg #[.int .i64 y.1, .int .i64 y.2.1, .int .i64 y.2.2])).run Try.prog w = .ok (.bool true) w := fun w => by rw [eq_agg y y w, decide_eq_true rfl]
                go_wp2_with fail
                go_quiet (fail)
                go_wp2_with fail
                go_roundw
                case rel => exact ⟨jj + 1, m + nq, by omega, by go_num, rfl⟩
                case measure => simp [intOf]; omega
              · have hpne : place (keysOf l) y ≠ pk := fun h => hyk (place_inj hym hkm (h.trans hpq.out.symm))
                generalize place (keysOf l) y = py at *
                have hpb : ((py : Int) == (pk : Int)) = false := by rw [beq_eq_false_iff_ne]; omega
                have heq : ∀ w, (Op.equalIn 10000 47 (.agg #[.int .i64 y.1, .int .i64 y.2.1, .int .i64 y.2.2]) (.agg #[.int .i64 k.1, .int .i64 k.2.1, .int .i64 k.2.2])).run Try.prog w = .ok false w := fun w => by rw [equal_agg y k w, decide_eq_false hyk]
                have heb : ∀ w, (binOp .eql 47 (.agg #[.int .i64 y.1, .int .i64 y.2.1, .int .i64 y.2.2]) (.agg #[.int .i64 k.1, .int .i64 k.2.1, .int .i64 k.2.2])).run Try.prog w = .ok (.bool false) w := fun w => by rw [eq_agg y k w, decide_eq_false hyk]
                go_wp2_with fail
                go_quiet (fail)
                go_wp2_with fail
                go_roundw
                case rel => exact ⟨jj + 1, m + nq, by omega, by go_num, rfl⟩
                case measure => simp [intOf]; omega
            · have hje : jj = j := by omega
              subst hje
              clear hs10 hr10
              go_wp2_with fail
              go_roundw
              case rel => exact ⟨jj + 1, by omega, by go_num, below_drawn hb410.out m⟩
              case measure => simp [intOf]; omega
        · have hle : ((keysOf l).length : Int) ≤ (l.length : Int) := by have := keysOf_len l; omega
          have hbq : Below w.heap.size w wq := hbw4.out.trans (hb5.out.mono hbw4.out.size)
          replace hbq := Lib.hid hbq
          clear hr5 hs5
          go_wp2_with fail
          refine (len_any T5).mono ?_
          rintro e w6 ⟨rfl, rfl⟩
          go_wp2_with fail
          refine (Str.wakes_any _).mono ?_
          rintro e w7 ⟨rfl, hb7⟩
          go_wp2_with fail
          go_ret
          exact ⟨rfl, hbq.out.trans (hb7.mono hbq.out.size)⟩

set_option maxRecDepth 100000 in
theorem one_great {s : Value} {l : List (Int × Int × Int)} {w : World} (hs : RdK w s l) (hlen : 200 < l.length) (hm : l.length ≤ maxLen) :
    Calls Try.prog 5 #[s] w fun e w' => e = .returned (.bool true) ∧ Below w.heap.size w w' := by
  obtain ⟨a, c, rfl⟩ := hs.form
  clear hs
  unfold maxLen at hm
  go_enter Try.func5, Try.ntmps5
  go_wp2_with (go_at_call 8; refine (Str.wakes_any _).mono ?_; rintro e w' ⟨rfl, hb⟩)
  go_ret
  exact ⟨rfl, hb⟩
end Pt
end Go.Proofs.Ytdeoclapamknfaa
