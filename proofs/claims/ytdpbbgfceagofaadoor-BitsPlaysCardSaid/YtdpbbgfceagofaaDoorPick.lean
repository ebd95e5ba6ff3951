/- pick, Minus, Both, Copy. -/
import Derived.Test.YtdpbbgfceagofaaDoorUnion
import Derived.Shelf.Abstract
namespace Go.Proofs.YtdpbbgfceagofaaDoor
open Go.RowKit Go.Maps

/-- A set, or none. -/
def ASet (w : World) (v : Value) (l : List Nat) : Prop := (v = .pointer none ∧ l = []) ∨ ∃ sb bm D, v = .pointer (some ⟨sb, 0, none⟩) ∧ SetAt w sb bm D l

theorem ASet.below {w w' : World} {v : Value} {l : List Nat} (h : ASet w v l) (hb : Below w.heap.size w w') : ASet w' v l :=
  or_map h id (fun ⟨sb, bm, D, e, S⟩ => ⟨sb, bm, D, e, S.below hb⟩)
theorem ASet.nodup {w : World} {v : Value} {l : List Nat} (h : ASet w v l) : l.Nodup := by
  rcases h with ⟨_, rfl⟩ | ⟨_, _, _, _, S⟩
  · exact List.nodup_nil
  · exact S.nodup
theorem ASet.bit {w : World} {v : Value} {l : List Nat} (h : ASet w v l) (k : Nat) : ∃ c, Bit c k l := by
  rcases h with ⟨_, rfl⟩ | ⟨_, _, _, _, S⟩
  · exact ⟨0, by decide, fun j _ => by simp⟩
  · obtain ⟨c, hb, _⟩ := S.words.word k
    exact ⟨c, hb⟩
theorem ASet.form {w : World} {v : Value} {l : List Nat} (h : ASet w v l) : v = .pointer none ∨ ∃ a, v = .pointer (some a) := by
  rcases h with ⟨rfl, _⟩ | ⟨_, _, _, rfl, _⟩
  · exact Or.inl rfl
  · exact Or.inr ⟨_, rfl⟩

theorem word_a {w : World} {v : Value} {l : List Nat} (h : ASet w v l) {c k : Nat} (hb : Bit c k l) (hk : k < 9223372036854775808) : Calls Tryd.prog 36 #[v, .int .i64 k] w fun e w' => e = .returned (.int .u64 c) ∧ w' = w := by
  rcases h with ⟨rfl, rfl⟩ | ⟨_, _, _, rfl, S⟩
  · obtain rfl : c = 0 := hb.zero.2 (by simp)
    exact word_nil _ _
  · exact word_any S hb hk
theorem len_a {w : World} {v : Value} {l : List Nat} (h : ASet w v l) : Calls Tryd.prog 29 #[v] w fun e w' => e = .returned (.int .i64 l.length) ∧ w' = w := by
  rcases h with ⟨rfl, rfl⟩ | ⟨_, _, _, rfl, S⟩
  · exact len_nil _
  · exact len_any S

theorem mem_put {m : List Nat} {cs v k : Nat} (hs : Bit cs k m) (n : Nat) : n ∈ m ++ nums k (v &&& (18446744073709551615 - cs)) ↔ n ∈ m ∨ (n / 64 = k ∧ v.testBit (n % 64) = true) := by
  have hj : n % 64 < 64 := by omega
  rw [List.mem_append, mem_nums, tb_less hs.1 hj]
  by_cases e : n / 64 = k
  · subst e
    have h1 := hs.2 (n % 64) hj
    rw [Nat.div_add_mod] at h1
    by_cases hn : n ∈ m
    · simp [hn]
    · have : cs.testBit (n % 64) = false := by
        cases e : cs.testBit (n % 64)
        · rfl
        · exact absurd (h1.1 e) hn
      simp [hn, this]
  · simp [e]

theorem pick_step {l m : List Nat} {q : Nat → Bool} {left : Lit → Bool} {cs d v k : Nat} (hm : ∀ n, n ∈ m ↔ n ∈ l ∧ q n = true ∧ left (key (n / 64)) = false) (hs : Bit cs k m) (hd : Bit d k l) (hv : ∀ j, j < 64 → v.testBit j = (d.testBit j && q (64 * k + j))) (n : Nat) :
    n ∈ m ++ nums k (v &&& (18446744073709551615 - cs)) ↔ n ∈ l ∧ q n = true ∧ (left (key (n / 64)) && !(key (n / 64)).sameKey (key k)) = false := by
  rw [mem_put hs, strike_key, hm]
  have hj : n % 64 < 64 := by omega
  by_cases e : n / 64 = k
  · subst e
    have h2 := hd.2 (n % 64) hj
    rw [hv _ hj]
    rw [Nat.div_add_mod] at h2 ⊢
    rw [Bool.and_eq_true, h2]
    constructor
    · rintro (⟨a, b, _⟩ | ⟨_, h⟩)
      · exact ⟨a, b, Or.inr rfl⟩
      · exact ⟨h.1, h.2, Or.inr rfl⟩
    · rintro ⟨a, b, _⟩
      exact Or.inr ⟨rfl, a, b⟩
  · simp [e]

theorem bits_zero {v k : Nat} {d : Nat} {q : Nat → Bool} (hv : ∀ j, j < 64 → v.testBit j = (d.testBit j && q (64 * k + j))) (h0 : v = 0) (cs : Nat) : nums k (v &&& (18446744073709551615 - cs)) = [] := by
  subst h0
  rw [Nat.zero_and]
  simp [nums, bits_none]

section
variable {w w' : World} {sb bm so bo : Nat} {D Do : DataW Unit} {l l' o : List Nat}

theorem rd_none (w : World) : Rd w (.slice none 0 0) ([] : List Value) := Or.inl ⟨rfl, Or.inl rfl⟩

theorem of_none (w : World) : Calls Tryd.prog 11 #[.slice none 0 0] w fun e w' => e = .returned (.pointer (some ⟨w.heap.size + 1, 0, none⟩)) ∧ (∃ D', SetAt w' (w.heap.size + 1) w.heap.size D' []) ∧ Below w.heap.size w w' :=
  of_any (xs := []) (rd_none w) (by simp) (by simp)

theorem pick_nil (f : Value) (w : World) : Calls Tryd.prog 34 #[.pointer none, f] w fun e w' => e = .returned (.pointer (some ⟨w.heap.size + 1, 0, none⟩)) ∧ (∃ D', SetAt w' (w.heap.size + 1) w.heap.size D' []) ∧ Below w.heap.size w w' := by
  have ho := Lib.hid (of_none w)
  go_enter Tryd.func34, Tryd.ntmps34
  go_wp2_with (go_at_call 11; refine ho.out.mono ?_; rintro e w' ⟨rfl, hS, hb⟩)
  go_ret
  exact ⟨rfl, hS, hb⟩

set_option maxHeartbeats 1000000 in
theorem pick_any (S : SetAt w sb bm D l) (hlen : l.length ≤ 1000000) (q : Nat → Bool) (fn : Nat) (eg : ∀ args w, (callFunc fn args).run Tryd.prog w = .ok (.enter fn args) w) (caps : Array Value)
    (hcall : ∀ w1, Below w.heap.size w w1 → ∀ k d : Nat, k < 144115188075855872 → Bit d k l → ∃ v : Nat, v < 18446744073709551616 ∧ (∀ j, j < 64 → v.testBit j = (d.testBit j && q (64 * k + j))) ∧
      Calls Tryd.prog fn (#[.int .i64 k, .int .u64 d] ++ caps) w1 fun e w' => e = .returned (.int .u64 v) ∧ w' = w1) :
    Calls Tryd.prog 34 #[.pointer (some ⟨sb, 0, none⟩), .func (Fn.func fn) #[] caps] w fun e w' => e = .returned (.pointer (some ⟨w.heap.size + 1, 0, none⟩)) ∧ (∃ D', SetAt w' (w.heap.size + 1) w.heap.size D' (l.filter q)) ∧ Below w.heap.size w w' := by
  have ho := Lib.hid (of_none w)
  go_enter Tryd.func34, Tryd.ntmps34
  go_wp2_with (first
    | (go_at_call 11; refine ho.out.mono ?_; rintro e w0 ⟨rfl, ⟨D0, N0⟩, hb0⟩; have S0 := S.below hb0; obtain ⟨mo, hbl⟩ := S0.blk; have c0 : w0.cell? ⟨sb, 0, none⟩ = some (.map (some bm)) := blk_cell hbl 0; have hown := S0.map)
    | (at_range; refine wpList_range_own _ rfl _ 53 rfl 3 57 law Tryd.underlying53 _ bm _ _ rfl hown ?_; intro w1 hrg0 hg0 hs0)
    | go_in)
  go_frame
  have hss := S.lts
  have hsm := S.ltm
  have hnl := S.nodup
  have ht0 : Touch w0 w1 (fun _ => False) := Touch.of_grown hg0 (fun k e => by cases e)
  have S1 : SetAt w1 sb bm D l := S0.kept ht0 (fun _ _ h => h)
  have N1 : SetAt w1 (w.heap.size + 1) w.heap.size D0 [] := N0.kept ht0 (fun _ _ h => h)
  have hb1 : Below w.heap.size w w1 := hb0.grown hg0 hb0.size (fun k e => by cases e)
  have hr0 : w.heap.size + 1 < w0.heap.size := N0.lts
  have hcw : ∀ w2, Below w.heap.size w w2 → _ := fun w2 h => hcall w2 h
  generalize hr : w0.heap.size = r at *
  clear hcall hown c0 hbl S0 N0 hg0 hs0 ht0 ho S hb0
  go_loopw [6, 7, 8] (fun _ _ _ wr => ∃ (left : Lit → Bool) (cnt : Nat) (D' : DataW Unit) (m : List Nat), wr.ranges Tryd.prog 3 elemU bm r (size D) D left cnt ∧ SetAt wr (w.heap.size + 1) w.heap.size D' m ∧ SetAt wr sb bm D l ∧
      (∀ n, n ∈ m ↔ n ∈ l ∧ q n = true ∧ left (key (n / 64)) = false) ∧ Below w.heap.size w wr)
    (fun _ _ _ wr => wr.rangeLeft bm r)
  case atStart =>
    refine ⟨_, _, D0, [], hrg0, N1, S1, fun n => ?_, hb1⟩
    constructor
    · intro h; cases h
    · rintro ⟨h, _, h'⟩
      rw [S1.words.has_of_mem h] at h'; cases h'
  case round =>
    obtain ⟨left, cnt, D', m, hrg, N', S', hm, hb⟩ := hrel
    have hlen' : m.length ≤ 1000000 := Nat.le_trans (nodup_len_le (b := l) N'.nodup (fun n hn => ((hm n).1 hn).1)) hlen
    clear S1 N1 hb1 hrg0
    go_wp2_with (first
      | (at_next; refine wpList_next_ranges_ii _ rfl _ rfl 3 57 .i64 .u64 law Tryd.underlying3 Tryd.underlying57 bm r (size D) _ _ _ rfl hrg ?_ ?_)
      | go_in)
    · intro hc0 hl0
      have hS : SetAt wr (w.heap.size + 1) w.heap.size D' (l.filter q) := N'.congr (hnl.sublist List.filter_sublist) (fun n => by rw [hm, List.mem_filter, hl0]; simp)
      replace hS := Lib.hid hS
      clear hm
      go_wp2
      go_ret
      exact ⟨rfl, ⟨D', hS.out⟩, hb⟩
    · intro x c w2 cnt1 hwx hwc hlx hat hrg1 hlt hg1 hs1 hen
      have ht1 : Touch wr w2 (fun k => k = r) := Touch.of_grown hg1 (fun k e => by simpa using e.symm)
      obtain ⟨k, d, rfl, rfl, hbd, hd0, hk⟩ := entry_word S'.words S'.small hat
      have S2 : SetAt w2 sb bm D l := S'.kept ht1 (fun k hk e => by rcases hk with rfl | rfl <;> omega)
      have N2 : SetAt w2 (w.heap.size + 1) w.heap.size D' m := N'.kept ht1 (fun k hk e => by rcases hk with rfl | rfl <;> omega)
      have hb2 : Below w.heap.size w w2 := hb.grown hg1 hb.size (fun k e => by simp at e; omega)
      obtain ⟨v, hv, hvb, hcl⟩ := hcw w2 hb2 k d hk hbd
      obtain ⟨cs, hbs, -, -⟩ := N2.words.word k
      have hmem := pick_step hm hbs hbd hvb
      have hz := bits_zero hvb
      replace hcl := Lib.hid hcl
      replace hmem := Lib.hid hmem
      replace hz := Lib.hid hz
      by_cases hv0 : v = 0
      · have h0 := hz.out hv0 cs
        rw [h0, List.append_nil] at hmem
        subst hv0
        clear h0 hm hbs hbd hat hs1 hwx hwc hlx hvb
        go_wp2_with (refine hcl.out.mono ?_; rintro e w3 ⟨rfl, rfl⟩)
        go_roundw
        case rel => exact ⟨_, cnt1, D', m, hrg1, N2, S2, hmem.out, hb2⟩
        case measure => rw [hrg1.left_eq, hrg.left_eq]; exact hlt
      · have hzi : ((v : Int) != 0) = true := by simp; omega
        have hput := Lib.hid (put_any N2 hbs hk hv hv0 hlen')
        clear hm hbs hbd hat hs1 hwx hwc hlx hvb
        go_wp2_with (first
          | (go_at_call 32; refine hput.out.mono ?_; rintro e w4 ⟨rfl, ⟨D2, N4⟩, ht2⟩)
          | (refine hcl.out.mono ?_; rintro e w3 ⟨rfl, rfl⟩))
        have hrg2 := ranges_touch hrg1 ht2 (fun h => by rcases h with h | h <;> omega) (fun h => by rcases h with h | h <;> omega)
        have S4 : SetAt w4 sb bm D l := S2.kept ht2 (fun k hk h => by rcases hk with rfl | rfl <;> rcases h with h | h <;> omega)
        go_roundw
        case rel => exact ⟨_, cnt1, D2, _, hrg2, N4, S4, hmem.out, hb2.trans (ht2.below hb2.size (fun k hk h => by rcases h with h | h <;> omega))⟩
        case measure => rw [hrg2.left_eq, hrg.left_eq]; exact hlt
end
end Go.Proofs.YtdpbbgfceagofaaDoor
