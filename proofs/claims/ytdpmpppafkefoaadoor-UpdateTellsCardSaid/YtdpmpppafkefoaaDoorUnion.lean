/- Union. -/
import Derived.Test.YtdpmpppafkefoaaDoorAdd
import Derived.Maps.RangeWalk
import Derived.LaidEqlPtr
namespace Go.Proofs.YtdpmpppafkefoaaDoor
open Go.RowKit Go.Maps

theorem ranges_touch {P : Program} {k : TypeId} {R : Value → Option (DataW Unit × List MemPlace)} {w w' : World} {b r n : Nat} {D : DataW Unit} {left : Lit → Bool} {cnt : Nat} {Q : Nat → Prop} (h : w.ranges P k R b r n D left cnt) (ht : Touch w w' Q) (hb' : ¬ Q b) (hr' : ¬ Q r) : w'.ranges P k R b r n D left cnt := by
  have h1 := h.owns.lt
  have h2 := h.lt
  obtain ⟨es, clock, since, seen, c0, hb, F, hs, hD, hr, rest⟩ := h
  exact ⟨es, clock, since, seen, c0, (ht.block b h1 hb').trans hb, F, hs, hD, (ht.block r h2 hr').trans hr, rest⟩

/-- A list with those of another one that it lacks. -/
def uni (l o : List Nat) : List Nat := l ++ o.filter (fun n => !decide (n ∈ l))
theorem mem_uni {l o : List Nat} {n : Nat} : n ∈ uni l o ↔ n ∈ l ∨ n ∈ o := by
  unfold uni
  rw [List.mem_append, List.mem_filter]
  by_cases h : n ∈ l <;> simp [h]
theorem nodup_uni {l o : List Nat} (hl : l.Nodup) (ho : o.Nodup) : (uni l o).Nodup := by
  unfold uni
  rw [List.nodup_append]
  refine ⟨hl, ho.sublist List.filter_sublist, fun a ha b hb e => ?_⟩
  subst e
  simp [List.mem_filter] at hb
  exact hb.2 ha

/-- An entry of a set's map is a word of it. -/
theorem entry_word {D : DataW Unit} {l : List Nat} (h : Words D l) (hs : ∀ n ∈ l, n < 9223372036854775808) {x c : Int} (hat : ∀ zd, D.atKey (.int .i64 x) zd = .lit (.int .u64 c)) :
    ∃ k d : Nat, x = k ∧ c = d ∧ Bit d k l ∧ d ≠ 0 ∧ k < 144115188075855872 := by
  have hh := has_true_of_atKey hat
  obtain ⟨k, hk⟩ := h.keys _ hh
  obtain ⟨d, hb, h1, h2⟩ := h.word k
  rw [hk] at hh
  rw [hh] at h1
  have hd : d ≠ 0 := of_decide_eq_true h1.symm
  have h3 := hat (wd 0)
  rw [hk, h2] at h3
  simp only [wd, DataW.lit.injEq, Lit.int.injEq, true_and] at h3
  simp only [key, Lit.int.injEq, true_and] at hk
  refine ⟨k, d, hk, h3.symm, hb, hd, ?_⟩
  have h4 : ¬ ∀ n ∈ l, n / 64 ≠ k := fun e => hd (hb.zero.2 e)
  obtain ⟨n, hn, he⟩ : ∃ n, n ∈ l ∧ n / 64 = k := by
    apply Classical.byContradiction
    intro hne
    exact h4 (fun n hn e => hne ⟨n, hn, e⟩)
  have := hs n hn
  omega

theorem strike_key {left : Lit → Bool} {k k' : Nat} : (left (key k') && !(key k').sameKey (key k)) = false ↔ left (key k') = false ∨ k' = k := by
  by_cases e : k' = k
  · subst e
    rw [WideAt.sameKey_self (key_lit k')]
    simp
  · have : (key k').sameKey (key k) = false := sameKey_ne (fun h => e (key_inj h))
    rw [this]
    simp [e]

theorem Words.has_of_mem {D : DataW Unit} {l : List Nat} (h : Words D l) {n : Nat} (hn : n ∈ l) : has D (key (n / 64)) = true := by
  obtain ⟨c, hb, h1, _⟩ := h.word (n / 64)
  rw [h1]
  have : c ≠ 0 := fun e => hb.zero.1 e n hn rfl
  simp [this]

theorem union_step {l m o : List Nat} {left : Lit → Bool} {cs d k : Nat} (hm : ∀ n, n ∈ m ↔ n ∈ l ∨ (n ∈ o ∧ left (key (n / 64)) = false)) (hs : Bit cs k m) (hd : Bit d k o) (n : Nat) :
    n ∈ m ++ nums k (d &&& (18446744073709551615 - cs)) ↔ n ∈ l ∨ (n ∈ o ∧ (left (key (n / 64)) && !(key (n / 64)).sameKey (key k)) = false) := by
  rw [List.mem_append, mem_nums, strike_key]
  have hj : n % 64 < 64 := by omega
  rw [tb_less hs.1 hj]
  by_cases e : n / 64 = k
  · subst e
    have h1 := hs.2 (n % 64) hj
    have h2 := hd.2 (n % 64) hj
    rw [Nat.div_add_mod] at h1 h2
    rw [Bool.and_eq_true, h2, Bool.not_eq_true']
    have h3 := hm n
    by_cases hn : n ∈ m
    · have := h3.1 hn
      constructor
      · intro _
        rcases this with h | ⟨h, _⟩
        · exact Or.inl h
        · exact Or.inr ⟨h, Or.inr rfl⟩
      · intro _; exact Or.inl hn
    · have hc : cs.testBit (n % 64) = false := by
        cases e : cs.testBit (n % 64)
        · rfl
        · exact absurd (h1.1 e) hn
      constructor
      · rintro (h | ⟨_, h, _⟩)
        · exact absurd h hn
        · exact Or.inr ⟨h, Or.inr rfl⟩
      · rintro (h | ⟨h, _⟩)
        · exact absurd (h3.2 (Or.inl h)) hn
        · exact Or.inr ⟨rfl, h, hc⟩
  · rw [hm n]
    constructor
    · rintro (h | ⟨h, _⟩)
      · exact h.imp id (fun ⟨a, b⟩ => ⟨a, Or.inl b⟩)
      · exact absurd h e
    · rintro (h | ⟨h, h' | h'⟩)
      · exact Or.inl (Or.inl h)
      · exact Or.inl (Or.inr ⟨h, h'⟩)
      · exact absurd h' e

section
variable {w w' : World} {sb bm so bo : Nat} {D Do : DataW Unit} {l l' o : List Nat}

theorem union_nil (v : Value) (hv : v = .pointer none ∨ ∃ a, v = .pointer (some a)) (w : World) : Calls Tryd.prog 19 #[.pointer none, v] w fun e w' => e = .returned (.bool false) ∧ w' = w := by
  rcases hv with rfl | ⟨a, rfl⟩
  · go_enter Tryd.func19, Tryd.ntmps19
    go_wp2
    go_ret
    exact ⟨rfl, rfl⟩
  · go_enter Tryd.func19, Tryd.ntmps19
    go_wp2
    go_ret
    exact ⟨rfl, rfl⟩
theorem union_of_nil (a : Addr) (w : World) : Calls Tryd.prog 19 #[.pointer (some a), .pointer none] w fun e w' => e = .returned (.bool false) ∧ w' = w := by
  go_enter Tryd.func19, Tryd.ntmps19
  go_wp2
  go_ret
  exact ⟨rfl, rfl⟩
theorem infoS : (Tryd.prog.info? 50).map (fun i => i.size) = some 3 := by kernel_rfl
theorem eq_self (w : World) (a : Addr) : (binOp .eql 26 (.pointer (some a)) (.pointer (some a))).run Tryd.prog w = .ok (.bool true) w := by
  have h := infoS
  rw [Option.map_eq_some_iff] at h
  obtain ⟨j, hj, _⟩ := h
  exact run_eql_ptr_same w a (by kernel_rfl) hj
theorem eq_other (S : SetAt w sb bm D l) (T : SetAt w so bo Do o) (hne : sb ≠ so) : (binOp .eql 26 (.pointer (some ⟨sb, 0, none⟩)) (.pointer (some ⟨so, 0, none⟩))).run Tryd.prog w = .ok (.bool false) w := by
  have h := infoS
  rw [Option.map_eq_some_iff] at h
  obtain ⟨j, hj, hs⟩ := h
  obtain ⟨m1, e1⟩ := S.blk
  obtain ⟨m2, e2⟩ := T.blk
  exact run_eql_ptr_other w (by kernel_rfl) hj (by omega) (fun e => hne (by injection e)) e1 e2
theorem union_self (a : Addr) (w : World) : Calls Tryd.prog 19 #[.pointer (some a), .pointer (some a)] w fun e w' => e = .returned (.bool false) ∧ w' = w := by
  have hq := eq_self w a
  go_enter Tryd.func19, Tryd.ntmps19
  go_wp2
  go_ret
  exact ⟨rfl, rfl⟩

theorem _root_.Go.Proofs.YtdpmpppafkefoaaDoor.Touch.next {a b c : World} {Q Q' : Nat → Prop} (h : Touch a b Q) (g : Touch b c Q') (hs : ∀ k, Q' k → a.heap.size ≤ k ∨ Q k) : Touch a c Q :=
  ⟨g.os.trans h.os, g.tape.trans h.tape, g.output.trans h.output, Nat.le_trans h.size g.size, fun k hk hn => (g.block k (Nat.lt_of_lt_of_le hk h.size) (fun e => by
    rcases hs k e with h1 | h1
    · omega
    · exact hn h1)).trans (h.block k hk hn)⟩

/-- A struct's block is no map's. -/
theorem SetAt.apart (S : SetAt w sb bm D l) (T : SetAt w so bo Do o) : sb ≠ bo := fun e => by
  obtain ⟨m1, e1⟩ := S.blk
  obtain ⟨es, clock, e2, _⟩ := T.map
  rw [e, e2] at e1
  cases e1

set_option maxHeartbeats 1000000 in
theorem union_any (S : SetAt w sb bm D l) (T : SetAt w so bo Do o) (h1 : sb ≠ so) (h2 : bm ≠ bo) (hlen : l.length + o.length ≤ 1000000) :
    Calls Tryd.prog 19 #[.pointer (some ⟨sb, 0, none⟩), .pointer (some ⟨so, 0, none⟩)] w fun e w' => e = .returned (.bool (decide (l.length < (uni l o).length))) ∧ (∃ D', SetAt w' sb bm D' (uni l o)) ∧ Touch w w' (Mine sb bm) := by
  obtain ⟨mo, hbl⟩ := T.blk
  have o0 : w.cell? ⟨so, 0, none⟩ = some (.map (some bo)) := blk_cell hbl 0
  have hown := T.map
  have hsm : sb < w.heap.size := S.lts
  have hbm : bm < w.heap.size := S.ltm
  have hbo : bo < w.heap.size := T.ltm
  have h3 : sb ≠ bo := S.apart T
  have h4 : so ≠ bm := T.apart S
  have hq := eq_other S T h1
  go_enter Tryd.func19, Tryd.ntmps19
  go_wp2_with (first
    | (at_range; refine wpList_range_own _ rfl _ 48 rfl 3 55 law Tryd.underlying48 _ bo _ _ rfl hown ?_; intro w0 hrg0 hg0 hs0)
    | go_in)
  go_frame
  have T0 : SetAt w0 so bo Do o := T.kept (Touch.of_grown (S := fun _ => False) hg0 (fun k e => by cases e)) (fun _ _ h => h)
  have S0 : SetAt w0 sb bm D l := S.kept (Touch.of_grown (S := fun _ => False) hg0 (fun k e => by cases e)) (fun _ _ h => h)
  have ht0 : Touch w w0 (Mine sb bm) := Touch.of_grown hg0 (fun k e => by cases e)
  have hso : so < w.heap.size := T.lts
  have hnl := S.nodup
  generalize hr : w.heap.size = r at *
  go_loopw [5, 6, 7] (fun g _ _ wr => ∃ (left : Lit → Bool) (cnt : Nat) (D' : DataW Unit) (m : List Nat), wr.ranges Tryd.prog 3 elemU bo r (size Do) Do left cnt ∧ SetAt wr sb bm D' m ∧ SetAt wr so bo Do o ∧
      (∀ n, n ∈ m ↔ n ∈ l ∨ (n ∈ o ∧ left (key (n / 64)) = false)) ∧ l.length ≤ m.length ∧ g = .bool (decide (l.length < m.length)) ∧ Touch w wr (Mine sb bm))
    (fun _ _ _ wr => wr.rangeLeft bo r)
  case atStart =>
    refine ⟨_, _, D, l, hrg0, S0, T0, fun n => ?_, Nat.le_refl _, by simp, ht0⟩
    constructor
    · exact Or.inl
    · rintro (h | ⟨h, h'⟩)
      · exact h
      · rw [T0.words.has_of_mem h] at h'; cases h'
  case round =>
    obtain ⟨left, cnt, D', m, hrg, S', T', hm, hle, rfl, ht⟩ := hrel
    have hlen' : m.length ≤ 1000000 := Nat.le_trans (nodup_len_le (b := l ++ o) S'.nodup (fun n hn => by
      rw [List.mem_append]
      exact ((hm n).1 hn).imp id And.left)) (by rw [List.length_append]; exact hlen)
    have c0 : ∀ {w3 : World}, Touch wr w3 (fun k => k = r) → w3.cell? ⟨sb, 0, none⟩ = some (.map (some bm)) := fun {w3} h => by
      obtain ⟨m3, h3⟩ := S'.blk
      exact blk_cell ((h.block sb S'.lts (by omega)).trans h3) 0
    clear S0 T0 ht0 hrg0 hg0 hs0 hown hbl o0 hq S T
    go_wp2_with (first
      | (at_next; refine wpList_next_ranges_ii _ rfl _ rfl 3 55 .i64 .u64 law Tryd.underlying3 Tryd.underlying55 bo r (size Do) _ _ _ rfl hrg ?_ ?_)
      | go_in)
    · intro hc0 hl0
      have hS : SetAt wr sb bm D' (uni l o) := S'.congr (nodup_uni hnl T'.nodup) (fun n => by rw [hm, mem_uni, hl0]; simp)
      have hL : m.length = (uni l o).length := nodup_len_eq S'.nodup hS.nodup (fun n => by rw [hm, mem_uni, hl0]; simp)
      replace hS := Lib.hid hS
      rw [hL]
      clear hm hL
      go_wp2
      go_ret
      exact ⟨rfl, ⟨D', hS.out⟩, ht⟩
    · intro x c w1 cnt1 hwx hwc hlx hat hrg1 hlt hg1 hs1 hen
      have ht1 : Touch wr w1 (fun k => k = r) := Touch.of_grown hg1 (fun k e => by simpa using e.symm)
      obtain ⟨k, d, rfl, rfl, hbd, hd0, hk⟩ := entry_word T'.words T'.small hat
      have S1 : SetAt w1 sb bm D' m := S'.kept ht1 (fun k hk e => by rcases hk with rfl | rfl <;> omega)
      have T1 : SetAt w1 so bo Do o := T'.kept ht1 (fun k hk e => by rcases hk with rfl | rfl <;> omega)
      obtain ⟨cs, hbs, -, -⟩ := S1.words.word k
      have hlook := S1.look hbs (by omega)
      have hless : bits BinOp.andNot IntKind.u64 (d : Int) (cs : Int) = ((d &&& (18446744073709551615 - cs) : Nat) : Int) := u64_andNot_nat d cs hbd.1 hbs.1
      have hput := put_any S1 hbs hk hbd.1 hd0 hlen'
      have hmem := union_step hm hbs hbd
      have c1 := c0 ht1
      obtain ⟨z, hz⟩ : ∃ z, z = d &&& (18446744073709551615 - cs) := ⟨_, rfl⟩
      rw [← hz] at hless hput
      simp only [← hz] at hmem
      have hzl : z < 18446744073709551616 := hz ▸ less_lt hbd.1
      replace hput := Lib.hid hput
      replace hmem := Lib.hid hmem
      clear hz hm hbs hbd hat hs1 c0 hwx hwc hlx
      by_cases hz0 : z = 0
      · subst hz0
        go_wp2_with fail
        go_roundw
        case rel =>
          have h0 : nums k 0 = [] := by simp [nums, bits_none]
          rw [h0, List.append_nil] at hmem
          exact ⟨_, cnt1, D', m, hrg1, S1, T1, hmem.out, hle, rfl, ht.next ht1 (fun k e => Or.inl (by omega))⟩
        case measure => rw [hrg1.left_eq, hrg.left_eq]; exact hlt
      · have hzi : ((z : Int) != 0) = true := by simp; omega
        go_wp2_with (go_at_call 25; refine hput.out.mono ?_; rintro e w2 ⟨rfl, ⟨D2, S2⟩, ht2⟩)
        have hrg2 := ranges_touch hrg1 ht2 (fun h => by rcases h with h | h <;> omega) (fun h => by rcases h with h | h <;> omega)
        have T2 : SetAt w2 so bo Do o := T1.kept ht2 (fun k hk h => by rcases hk with rfl | rfl <;> rcases h with h | h <;> omega)
        go_roundw
        case rel =>
          refine ⟨_, cnt1, D2, _, hrg2, S2, T2, hmem.out, by simp; omega, ?_, (ht.next ht1 (fun k e => Or.inl (by omega))).next ht2 (fun k e => Or.inr e)⟩
          have h3 : nums k z ≠ [] := by
            unfold nums
            intro e
            exact hz0 ((bits_none hzl).1 (List.map_eq_nil_iff.1 e))
          have h4 := List.length_pos_iff.2 h3
          rw [List.length_append, decide_eq_true (by omega)]
        case measure => rw [hrg2.left_eq, hrg.left_eq]; exact hlt
end
end Go.Proofs.YtdpmpppafkefoaaDoor
