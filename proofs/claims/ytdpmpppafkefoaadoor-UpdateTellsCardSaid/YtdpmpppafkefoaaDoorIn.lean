/- In, Same, Least. -/
import Derived.Test.YtdpmpppafkefoaaDoorTz
namespace Go.Proofs.YtdpmpppafkefoaaDoor
open Go.RowKit Go.Maps

section
variable {w w' : World} {sb bm so bo : Nat} {D Do : DataW Unit} {l l' o : List Nat}

theorem in_nil {ov : Value} (T : ASet w ov o) : Calls Tryd.prog 26 #[.pointer none, ov] w fun e w' => e = .returned (.bool true) ∧ w' = w := by
  have h1 := Lib.hid (len_nil w)
  have h2 := Lib.hid (len_a T)
  have hd : decide ((0 : Int) > (o.length : Int)) = false := by simp
  have hf := T.form
  clear T
  rcases hf with rfl | ⟨a, rfl⟩
  · go_enter Tryd.func26, Tryd.ntmps26
    go_wp2_with (first | (go_at_call 16; refine h1.out.mono ?_; clear h1; rintro e w' ⟨rfl, rfl⟩) | (go_at_call 16; refine h2.out.mono ?_; rintro e w' ⟨rfl, rfl⟩))
    go_ret
    exact ⟨rfl, rfl⟩
  · go_enter Tryd.func26, Tryd.ntmps26
    go_wp2_with (first | (go_at_call 16; refine h1.out.mono ?_; clear h1; rintro e w' ⟨rfl, rfl⟩) | (go_at_call 16; refine h2.out.mono ?_; rintro e w' ⟨rfl, rfl⟩))
    go_ret
    exact ⟨rfl, rfl⟩

theorem in_long (S : SetAt w sb bm D l) {ov : Value} (T : ASet w ov o) (h : o.length < l.length) : Calls Tryd.prog 26 #[.pointer (some ⟨sb, 0, none⟩), ov] w fun e w' => e = .returned (.bool false) ∧ w' = w := by
  have h1 := Lib.hid (len_any S)
  have h2 := Lib.hid (len_a T)
  have hd : decide ((l.length : Int) > (o.length : Int)) = true := by simp; omega
  have hf := T.form
  clear S T
  rcases hf with rfl | ⟨a, rfl⟩
  · go_enter Tryd.func26, Tryd.ntmps26
    go_wp2_with (first | (go_at_call 16; refine h1.out.mono ?_; clear h1; rintro e w' ⟨rfl, rfl⟩) | (go_at_call 16; refine h2.out.mono ?_; rintro e w' ⟨rfl, rfl⟩))
    go_ret
    exact ⟨rfl, rfl⟩
  · go_enter Tryd.func26, Tryd.ntmps26
    go_wp2_with (first | (go_at_call 16; refine h1.out.mono ?_; clear h1; rintro e w' ⟨rfl, rfl⟩) | (go_at_call 16; refine h2.out.mono ?_; rintro e w' ⟨rfl, rfl⟩))
    go_ret
    exact ⟨rfl, rfl⟩

set_option maxHeartbeats 1000000 in
theorem in_short (S : SetAt w sb bm D l) {ov : Value} (T : ASet w ov o) (h : l.length ≤ o.length) : Calls Tryd.prog 26 #[.pointer (some ⟨sb, 0, none⟩), ov] w fun e w' => e = .returned (.bool (decide (∀ n ∈ l, n ∈ o))) ∧ Below w.heap.size w w' := by
  have h1 := Lib.hid (len_any S)
  have h2 := Lib.hid (len_a T)
  have hd : decide ((l.length : Int) > (o.length : Int)) = false := by simp; omega
  have hd' : decide (o.length < l.length) = false := by simp; omega
  obtain ⟨mo, hbl⟩ := S.blk
  have c0 : w.cell? ⟨sb, 0, none⟩ = some (.map (some bm)) := blk_cell hbl 0
  have hown := S.map
  have hf := T.form
  have hss := S.lts
  have hsm := S.ltm
  have hwd : ∀ w2, Below w.heap.size w w2 → SetAt w2 sb bm D l ∧ ∀ k d : Nat, Bit d k l → k < 144115188075855872 →
      ∃ c z : Nat, Calls Tryd.prog 31 #[ov, .int .i64 k] w2 (fun e w' => e = .returned (.int .u64 c) ∧ w' = w2) ∧ bits BinOp.andNot IntKind.u64 (d : Int) (c : Int) = (z : Int) ∧ (z = 0 ↔ ∀ n ∈ l, n / 64 = k → n ∈ o) := fun w2 hb => by
    have T2 := T.below hb
    refine ⟨S.below hb, fun k d hbd hk => ?_⟩
    obtain ⟨c, hc⟩ := T2.bit k
    refine ⟨c, d &&& (18446744073709551615 - c), word_a T2 hc (by omega), u64_andNot_nat d c hbd.1 hc.1, ?_⟩
    rw [less_zero hbd.1 hc.1]
    constructor
    · intro hz n hn he
      subst he
      have h3 := hz (n % 64) (by omega) ((hbd.2 _ (by omega)).2 (by rw [Nat.div_add_mod]; exact hn))
      have h4 := (hc.2 _ (by omega)).1 h3
      rwa [Nat.div_add_mod] at h4
    · intro hz j hj hb
      exact (hc.2 j hj).2 (hz _ ((hbd.2 j hj).1 hb) (by omega))
  clear S T hbl
  rcases hf with rfl | ⟨a, rfl⟩ <;>
  ( go_enter Tryd.func26, Tryd.ntmps26
    go_wp2_with (first
      | (go_at_call 16; refine h1.out.mono ?_; clear h1; rintro e w' ⟨rfl, hw⟩; obtain rfl := hw.symm)
      | (go_at_call 16; refine h2.out.mono ?_; clear h2; rintro e w' ⟨rfl, hw⟩; obtain rfl := hw.symm)
      | (at_range; refine wpList_range_own _ rfl _ 48 rfl 3 55 law Tryd.underlying48 _ bm _ _ rfl hown ?_; intro w1 hrg0 hg0 hs0)
      | go_in)
    go_frame
    have hb1 : Below w.heap.size w w1 := (Below.refl _ w).grown hg0 (Nat.le_refl _) (fun k e => by cases e)
    clear hown hg0 hs0 c0
    generalize hr : w.heap.size = r at *
    go_loopw [4, 5, 6] (fun _ _ _ wr => ∃ (left : Lit → Bool) (cnt : Nat), wr.ranges Tryd.prog 3 elemU bm r (size D) D left cnt ∧ Below r w wr ∧
        (∀ n ∈ l, left (key (n / 64)) = false → n ∈ o))
      (fun _ _ _ wr => wr.rangeLeft bm r)
    case atStart =>
      refine ⟨_, _, hrg0, hb1, fun n hn h' => ?_⟩
      rw [(hwd _ hb1).1.words.has_of_mem hn] at h'; cases h'
    case round =>
      obtain ⟨left, cnt, hrg, hb, hm⟩ := hrel
      clear hrg0 hb1
      go_wp2_with (first
        | (at_next; refine wpList_next_ranges_ii _ rfl _ rfl 3 55 .i64 .u64 law Tryd.underlying3 Tryd.underlying55 bm r (size D) _ _ _ rfl hrg ?_ ?_)
        | go_in)
      · intro hc0 hl0
        have ht : decide (∀ n ∈ l, n ∈ o) = true := decide_eq_true (fun n hn => hm n hn (hl0 _))
        clear hm
        go_wp2
        go_ret
        exact ⟨by rw [ht]; rfl, by rw [hr]; exact hb⟩
      · intro x c w2 cnt1 hwx hwc hlx hat hrg1 hlt hg1 hs1 hen
        have hb2 : Below r w w2 := hb.grown hg1 (hr ▸ hb.size) (fun k e => by simp at e; omega)
        obtain ⟨S2, hz⟩ := hwd _ hb2
        obtain ⟨k, d, rfl, rfl, hbd, hd0, hk⟩ := entry_word S2.words S2.small hat
        obtain ⟨c, z, hcl, hbz, hzz⟩ := hz k d hbd hk
        replace hcl := Lib.hid hcl
        replace hzz := Lib.hid hzz
        replace hm := Lib.hid hm
        clear hwd hz S2 hbd hat hwx hwc hlx hs1
        by_cases hz0 : z = 0
        · subst hz0
          go_wp2_with (go_at_call 31; refine hcl.out.mono ?_; rintro e w3 ⟨rfl, hw⟩; obtain rfl := hw.symm)
          go_roundw
          case rel =>
            refine ⟨_, cnt1, hrg1, hb2, fun n hn h' => ?_⟩
            rcases strike_key.1 h' with h' | h'
            · exact hm.out n hn h'
            · exact hzz.out.1 (by first | rfl | trivial) n hn h'
          case measure => rw [hrg1.left_eq, hrg.left_eq]; exact hlt
        · have hzi : ((z : Int) != 0) = true := by simp; omega
          have ht : decide (∀ n ∈ l, n ∈ o) = false := decide_eq_false (fun h => hz0 (hzz.out.2 (fun n hn _ => h n hn)))
          go_wp2_with (go_at_call 31; refine hcl.out.mono ?_; rintro e w3 ⟨rfl, hw⟩; obtain rfl := hw.symm)
          go_ret
          exact ⟨by rw [ht]; rfl, by rw [hr]; exact hb2⟩)

theorem in_any (S : SetAt w sb bm D l) {ov : Value} (T : ASet w ov o) : Calls Tryd.prog 26 #[.pointer (some ⟨sb, 0, none⟩), ov] w fun e w' => e = .returned (.bool (decide (∀ n ∈ l, n ∈ o))) ∧ Below w.heap.size w w' := by
  by_cases h : l.length ≤ o.length
  · exact in_short S T h
  · refine (in_long S T (by omega)).mono ?_
    rintro e w' ⟨rfl, rfl⟩
    have : ¬ ∀ n ∈ l, n ∈ o := fun hs => h (nodup_len_le S.nodup hs)
    exact ⟨by rw [decide_eq_false this], Below.refl _ _⟩

theorem in_a {v ov : Value} (S : ASet w v l) (T : ASet w ov o) : Calls Tryd.prog 26 #[v, ov] w fun e w' => e = .returned (.bool (decide (∀ n ∈ l, n ∈ o))) ∧ Below w.heap.size w w' := by
  rcases S with ⟨rfl, rfl⟩ | ⟨sb, bm, D, rfl, S⟩
  · refine (in_nil T).mono ?_
    rintro e w' ⟨rfl, rfl⟩
    exact ⟨by simp, Below.refl _ _⟩
  · exact in_any S T

/-- Whether two lists have the same members. -/
def alike (l o : List Nat) : Bool := decide (l.length = o.length) && decide (∀ n ∈ l, n ∈ o)
theorem alike_iff (hl : l.Nodup) (ho : o.Nodup) : alike l o = true ↔ ∀ n, n ∈ l ↔ n ∈ o := by
  unfold alike
  rw [Bool.and_eq_true, decide_eq_true_iff, decide_eq_true_iff]
  constructor
  · rintro ⟨h1, h2⟩ n
    refine ⟨h2 n, fun hn => ?_⟩
    apply Classical.byContradiction
    intro hne
    have h3 : (n :: l).length ≤ o.length := nodup_len_le (by rw [List.nodup_cons]; exact ⟨hne, hl⟩) (fun x hx => by
      rcases List.mem_cons.1 hx with rfl | hx
      · exact hn
      · exact h2 x hx)
    simp only [List.length_cons] at h3
    omega
  · intro h
    exact ⟨nodup_len_eq hl ho h, fun n hn => (h n).1 hn⟩

theorem same_a {v ov : Value} (S : ASet w v l) (T : ASet w ov o) : Calls Tryd.prog 17 #[v, ov] w fun e w' => e = .returned (.bool (alike l o)) ∧ Below w.heap.size w w' := by
  have h1 := Lib.hid (len_a S)
  have h2 := Lib.hid (len_a T)
  have h3 := Lib.hid (in_a S T)
  have hf := S.form
  have hg := T.form
  clear S T
  unfold alike
  by_cases hl : l.length = o.length
  · have hd : ((l.length : Int) == (o.length : Int)) = true := by simp [hl]
    have he : decide (l.length = o.length) = true := decide_eq_true hl
    rw [he, Bool.true_and]
    rcases hf with rfl | ⟨a, rfl⟩ <;> rcases hg with rfl | ⟨b, rfl⟩ <;>
    ( go_enter Tryd.func17, Tryd.ntmps17
      go_wp2_with (first
        | (go_at_call 16; refine h1.out.mono ?_; clear h1; rintro e w' ⟨rfl, hw⟩; obtain rfl := hw.symm)
        | (go_at_call 16; refine h2.out.mono ?_; clear h2; rintro e w' ⟨rfl, hw⟩; obtain rfl := hw.symm)
        | (go_at_call 26; refine h3.out.mono ?_; clear h3; rintro e w' ⟨rfl, hb⟩))
      go_ret
      exact ⟨rfl, hb⟩)
  · have hd : ((l.length : Int) == (o.length : Int)) = false := by simp; omega
    have he : decide (l.length = o.length) = false := decide_eq_false hl
    rw [he, Bool.false_and]
    rcases hf with rfl | ⟨a, rfl⟩ <;> rcases hg with rfl | ⟨b, rfl⟩ <;>
    ( go_enter Tryd.func17, Tryd.ntmps17
      go_wp2_with (first
        | (go_at_call 16; refine h1.out.mono ?_; clear h1; rintro e w' ⟨rfl, hw⟩; obtain rfl := hw.symm)
        | (go_at_call 16; refine h2.out.mono ?_; clear h2; rintro e w' ⟨rfl, hw⟩; obtain rfl := hw.symm))
      go_ret
      exact ⟨rfl, Below.refl _ _⟩)
end
end Go.Proofs.YtdpmpppafkefoaaDoor
