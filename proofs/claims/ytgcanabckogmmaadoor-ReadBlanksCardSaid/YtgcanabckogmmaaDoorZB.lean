/- LexN, LexO, LexP. -/
import Derived.Test.YtgcanabckogmmaaDoorZA
import Derived.Deep.RegionHeld3
namespace Go.Proofs.YtgcanabckogmmaaDoor
set_option linter.unusedVariables false
set_option linter.unusedSimpArgs false
section
open Go.RowKit Go.Shelf

theorem atoi_digits (l : List UInt8) (h0 : l ≠ []) (hd : ∀ b ∈ l, digitB b = true) : Lib.atoi l = some (numOf l : Int) := by
  have hv : ∀ b : UInt8, digitB b = true → 48 ≤ b.toNat ∧ b.toNat ≤ 57 := by
    intro b hb
    unfold digitB at hb
    simp [UInt8.le_iff_toNat_le] at hb
    exact hb
  have hf : ∀ (l : List UInt8) (acc : Nat), (∀ b ∈ l, digitB b = true) → Lib.decFrom acc l = some (l.foldl (fun n b => 10 * n + (b.toNat - 48)) acc) := by
    intro l
    induction l with
    | nil => intro acc _; rfl
    | cons b r ih =>
      intro acc hb
      have h1 := hv b (hb b (by simp))
      unfold Lib.decFrom Lib.digitVal
      rw [if_pos h1]
      show Lib.decFrom (acc * 10 + (b.toNat - 48)) r = _
      rw [ih _ (fun c hc => hb c (by simp [hc])), List.foldl_cons, Nat.mul_comm acc 10]
  cases l with
  | nil => exact absurd rfl h0
  | cons b r =>
    have h1 := hv b (hd b (by simp))
    have e1 : (b == 45) = false := by
      rw [← eqB]
      simp
      show ¬ (b.toNat : Int) = 45
      omega
    have e2 : (b == 43) = false := by
      rw [← eqB]
      simp
      show ¬ (b.toNat : Int) = 43
      omega
    unfold Lib.atoi
    simp only [e1, e2, Bool.false_eq_true, if_false]
    unfold Lib.decNat
    rw [hf (b :: r) 0 hd]
    rfl

section
variable {w w' : World} {lb ln cl i B : Nat} {s : ByteArray} {v : Value} {out : List Tok}

theorem LexW.touch_at {Q : Nat → Prop} {c j : Nat} (h : LexW B w lb s ln cl i v out) (hL : LexAt w' lb s ln c j v) (ht : Touch w w' Q) (hq : ∀ k, Q k → k = lb) : LexW B w' lb s ln c j v out :=
  ⟨hL, ownsRow_touch h.row ht (fun b hb e => by have := (h.row.lt b hb).1; have := hq b e; have := h.low; omega), h.low, Nat.le_trans h.top ht.size⟩
theorem LexW.below (h : LexW B w lb s ln cl i v out) (hb : Below w.heap.size w w') : LexW B w' lb s ln cl i v out :=
  ⟨h.at'.below hb, ownsRow_touch h.row (Touch.of_below hb (fun _ => False)) (fun _ _ h => h), h.low, Nat.le_trans h.top hb.size⟩

theorem own_not {base g : Nat} {e t : TypeId} {size n : Nat} {us : List Value} {cs : Array Value} (h : w.ownsRow base e size v n us) (hb : w.heap[g]? = some (.cells cs t (0, 0))) (hne : t ≠ e) : v.ownBlock ≠ some g := by
  intro e2
  rcases h.2 with ⟨rfl, _⟩ | ⟨g2, cap, cur, rfl, h1, h2, _⟩
  · simp [Value.ownBlock] at e2
  · simp [Value.ownBlock] at e2
    subst e2
    rw [hb] at h2
    simp at h2
    exact hne h2.2
theorem LexW.away {Q : Nat → Prop} (h : LexW B w lb s ln cl i v out) (ht : Touch w w' Q) (hq : ∀ k, Q k → k ≠ lb ∧ v.ownBlock ≠ some k) : LexW B w' lb s ln cl i v out :=
  ⟨h.at'.touch ht (fun q => (hq lb q).1 rfl), ownsRow_touch h.row ht (fun b hb e => (hq b e).2 hb), h.low, Nat.le_trans h.top ht.size⟩

/-- The bytes of a run, as a word. -/
def word (p : UInt8 → Bool) (s : ByteArray) (i : Nat) : List UInt8 := (rest s i).takeWhile p
theorem word_len (p : UInt8 → Bool) (s : ByteArray) (i : Nat) : (word p s i).length = run p s i := rfl
theorem word_extract (p : UInt8 → Bool) (s : ByteArray) (i : Nat) : s.extract i (i + run p s i) = ⟨(word p s i).toArray⟩ := by
  apply ByteArray.ext
  apply Array.ext'
  rw [ByteArray.data_extract]
  simp only [Array.toList_extract, List.extract_eq_take_drop]
  rw [show i + run p s i - i = run p s i from by omega]
  have h := List.takeWhile_append_dropWhile (p := p) (l := rest s i)
  show List.take (run p s i) (rest s i) = word p s i
  unfold run word
  conv => lhs; arg 2; rw [← h]
  rw [List.take_left]

theorem mem_tw {p : UInt8 → Bool} {b : UInt8} : ∀ {l : List UInt8}, b ∈ l.takeWhile p → p b = true
  | [], h => by cases h
  | c :: r, h => by
    rw [List.takeWhile_cons] at h
    split at h
    · rename_i hc
      rcases List.mem_cons.1 h with rfl | h
      · exact hc
      · exact mem_tw h
    · cases h
theorem drop_run (p : UInt8 → Bool) (s : ByteArray) (i : Nat) : (rest s i).dropWhile p = rest s (i + run p s i) := by
  have h := List.takeWhile_append_dropWhile (p := p) (l := rest s i)
  have h2 : rest s (i + run p s i) = (rest s i).drop (run p s i) := by unfold rest; rw [List.drop_drop]
  rw [h2]
  unfold run
  conv => rhs; arg 2; rw [← h]
  rw [List.drop_left]

/-- Is a number's run one that may not be? -/
def badN (s : ByteArray) (i : Nat) : Bool := ((rest s i).dropWhile digitB).head?.any partB || decide (9 < run digitB s i) || (decide (1 < run digitB s i) && decide ((rest s i).head? = some 48))

set_option maxHeartbeats 4000000 in
theorem number_any (h : LexW B w lb s ln cl i v out) (hi : i < s.size) (hs : s.size ≤ 2000000) (hc : cl ≤ 4000000) (hout : out.length ≤ 1900000) (hd : digitB s[i] = true) :
    Calls Tryd.prog 59 #[.pointer (some ⟨lb, 0, none⟩)] w fun e w' =>
      (badN s i = true ∧ e = .returned (.tuple #[.agg #[.int .i64 ln, .int .i64 cl], .int .i64 31]) ∧ Touch w w' (fun k => k = lb ∨ v.ownBlock = some k)) ∨
      (badN s i = false ∧ e = .returned (.tuple #[.agg #[.int .i64 0, .int .i64 0], .int .i64 0]) ∧ ∃ v', LexW B w' lb s ln (cl + run digitB s i) (i + run digitB s i) v' (out ++ [⟨2, word digitB s i, numOf (word digitB s i), ln, cl⟩]) ∧ Touch w w' (fun k => k = lb ∨ v.ownBlock = some k)) := by
  have c0 := h.at'.c0
  have c1 := h.at'.c1
  have hlb := h.at'.lt
  have htk := take_digit (w := (w.alloc (.cells #[.int .i64 0, .int .i64 0] 26)).alloc (.cells #[.int .i64 ln, .int .i64 cl] 26)) (h.at'.below (((Below.refl _ _).alloc (Nat.le_refl _) _).alloc (by simp) _)) (by omega) hs hc
  have hext := word_extract digitB s i
  have hK0 : 0 < run digitB s i := by rw [run_yes hi hd]; omega
  have hKl := run_le digitB s i
  have hts : (s.extract i (i + run digitB s i)).size = run digitB s i := by rw [ByteArray.size_extract]; omega
  have ht0 : ∀ h0, ((s.extract i (i + run digitB s i))[0]'h0) = s[i] := by intro h0; rw [ByteArray.getElem_extract]; simp
  have hwl := word_len digitB s i
  have hat := atoi_digits (word digitB s i) (by intro e; have := congrArg List.length e; rw [word_len] at this; simp at this; omega) (fun b hb => mem_tw hb)
  have hbd : badN s i = ((rest s (i + run digitB s i)).head?.any partB || decide (9 < run digitB s i) || (decide (1 < run digitB s i) && (s[i] == 48))) := by
    unfold badN
    rw [drop_run, show decide ((rest s i).head? = some 48) = (s[i] == 48) from by rw [rest_at hi, Bool.eq_iff_iff]; simp]
  obtain ⟨K, hK⟩ : ∃ K, K = run digitB s i := ⟨_, rfl⟩
  obtain ⟨W, hW⟩ : ∃ W, W = word digitB s i := ⟨_, rfl⟩
  obtain ⟨T, hT⟩ : ∃ T, T = s.extract i (i + run digitB s i) := ⟨_, rfl⟩
  rw [← hT] at htk hext hts
  rw [← hK] at htk hK0 hKl hts hwl hbd ⊢
  rw [← hW] at hext hwl hat ⊢
  have ht0' : ∀ h0 : 0 < T.size, T[0] = s[i] := by rw [hT]; exact ht0
  clear hT hW ht0 hK
  obtain ⟨q1, hq1⟩ : ∃ q, q = (rest s (i + K)).head?.any partB := ⟨_, rfl⟩
  obtain ⟨q2, hq2⟩ : ∃ q, q = decide (9 < K) := ⟨_, rfl⟩
  obtain ⟨q3, hq3⟩ : ∃ q, q = decide (1 < K) := ⟨_, rfl⟩
  obtain ⟨q4, hq4⟩ : ∃ q, q = (s[i] == 48) := ⟨_, rfl⟩
  rw [← hq1, ← hq2, ← hq3, ← hq4] at hbd
  rw [hbd]
  clear hbd
  have e2 : decide ((T.size : Int) > 9) = q2 := by rw [hq2, hts, decide_eq_decide]; omega
  have e3 : decide ((T.size : Int) > 1) = q3 := by rw [hq3, hts, decide_eq_decide]; omega
  have hT0 : 0 < T.size := by omega
  have e4 : ((T[0].toNat : Int) == 48) = q4 := by rw [hq4, ht0' hT0]; exact eqB s[i] 48
  replace htk := Lib.hid htk
  replace hext := Lib.hid hext
  replace hat := Lib.hid hat
  replace hwl := Lib.hid hwl
  have hTK := Lib.hid hts
  have hTle : T.size ≤ s.size := by omega
  clear hts ht0' hq2 hq3 hq4
  have hmid : (i + K < s.size ∧ ∃ b : UInt8, partB b = q1 ∧ ∀ h0 : i + K < s.size, s[i + K] = b) ∨ (i + K = s.size ∧ q1 = false) := by
    by_cases hm : i + K < s.size
    · exact Or.inl ⟨hm, s[i + K], by rw [hq1, rest_at hm]; rfl, fun _ => rfl⟩
    · refine Or.inr ⟨by omega, ?_⟩
      rw [hq1, rest_end (by omega)]
      rfl
  clear hq1
  obtain ⟨m, hm⟩ : ∃ m, m = i + K := ⟨_, rfl⟩
  rw [← hm] at hmid htk ⊢
  replace hm := Lib.hid hm
  go_enter Tryd.func59, Tryd.ntmps59
  go_wp2_with fail
  refine Calls.mono htk.out ?_
  rintro e w1 ⟨rfl, hL1, ht1⟩
  have hx1 : w1.heap[w.heap.size]? = some (.cells #[.int .i64 0, .int .i64 0] 26 (0, 0)) := (ht1.block _ (by simp; omega) (by omega)).trans (by rw [Below.heap_alloc _ _ _ (by simp)]; exact heap_alloc_new w _)
  have hy1 : w1.heap[w.heap.size + 1]? = some (.cells #[.int .i64 ln, .int .i64 cl] 26 (0, 0)) := (ht1.block _ (by simp) (by omega)).trans (by have := heap_alloc_new (w.alloc (.cells #[.int .i64 0, .int .i64 0] 26)) (.cells #[.int .i64 ln, .int .i64 cl] 26); rwa [World.size_alloc] at this)
  have htw : Touch w w1 (fun k => k = lb) := (Touch.of_below (((Below.refl w.heap.size w).alloc (Nat.le_refl _) _).alloc (by simp) _) _).trans ht1
  have hW1 : LexW B w1 lb s ln (cl + K) m v out := h.touch_at hL1 htw (fun k e => e)
  have hz1 : w.heap.size + 2 ≤ w1.heap.size := by have := ht1.size; simp at this; omega
  have c2 := hL1.c2
  have c3 := hL1.c3
  clear ht1 hL1 c0 c1 htk
  rcases hmid with ⟨hm1, b, hb, hbb⟩ | ⟨hm1, rfl⟩
  · have hcc := part_any b
    rw [hb] at hcc
    have i1 : (m : Int) < (s.size : Int) := by omega
    replace hcc : ∀ w', Calls Tryd.prog 57 #[.int .u8 s[m].toNat] w' fun e w'' => e = .returned (.bool q1) ∧ w'' = w' := by rw [hbb hm1]; exact hcc
    replace hcc := Lib.hid hcc
    clear hb hbb
    go_wp2_with fail
    go_quiet ((go_at_call 57; exact Calls.quiet_of_same (hcc.out _)))
    have hW2 : LexW B (w1.drewN nq) lb s ln (cl + K) m v out := hW1.below (below_drawn (Below.refl _ _) nq)
    have ht2 : Touch w (w1.drewN nq) (fun k => k = lb) := htw.trans (Touch.drewN w1 nq _)
    have hx2 : (w1.drewN nq).heap[w.heap.size]? = some (.cells #[.int .i64 0, .int .i64 0] 26 (0, 0)) := hx1
    have hy2 : (w1.drewN nq).heap[w.heap.size + 1]? = some (.cells #[.int .i64 ln, .int .i64 cl] 26 (0, 0)) := hy1
    have hz2 : w.heap.size + 2 ≤ (w1.drewN nq).heap.size := hz1
    clear hW1 htw hx1 hy1 hz1 hcc c2 c3
    generalize w1.drewN nq = w2 at hW2 ht2 hx2 hy2 hz2 ⊢
    have x0 := blk_cell hx2 0
    have x1 := blk_cell hx2 1
    have y0 := blk_cell hy2 0
    have y1 := blk_cell hy2 1
    have xf0 : w2.frozen? ⟨w.heap.size, 0, none⟩ = false := by simp [World.frozen?, hx2]
    have xf1 : w2.frozen? ⟨w.heap.size, 1, none⟩ = false := by simp [World.frozen?, hx2]
    simp at x0 x1 y0 y1
    cases q1
    · cases q2
      · cases q3
        · skip
          have h9 : T.size ≤ 9 := by simp at e2; omega
          go_wp2_with fail
          refine (atoi_any T (numOf W) w2 h9 (by rw [hext.out]; exact hat.out)).mono ?_
          rintro e w3 ⟨rfl, hb3⟩
          have hW3 := hW2.below hb3
          have ht3 : Touch w w3 (fun k => k = lb ∨ v.ownBlock = some k) := (ht2.trans (Touch.of_below hb3 _)).mono (fun k _ e => Or.inl e)
          have hx3 := (hb3.block _ (by omega : w.heap.size < w2.heap.size)).trans hx2
          have hy3 := (hb3.block _ (by omega : w.heap.size + 1 < w2.heap.size)).trans hy2
          have hz3 : w.heap.size + 2 ≤ w3.heap.size := Nat.le_trans hz2 hb3.size
          clear x0 x1 y0 y1 xf0 xf1 hx2 hy2 hW2 ht2 hb3 e2 e3 e4
          have y0 := blk_cell hy3 0
          have y1 := blk_cell hy3 1
          simp at y0 y1
          go_wp2_with fail
          have e5 := hext.out
          subst e5
          refine (put_any (k := 2) (t := W) (n := numOf W) (l := ln) (c := cl) hW3 (by omega) (by have := hwl.out; have := hKl; omega)).mono ?_
          rintro e w4 ⟨rfl, v4, hW4, ht4⟩
          have hown : ∀ k, v.ownBlock = some k → k < w.heap.size := fun k e => (h.row.lt k e).2
          have hlow : ∀ k, v.ownBlock = some k → lb < k := fun k e => by have := (h.row.lt k e).1; have := h.low; omega
          have hx4 := (ht4.block _ (by omega : w.heap.size < w3.heap.size) (by rintro (e | e); omega; have := hown _ e; omega)).trans hx3
          have hz4 := ht4.size
          have ht5 : Touch w w4 (fun k => k = lb ∨ v.ownBlock = some k) := ht3.trans ht4
          clear y0 y1 hy3 hx3 hW3 ht3 ht4
          have x0 := blk_cell hx4 0
          have x1 := blk_cell hx4 1
          have xf0 : w4.frozen? ⟨w.heap.size, 0, none⟩ = false := by simp [World.frozen?, hx4]
          have xf1 : w4.frozen? ⟨w.heap.size, 1, none⟩ = false := by simp [World.frozen?, hx4]
          simp at x0 x1
          go_wp2_with fail
          refine bodyPost_ret (v := .tuple #[.agg #[.int .i64 0, .int .i64 0], .int .i64 0]) (by simp [results, Tryd.results59, go_sem, *]) rfl (Or.inr ⟨by simp, rfl, v4, ?_, ?_⟩)
          · refine hW4.away (Q := fun k => k = w.heap.size) (((Touch.refl w4 (fun k => k = w.heap.size)).setCell (a := ⟨w.heap.size, 0, none⟩) (fun _ => rfl) _).setCell (a := ⟨w.heap.size, 1, none⟩) (fun _ => rfl) _) (fun k e => ⟨by omega, fun e2 => own_not hW4.row hx4 (by decide) (e ▸ e2)⟩)
          · exact (ht5.setCell (a := ⟨w.heap.size, 0, none⟩) (fun h => by simp at h) _).setCell (a := ⟨w.heap.size, 1, none⟩) (fun h => by simp at h) _
        · cases q4
          · skip
            have h9 : T.size ≤ 9 := by simp at e2; omega
            go_wp2_with fail
            refine (atoi_any T (numOf W) w2 h9 (by rw [hext.out]; exact hat.out)).mono ?_
            rintro e w3 ⟨rfl, hb3⟩
            have hW3 := hW2.below hb3
            have ht3 : Touch w w3 (fun k => k = lb ∨ v.ownBlock = some k) := (ht2.trans (Touch.of_below hb3 _)).mono (fun k _ e => Or.inl e)
            have hx3 := (hb3.block _ (by omega : w.heap.size < w2.heap.size)).trans hx2
            have hy3 := (hb3.block _ (by omega : w.heap.size + 1 < w2.heap.size)).trans hy2
            have hz3 : w.heap.size + 2 ≤ w3.heap.size := Nat.le_trans hz2 hb3.size
            clear x0 x1 y0 y1 xf0 xf1 hx2 hy2 hW2 ht2 hb3 e2 e3 e4
            have y0 := blk_cell hy3 0
            have y1 := blk_cell hy3 1
            simp at y0 y1
            go_wp2_with fail
            have e5 := hext.out
            subst e5
            refine (put_any (k := 2) (t := W) (n := numOf W) (l := ln) (c := cl) hW3 (by omega) (by have := hwl.out; have := hKl; omega)).mono ?_
            rintro e w4 ⟨rfl, v4, hW4, ht4⟩
            have hown : ∀ k, v.ownBlock = some k → k < w.heap.size := fun k e => (h.row.lt k e).2
            have hlow : ∀ k, v.ownBlock = some k → lb < k := fun k e => by have := (h.row.lt k e).1; have := h.low; omega
            have hx4 := (ht4.block _ (by omega : w.heap.size < w3.heap.size) (by rintro (e | e); omega; have := hown _ e; omega)).trans hx3
            have hz4 := ht4.size
            have ht5 : Touch w w4 (fun k => k = lb ∨ v.ownBlock = some k) := ht3.trans ht4
            clear y0 y1 hy3 hx3 hW3 ht3 ht4
            have x0 := blk_cell hx4 0
            have x1 := blk_cell hx4 1
            have xf0 : w4.frozen? ⟨w.heap.size, 0, none⟩ = false := by simp [World.frozen?, hx4]
            have xf1 : w4.frozen? ⟨w.heap.size, 1, none⟩ = false := by simp [World.frozen?, hx4]
            simp at x0 x1
            go_wp2_with fail
            refine bodyPost_ret (v := .tuple #[.agg #[.int .i64 0, .int .i64 0], .int .i64 0]) (by simp [results, Tryd.results59, go_sem, *]) rfl (Or.inr ⟨by simp, rfl, v4, ?_, ?_⟩)
            · refine hW4.away (Q := fun k => k = w.heap.size) (((Touch.refl w4 (fun k => k = w.heap.size)).setCell (a := ⟨w.heap.size, 0, none⟩) (fun _ => rfl) _).setCell (a := ⟨w.heap.size, 1, none⟩) (fun _ => rfl) _) (fun k e => ⟨by omega, fun e2 => own_not hW4.row hx4 (by decide) (e ▸ e2)⟩)
            · exact (ht5.setCell (a := ⟨w.heap.size, 0, none⟩) (fun h => by simp at h) _).setCell (a := ⟨w.heap.size, 1, none⟩) (fun h => by simp at h) _
          · skip
            go_wp2_with fail
            refine bodyPost_ret (v := .tuple #[.agg #[.int .i64 ln, .int .i64 cl], .int .i64 31]) (by simp [results, Tryd.results59, go_sem, *]) rfl (Or.inl ⟨by simp, rfl, ?_⟩)
            have ht3 : Touch w w2 (fun k => k = lb ∨ v.ownBlock = some k) := ht2.mono (fun k _ e => Or.inl e)
            exact (ht3.setCell (a := ⟨w.heap.size, 0, none⟩) (fun h => by simp at h) _).setCell (a := ⟨w.heap.size, 1, none⟩) (fun h => by simp at h) _
      · skip
        go_wp2_with fail
        refine bodyPost_ret (v := .tuple #[.agg #[.int .i64 ln, .int .i64 cl], .int .i64 31]) (by simp [results, Tryd.results59, go_sem, *]) rfl (Or.inl ⟨by simp, rfl, ?_⟩)
        have ht3 : Touch w w2 (fun k => k = lb ∨ v.ownBlock = some k) := ht2.mono (fun k _ e => Or.inl e)
        exact (ht3.setCell (a := ⟨w.heap.size, 0, none⟩) (fun h => by simp at h) _).setCell (a := ⟨w.heap.size, 1, none⟩) (fun h => by simp at h) _
    · skip
      go_wp2_with fail
      refine bodyPost_ret (v := .tuple #[.agg #[.int .i64 ln, .int .i64 cl], .int .i64 31]) (by simp [results, Tryd.results59, go_sem, *]) rfl (Or.inl ⟨by simp, rfl, ?_⟩)
      have ht3 : Touch w w2 (fun k => k = lb ∨ v.ownBlock = some k) := ht2.mono (fun k _ e => Or.inl e)
      exact (ht3.setCell (a := ⟨w.heap.size, 0, none⟩) (fun h => by simp at h) _).setCell (a := ⟨w.heap.size, 1, none⟩) (fun h => by simp at h) _
  · have g1 : decide ((m : Int) < (s.size : Int)) = false := by simp; omega
    go_wp2_with fail
    go_quiet (fail)
    have hW2 : LexW B (w1.drewN nq) lb s ln (cl + K) m v out := hW1.below (below_drawn (Below.refl _ _) nq)
    have ht2 : Touch w (w1.drewN nq) (fun k => k = lb) := htw.trans (Touch.drewN w1 nq _)
    have hx2 : (w1.drewN nq).heap[w.heap.size]? = some (.cells #[.int .i64 0, .int .i64 0] 26 (0, 0)) := hx1
    have hy2 : (w1.drewN nq).heap[w.heap.size + 1]? = some (.cells #[.int .i64 ln, .int .i64 cl] 26 (0, 0)) := hy1
    have hz2 : w.heap.size + 2 ≤ (w1.drewN nq).heap.size := hz1
    clear hW1 htw hx1 hy1 hz1 c2 c3
    generalize w1.drewN nq = w2 at hW2 ht2 hx2 hy2 hz2 ⊢
    have x0 := blk_cell hx2 0
    have x1 := blk_cell hx2 1
    have y0 := blk_cell hy2 0
    have y1 := blk_cell hy2 1
    have xf0 : w2.frozen? ⟨w.heap.size, 0, none⟩ = false := by simp [World.frozen?, hx2]
    have xf1 : w2.frozen? ⟨w.heap.size, 1, none⟩ = false := by simp [World.frozen?, hx2]
    simp at x0 x1 y0 y1
    cases q2
    · cases q3
      · skip
        have h9 : T.size ≤ 9 := by simp at e2; omega
        go_wp2_with fail
        refine (atoi_any T (numOf W) w2 h9 (by rw [hext.out]; exact hat.out)).mono ?_
        rintro e w3 ⟨rfl, hb3⟩
        have hW3 := hW2.below hb3
        have ht3 : Touch w w3 (fun k => k = lb ∨ v.ownBlock = some k) := (ht2.trans (Touch.of_below hb3 _)).mono (fun k _ e => Or.inl e)
        have hx3 := (hb3.block _ (by omega : w.heap.size < w2.heap.size)).trans hx2
        have hy3 := (hb3.block _ (by omega : w.heap.size + 1 < w2.heap.size)).trans hy2
        have hz3 : w.heap.size + 2 ≤ w3.heap.size := Nat.le_trans hz2 hb3.size
        clear x0 x1 y0 y1 xf0 xf1 hx2 hy2 hW2 ht2 hb3 e2 e3 e4
        have y0 := blk_cell hy3 0
        have y1 := blk_cell hy3 1
        simp at y0 y1
        go_wp2_with fail
        have e5 := hext.out
        subst e5
        refine (put_any (k := 2) (t := W) (n := numOf W) (l := ln) (c := cl) hW3 (by omega) (by have := hwl.out; have := hKl; omega)).mono ?_
        rintro e w4 ⟨rfl, v4, hW4, ht4⟩
        have hown : ∀ k, v.ownBlock = some k → k < w.heap.size := fun k e => (h.row.lt k e).2
        have hlow : ∀ k, v.ownBlock = some k → lb < k := fun k e => by have := (h.row.lt k e).1; have := h.low; omega
        have hx4 := (ht4.block _ (by omega : w.heap.size < w3.heap.size) (by rintro (e | e); omega; have := hown _ e; omega)).trans hx3
        have hz4 := ht4.size
        have ht5 : Touch w w4 (fun k => k = lb ∨ v.ownBlock = some k) := ht3.trans ht4
        clear y0 y1 hy3 hx3 hW3 ht3 ht4
        have x0 := blk_cell hx4 0
        have x1 := blk_cell hx4 1
        have xf0 : w4.frozen? ⟨w.heap.size, 0, none⟩ = false := by simp [World.frozen?, hx4]
        have xf1 : w4.frozen? ⟨w.heap.size, 1, none⟩ = false := by simp [World.frozen?, hx4]
        simp at x0 x1
        go_wp2_with fail
        refine bodyPost_ret (v := .tuple #[.agg #[.int .i64 0, .int .i64 0], .int .i64 0]) (by simp [results, Tryd.results59, go_sem, *]) rfl (Or.inr ⟨by simp, rfl, v4, ?_, ?_⟩)
        · refine hW4.away (Q := fun k => k = w.heap.size) (((Touch.refl w4 (fun k => k = w.heap.size)).setCell (a := ⟨w.heap.size, 0, none⟩) (fun _ => rfl) _).setCell (a := ⟨w.heap.size, 1, none⟩) (fun _ => rfl) _) (fun k e => ⟨by omega, fun e2 => own_not hW4.row hx4 (by decide) (e ▸ e2)⟩)
        · exact (ht5.setCell (a := ⟨w.heap.size, 0, none⟩) (fun h => by simp at h) _).setCell (a := ⟨w.heap.size, 1, none⟩) (fun h => by simp at h) _
      · cases q4
        · skip
          have h9 : T.size ≤ 9 := by simp at e2; omega
          go_wp2_with fail
          refine (atoi_any T (numOf W) w2 h9 (by rw [hext.out]; exact hat.out)).mono ?_
          rintro e w3 ⟨rfl, hb3⟩
          have hW3 := hW2.below hb3
          have ht3 : Touch w w3 (fun k => k = lb ∨ v.ownBlock = some k) := (ht2.trans (Touch.of_below hb3 _)).mono (fun k _ e => Or.inl e)
          have hx3 := (hb3.block _ (by omega : w.heap.size < w2.heap.size)).trans hx2
          have hy3 := (hb3.block _ (by omega : w.heap.size + 1 < w2.heap.size)).trans hy2
          have hz3 : w.heap.size + 2 ≤ w3.heap.size := Nat.le_trans hz2 hb3.size
          clear x0 x1 y0 y1 xf0 xf1 hx2 hy2 hW2 ht2 hb3 e2 e3 e4
          have y0 := blk_cell hy3 0
          have y1 := blk_cell hy3 1
          simp at y0 y1
          go_wp2_with fail
          have e5 := hext.out
          subst e5
          refine (put_any (k := 2) (t := W) (n := numOf W) (l := ln) (c := cl) hW3 (by omega) (by have := hwl.out; have := hKl; omega)).mono ?_
          rintro e w4 ⟨rfl, v4, hW4, ht4⟩
          have hown : ∀ k, v.ownBlock = some k → k < w.heap.size := fun k e => (h.row.lt k e).2
          have hlow : ∀ k, v.ownBlock = some k → lb < k := fun k e => by have := (h.row.lt k e).1; have := h.low; omega
          have hx4 := (ht4.block _ (by omega : w.heap.size < w3.heap.size) (by rintro (e | e); omega; have := hown _ e; omega)).trans hx3
          have hz4 := ht4.size
          have ht5 : Touch w w4 (fun k => k = lb ∨ v.ownBlock = some k) := ht3.trans ht4
          clear y0 y1 hy3 hx3 hW3 ht3 ht4
          have x0 := blk_cell hx4 0
          have x1 := blk_cell hx4 1
          have xf0 : w4.frozen? ⟨w.heap.size, 0, none⟩ = false := by simp [World.frozen?, hx4]
          have xf1 : w4.frozen? ⟨w.heap.size, 1, none⟩ = false := by simp [World.frozen?, hx4]
          simp at x0 x1
          go_wp2_with fail
          refine bodyPost_ret (v := .tuple #[.agg #[.int .i64 0, .int .i64 0], .int .i64 0]) (by simp [results, Tryd.results59, go_sem, *]) rfl (Or.inr ⟨by simp, rfl, v4, ?_, ?_⟩)
          · refine hW4.away (Q := fun k => k = w.heap.size) (((Touch.refl w4 (fun k => k = w.heap.size)).setCell (a := ⟨w.heap.size, 0, none⟩) (fun _ => rfl) _).setCell (a := ⟨w.heap.size, 1, none⟩) (fun _ => rfl) _) (fun k e => ⟨by omega, fun e2 => own_not hW4.row hx4 (by decide) (e ▸ e2)⟩)
          · exact (ht5.setCell (a := ⟨w.heap.size, 0, none⟩) (fun h => by simp at h) _).setCell (a := ⟨w.heap.size, 1, none⟩) (fun h => by simp at h) _
        · skip
          go_wp2_with fail
          refine bodyPost_ret (v := .tuple #[.agg #[.int .i64 ln, .int .i64 cl], .int .i64 31]) (by simp [results, Tryd.results59, go_sem, *]) rfl (Or.inl ⟨by simp, rfl, ?_⟩)
          have ht3 : Touch w w2 (fun k => k = lb ∨ v.ownBlock = some k) := ht2.mono (fun k _ e => Or.inl e)
          exact (ht3.setCell (a := ⟨w.heap.size, 0, none⟩) (fun h => by simp at h) _).setCell (a := ⟨w.heap.size, 1, none⟩) (fun h => by simp at h) _
    · skip
      go_wp2_with fail
      refine bodyPost_ret (v := .tuple #[.agg #[.int .i64 ln, .int .i64 cl], .int .i64 31]) (by simp [results, Tryd.results59, go_sem, *]) rfl (Or.inl ⟨by simp, rfl, ?_⟩)
      have ht3 : Touch w w2 (fun k => k = lb ∨ v.ownBlock = some k) := ht2.mono (fun k _ e => Or.inl e)
      exact (ht3.setCell (a := ⟨w.heap.size, 0, none⟩) (fun h => by simp at h) _).setCell (a := ⟨w.heap.size, 1, none⟩) (fun h => by simp at h) _
end
end
section
open Go.RowKit Go.Shelf

/-- What one step leaves. -/
def NextPost (B : Nat) (w : World) (lb : Nat) (s : ByteArray) (ln cl i : Nat) (v : Value) (out : List Tok) (e : Ending) (w' : World) : Prop :=
  (∃ l c er : Nat, stepL (rest s i) ln cl = .error (l, c, er) ∧ e = .returned (.tuple #[.agg #[.int .i64 l, .int .i64 c], .int .i64 er]) ∧ Touch w w' (fun k => k = lb ∨ v.ownBlock = some k)) ∨
  (∃ k ln' cl' t v', stepL (rest s i) ln cl = .ok (k, ln', cl', t) ∧ e = .returned (.tuple #[.agg #[.int .i64 0, .int .i64 0], .int .i64 0]) ∧ LexW B w' lb s ln' cl' (i + k) v' (out ++ t.toList) ∧ Touch w w' (fun k => k = lb ∨ v.ownBlock = some k))

section
variable {w w' : World} {lb ln cl i B : Nat} {s : ByteArray} {v : Value} {out : List Tok}

/-- The three blocks that next makes: the pointer, the result, the spot. -/
structure Made3 (w w' : World) (lb ln cl : Nat) : Prop where
  p : w'.heap[w.heap.size]? = some (.cells #[.pointer (some ⟨lb, 0, none⟩)] 75 (0, 0))
  r : w'.heap[w.heap.size + 1]? = some (.cells #[.int .i64 0, .int .i64 0] 26 (0, 0))
  f : w'.heap[w.heap.size + 2]? = some (.cells #[.int .i64 ln, .int .i64 cl] 26 (0, 0))
theorem Made3.mk' (w : World) (lb ln cl : Nat) : Made3 w (((w.alloc (.cells #[.pointer (some ⟨lb, 0, none⟩)] 75)).alloc (.cells #[.int .i64 0, .int .i64 0] 26)).alloc (.cells #[.int .i64 ln, .int .i64 cl] 26)) lb ln cl := by
  refine ⟨?_, ?_, ?_⟩
  · rw [Below.heap_alloc _ _ _ (by simp; omega), Below.heap_alloc _ _ _ (by simp)]
    exact heap_alloc_new w _
  · rw [Below.heap_alloc _ _ _ (by simp)]
    have := heap_alloc_new (w.alloc (.cells #[.pointer (some ⟨lb, 0, none⟩)] 75)) (.cells #[.int .i64 0, .int .i64 0] 26)
    rwa [World.size_alloc] at this
  · have := heap_alloc_new ((w.alloc (.cells #[.pointer (some ⟨lb, 0, none⟩)] 75)).alloc (.cells #[.int .i64 0, .int .i64 0] 26)) (.cells #[.int .i64 ln, .int .i64 cl] 26)
    rw [World.size_alloc, World.size_alloc] at this
    exact this
theorem Made3.touch {Q : Nat → Prop} {w1 : World} (h : Made3 w w' lb ln cl) (ht : Touch w' w1 Q) (hq : ∀ k, Q k → k < w.heap.size) : Made3 w w1 lb ln cl := by
  have hs : w.heap.size + 2 < w'.heap.size := (Array.getElem?_eq_some_iff.1 h.f).1
  exact ⟨(ht.block _ (by omega) (fun q => by have := hq _ q; omega)).trans h.p, (ht.block _ (by omega) (fun q => by have := hq _ q; omega)).trans h.r, (ht.block _ (by omega) (fun q => by have := hq _ q; omega)).trans h.f⟩

theorem LexW.set {ln2 cl2 i2 : Nat} {w1 : World} (h : LexW B w lb s ln cl i v out) (hL : LexAt w1 lb s ln2 cl2 i2 v) (ht : Touch w w1 (fun k => k = lb)) : LexW B w1 lb s ln2 cl2 i2 v out :=
  ⟨hL, ownsRow_touch h.row ht (fun b hb e => by have := (h.row.lt b hb).1; have := h.low; omega), h.low, Nat.le_trans h.top ht.size⟩
theorem step_line {i : Nat} (hi : i < s.size) (hd : s[i] = 10) (ln cl : Nat) : stepL (rest s i) ln cl = .ok (1, ln + 1, 1, none) := by
  rw [rest_at hi]
  unfold stepL
  simp only
  rw [if_pos hd]
theorem own_lt (h : LexW B w lb s ln cl i v out) : ∀ k, v.ownBlock = some k → k < w.heap.size := fun k e => (h.row.lt k e).2
theorem touch2 {w1 : World} {a : Nat} (ht : Touch w w1 (fun k => k = lb ∨ v.ownBlock = some k)) (ha : w.heap.size ≤ a) (x y : Value) : Touch w ((w1.setCell ⟨a, 0, none⟩ x).setCell ⟨a, 1, none⟩ y) (fun k => k = lb ∨ v.ownBlock = some k) :=
  (ht.setCell (a := ⟨a, 0, none⟩) (fun h => absurd h (Nat.not_lt.2 ha)) _).setCell (a := ⟨a, 1, none⟩) (fun h => absurd h (Nat.not_lt.2 ha)) _
theorem LexW.box {a : Nat} (h : LexW B w lb s ln cl i v out) (h1 : a ≠ lb) (h2 : v.ownBlock ≠ some a) (x y : Value) : LexW B ((w.setCell ⟨a, 0, none⟩ x).setCell ⟨a, 1, none⟩ y) lb s ln cl i v out :=
  h.away (Q := fun k => k = a) (((Touch.refl w (fun k => k = a)).setCell (a := ⟨a, 0, none⟩) (fun _ => rfl) _).setCell (a := ⟨a, 1, none⟩) (fun _ => rfl) _) (fun k e => by subst e; exact ⟨h1, h2⟩)
set_option maxHeartbeats 1000000 in
theorem next_line (h : LexW B w lb s ln cl i v out) (hi : i < s.size) (hs : s.size ≤ 2000000) (_hc : cl ≤ 4000000) (hln : ln ≤ 4000000) (_hout : out.length ≤ 1900000) (hd : s[i] = 10) :
    Calls Tryd.prog 27 #[.pointer (some ⟨lb, 0, none⟩)] w fun e w' => NextPost B w lb s ln cl i v out e w' := by
  have hb3 : Below w.heap.size w (((w.alloc (.cells #[.pointer (some ⟨lb, 0, none⟩)] 75)).alloc (.cells #[.int .i64 0, .int .i64 0] 26)).alloc (.cells #[.int .i64 ln, .int .i64 cl] 26)) := (((Below.refl _ _).alloc (Nat.le_refl _) _).alloc (by simp) _).alloc (by simp; omega) _
  have hM := Made3.mk' w lb ln cl
  have hW := h.below hb3
  have c0 := h.at'.c0
  have c1 := h.at'.c1
  have hlb := h.at'.lt
  have i1 : (i : Int) < (s.size : Int) := by omega
  have e1 : ((s[i].toNat : Int) == 10) = true := by rw [hd]; rfl
  go_enter Tryd.func27, Tryd.ntmps27
  go_wp2_with fail
  generalize (((w.alloc (.cells #[.pointer (some ⟨lb, 0, none⟩)] 75)).alloc (.cells #[.int .i64 0, .int .i64 0] 26)).alloc (.cells #[.int .i64 ln, .int .i64 cl] 26)) = wa at hb3 hM hW ⊢
  have p0 := blk_cell hM.p 0
  have f0 := blk_cell hM.f 0
  have f1 := blk_cell hM.f 1
  simp at p0 f0 f1
  have a2 := hW.at'.c2
  have a3 := hW.at'.c3
  clear c0 c1
  go_quiet (fail)
  have hWx := hW.below (below_drawn (Below.refl wa.heap.size wa) nq)
  have hMx := hM.touch (Touch.drewN wa nq (fun _ => False)) (fun _ h => h.elim)
  have htx : Touch w (wa.drewN nq) (fun k => k = lb ∨ v.ownBlock = some k) := (Touch.of_below hb3 _).trans (Touch.drewN wa nq _)
  clear hW hM hb3 p0 f0 f1 a2 a3
  generalize wa.drewN nq = wx at hWx hMx htx ⊢
  have p0 := blk_cell hMx.p 0
  simp at p0
  have r0 := blk_cell hMx.r 0
  have r1 := blk_cell hMx.r 1
  simp at r0 r1
  have rf0 : wx.frozen? ⟨w.heap.size + 1, 0, none⟩ = false := by simp [World.frozen?, hMx.r]
  have rf1 : wx.frozen? ⟨w.heap.size + 1, 1, none⟩ = false := by simp [World.frozen?, hMx.r]
  have a0 := hWx.at'.c0
  have a1 := hWx.at'.c1
  have a2 := hWx.at'.c2
  have g0 := hWx.at'.fr 0
  have g1 := hWx.at'.fr 1
  have g2 := hWx.at'.fr 2
  have hne : w.heap.size ≠ lb := by omega
  have hne1 : w.heap.size + 1 ≠ lb := by omega
  go_wp2_with fail
  have hL3 : LexAt (((wx.setCell ⟨lb, 2, none⟩ (.int .i64 ((i : Int) + 1))).setCell ⟨lb, 0, none⟩ (.int .i64 ((ln : Int) + 1))).setCell ⟨lb, 1, none⟩ (.int .i64 1)) lb s (ln + 1) 1 (i + 1) v := by
    have := blk_set (i := 1) (.int .i64 1) (blk_set (i := 0) (.int .i64 ((ln : Int) + 1)) (blk_set (i := 2) (.int .i64 ((i : Int) + 1)) hWx.at'))
    unfold LexAt
    rw [this]
    rfl
  have hT3 : Touch wx (((wx.setCell ⟨lb, 2, none⟩ (.int .i64 ((i : Int) + 1))).setCell ⟨lb, 0, none⟩ (.int .i64 ((ln : Int) + 1))).setCell ⟨lb, 1, none⟩ (.int .i64 1)) (fun k => k = lb) :=
    (((Touch.refl wx (fun k => k = lb)).setCell (a := ⟨lb, 2, none⟩) (fun _ => rfl) _).setCell (a := ⟨lb, 0, none⟩) (fun _ => rfl) _).setCell (a := ⟨lb, 1, none⟩) (fun _ => rfl) _
  refine bodyPost_ret (v := .tuple #[.agg #[.int .i64 0, .int .i64 0], .int .i64 0]) (by simp [results, Tryd.results27, go_sem, *]) rfl (Or.inr ⟨1, ln + 1, 1, none, v, step_line hi hd ln cl, rfl, ?_, ?_⟩)
  · rw [Option.toList_none, List.append_nil]
    exact (hWx.set hL3 hT3).box hne1 (fun e => by have := own_lt h _ e; omega) _ _
  · exact touch2 (htx.trans (hT3.mono (fun k _ e => Or.inl e))) (by omega) _ _

theorem step_blank {i : Nat} (hi : i < s.size) (h10 : s[i] ≠ 10) (hd : blankB s[i] = true) (ln cl : Nat) : stepL (rest s i) ln cl = .ok (run blankB s i, ln, cl + run blankB s i, none) := by
  unfold run
  rw [rest_at hi]
  unfold stepL
  simp only
  rw [if_neg h10, if_pos hd]
set_option maxHeartbeats 1000000 in
theorem next_blank (h : LexW B w lb s ln cl i v out) (hi : i < s.size) (hs : s.size ≤ 2000000) (hc : cl ≤ 4000000) (hln : ln ≤ 4000000) (hout : out.length ≤ 1900000) (h10 : s[i] ≠ 10) (hd : blankB s[i] = true) :
    Calls Tryd.prog 27 #[.pointer (some ⟨lb, 0, none⟩)] w fun e w' => NextPost B w lb s ln cl i v out e w' := by
  have hb3 : Below w.heap.size w (((w.alloc (.cells #[.pointer (some ⟨lb, 0, none⟩)] 75)).alloc (.cells #[.int .i64 0, .int .i64 0] 26)).alloc (.cells #[.int .i64 ln, .int .i64 cl] 26)) := (((Below.refl _ _).alloc (Nat.le_refl _) _).alloc (by simp) _).alloc (by simp; omega) _
  have hM := Made3.mk' w lb ln cl
  have hW := h.below hb3
  have c0 := h.at'.c0
  have c1 := h.at'.c1
  have hlb := h.at'.lt
  have i1 : (i : Int) < (s.size : Int) := by omega
  have e1 : ((s[i].toNat : Int) == 10) = false := by rw [show ((s[i].toNat : Int) == 10) = (s[i] == 10) from eqB s[i] 10]; simpa using h10
  have h_blank := blank_any s[i]
  rw [hd] at h_blank
  replace h_blank := Lib.hid h_blank
  go_enter Tryd.func27, Tryd.ntmps27
  go_wp2_with fail
  generalize (((w.alloc (.cells #[.pointer (some ⟨lb, 0, none⟩)] 75)).alloc (.cells #[.int .i64 0, .int .i64 0] 26)).alloc (.cells #[.int .i64 ln, .int .i64 cl] 26)) = wa at hb3 hM hW ⊢
  have p0 := blk_cell hM.p 0
  have f0 := blk_cell hM.f 0
  have f1 := blk_cell hM.f 1
  simp at p0 f0 f1
  have a2 := hW.at'.c2
  have a3 := hW.at'.c3
  clear c0 c1
  go_quiet (fail)
  have hWx := hW.below (below_drawn (Below.refl wa.heap.size wa) nq)
  have hMx := hM.touch (Touch.drewN wa nq (fun _ => False)) (fun _ h => h.elim)
  have htx : Touch w (wa.drewN nq) (fun k => k = lb ∨ v.ownBlock = some k) := (Touch.of_below hb3 _).trans (Touch.drewN wa nq _)
  clear hW hM hb3 p0 f0 f1 a2 a3
  generalize wa.drewN nq = wx at hWx hMx htx ⊢
  have p0 := blk_cell hMx.p 0
  simp at p0
  go_wp2_with fail
  refine (h_blank.out _).mono ?_
  rintro e w' ⟨rfl, hw⟩; obtain rfl := hw.symm
  clear h_blank
  go_wp2_with fail
  refine (take_blank hWx.at' (Nat.le_of_lt hi) hs hc).mono ?_
  rintro e w2 ⟨rfl, hL2, ht2⟩
  have hW2 := hWx.set hL2 ht2
  have hM2 := hMx.touch ht2 (fun k e => by subst e; exact hlb)
  have htw := htx.trans (ht2.mono (fun k _ e => Or.inl e) : Touch wx w2 (fun k => k = lb ∨ v.ownBlock = some k))
  clear hWx hMx htx p0 hL2 ht2
  have r0 := blk_cell hM2.r 0
  have r1 := blk_cell hM2.r 1
  simp at r0 r1
  have rf0 : w2.frozen? ⟨w.heap.size + 1, 0, none⟩ = false := by simp [World.frozen?, hM2.r]
  have rf1 : w2.frozen? ⟨w.heap.size + 1, 1, none⟩ = false := by simp [World.frozen?, hM2.r]
  have hne1 : w.heap.size + 1 ≠ lb := by omega
  go_wp2_with fail
  refine bodyPost_ret (v := .tuple #[.agg #[.int .i64 0, .int .i64 0], .int .i64 0]) (by simp [results, Tryd.results27, go_sem, *]) rfl (Or.inr ⟨run blankB s i, ln, cl + run blankB s i, none, v, step_blank hi h10 hd ln cl, rfl, ?_, ?_⟩)
  · rw [Option.toList_none, List.append_nil]
    exact hW2.box hne1 (fun e => by have := own_lt h _ e; omega) _ _
  · exact touch2 htw (by omega) _ _

theorem step_comment {i : Nat} (hi : i < s.size) (h10 : s[i] ≠ 10) (hb : blankB s[i] = false) (hd : s[i] = 59) (ln cl : Nat) : stepL (rest s i) ln cl = .ok (run lineB s i, ln, cl + run lineB s i, none) := by
  unfold run
  rw [rest_at hi]
  unfold stepL
  simp only
  rw [if_neg h10, if_neg (by rw [hb]; simp), if_pos hd]
  rfl
set_option maxHeartbeats 1000000 in
theorem next_comment (h : LexW B w lb s ln cl i v out) (hi : i < s.size) (hs : s.size ≤ 2000000) (hc : cl ≤ 4000000) (hln : ln ≤ 4000000) (hout : out.length ≤ 1900000) (h10 : s[i] ≠ 10) (hb : blankB s[i] = false) (hd : s[i] = 59) :
    Calls Tryd.prog 27 #[.pointer (some ⟨lb, 0, none⟩)] w fun e w' => NextPost B w lb s ln cl i v out e w' := by
  have hb3 : Below w.heap.size w (((w.alloc (.cells #[.pointer (some ⟨lb, 0, none⟩)] 75)).alloc (.cells #[.int .i64 0, .int .i64 0] 26)).alloc (.cells #[.int .i64 ln, .int .i64 cl] 26)) := (((Below.refl _ _).alloc (Nat.le_refl _) _).alloc (by simp) _).alloc (by simp; omega) _
  have hM := Made3.mk' w lb ln cl
  have hW := h.below hb3
  have c0 := h.at'.c0
  have c1 := h.at'.c1
  have hlb := h.at'.lt
  have i1 : (i : Int) < (s.size : Int) := by omega
  have e1 : ((s[i].toNat : Int) == 10) = false := by rw [show ((s[i].toNat : Int) == 10) = (s[i] == 10) from eqB s[i] 10]; simpa using h10
  have h_blank := blank_any s[i]
  rw [hb] at h_blank
  replace h_blank := Lib.hid h_blank
  have e2 : ((s[i].toNat : Int) == 59) = true := by rw [show ((s[i].toNat : Int) == 59) = (s[i] == 59) from eqB s[i] 59]; simpa using hd
  replace hd := Lib.hid hd
  replace hb := Lib.hid hb
  go_enter Tryd.func27, Tryd.ntmps27
  go_wp2_with fail
  generalize (((w.alloc (.cells #[.pointer (some ⟨lb, 0, none⟩)] 75)).alloc (.cells #[.int .i64 0, .int .i64 0] 26)).alloc (.cells #[.int .i64 ln, .int .i64 cl] 26)) = wa at hb3 hM hW ⊢
  have p0 := blk_cell hM.p 0
  have f0 := blk_cell hM.f 0
  have f1 := blk_cell hM.f 1
  simp at p0 f0 f1
  have a2 := hW.at'.c2
  have a3 := hW.at'.c3
  clear c0 c1
  go_quiet (fail)
  have hWx := hW.below (below_drawn (Below.refl wa.heap.size wa) nq)
  have hMx := hM.touch (Touch.drewN wa nq (fun _ => False)) (fun _ h => h.elim)
  have htx : Touch w (wa.drewN nq) (fun k => k = lb ∨ v.ownBlock = some k) := (Touch.of_below hb3 _).trans (Touch.drewN wa nq _)
  clear hW hM hb3 p0 f0 f1 a2 a3
  generalize wa.drewN nq = wx at hWx hMx htx ⊢
  have p0 := blk_cell hMx.p 0
  simp at p0
  go_wp2_with fail
  refine (h_blank.out _).mono ?_
  rintro e w' ⟨rfl, hw⟩; obtain rfl := hw.symm
  clear h_blank
  go_wp2_with fail
  refine (take_line hWx.at' (Nat.le_of_lt hi) hs hc).mono ?_
  rintro e w2 ⟨rfl, hL2, ht2⟩
  have hW2 := hWx.set hL2 ht2
  have hM2 := hMx.touch ht2 (fun k e => by subst e; exact hlb)
  have htw := htx.trans (ht2.mono (fun k _ e => Or.inl e) : Touch wx w2 (fun k => k = lb ∨ v.ownBlock = some k))
  clear hWx hMx htx p0 hL2 ht2
  have r0 := blk_cell hM2.r 0
  have r1 := blk_cell hM2.r 1
  simp at r0 r1
  have rf0 : w2.frozen? ⟨w.heap.size + 1, 0, none⟩ = false := by simp [World.frozen?, hM2.r]
  have rf1 : w2.frozen? ⟨w.heap.size + 1, 1, none⟩ = false := by simp [World.frozen?, hM2.r]
  have hne1 : w.heap.size + 1 ≠ lb := by omega
  go_wp2_with fail
  refine bodyPost_ret (v := .tuple #[.agg #[.int .i64 0, .int .i64 0], .int .i64 0]) (by simp [results, Tryd.results27, go_sem, *]) rfl (Or.inr ⟨run lineB s i, ln, cl + run lineB s i, none, v, step_comment hi h10 hb.out hd.out ln cl, rfl, ?_, ?_⟩)
  · rw [Option.toList_none, List.append_nil]
    exact hW2.box hne1 (fun e => by have := own_lt h _ e; omega) _ _
  · exact touch2 htw (by omega) _ _

theorem step_other {i : Nat} (hi : i < s.size) (h10 : s[i] ≠ 10) (hb : blankB s[i] = false) (h59 : s[i] ≠ 59) (hl : letterB s[i] = false) (hg : digitB s[i] = false) (hsg : signB s[i] = false) (ln cl : Nat) : stepL (rest s i) ln cl = .error (ln, cl, 30) := by
  rw [rest_at hi]
  unfold stepL
  simp only
  rw [if_neg h10, if_neg (by rw [hb]; simp), if_neg h59, if_neg (by rw [hl]; simp), if_neg (by rw [hg]; simp), if_neg (by rw [hsg]; simp)]
set_option maxHeartbeats 1000000 in
theorem next_other (h : LexW B w lb s ln cl i v out) (hi : i < s.size) (hs : s.size ≤ 2000000) (hc : cl ≤ 4000000) (hln : ln ≤ 4000000) (hout : out.length ≤ 1900000) (h10 : s[i] ≠ 10) (hb : blankB s[i] = false) (h59 : s[i] ≠ 59) (hl : letterB s[i] = false) (hg : digitB s[i] = false) (hsg : signB s[i] = false) :
    Calls Tryd.prog 27 #[.pointer (some ⟨lb, 0, none⟩)] w fun e w' => NextPost B w lb s ln cl i v out e w' := by
  have hb3 : Below w.heap.size w (((w.alloc (.cells #[.pointer (some ⟨lb, 0, none⟩)] 75)).alloc (.cells #[.int .i64 0, .int .i64 0] 26)).alloc (.cells #[.int .i64 ln, .int .i64 cl] 26)) := (((Below.refl _ _).alloc (Nat.le_refl _) _).alloc (by simp) _).alloc (by simp; omega) _
  have hM := Made3.mk' w lb ln cl
  have hW := h.below hb3
  have c0 := h.at'.c0
  have c1 := h.at'.c1
  have hlb := h.at'.lt
  have i1 : (i : Int) < (s.size : Int) := by omega
  have e1 : ((s[i].toNat : Int) == 10) = false := by rw [show ((s[i].toNat : Int) == 10) = (s[i] == 10) from eqB s[i] 10]; simpa using h10
  have h_blank := blank_any s[i]
  rw [hb] at h_blank
  replace h_blank := Lib.hid h_blank
  have e2 : ((s[i].toNat : Int) == 59) = false := by rw [show ((s[i].toNat : Int) == 59) = (s[i] == 59) from eqB s[i] 59]; simpa using h59
  have h_letter := letter_any s[i]
  rw [hl] at h_letter
  replace h_letter := Lib.hid h_letter
  have h_digit := digit_any s[i]
  rw [hg] at h_digit
  replace h_digit := Lib.hid h_digit
  have h_sign := sign_any s[i]
  rw [hsg] at h_sign
  replace h_sign := Lib.hid h_sign
  replace hb := Lib.hid hb
  replace hl := Lib.hid hl
  replace hg := Lib.hid hg
  replace hsg := Lib.hid hsg
  go_enter Tryd.func27, Tryd.ntmps27
  go_wp2_with fail
  generalize (((w.alloc (.cells #[.pointer (some ⟨lb, 0, none⟩)] 75)).alloc (.cells #[.int .i64 0, .int .i64 0] 26)).alloc (.cells #[.int .i64 ln, .int .i64 cl] 26)) = wa at hb3 hM hW ⊢
  have p0 := blk_cell hM.p 0
  have f0 := blk_cell hM.f 0
  have f1 := blk_cell hM.f 1
  simp at p0 f0 f1
  have a2 := hW.at'.c2
  have a3 := hW.at'.c3
  clear c0 c1
  go_quiet (fail)
  have hWx := hW.below (below_drawn (Below.refl wa.heap.size wa) nq)
  have hMx := hM.touch (Touch.drewN wa nq (fun _ => False)) (fun _ h => h.elim)
  have htx : Touch w (wa.drewN nq) (fun k => k = lb ∨ v.ownBlock = some k) := (Touch.of_below hb3 _).trans (Touch.drewN wa nq _)
  clear hW hM hb3 p0 f0 f1 a2 a3
  generalize wa.drewN nq = wx at hWx hMx htx ⊢
  have p0 := blk_cell hMx.p 0
  simp at p0
  go_wp2_with fail
  refine (h_blank.out _).mono ?_
  rintro e w' ⟨rfl, hw⟩; obtain rfl := hw.symm
  clear h_blank
  go_wp2_with fail
  refine (h_letter.out _).mono ?_
  rintro e w' ⟨rfl, hw⟩; obtain rfl := hw.symm
  clear h_letter
  go_wp2_with fail
  refine (h_digit.out _).mono ?_
  rintro e w' ⟨rfl, hw⟩; obtain rfl := hw.symm
  clear h_digit
  go_wp2_with fail
  refine (h_sign.out _).mono ?_
  rintro e w' ⟨n, rfl, hn, hw⟩; obtain rfl := hw.symm
  clear h_sign
  have q0 := blk_cell hMx.f 0
  have q1 := blk_cell hMx.f 1
  have r0 := blk_cell hMx.r 0
  have r1 := blk_cell hMx.r 1
  simp at q0 q1 r0 r1
  have rf0 : wx.frozen? ⟨w.heap.size + 1, 0, none⟩ = false := by simp [World.frozen?, hMx.r]
  have rf1 : wx.frozen? ⟨w.heap.size + 1, 1, none⟩ = false := by simp [World.frozen?, hMx.r]
  go_wp2_with fail
  refine bodyPost_ret (v := .tuple #[.agg #[.int .i64 ln, .int .i64 cl], .int .i64 30]) (by simp [results, Tryd.results27, go_sem, *]) rfl (Or.inl ⟨ln, cl, 30, step_other hi h10 hb.out h59 hl.out hg.out hsg.out ln cl, rfl, ?_⟩)
  exact touch2 htx (by omega) _ _

theorem step_bad {i : Nat} (hi : i < s.size) (h10 : s[i] ≠ 10) (hb : blankB s[i] = false) (h59 : s[i] ≠ 59) (hl : letterB s[i] = false) (hg : digitB s[i] = true) (hbad : badN s i = true) (ln cl : Nat) : stepL (rest s i) ln cl = .error (ln, cl, 31) := by
  rw [rest_at hi]
  unfold stepL
  simp only
  rw [if_neg h10, if_neg (by rw [hb]; simp), if_neg h59, if_neg (by rw [hl]; simp), if_pos hg]
  unfold badN run at hbad
  rw [rest_at hi] at hbad
  rw [if_pos]
  simpa using hbad
theorem step_number {i : Nat} (hi : i < s.size) (h10 : s[i] ≠ 10) (hb : blankB s[i] = false) (h59 : s[i] ≠ 59) (hl : letterB s[i] = false) (hg : digitB s[i] = true) (hbad : badN s i = false) (ln cl : Nat) : stepL (rest s i) ln cl = .ok (run digitB s i, ln, cl + run digitB s i, some ⟨2, word digitB s i, numOf (word digitB s i), ln, cl⟩) := by
  unfold badN run at hbad
  unfold run word
  rw [rest_at hi] at hbad
  rw [rest_at hi]
  unfold stepL
  simp only
  rw [if_neg h10, if_neg (by rw [hb]; simp), if_neg h59, if_neg (by rw [hl]; simp), if_pos hg]
  rw [if_neg]
  simpa using hbad
set_option maxHeartbeats 1000000 in
theorem next_digit (h : LexW B w lb s ln cl i v out) (hi : i < s.size) (hs : s.size ≤ 2000000) (hc : cl ≤ 4000000) (hln : ln ≤ 4000000) (hout : out.length ≤ 1900000) (h10 : s[i] ≠ 10) (hb : blankB s[i] = false) (h59 : s[i] ≠ 59) (hl : letterB s[i] = false) (hg : digitB s[i] = true) :
    Calls Tryd.prog 27 #[.pointer (some ⟨lb, 0, none⟩)] w fun e w' => NextPost B w lb s ln cl i v out e w' := by
  have hb3 : Below w.heap.size w (((w.alloc (.cells #[.pointer (some ⟨lb, 0, none⟩)] 75)).alloc (.cells #[.int .i64 0, .int .i64 0] 26)).alloc (.cells #[.int .i64 ln, .int .i64 cl] 26)) := (((Below.refl _ _).alloc (Nat.le_refl _) _).alloc (by simp) _).alloc (by simp; omega) _
  have hM := Made3.mk' w lb ln cl
  have hW := h.below hb3
  have c0 := h.at'.c0
  have c1 := h.at'.c1
  have hlb := h.at'.lt
  have i1 : (i : Int) < (s.size : Int) := by omega
  have e1 : ((s[i].toNat : Int) == 10) = false := by rw [show ((s[i].toNat : Int) == 10) = (s[i] == 10) from eqB s[i] 10]; simpa using h10
  have h_blank := blank_any s[i]
  rw [hb] at h_blank
  replace h_blank := Lib.hid h_blank
  have e2 : ((s[i].toNat : Int) == 59) = false := by rw [show ((s[i].toNat : Int) == 59) = (s[i] == 59) from eqB s[i] 59]; simpa using h59
  have h_letter := letter_any s[i]
  rw [hl] at h_letter
  replace h_letter := Lib.hid h_letter
  have h_digit := digit_any s[i]
  rw [hg] at h_digit
  replace h_digit := Lib.hid h_digit
  have hgg := Lib.hid hg
  replace hb := Lib.hid hb
  replace hl := Lib.hid hl
  replace hg := Lib.hid hg
  go_enter Tryd.func27, Tryd.ntmps27
  go_wp2_with fail
  generalize (((w.alloc (.cells #[.pointer (some ⟨lb, 0, none⟩)] 75)).alloc (.cells #[.int .i64 0, .int .i64 0] 26)).alloc (.cells #[.int .i64 ln, .int .i64 cl] 26)) = wa at hb3 hM hW ⊢
  have p0 := blk_cell hM.p 0
  have f0 := blk_cell hM.f 0
  have f1 := blk_cell hM.f 1
  simp at p0 f0 f1
  have a2 := hW.at'.c2
  have a3 := hW.at'.c3
  clear c0 c1
  go_quiet (fail)
  have hWx := hW.below (below_drawn (Below.refl wa.heap.size wa) nq)
  have hMx := hM.touch (Touch.drewN wa nq (fun _ => False)) (fun _ h => h.elim)
  have htx : Touch w (wa.drewN nq) (fun k => k = lb ∨ v.ownBlock = some k) := (Touch.of_below hb3 _).trans (Touch.drewN wa nq _)
  clear hW hM hb3 p0 f0 f1 a2 a3
  generalize wa.drewN nq = wx at hWx hMx htx ⊢
  have p0 := blk_cell hMx.p 0
  simp at p0
  go_wp2_with fail
  refine (h_blank.out _).mono ?_
  rintro e w' ⟨rfl, hw⟩; obtain rfl := hw.symm
  clear h_blank
  go_wp2_with fail
  refine (h_letter.out _).mono ?_
  rintro e w' ⟨rfl, hw⟩; obtain rfl := hw.symm
  clear h_letter
  go_wp2_with fail
  refine (h_digit.out _).mono ?_
  rintro e w' ⟨rfl, hw⟩; obtain rfl := hw.symm
  clear h_digit
  go_wp2_with fail
  refine (number_any hWx hi hs hc hout hgg.out).mono ?_
  rintro e w2 (⟨hbad, rfl, ht2⟩ | ⟨hbad, rfl, v2, hW2, ht2⟩)
  · have hM2 := hMx.touch ht2 (fun k e => by rcases e with rfl | e; exact hlb; exact own_lt h _ e)
    have htw := htx.trans ht2
    clear hWx hMx htx p0 ht2
    replace hbad := Lib.hid hbad
    have r0 := blk_cell hM2.r 0
    have r1 := blk_cell hM2.r 1
    simp at r0 r1
    have rf0 : w2.frozen? ⟨w.heap.size + 1, 0, none⟩ = false := by simp [World.frozen?, hM2.r]
    have rf1 : w2.frozen? ⟨w.heap.size + 1, 1, none⟩ = false := by simp [World.frozen?, hM2.r]
    have hne1 : w.heap.size + 1 ≠ lb := by omega
    go_wp2_with fail
    refine bodyPost_ret (v := .tuple #[.agg #[.int .i64 ln, .int .i64 cl], .int .i64 31]) (by simp [results, Tryd.results27, go_sem, *]) rfl (Or.inl ⟨ln, cl, 31, step_bad hi h10 hb.out h59 hl.out hg.out hbad.out ln cl, rfl, ?_⟩)
    exact touch2 htw (by omega) _ _
  · have hM2 := hMx.touch ht2 (fun k e => by rcases e with rfl | e; exact hlb; exact own_lt h _ e)
    have htw := htx.trans ht2
    clear hWx hMx htx p0 ht2
    replace hbad := Lib.hid hbad
    have r0 := blk_cell hM2.r 0
    have r1 := blk_cell hM2.r 1
    simp at r0 r1
    have rf0 : w2.frozen? ⟨w.heap.size + 1, 0, none⟩ = false := by simp [World.frozen?, hM2.r]
    have rf1 : w2.frozen? ⟨w.heap.size + 1, 1, none⟩ = false := by simp [World.frozen?, hM2.r]
    have hne1 : w.heap.size + 1 ≠ lb := by omega
    go_wp2_with fail
    refine bodyPost_ret (v := .tuple #[.agg #[.int .i64 0, .int .i64 0], .int .i64 0]) (by simp [results, Tryd.results27, go_sem, *]) rfl (Or.inr ⟨run digitB s i, ln, cl + run digitB s i, some ⟨2, word digitB s i, numOf (word digitB s i), ln, cl⟩, v2, step_number hi h10 hb.out h59 hl.out hg.out hbad.out ln cl, rfl, ?_, ?_⟩)
    · exact hW2.box hne1 (fun e => own_not hW2.row hM2.r (by decide) e) _ _
    · exact touch2 htw (by omega) _ _

theorem step_name {i : Nat} (hi : i < s.size) (h10 : s[i] ≠ 10) (hb : blankB s[i] = false) (h59 : s[i] ≠ 59) (hl : letterB s[i] = true) (ln cl : Nat) : stepL (rest s i) ln cl = .ok (run partB s i, ln, cl + run partB s i, some ⟨1, word partB s i, 0, ln, cl⟩) := by
  unfold run word
  rw [rest_at hi]
  unfold stepL
  simp only
  rw [if_neg h10, if_neg (by rw [hb]; simp), if_neg h59, if_pos hl]
set_option maxHeartbeats 1000000 in
theorem next_name (h : LexW B w lb s ln cl i v out) (hi : i < s.size) (hs : s.size ≤ 2000000) (hc : cl ≤ 4000000) (hln : ln ≤ 4000000) (hout : out.length ≤ 1900000) (h10 : s[i] ≠ 10) (hb : blankB s[i] = false) (h59 : s[i] ≠ 59) (hl : letterB s[i] = true) :
    Calls Tryd.prog 27 #[.pointer (some ⟨lb, 0, none⟩)] w fun e w' => NextPost B w lb s ln cl i v out e w' := by
  have hb3 : Below w.heap.size w (((w.alloc (.cells #[.pointer (some ⟨lb, 0, none⟩)] 75)).alloc (.cells #[.int .i64 0, .int .i64 0] 26)).alloc (.cells #[.int .i64 ln, .int .i64 cl] 26)) := (((Below.refl _ _).alloc (Nat.le_refl _) _).alloc (by simp) _).alloc (by simp; omega) _
  have hM := Made3.mk' w lb ln cl
  have hW := h.below hb3
  have c0 := h.at'.c0
  have c1 := h.at'.c1
  have hlb := h.at'.lt
  have i1 : (i : Int) < (s.size : Int) := by omega
  have e1 : ((s[i].toNat : Int) == 10) = false := by rw [show ((s[i].toNat : Int) == 10) = (s[i] == 10) from eqB s[i] 10]; simpa using h10
  have h_blank := blank_any s[i]
  rw [hb] at h_blank
  replace h_blank := Lib.hid h_blank
  have e2 : ((s[i].toNat : Int) == 59) = false := by rw [show ((s[i].toNat : Int) == 59) = (s[i] == 59) from eqB s[i] 59]; simpa using h59
  have h_letter := letter_any s[i]
  rw [hl] at h_letter
  replace h_letter := Lib.hid h_letter
  replace hb := Lib.hid hb
  replace hl := Lib.hid hl
  go_enter Tryd.func27, Tryd.ntmps27
  go_wp2_with fail
  generalize (((w.alloc (.cells #[.pointer (some ⟨lb, 0, none⟩)] 75)).alloc (.cells #[.int .i64 0, .int .i64 0] 26)).alloc (.cells #[.int .i64 ln, .int .i64 cl] 26)) = wa at hb3 hM hW ⊢
  have p0 := blk_cell hM.p 0
  have f0 := blk_cell hM.f 0
  have f1 := blk_cell hM.f 1
  simp at p0 f0 f1
  have a2 := hW.at'.c2
  have a3 := hW.at'.c3
  clear c0 c1
  go_quiet (fail)
  have hWx := hW.below (below_drawn (Below.refl wa.heap.size wa) nq)
  have hMx := hM.touch (Touch.drewN wa nq (fun _ => False)) (fun _ h => h.elim)
  have htx : Touch w (wa.drewN nq) (fun k => k = lb ∨ v.ownBlock = some k) := (Touch.of_below hb3 _).trans (Touch.drewN wa nq _)
  clear hW hM hb3 p0 f0 f1 a2 a3
  generalize wa.drewN nq = wx at hWx hMx htx ⊢
  have p0 := blk_cell hMx.p 0
  simp at p0
  go_wp2_with fail
  refine (h_blank.out _).mono ?_
  rintro e w' ⟨rfl, hw⟩; obtain rfl := hw.symm
  clear h_blank
  go_wp2_with fail
  refine (h_letter.out _).mono ?_
  rintro e w' ⟨rfl, hw⟩; obtain rfl := hw.symm
  clear h_letter
  have q0 : wx.cell? ⟨w.heap.size + 1 + 1, 0, none⟩ = some (.int .i64 ln) := blk_cell hMx.f 0
  have q1 : wx.cell? ⟨w.heap.size + 1 + 1, 1, none⟩ = some (.int .i64 cl) := blk_cell hMx.f 1
  have hdr : Below wx.heap.size wx wx.drew := below_drawn (Below.refl _ _) 1
  have htk := take_part (w := wx.drew) hWx.at' (Nat.le_of_lt hi) hs hc
  rw [word_extract] at htk
  replace htk := Lib.hid htk
  have hsz : w.heap.size + 2 < wx.heap.size := (Array.getElem?_eq_some_iff.1 hMx.f).1
  have hwl : (word partB s i).length ≤ 2000000 := by rw [word_len]; have := run_le partB s i; omega
  have hWd : LexW B wx.drew lb s ln cl i v out := hWx.below hdr
  have hMd : Made3 w wx.drew lb ln cl := hMx.touch (Touch.drewN wx 1 (fun _ => False)) (fun _ h => h.elim)
  have htd : Touch w wx.drew (fun k => k = lb ∨ v.ownBlock = some k) := htx.trans (Touch.drewN wx 1 _)
  go_wp2_with fail
  go_region_held3 (fun w' => w'.cell? ⟨w.heap.size, 0, none⟩ = some (.pointer (some ⟨lb, 0, none⟩)) ∧ w'.cell? ⟨w.heap.size + 1 + 1, 0, none⟩ = some (.int .i64 ln) ∧ w'.cell? ⟨w.heap.size + 1 + 1, 1, none⟩ = some (.int .i64 cl)) (go_keep)
    (first
      | (go_at_call 53; refine Calls.mono htk.out ?_; rintro e w2 ⟨rfl, hL2, ht2⟩; have hW2 := hWd.set hL2 ht2; have hM2 := hMd.touch ht2 (fun k e => by subst e; exact hlb); have u0 : w2.cell? ⟨w.heap.size, 0, none⟩ = some (.pointer (some ⟨lb, 0, none⟩)) := blk_cell hM2.p 0; have u1 : w2.cell? ⟨w.heap.size + 1 + 1, 0, none⟩ = some (.int .i64 ln) := blk_cell hM2.f 0; have u2 : w2.cell? ⟨w.heap.size + 1 + 1, 1, none⟩ = some (.int .i64 cl) := blk_cell hM2.f 1)
      | (go_at_call 56; refine (put_any (k := 1) (t := word partB s i) (n := 0) (l := ln) (c := cl) hW2 (by omega) hwl).mono ?_; rintro e w3 ⟨rfl, v3, hW3, ht3⟩; have hM3 := hM2.touch ht3 (fun k e => by rcases e with rfl | e; exact hlb; exact own_lt h _ e); have z0 : w3.cell? ⟨w.heap.size, 0, none⟩ = some (.pointer (some ⟨lb, 0, none⟩)) := blk_cell hM3.p 0; have z1 : w3.cell? ⟨w.heap.size + 1 + 1, 0, none⟩ = some (.int .i64 ln) := blk_cell hM3.f 0; have z2 : w3.cell? ⟨w.heap.size + 1 + 1, 1, none⟩ = some (.int .i64 cl) := blk_cell hM3.f 1))
  have htw := (htd.trans (ht2.mono (fun k _ e => Or.inl e) : Touch wx.drew w2 (fun k => k = lb ∨ v.ownBlock = some k))).trans ht3
  clear hWx hMx htx p0 q0 q1 hWd hMd htd hW2 hM2 u0 u1 u2 z0 z1 z2 hL2 ht2 ht3 htk
  have r0 := blk_cell hM3.r 0
  have r1 := blk_cell hM3.r 1
  simp at r0 r1
  have rf0 : w3.frozen? ⟨w.heap.size + 1, 0, none⟩ = false := by simp [World.frozen?, hM3.r]
  have rf1 : w3.frozen? ⟨w.heap.size + 1, 1, none⟩ = false := by simp [World.frozen?, hM3.r]
  have hne1 : w.heap.size + 1 ≠ lb := by omega
  go_wp2_with fail
  refine bodyPost_ret (v := .tuple #[.agg #[.int .i64 0, .int .i64 0], .int .i64 0]) (by simp [results, Tryd.results27, go_sem, *]) rfl (Or.inr ⟨run partB s i, ln, cl + run partB s i, some ⟨1, word partB s i, 0, ln, cl⟩, v3, step_name hi h10 hb.out h59 hl.out ln cl, rfl, ?_, ?_⟩)
  · exact hW3.box hne1 (fun e => own_not hW3.row hM3.r (by decide) e) _ _
  · exact touch2 htw (by omega) _ _

theorem extract_one {i : Nat} (hi : i < s.size) : s.extract i (i + 1) = ⟨[s[i]].toArray⟩ := by
  apply ByteArray.ext
  apply Array.ext'
  rw [ByteArray.data_extract]
  simp only [Array.toList_extract, List.extract_eq_take_drop]
  rw [show i + 1 - i = 1 from by omega]
  show List.take 1 (rest s i) = [s[i]]
  rw [rest_at hi]
  rfl
theorem step_sign {i : Nat} (hi : i < s.size) (h10 : s[i] ≠ 10) (hb : blankB s[i] = false) (h59 : s[i] ≠ 59) (hl : letterB s[i] = false) (hg : digitB s[i] = false) (hsg : signB s[i] = true) (ln cl : Nat) : stepL (rest s i) ln cl = .ok (1, ln, cl + 1, some ⟨3, [s[i]], 0, ln, cl⟩) := by
  rw [rest_at hi]
  unfold stepL
  simp only
  rw [if_neg h10, if_neg (by rw [hb]; simp), if_neg h59, if_neg (by rw [hl]; simp), if_neg (by rw [hg]; simp), if_pos hsg]
set_option maxHeartbeats 1000000 in
theorem next_sign (h : LexW B w lb s ln cl i v out) (hi : i < s.size) (hs : s.size ≤ 2000000) (hc : cl ≤ 4000000) (hln : ln ≤ 4000000) (hout : out.length ≤ 1900000) (h10 : s[i] ≠ 10) (hb : blankB s[i] = false) (h59 : s[i] ≠ 59) (hl : letterB s[i] = false) (hg : digitB s[i] = false) (hsg : signB s[i] = true) :
    Calls Tryd.prog 27 #[.pointer (some ⟨lb, 0, none⟩)] w fun e w' => NextPost B w lb s ln cl i v out e w' := by
  have hb3 : Below w.heap.size w (((w.alloc (.cells #[.pointer (some ⟨lb, 0, none⟩)] 75)).alloc (.cells #[.int .i64 0, .int .i64 0] 26)).alloc (.cells #[.int .i64 ln, .int .i64 cl] 26)) := (((Below.refl _ _).alloc (Nat.le_refl _) _).alloc (by simp) _).alloc (by simp; omega) _
  have hM := Made3.mk' w lb ln cl
  have hW := h.below hb3
  have c0 := h.at'.c0
  have c1 := h.at'.c1
  have hlb := h.at'.lt
  have i1 : (i : Int) < (s.size : Int) := by omega
  have e1 : ((s[i].toNat : Int) == 10) = false := by rw [show ((s[i].toNat : Int) == 10) = (s[i] == 10) from eqB s[i] 10]; simpa using h10
  have h_blank := blank_any s[i]
  rw [hb] at h_blank
  replace h_blank := Lib.hid h_blank
  have e2 : ((s[i].toNat : Int) == 59) = false := by rw [show ((s[i].toNat : Int) == 59) = (s[i] == 59) from eqB s[i] 59]; simpa using h59
  have h_letter := letter_any s[i]
  rw [hl] at h_letter
  replace h_letter := Lib.hid h_letter
  have h_digit := digit_any s[i]
  rw [hg] at h_digit
  replace h_digit := Lib.hid h_digit
  have h_sign := sign_any s[i]
  rw [hsg] at h_sign
  replace h_sign := Lib.hid h_sign
  replace hb := Lib.hid hb
  replace hl := Lib.hid hl
  replace hg := Lib.hid hg
  replace hsg := Lib.hid hsg
  go_enter Tryd.func27, Tryd.ntmps27
  go_wp2_with fail
  generalize (((w.alloc (.cells #[.pointer (some ⟨lb, 0, none⟩)] 75)).alloc (.cells #[.int .i64 0, .int .i64 0] 26)).alloc (.cells #[.int .i64 ln, .int .i64 cl] 26)) = wa at hb3 hM hW ⊢
  have p0 := blk_cell hM.p 0
  have f0 := blk_cell hM.f 0
  have f1 := blk_cell hM.f 1
  simp at p0 f0 f1
  have a2 := hW.at'.c2
  have a3 := hW.at'.c3
  clear c0 c1
  go_quiet (fail)
  have hWx := hW.below (below_drawn (Below.refl wa.heap.size wa) nq)
  have hMx := hM.touch (Touch.drewN wa nq (fun _ => False)) (fun _ h => h.elim)
  have htx : Touch w (wa.drewN nq) (fun k => k = lb ∨ v.ownBlock = some k) := (Touch.of_below hb3 _).trans (Touch.drewN wa nq _)
  clear hW hM hb3 p0 f0 f1 a2 a3
  generalize wa.drewN nq = wx at hWx hMx htx ⊢
  have p0 := blk_cell hMx.p 0
  simp at p0
  go_wp2_with fail
  refine (h_blank.out _).mono ?_
  rintro e w' ⟨rfl, hw⟩; obtain rfl := hw.symm
  clear h_blank
  go_wp2_with fail
  refine (h_letter.out _).mono ?_
  rintro e w' ⟨rfl, hw⟩; obtain rfl := hw.symm
  clear h_letter
  go_wp2_with fail
  refine (h_digit.out _).mono ?_
  rintro e w' ⟨rfl, hw⟩; obtain rfl := hw.symm
  clear h_digit
  go_wp2_with fail
  refine (h_sign.out _).mono ?_
  rintro e w' ⟨n, rfl, hn, hw⟩; obtain rfl := hw.symm
  clear h_sign
  have q0 : wx.cell? ⟨w.heap.size + 1 + 1, 0, none⟩ = some (.int .i64 ln) := blk_cell hMx.f 0
  have q1 : wx.cell? ⟨w.heap.size + 1 + 1, 1, none⟩ = some (.int .i64 cl) := blk_cell hMx.f 1
  have a2 := hWx.at'.c2
  have hsz : w.heap.size + 2 < wx.heap.size := (Array.getElem?_eq_some_iff.1 hMx.f).1
  have hba : Below wx.heap.size wx (wx.alloc (.cells #[.int .i64 i] 3)) := (Below.refl _ _).alloc (Nat.le_refl _) _
  have hWa := hWx.below hba
  have hMa := hMx.touch (Touch.of_below hba (fun _ => False)) (fun _ h => h.elim)
  have hta : Touch w (wx.alloc (.cells #[.int .i64 i] 3)) (fun k => k = lb ∨ v.ownBlock = some k) := htx.trans (Touch.of_below hba _)
  have hfi := heap_alloc_new wx (.cells #[.int .i64 i] 3)
  have hya : wx.heap.size < (wx.alloc (.cells #[.int .i64 i] 3)).heap.size := by simp
  go_wp2_with fail
  obtain ⟨y, hy⟩ : ∃ y, y = wx.heap.size := ⟨_, rfl⟩
  rw [← hy] at hfi hya hsz ⊢
  replace hy := Lib.hid hy
  generalize wx.alloc (.cells #[.int .i64 i] 3) = wy at hWa hMa hta hfi hya ⊢
  clear hWx hMx htx hba q0 q1 a2 p0
  have p0 : wy.cell? ⟨w.heap.size, 0, none⟩ = some (.pointer (some ⟨lb, 0, none⟩)) := blk_cell hMa.p 0
  have q0 : wy.cell? ⟨w.heap.size + 1 + 1, 0, none⟩ = some (.int .i64 ln) := blk_cell hMa.f 0
  have q1 : wy.cell? ⟨w.heap.size + 1 + 1, 1, none⟩ = some (.int .i64 cl) := blk_cell hMa.f 1
  have hdr : Below wy.heap.size wy wy.drew := below_drawn (Below.refl _ _) 1
  have htk := take_one (w := wy.drew) (pl := w.heap.size) (pf := y) hWa.at' hi hs hc p0 (blk_cell hfi 0) (by omega) (by omega) (Nat.lt_trans (by omega) hya) hya
  rw [extract_one hi] at htk
  replace htk := Lib.hid htk
  have hWd : LexW B wy.drew lb s ln cl i v out := hWa.below hdr
  have hMd : Made3 w wy.drew lb ln cl := hMa.touch (Touch.drewN wy 1 (fun _ => False)) (fun _ h => h.elim)
  have htd : Touch w wy.drew (fun k => k = lb ∨ v.ownBlock = some k) := hta.trans (Touch.drewN wy 1 _)
  have hwl : ([s[i]] : List UInt8).length ≤ 2000000 := by simp
  go_region_held3 (fun w' => w'.cell? ⟨w.heap.size, 0, none⟩ = some (.pointer (some ⟨lb, 0, none⟩)) ∧ w'.cell? ⟨w.heap.size + 1 + 1, 0, none⟩ = some (.int .i64 ln) ∧ w'.cell? ⟨w.heap.size + 1 + 1, 1, none⟩ = some (.int .i64 cl)) (go_keep)
    (first
      | (go_at_call 53; refine Calls.mono htk.out ?_; rintro e w2 ⟨rfl, hL2, ht2⟩; have hW2 := hWd.set hL2 ht2; have hM2 := hMd.touch ht2 (fun k e => by subst e; exact hlb); have u0 : w2.cell? ⟨w.heap.size, 0, none⟩ = some (.pointer (some ⟨lb, 0, none⟩)) := blk_cell hM2.p 0; have u1 : w2.cell? ⟨w.heap.size + 1 + 1, 0, none⟩ = some (.int .i64 ln) := blk_cell hM2.f 0; have u2 : w2.cell? ⟨w.heap.size + 1 + 1, 1, none⟩ = some (.int .i64 cl) := blk_cell hM2.f 1)
      | (go_at_call 56; refine (put_any (k := 3) (t := [s[i]]) (n := 0) (l := ln) (c := cl) hW2 (by omega) hwl).mono ?_; rintro e w3 ⟨rfl, v3, hW3, ht3⟩; have hM3 := hM2.touch ht3 (fun k e => by rcases e with rfl | e; exact hlb; exact own_lt h _ e); have z0 : w3.cell? ⟨w.heap.size, 0, none⟩ = some (.pointer (some ⟨lb, 0, none⟩)) := blk_cell hM3.p 0; have z1 : w3.cell? ⟨w.heap.size + 1 + 1, 0, none⟩ = some (.int .i64 ln) := blk_cell hM3.f 0; have z2 : w3.cell? ⟨w.heap.size + 1 + 1, 1, none⟩ = some (.int .i64 cl) := blk_cell hM3.f 1))
  have htw := (htd.trans (ht2.mono (fun k _ e => Or.inl e) : Touch wy.drew w2 (fun k => k = lb ∨ v.ownBlock = some k))).trans ht3
  clear hWa hMa hta hfi p0 q0 q1 hWd hMd htd hW2 hM2 u0 u1 u2 z0 z1 z2 hL2 ht2 ht3 htk
  have r0 := blk_cell hM3.r 0
  have r1 := blk_cell hM3.r 1
  simp at r0 r1
  have rf0 : w3.frozen? ⟨w.heap.size + 1, 0, none⟩ = false := by simp [World.frozen?, hM3.r]
  have rf1 : w3.frozen? ⟨w.heap.size + 1, 1, none⟩ = false := by simp [World.frozen?, hM3.r]
  have hne1 : w.heap.size + 1 ≠ lb := by omega
  go_wp2_with fail
  refine bodyPost_ret (v := .tuple #[.agg #[.int .i64 0, .int .i64 0], .int .i64 0]) (by simp [results, Tryd.results27, go_sem, *]) rfl (Or.inr ⟨1, ln, cl + 1, some ⟨3, [s[i]], 0, ln, cl⟩, v3, step_sign hi h10 hb.out h59 hl.out hg.out hsg.out ln cl, rfl, ?_, ?_⟩)
  · exact hW3.box hne1 (fun e => own_not hW3.row hM3.r (by decide) e) _ _
  · exact touch2 htw (by omega) _ _


theorem next_any (h : LexW B w lb s ln cl i v out) (hi : i < s.size) (hs : s.size ≤ 2000000) (hc : cl ≤ 4000000) (hln : ln ≤ 4000000) (hout : out.length ≤ 1900000) :
    Calls Tryd.prog 27 #[.pointer (some ⟨lb, 0, none⟩)] w fun e w' => NextPost B w lb s ln cl i v out e w' := by
  by_cases h10 : s[i] = 10
  · exact next_line h hi hs hc hln hout h10
  · cases hb : blankB s[i] with
    | true => exact next_blank h hi hs hc hln hout h10 hb
    | false =>
      by_cases h59 : s[i] = 59
      · exact next_comment h hi hs hc hln hout h10 hb h59
      · cases hl : letterB s[i] with
        | true => exact next_name h hi hs hc hln hout h10 hb h59 hl
        | false =>
          cases hg : digitB s[i] with
          | true => exact next_digit h hi hs hc hln hout h10 hb h59 hl hg
          | false =>
            cases hsg : signB s[i] with
            | true => exact next_sign h hi hs hc hln hout h10 hb h59 hl hg hsg
            | false => exact next_other h hi hs hc hln hout h10 hb h59 hl hg hsg
end
end
section
open Go.RowKit Go.Shelf

/-- A slice that reads as these words, in new memory. -/
def RowT (w w' : World) (v : Value) (out : List Tok) : Prop := w'.ownsRow w.heap.size 38 5 v out.length (out.flatMap cellsT)
/-- What Lex answers. -/
def LexPost (w : World) (r : Except Bad (List Tok)) (e : Ending) (w' : World) : Prop :=
  match r with
  | .error (l, c, er) => e = .returned (.tuple #[.slice none 0 0, .agg #[.int .i64 l, .int .i64 c], .int .i64 er]) ∧ Below w.heap.size w w'
  | .ok out => (∃ v, e = .returned (.tuple #[v, .agg #[.int .i64 0, .int .i64 0], .int .i64 0]) ∧ RowT w w' v out) ∧ Below w.heap.size w w'

section
variable {w w' : World} {s : ByteArray}

theorem own_mono {b1 b2 : Nat} {e : TypeId} {size n : Nat} {v : Value} {us : List Value} (h : w.ownsRow b1 e size v n us) (hb : b2 ≤ b1) : w.ownsRow b2 e size v n us := by
  refine ⟨h.1, h.2.imp id ?_⟩
  rintro ⟨g, cap, cur, e1, h1, h2⟩
  exact ⟨g, cap, cur, e1, Nat.le_trans hb h1, h2⟩
theorem row_set {out : List Tok} {gg n c : Nat} (h : RowT w w' (.slice (some ⟨gg, 0, none⟩) n c) out) (hne : gg ≠ w.heap.size) (x y : Value) : RowT w ((w'.setCell ⟨w.heap.size, 0, none⟩ x).setCell ⟨w.heap.size, 1, none⟩ y) (.slice (some ⟨gg, 0, none⟩) n c) out :=
  ownsRow_touch (S := fun k => k = w.heap.size) h (((Touch.refl w' (fun k => k = w.heap.size)).setCell (a := ⟨w.heap.size, 0, none⟩) (fun _ => rfl) _).setCell (a := ⟨w.heap.size, 1, none⟩) (fun _ => rfl) _) (fun b hb e => by simp [Value.ownBlock] at hb; omega)
theorem rest_all (s : ByteArray) : rest s 0 = s.data.toList := by simp [rest]
theorem rest_drop (s : ByteArray) (i k : Nat) : (rest s i).drop k = rest s (i + k) := by unfold rest; rw [List.drop_drop]
theorem rest_ne {i : Nat} (h : i < s.size) : rest s i ≠ [] := by rw [rest_at h]; simp
theorem step_bound {l : List UInt8} {ln cl k ln' cl' : Nat} {t : Option Tok} (h : stepL l ln cl = .ok (k, ln', cl', t)) : ln' ≤ ln + k ∧ cl' ≤ cl + k + 1 := by
  have hp := step_pos h
  unfold stepL at h
  split at h
  · cases h
  · split at h
    · injection h with h; injection h with h1 h; injection h with h2 h; injection h with h3 h; omega
    · split at h
      · injection h with h; injection h with h1 h; injection h with h2 h; injection h with h3 h; omega
      · split at h
        · injection h with h; injection h with h1 h; injection h with h2 h; injection h with h3 h; omega
        · split at h
          · injection h with h; injection h with h1 h; injection h with h2 h; injection h with h3 h; omega
          · split at h
            · split at h
              · cases h
              · injection h with h; injection h with h1 h; injection h with h2 h; injection h with h3 h; omega
            · split at h
              · injection h with h; injection h with h1 h; injection h with h2 h; injection h with h3 h; omega
              · cases h

theorem step_err {l : List UInt8} {ln cl a b er : Nat} (h : stepL l ln cl = .error (a, b, er)) : er ≠ 0 := by
  unfold stepL at h
  split at h
  · injection h with h; injection h with h1 h; injection h with h2 h; omega
  · split at h
    · cases h
    · split at h
      · cases h
      · split at h
        · cases h
        · split at h
          · cases h
          · split at h
            · split at h
              · injection h with h; injection h with h1 h; injection h with h2 h; omega
              · cases h
            · split at h
              · cases h
              · injection h with h; injection h with h1 h; injection h with h2 h; omega

set_option maxHeartbeats 4000000 in
theorem lex_long (hs : 1048576 < s.size) (h63 : s.size ≤ maxLen) : Calls Tryd.prog 13 #[.string s] w fun e w' => e = .returned (.tuple #[.slice none 0 0, .agg #[.int .i64 0, .int .i64 0], .int .i64 2]) ∧ Below w.heap.size w w' := by
  unfold maxLen at h63
  have d1 : decide ((s.size : Int) > 1048576) = true := by simp; omega
  go_enter Tryd.func13, Tryd.ntmps13
  go_wp2_with fail
  refine bodyPost_ret (v := .tuple #[.slice none 0 0, .agg #[.int .i64 0, .int .i64 0], .int .i64 2]) (by simp [results, Tryd.results13, go_sem, *]) rfl ⟨rfl, ?_⟩
  exact (Below.refl _ _).alloc (Nat.le_refl _) _

set_option maxHeartbeats 4000000 in
theorem lex_any (hs : s.size ≤ 1048576) : Calls Tryd.prog 13 #[.string s] w fun e w' => LexPost w (lex s.data.toList 1 1) e w' := by
  have d1 : decide ((s.size : Int) > 1048576) = false := by simp; omega
  go_enter Tryd.func13, Tryd.ntmps13
  go_wp2_with fail
  have hb0 : Below w.heap.size w ((w.alloc (.cells #[.int .i64 0, .int .i64 0] 26)).alloc (.cells #[.int .i64 1, .int .i64 1, .int .i64 0, .string s, .slice none 0 0] 79)) := ((Below.refl _ _).alloc (Nat.le_refl _) _).alloc (by simp) _
  have hr0 : ((w.alloc (.cells #[.int .i64 0, .int .i64 0] 26)).alloc (.cells #[.int .i64 1, .int .i64 1, .int .i64 0, .string s, .slice none 0 0] 79)).heap[w.heap.size]? = some (.cells #[.int .i64 0, .int .i64 0] 26 (0, 0)) := by
    rw [Below.heap_alloc _ _ _ (by simp)]
    exact heap_alloc_new w _
  have hW0 : LexW (w.heap.size + 2) ((w.alloc (.cells #[.int .i64 0, .int .i64 0] 26)).alloc (.cells #[.int .i64 1, .int .i64 1, .int .i64 0, .string s, .slice none 0 0] 79)) (w.heap.size + 1) s 1 1 0 (.slice none 0 0) [] := by
    refine ⟨?_, World.ownsRow_nil _ _ _ _, by omega, by simp⟩
    have := heap_alloc_new (w.alloc (.cells #[.int .i64 0, .int .i64 0] 26)) (.cells #[.int .i64 1, .int .i64 1, .int .i64 0, .string s, .slice none 0 0] 79)
    rwa [World.size_alloc] at this
  generalize ((w.alloc (.cells #[.int .i64 0, .int .i64 0] 26)).alloc (.cells #[.int .i64 1, .int .i64 1, .int .i64 0, .string s, .slice none 0 0] 79)) = wa at hb0 hr0 hW0 ⊢
  go_loopg [] s.size (fun k wr => ∃ (i ln cl : Nat) (v : Value) (out : List Tok), Hid (i + k = s.size ∧ lex s.data.toList 1 1 = sofar out (lex (rest s i) ln cl)) ∧ i ≤ s.size ∧ out.length ≤ i ∧ ln ≤ i + 1 ∧ cl ≤ 2 * i + 1 ∧ LexW (w.heap.size + 2) wr (w.heap.size + 1) s ln cl i v out ∧ wr.heap[w.heap.size]? = some (.cells #[.int .i64 0, .int .i64 0] 26 (0, 0)) ∧ Below w.heap.size w wr)
  case atStart => exact ⟨0, 1, 1, _, [], Lib.hid ⟨by omega, by rw [sofar_nil, rest_all]⟩, Nat.zero_le _, Nat.le_refl _, by omega, by omega, hW0, hr0, hb0⟩
  case round =>
    clear hW0 hr0 hb0
    obtain ⟨i, ln, cl, v, out, hx, hi, ho, hln, hcl, hW, hr, hb⟩ := hrel
    have c2 := hW.at'.c2
    have r0 := blk_cell hr 0
    have r1 := blk_cell hr 1
    simp at r0 r1
    have rf0 : wr.frozen? ⟨w.heap.size, 0, none⟩ = false := by simp [World.frozen?, hr]
    have rf1 : wr.frozen? ⟨w.heap.size, 1, none⟩ = false := by simp [World.frozen?, hr]
    by_cases hlt : i < s.size
    · have hn := Lib.hid (next_any hW hlt (by omega) (by omega) (by omega) (by omega))
      have i1 : (i : Int) < (s.size : Int) := by omega
      have hown : ∀ k, v.ownBlock = some k → w.heap.size + 2 ≤ k := fun k e => (hW.row.lt k e).1
      clear r0 r1 rf0 rf1
      go_wp2_with fail
      refine hn.out.mono ?_
      rintro e w2 (⟨l, c, er, hst, rfl, ht⟩ | ⟨k, ln2, cl2, t, v2, hst, rfl, hW2, ht⟩)
      · have hb2 : Below w.heap.size w w2 := hb.trans (ht.below hb.size (fun k hk e => by rcases e with rfl | e; omega; have := hown k e; omega))
        have hr2 := (ht.block w.heap.size (by have := (Array.getElem?_eq_some_iff.1 hr).1; exact this) (by rintro (e | e); omega; have := hown _ e; omega)).trans hr
        have her : ((er : Int) != 0) = true := by have := step_err hst; simp; omega
        have hres : lex s.data.toList 1 1 = .error (l, c, er) := by rw [hx.out.2, lex_bad (rest_ne hlt) hst]; rfl
        replace hst := Lib.hid hst
        replace hres := Lib.hid hres
        clear hn hW hr hb ht c2 hx
        have hlt2 : w.heap.size < w2.heap.size := (Array.getElem?_eq_some_iff.1 hr2).1
        have r0 := blk_cell hr2 0
        have r1 := blk_cell hr2 1
        simp at r0 r1
        have rf0 : w2.frozen? ⟨w.heap.size, 0, none⟩ = false := by simp [World.frozen?, hr2]
        have rf1 : w2.frozen? ⟨w.heap.size, 1, none⟩ = false := by simp [World.frozen?, hr2]
        go_wp2_with fail
        go_region
        all_goals
          go_wp2_with fail
          refine bodyPost_ret (v := .tuple #[.slice none 0 0, .agg #[.int .i64 l, .int .i64 c], .int .i64 er]) (by simp [results, Tryd.results13, go_sem, *]) rfl ?_
          unfold LexPost
          rw [hres.out]
          exact ⟨rfl, (((hb2.setCell (p := ⟨w.heap.size, 0, none⟩) (Nat.le_refl _) _).setCell (p := ⟨w.heap.size, 1, none⟩) (Nat.le_refl _) _).alloc (by simp; exact hb2.size) _).drew⟩
      · have hb2 : Below w.heap.size w w2 := hb.trans (ht.below hb.size (fun k hk e => by rcases e with rfl | e; omega; have := hown k e; omega))
        have hr2 := (ht.block w.heap.size (by have := (Array.getElem?_eq_some_iff.1 hr).1; exact this) (by rintro (e | e); omega; have := hown _ e; omega)).trans hr
        have hp := step_pos hst
        have hpb := step_bound hst
        have hrl : (rest s i).length = s.size - i := by unfold rest; simp
        have hres : lex s.data.toList 1 1 = sofar (out ++ t.toList) (lex (rest s (i + k)) ln2 cl2) := by rw [hx.out.2, lex_went (rest_ne hlt) hst, sofar_add, rest_drop]
        have hot : (out ++ t.toList).length ≤ i + k := by rw [List.length_append]; cases t <;> simp <;> omega
        have hxk := hx.out.1
        replace hres := Lib.hid hres
        clear hn hW hr hb ht c2 hx hst
        go_wp2_with fail
        have hWa := hW2.below ((Below.refl _ w2).alloc (Nat.le_refl _) (.cells #[.int .i64 0, .int .i64 0] 26))
        have hra := (Below.heap_alloc w2 (.cells #[.int .i64 0, .int .i64 0] 26) w.heap.size (Array.getElem?_eq_some_iff.1 hr2).1).trans hr2
        have hba := hb2.alloc hb2.size (.cells #[.int .i64 0, .int .i64 0] 26)
        go_roundg (gk - k)
        case rel => exact ⟨i + k, ln2, cl2, v2, _, Lib.hid ⟨by omega, hres.out⟩, by omega, hot, by omega, by omega, hWa, hra, hba⟩
        case measure => omega
    · have hie : i = s.size := by omega
      obtain ⟨i0, hi0, hz0, hz1, hz2⟩ := info_parts infoTok
      have hres : lex s.data.toList 1 1 = .ok (out ++ [⟨4, [], 0, ln, cl⟩]) := by rw [hx.out.2, rest_end (by omega), lex_nil]; rfl
      replace hres := Lib.hid hres
      have g1 : decide ((i : Int) < (s.size : Int)) = false := by simp; omega
      have hW' := Lib.hid hW
      have hrow := hW.row
      have a0 := hW.at'.c0
      have a1 := hW.at'.c1
      have c4 := hW.at'.c4
      have htop := hW.top
      have hlb := hW.at'.lt
      have hne : v.ownBlock ≠ some (w.heap.size + 1) := fun e => by have := (hrow.lt _ e).1; omega
      have hon : out.length ≤ 1048576 := by omega
      replace hie := Lib.hid hie
      have hcz : ∀ o, (wr.alloc o).drew.cell? ⟨w.heap.size + 1, 4, none⟩ = some v := fun o => (World.cell?_alloc_past _ _ _ hlb).trans c4
      have hfz : ∀ o, (wr.alloc o).drew.frozen? ⟨w.heap.size + 1, 4, none⟩ = false := fun o => (World.frozen?_alloc_past _ _ _ hlb).trans (hW.at'.fr 4)
      clear hx hW r0 r1 rf0 rf1
      go_wp2_with fail
      go_region_law ((refine step_append_lies _ (by rfl) _ _ _ (by rfl) (w.heap.size + 2) 38 i0 _ 5 48 Tryd.underlying34 hi0 hz0 hz1 hz2 rfl (by omega) v out.length _ (by rfl) ((hrow.alloc _).drew) ⟨wr.heap.size, 0, none⟩ 1 1 [.int .u8 4, .string ⟨#[]⟩, .int .i64 0, .int .i64 ln, .int .i64 cl] (by rfl) (by rfl) (World.news_of_block (cs := #[.int .u8 4, .string ⟨#[]⟩, .int .i64 0, .int .i64 ln, .int .i64 cl]) (t := 38) (fr := (0, 0)) (heap_alloc_new wr _)) (by simp [Value.oneCell']) (by omega) (by unfold maxLen; omega) (by omega) (by simp; omega) (wr.heap.size + 1) (by simp) ?_; intro gg cap' w2 hown2 hgrow hat hlt2; have t4 : w2.cell? ⟨w.heap.size + 1, 4, none⟩ = some v := (hgrow.cell_far ⟨w.heap.size + 1, 4, none⟩ (by simp; omega) (Ne.symm hne)).trans (hcz _); have u4 : w2.frozen? ⟨w.heap.size + 1, 4, none⟩ = false := (hgrow.frozen_far ⟨w.heap.size + 1, 4, none⟩ (by simp; omega) (Ne.symm hne)).trans (hfz _)))
      all_goals
        have hg' : (wr.alloc (.cells #[.int .u8 4, .string ⟨#[]⟩, .int .i64 0, .int .i64 ln, .int .i64 cl] 38)).grownBy w2 v.ownBlock := ⟨hgrow.os, hgrow.tape, hgrow.output, hgrow.size, hgrow.block⟩
        have hend := put_end (t := ⟨4, [], 0, ln, cl⟩) hW'.out (Below.refl _ wr) hg' hown2 hat
        have hlr : w.heap.size < wr.heap.size := by omega
        have hr2 : w2.heap[w.heap.size]? = some (.cells #[.int .i64 0, .int .i64 0] 26 (0, 0)) := (hg'.block w.heap.size (by simp; omega) (fun e => by have := (hrow.lt _ e.symm).1; omega)).trans ((Below.heap_alloc _ _ _ hlr).trans hr)
        have hbe : Below w.heap.size w (w2.setCell ⟨w.heap.size + 1, 4, none⟩ (.slice (some ⟨gg, 0, none⟩) (out.length + 1) cap')) := hb.trans (hend.2.below hb.size (fun k hk e => by rcases e with rfl | e; omega; have := (hrow.lt _ e).1; omega))
        have hre : RowT w (w2.setCell ⟨w.heap.size + 1, 4, none⟩ (.slice (some ⟨gg, 0, none⟩) (out.length + 1) cap')) (.slice (some ⟨gg, 0, none⟩) (out.length + 1) cap') (out ++ [⟨4, [], 0, ln, cl⟩]) := own_mono hend.1.row (by omega)
        have x0 := blk_cell hr2 0
        have x1 := blk_cell hr2 1
        simp at x0 x1
        have xf0 : w2.frozen? ⟨w.heap.size, 0, none⟩ = false := by simp [World.frozen?, hr2]
        have xf1 : w2.frozen? ⟨w.heap.size, 1, none⟩ = false := by simp [World.frozen?, hr2]
        replace hbe := Lib.hid hbe
        replace hre := Lib.hid hre
        have hne2 : gg ≠ w.heap.size := by
          rintro rfl
          rcases hat with e | e
          · have := (hrow.lt _ e).1; omega
          · omega
        clear hend hW' hg' hgrow hown2 hat hr hb c4 a0 a1 c2 hcz hfz
        go_wp2_with fail
        refine bodyPost_ret (v := .tuple #[.slice (some ⟨gg, 0, none⟩) (out.length + 1) cap', .agg #[.int .i64 0, .int .i64 0], .int .i64 0]) (by simp [results, Tryd.results13, go_sem, *]) rfl ?_
        unfold LexPost
        rw [hres.out]
        have hof := row_set hre.out hne2 (.int .i64 0) (.int .i64 0)
        exact ⟨⟨_, rfl, hof⟩, (hbe.out.setCell (p := ⟨w.heap.size, 0, none⟩) (Nat.le_refl _) _).setCell (p := ⟨w.heap.size, 1, none⟩) (Nat.le_refl _) _⟩
end
end
end Go.Proofs.YtgcanabckogmmaaDoor
