/- IdsKinds, walked: three tables side by side, keyed by bytes, by texts of one byte, by pairs. -/
import Derived.Test.YtdeoclapamknfaaU8B
import Derived.Test.YtdeoclapamknfaaArrB
import Derived.Test.YtdeoclapamknfaaWake
namespace Go.Proofs.Ytdeoclapamknfaa
open Go.RowKit Go.Maps Go.WideMaps Go.WideShapes

theorem pairwise_ne {α β : Type} (f : α → β) (hf : ∀ a b, f a = f b → a = b) {l : List α} (h : l.Pairwise (fun a b => a ≠ b)) : l.Pairwise (fun a b => f a ≠ f b) := by
  induction h with
  | nil => exact List.Pairwise.nil
  | cons h1 _ ih => exact List.Pairwise.cons (fun b hb e => h1 b hb (hf _ _ e)) ih

section
variable {α β : Type} [DecidableEq α] [DecidableEq β]
theorem keysOf_map (f : α → β) (hf : ∀ a b, f a = f b → a = b) (l : List α) : keysOf (l.map f) = (keysOf l).map f := by
  refine snoc_ind (Q := fun l => keysOf (l.map f) = (keysOf l).map f) rfl (fun l x ih => ?_) l
  rw [List.map_append, List.map_cons, List.map_nil, keysOf_snoc, keysOf_snoc, ih]
  by_cases h : x ∈ keysOf l
  · rw [if_pos h, if_pos (List.mem_map.2 ⟨x, h, rfl⟩)]
  · rw [if_neg h, if_neg (fun h2 => by obtain ⟨y, hy, e⟩ := List.mem_map.1 h2; exact h (hf _ _ e ▸ hy)), List.map_append]
    rfl
theorem place_map (f : α → β) (hf : ∀ a b, f a = f b → a = b) {l : List α} {x : α} (hx : x ∈ l) (hn : l.Nodup) : place (l.map f) (f x) = place l x := by
  refine place_of ?_ ?_
  · rw [List.Nodup, List.pairwise_map]
    exact pairwise_ne f hf hn
  · rw [List.getElem?_map, place_get hx]
    rfl
end

/-- A byte as each table's key. -/
def fU (x : UInt8) : Int := x.toNat
def fS (x : UInt8) : ByteArray := ⟨#[x]⟩
def fA (x : UInt8) : Int × Int := (x.toNat, 7)
theorem fU_inj (a b : UInt8) (h : fU a = fU b) : a = b := by unfold fU at h; exact UInt8.toNat_inj.1 (by omega)
theorem fS_inj (a b : UInt8) (h : fS a = fS b) : a = b := by unfold fS at h; simpa using h
theorem fA_inj (a b : UInt8) (h : fA a = fA b) : a = b := by unfold fA at h; simp only [Prod.mk.injEq] at h; exact UInt8.toNat_inj.1 (by omega)
theorem u8_wf (n : Nat) (h : n < 256) : (Lit.int .u8 (n : Int)).wf = true := by
  exact WalkArith.wf_u8 (by omega)

/-- The three tables, in blocks of their own. -/
def Tri (w0 w : World) (s1 m1 s2 m2 s3 m3 : Nat) (xs ys zs : List UInt8) : Prop :=
  ∃ v1 v2 v3 B1 B2 B3, U8.TS w0.heap.size B1 w s1 m1 v1 (keysOf (xs.map fU)) ∧ Str.TS w0.heap.size B2 w s2 m2 v2 (keysOf (ys.map fS)) ∧ Arr.TS w0.heap.size B3 w s3 m3 v3 (keysOf (zs.map fA)) ∧
    (∀ k, Own s1 m1 v1 k → Own s2 m2 v2 k → False) ∧ (∀ k, Own s1 m1 v1 k → Own s3 m3 v3 k → False) ∧ (∀ k, Own s2 m2 v2 k → Own s3 m3 v3 k → False) ∧ Below w0.heap.size w0 w

/-- What a table has behind a key, against blocks that were there. -/
theorem own_off {w : World} {sb bm : Nat} {v v' : Value} {S : Nat → Prop} (hv : ∀ b, v'.ownBlock = some b → v.ownBlock = some b ∨ w.heap.size ≤ b) (hS : ∀ k, S k → k < w.heap.size) (hd : ∀ k, Own sb bm v k → S k → False) :
    ∀ k, Own sb bm v' k → S k → False := by
  rintro k (h | h | h) hs
  · exact hd k (Or.inl h) hs
  · exact hd k (Or.inr (Or.inl h)) hs
  · rcases hv k h with h2 | h2
    · exact hd k (Or.inr (Or.inr h2)) hs
    · have := hS k hs; omega

section
variable {w0 w : World} {s1 m1 s2 m2 s3 m3 : Nat} {xs ys zs : List UInt8}

theorem Tri.more {w' : World} (h : Tri w0 w s1 m1 s2 m2 s3 m3 xs ys zs) (hb : Below w.heap.size w w') : Tri w0 w' s1 m1 s2 m2 s3 m3 xs ys zs := by
  obtain ⟨v1, v2, v3, B1, B2, B3, T1, T2, T3, d12, d13, d23, hlo⟩ := h
  have ht := Touch.of_below hb (fun _ => False)
  exact ⟨v1, v2, v3, B1, B2, B3, T1.kept ht (fun _ _ h => h), T2.kept ht (fun _ _ h => h), T3.kept ht (fun _ _ h => h), d12, d13, d23, hlo.trans (hb.mono hlo.size)⟩

theorem Tri.below (h : Tri w0 w s1 m1 s2 m2 s3 m3 xs ys zs) : Below w0.heap.size w0 w := by
  obtain ⟨v1, v2, v3, B1, B2, B3, T1, T2, T3, d12, d13, d23, hlo⟩ := h
  exact hlo

theorem Tri.id1 (h : Tri w0 w s1 m1 s2 m2 s3 m3 xs ys zs) (x : UInt8) (hlen : xs.length ≤ 1000) :
    Calls Try.prog 26 #[.pointer (some ⟨s1, 0, none⟩), .int .u8 (fU x)] w fun e w' => e = .returned (.int .i64 (place (keysOf ((xs ++ [x]).map fU)) (fU x))) ∧ Tri w0 w' s1 m1 s2 m2 s3 m3 (xs ++ [x]) ys zs := by
  obtain ⟨v1, v2, v3, B1, B2, B3, T1, T2, T3, d12, d13, d23, hlo⟩ := h
  rw [List.map_append, List.map_cons, List.map_nil]
  refine (U8.id_any T1 (u8_wf _ x.toNat_lt) (by simpa using Nat.le_trans hlen (by decide))).mono ?_
  rintro e w' ⟨rfl, v1', T1', ht, hv⟩
  refine ⟨rfl, v1', v2, v3, B1, B2, B3, ?_, T2.kept ht (fun k h2 h1 => d12 k h1 h2), T3.kept ht (fun k h2 h1 => d13 k h1 h2), own_off hv T2.lt d12, own_off hv T3.lt d13, d23, hlo.trans (ht.below hlo.size (fun x hx ho => by have := T1.low x ho; omega))⟩
  rw [List.map_append, List.map_cons, List.map_nil]
  exact T1'

theorem Tri.id2 (h : Tri w0 w s1 m1 s2 m2 s3 m3 xs ys zs) (x : UInt8) (hlen : ys.length ≤ 1000) :
    Calls Try.prog 11 #[.pointer (some ⟨s2, 0, none⟩), .string (fS x)] w fun e w' => e = .returned (.int .i64 (place (keysOf ((ys ++ [x]).map fS)) (fS x))) ∧ Tri w0 w' s1 m1 s2 m2 s3 m3 xs (ys ++ [x]) zs := by
  obtain ⟨v1, v2, v3, B1, B2, B3, T1, T2, T3, d12, d13, d23, hlo⟩ := h
  rw [List.map_append, List.map_cons, List.map_nil]
  refine (Str.id_any T2 (by show 1 ≤ maxLen; decide) (by simpa using Nat.le_trans hlen (by decide))).mono ?_
  rintro e w' ⟨rfl, v2', T2', ht, hv⟩
  refine ⟨rfl, v1, v2', v3, B1, B2, B3, T1.kept ht (fun k h1 h2 => d12 k h1 h2), ?_, T3.kept ht (fun k h2 h1 => d23 k h1 h2), fun k h1 h2 => own_off hv T1.lt (fun k a b => d12 k b a) k h2 h1, d13, own_off hv T3.lt d23, hlo.trans (ht.below hlo.size (fun x hx ho => by have := T2.low x ho; omega))⟩
  rw [List.map_append, List.map_cons, List.map_nil]
  exact T2'

theorem ok_fA (x : UInt8) : Arr.ok (fA x) := ⟨u8_wf _ x.toNat_lt, u8_wf 7 (by decide)⟩
theorem Tri.id3 (h : Tri w0 w s1 m1 s2 m2 s3 m3 xs ys zs) (x : UInt8) (hlen : zs.length ≤ 1000) :
    Calls Try.prog 27 #[.pointer (some ⟨s3, 0, none⟩), .agg #[.int .u8 (fA x).1, .int .u8 (fA x).2]] w fun e w' => e = .returned (.int .i64 (place (keysOf ((zs ++ [x]).map fA)) (fA x))) ∧ Tri w0 w' s1 m1 s2 m2 s3 m3 xs ys (zs ++ [x]) := by
  obtain ⟨v1, v2, v3, B1, B2, B3, T1, T2, T3, d12, d13, d23, hlo⟩ := h
  rw [List.map_append, List.map_cons, List.map_nil]
  refine (Arr.id_any T3 (fun y hy => by obtain ⟨z, _, rfl⟩ := List.mem_map.1 hy; exact ok_fA z) (ok_fA x) (by simpa using Nat.le_trans hlen (by decide))).mono ?_
  rintro e w' ⟨rfl, v3', T3', ht, hv⟩
  refine ⟨rfl, v1, v2, v3', B1, B2, B3, T1.kept ht (fun k h1 h2 => d13 k h1 h2), T2.kept ht (fun k h1 h2 => d23 k h1 h2), ?_, d12, fun k h1 h2 => own_off hv T1.lt (fun k a b => d13 k b a) k h2 h1, fun k h1 h2 => own_off hv T2.lt (fun k a b => d23 k b a) k h2 h1, hlo.trans (ht.below hlo.size (fun x hx ho => by have := T3.low x ho; omega))⟩
  rw [List.map_append, List.map_cons, List.map_nil]
  exact T3'
end

theorem num_one (l : List UInt8) (x : UInt8) (hx : x ∈ l) : place (keysOf (l.map fU)) (fU x) = place (keysOf l) x ∧ place (keysOf (l.map fS)) (fS x) = place (keysOf l) x ∧ place (keysOf (l.map fA)) (fA x) = place (keysOf l) x := by
  have hk : x ∈ keysOf l := (mem_keysOf l x).2 hx
  rw [keysOf_map fU fU_inj, keysOf_map fS fS_inj, keysOf_map fA fA_inj]
  exact ⟨place_map fU fU_inj hk (nodup_keysOf l), place_map fS fS_inj hk (nodup_keysOf l), place_map fA fA_inj hk (nodup_keysOf l)⟩

def bytesOf (l : List UInt8) : List Value := l.map fun x => .int .u8 (fU x)

set_option maxHeartbeats 1000000 in
set_option maxRecDepth 100000 in
theorem kinds_any {s : Value} {l : List UInt8} {w : World} (hs : Rd w s (bytesOf l)) (hlen : l.length ≤ 200) :
    Calls Try.prog 7 #[s] w fun e w' => e = .returned (.bool true) ∧ Below w.heap.size w w' := by
  have hbl : (bytesOf l).length = l.length := by simp [bytesOf]
  obtain ⟨a, c, hs0⟩ := hs.form
  rw [hbl] at hs0
  subst hs0
  have hd : decide ((200 : Int) < (l.length : Int)) = false := by simp; omega
  have hn1 := Lib.hid (U8.new_any (s := .slice none 0 0) (ss := []) (w := w) (Or.inl ⟨rfl, Or.inl rfl⟩) (by simp) (by simp))
  clear hbl
  go_enter Try.func7, Try.ntmps7
  go_wp2_with fail
  refine hn1.out.mono ?_
  rintro e w1 ⟨rfl, v1, T1, hb1⟩
  have hn2 := Lib.hid (Str.new_any (s := .slice none 0 0) (ss := []) (w := w1) (Or.inl ⟨rfl, Or.inl rfl⟩) (by simp) (by simp))
  go_wp2_with fail
  refine hn2.out.mono ?_
  rintro e w2 ⟨rfl, v2, T2, hb2⟩
  have hn3 := Lib.hid (Arr.new_any (s := .slice none 0 0) (ss := []) (w := w2) (Or.inl ⟨rfl, Or.inl rfl⟩) (by simp) (by simp))
  go_wp2_with fail
  refine hn3.out.mono ?_
  rintro e w3 ⟨rfl, v3, T3, hb3⟩
  have hst : Tri w w3 (w.heap.size + 1) w.heap.size (w1.heap.size + 1) w1.heap.size (w2.heap.size + 1) w2.heap.size [] [] [] := by
    have z1 := hb1.size
    have z2 := hb2.size
    refine ⟨v1, v2, v3, _, _, _, (T1.kept (Touch.of_below hb2 (fun k => w1.heap.size ≤ k)) (fun x hx => by have := T1.lt x hx; omega)).kept (Touch.of_below hb3 (fun k => w2.heap.size ≤ k)) (fun x hx => by have := T1.lt x hx; omega),
      (T2.mono (Nat.le_trans z1 (Nat.le_refl _))).kept (Touch.of_below hb3 (fun k => w2.heap.size ≤ k)) (fun x hx => by have := T2.lt x hx; omega), T3.mono (Nat.le_trans z1 z2), ?_, ?_, ?_, (hb1.trans (hb2.mono z1)).trans (hb3.mono (Nat.le_trans z1 z2))⟩
    · intro k h1 h2
      have := T1.lt k h1; have := T2.low k h2; omega
    · intro k h1 h2
      have := T1.lt k h1; have := T3.low k h2; omega
    · intro k h1 h2
      have := T2.lt k h1; have := T3.low k h2; omega
  clear T1 T2 T3 hb1 hb2 hb3 hn1 hn2 hn3
  generalize w1.heap.size = m2 at *
  generalize w2.heap.size = m3 at *
  go_wp2_with fail
  go_loopw [6] (fun i wr => ∃ j : Nat, j ≤ l.length ∧ i = .int .i64 j ∧ Tri w wr (w.heap.size + 1) w.heap.size (m2 + 1) m2 (m3 + 1) m3 (l.take j) (l.take j) (l.take j)) (fun i _ => l.length - (intOf i).toNat)
  case atStart => exact ⟨0, Nat.zero_le _, rfl, hst⟩
  case round =>
    clear hst
    obtain ⟨j, hj, rfl, hst⟩ := hrel
    by_cases hlt : j < l.length
    · obtain ⟨x, hx⟩ : ∃ x, l[j]? = some x := ⟨_, List.getElem?_eq_getElem hlt⟩
      obtain ⟨b, off, cap, e, hblt, hc⟩ := (hs.below hst.below).at (i := j) (u := .int .u8 (fU x)) (by simp [bytesOf, hx])
      simp only [Value.slice.injEq] at e
      obtain ⟨rfl, -, rfl⟩ := e
      have hts := take_snoc hx
      have hnum := num_one (l.take (j + 1)) x (by rw [hts]; simp)
      have hln : (l.take j).length ≤ 1000 := by simp; omega
      have hi1 := hst.id1 x hln
      rw [← hts, hnum.1] at hi1
      replace hi1 := Lib.hid hi1
      replace hx := Lib.hid hx
      replace hts := Lib.hid hts
      replace hnum := Lib.hid hnum
      go_wp2_with fail
      refine hi1.out.mono ?_
      rintro e w4 ⟨rfl, hs4⟩
      have hc4 : w4.cell? ⟨b, off + j, none⟩ = some (.int .u8 (fU x)) := by
        obtain ⟨p, o, cp, e, _, h⟩ := (hs.below hs4.below).at (i := j) (u := .int .u8 (fU x)) (by simp [bytesOf, hx.out])
        simp only [Value.slice.injEq, Option.some.injEq, Addr.mk.injEq] at e
        obtain ⟨⟨rfl, rfl, -⟩, -, -⟩ := e
        exact h
      have hconv : (convert 55 9 (.slice (some ⟨w4.heap.size, 0, none⟩) 1 1)).run Try.prog (w4.alloc (.cells #[.int .u8 (fU x)] 5)) = .ok (.string (fS x)) (w4.alloc (.cells #[.int .u8 (fU x)] 5)) :=
        run_convert_bytes_back _ _ _ 5 _ 1 [x] Try.underlying55 Try.underlying5 Try.underlying9 (fun i hi => by
          have : i = 0 := by simp at hi; omega
          subst this
          rw [add0, World.cell?_alloc_new]
          rfl)
      have hs5 := hs4.more ((Below.refl _ _).alloc (Nat.le_refl _) (.cells #[.int .u8 (fU x)] 5))
      have hi2 := hs5.id2 x hln
      rw [← hts.out, hnum.out.2.1] at hi2
      replace hi2 := Lib.hid hi2
      clear hi1 hs4 hs5
      go_wp2_with fail
      refine hi2.out.mono ?_
      rintro e w6 ⟨rfl, hs6⟩
      have hc6 : w6.cell? ⟨b, off + j, none⟩ = some (.int .u8 (fU x)) := by
        obtain ⟨p, o, cp, e, _, h⟩ := (hs.below hs6.below).at (i := j) (u := .int .u8 (fU x)) (by simp [bytesOf, hx.out])
        simp only [Value.slice.injEq, Option.some.injEq, Addr.mk.injEq] at e
        obtain ⟨⟨rfl, rfl, -⟩, -, -⟩ := e
        exact h
      have hi3 : Calls Try.prog 27 #[.pointer (some ⟨m3 + 1, 0, none⟩), .agg #[.int .u8 (fU x), .int .u8 7]] w6 fun e w' => e = .returned (.int .i64 (place (keysOf (l.take (j + 1))) x)) ∧ Tri w w' (w.heap.size + 1) w.heap.size (m2 + 1) m2 (m3 + 1) m3 (l.take (j + 1)) (l.take (j + 1)) (l.take (j + 1)) := by
        have h := hs6.id3 x hln
        rw [← hts.out, hnum.out.2.2] at h
        exact h
      replace hi3 := Lib.hid hi3
      clear hi2 hs6 hconv
      go_wp2_with fail
      refine hi3.out.mono ?_
      rintro e w7 ⟨rfl, hs7⟩
      go_wp2_with fail
      go_roundw
      case rel => exact ⟨j + 1, by omega, by go_num, hs7⟩
      case measure => simp [intOf]; omega
    · have hjl : j = l.length := by omega
      subst hjl
      rw [List.take_length] at hst
      have hlo := Lib.hid hst.below
      obtain ⟨v1, v2, v3, B1, B2, B3, T1, T2, T3, _, _, _, _⟩ := hst
      have c1 := U8.len_any T1
      have c2 := Str.len_any T2
      have c3 := Arr.len_any T3
      rw [keysOf_map fU fU_inj, List.length_map] at c1
      rw [keysOf_map fS fS_inj, List.length_map] at c2
      rw [keysOf_map fA fA_inj, List.length_map] at c3
      replace c1 := Lib.hid c1
      replace c2 := Lib.hid c2
      replace c3 := Lib.hid c3
      clear T1 T2 T3
      go_wp2_with (first
        | (go_at_call 28; refine c1.out.mono ?_; rintro e w9 ⟨rfl, rfl⟩)
        | (go_at_call 17; refine c2.out.mono ?_; rintro e w9 ⟨rfl, rfl⟩)
        | (go_at_call 29; refine c3.out.mono ?_; rintro e w9 ⟨rfl, rfl⟩)
        | (go_at_call 8; refine (Str.wakes_any _).mono ?_; rintro e w9 ⟨rfl, hb9⟩))
      go_ret
      exact ⟨rfl, hlo.out.trans (hb9.mono hlo.out.size)⟩

set_option maxRecDepth 100000 in
theorem kinds_great {s : Value} {l : List UInt8} {w : World} (hs : Rd w s (bytesOf l)) (hlen : 200 < l.length) (hm : l.length ≤ maxLen) :
    Calls Try.prog 7 #[s] w fun e w' => e = .returned (.bool true) ∧ Below w.heap.size w w' := by
  have hbl : (bytesOf l).length = l.length := by simp [bytesOf]
  obtain ⟨a, c, rfl⟩ := hs.form
  rw [hbl]
  clear hs hbl
  unfold maxLen at hm
  go_enter Try.func7, Try.ntmps7
  go_wp2_with (go_at_call 8; refine (Str.wakes_any _).mono ?_; rintro e w' ⟨rfl, hb⟩)
  go_ret
  exact ⟨rfl, hb⟩
end Go.Proofs.Ytdeoclapamknfaa
