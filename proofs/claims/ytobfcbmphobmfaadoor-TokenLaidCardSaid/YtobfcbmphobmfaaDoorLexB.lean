/- The library's calls that the lexer makes, and put: a word more. -/
import Derived.Test.YtobfcbmphobmfaaDoorLexS
import Derived.Test.YtobfcbmphobmfaaDoorShelf
import Derived.Lib.SmallJoins
import Derived.Deep.RegionLaw
import Derived.Deep.AppendLies
namespace Go.Proofs.YtobfcbmphobmfaaDoor
open Go.RowKit Go.Shelf

theorem index_eq : ∀ (l : List UInt8) (c : UInt8), decide (Lib.indexByte l c ≥ 0) = decide (c ∈ l)
  | [], c => by simp [Lib.indexByte]
  | b :: l, c => by
    have ih := index_eq l c
    rw [decide_eq_decide] at ih ⊢
    unfold Lib.indexByte
    by_cases h : b = c
    · simp [h]
    · have h1 : (b == c) = false := by simpa using h
      rw [h1]
      simp only [Bool.false_eq_true, if_false, List.mem_cons]
      rw [← ih]
      have h2 : -1 ≤ Lib.indexByte l c := by
        clear ih h h1
        induction l with
        | nil => simp [Lib.indexByte]
        | cons a l ih =>
          unfold Lib.indexByte
          split
          · omega
          · split
            · omega
            · omega
      by_cases h3 : Lib.indexByte l c = -1
      · rw [h3]; simp; exact fun e => h e.symm
      · have h4 : (Lib.indexByte l c == -1) = false := by simpa using h3
        rw [h4]
        simp only [Bool.false_eq_true, if_false]
        constructor
        · intro _; right; omega
        · rintro (e | _)
          · exact absurd e.symm h
          · omega

section
variable {w w' : World} {lb ln cl i : Nat} {s : ByteArray} {v : Value}

theorem sign_any (b : UInt8) (w : World) : Calls Tryd.prog 26 #[.string ⟨#[61, 44, 58, 40, 41, 123, 125, 91, 93]⟩, .int .u8 b.toNat] w fun e w' => ∃ n : Int, e = .returned (.int .i64 n) ∧ decide (n ≥ 0) = signB b ∧ w' = w := by
  refine (Any.strings_IndexByte Tryd.lays137 ⟨#[61, 44, 58, 40, 41, 123, 125, 91, 93]⟩ (b.toNat : Int) w).mono ?_
  rintro e w' ⟨rfl, rfl⟩
  refine ⟨_, rfl, ?_, rfl⟩
  rw [index_eq]
  unfold signB signs
  rw [show ((b.toNat : Int).toNat.toUInt8) = b from by simp]

theorem clone_any (t : ByteArray) (w : World) (h : t.size ≤ 2000000) : Calls Tryd.prog 28 #[.string t] w fun e w' => e = .returned (.string t) ∧ Below w.heap.size w w' := by
  have hc := Lib.hid (Any.stringslite_Clone Tryd.laysM316 t w (by omega))
  go_enter Tryd.func28, Tryd.ntmps28
  go_wp2_with fail
  refine hc.out.mono ?_
  rintro e w' ⟨rfl, hb⟩
  go_wp2_with fail
  go_ret
  exact ⟨rfl, hb⟩
theorem atoi_any (t : ByteArray) (n : Int) (w : World) (hl : t.size ≤ 9) (h : Lib.atoi t.data.toList = some n) : Calls Tryd.prog 29 #[.string t] w fun e w' => e = .returned (.tuple #[.int .i64 n, .nilIface]) ∧ Below w.heap.size w w' := by
  refine (Any.strconv_Atoi Tryd.lays172 t n (by omega) h w).mono ?_
  rintro e w' ⟨rfl, u, rfl⟩
  exact ⟨rfl, Joins.below_bytesWorld _ _ _ _ (Nat.le_refl _)⟩

theorem infoTok : (Tryd.prog.info? 34).map (fun i => (i.zero, i.size, i.bytes)) = some (some (.agg #[.int .u8 0, .string ⟨#[]⟩, .int .i64 0, .int .i64 0, .int .i64 0]), 5, 48) := by kernel_rfl

/-- A word's cells. -/
def cellsT (t : Tok) : List Value := [.int .u8 t.kind, .string ⟨t.text.toArray⟩, .int .i64 t.num, .int .i64 t.line, .int .i64 t.col]
/-- The lexer with its words: a row of its own, from block B on. -/
structure LexW (B : Nat) (w : World) (lb : Nat) (s : ByteArray) (ln cl i : Nat) (v : Value) (out : List Tok) : Prop where
  at' : LexAt w lb s ln cl i v
  row : w.ownsRow B 34 5 v out.length (out.flatMap cellsT)
  low : lb < B
  top : B ≤ w.heap.size

theorem put_end {B gg cap' : Nat} {O : Obj} {w1 w2 : World} {out : List Tok} {t : Tok} (h : LexW B w lb s ln cl i v out) (hb : Below w.heap.size w w1) (hgrow : (w1.alloc O).grownBy w2 v.ownBlock)
    (hown : w2.ownsRow B 34 5 (.slice (some ⟨gg, 0, none⟩) (out.length + 1) cap') (out.length + 1) (out.flatMap cellsT ++ cellsT t)) (hat : v.ownBlock = some gg ∨ gg = w1.heap.size + 1) :
    LexW B (w2.setCell ⟨lb, 4, none⟩ (.slice (some ⟨gg, 0, none⟩) (out.length + 1) cap')) lb s ln cl i (.slice (some ⟨gg, 0, none⟩) (out.length + 1) cap') (out ++ [t]) ∧
      Touch w (w2.setCell ⟨lb, 4, none⟩ (.slice (some ⟨gg, 0, none⟩) (out.length + 1) cap')) (fun k => k = lb ∨ v.ownBlock = some k) := by
  have hlow := h.low
  have htop := h.top
  have hne : v.ownBlock ≠ some lb := fun e => by have := (h.row.lt lb e).1; omega
  have ht1 : Touch w w1 (fun k => v.ownBlock = some k) := Touch.of_below hb _
  have ht2 := (ht1.alloc O).trans ((Touch.of_grown hgrow (S := fun k => v.ownBlock = some k) (fun k e => e)))
  have hL := h.at'.touch ht2 hne
  have hlt := h.at'.lt
  have hz := hb.size
  have hgl : gg ≠ lb := by
    rintro rfl
    rcases hat with e | e
    · exact hne e
    · omega
  have ht3 : Touch w w2 (fun k => k = lb ∨ v.ownBlock = some k) := ht2.mono (fun k _ e => Or.inr e)
  refine ⟨⟨?_, ?_, hlow, ?_⟩, ht3.setCell (a := ⟨lb, 4, none⟩) (fun _ => Or.inl rfl) _⟩
  · have h1 := blk_set (i := 4) (.slice (some ⟨gg, 0, none⟩) (out.length + 1) cap') hL
    unfold LexAt
    rw [h1]
    rfl
  · rw [List.flatMap_append, List.length_append]
    have h2 := ownsRow_touch (S := fun k => k = lb) hown ((Touch.refl w2 (fun k => k = lb)).setCell (a := ⟨lb, 4, none⟩) (fun _ => rfl) (.slice (some ⟨gg, 0, none⟩) (out.length + 1) cap')) (fun b hb e => by
      simp [Value.ownBlock] at hb
      omega)
    simpa using h2
  · have := ht2.size
    simp
    omega

set_option maxHeartbeats 2000000 in
theorem put_any {B l c k n : Nat} {out : List Tok} {t : List UInt8} (h : LexW B w lb s ln cl i v out) (ho : out.length ≤ 2000000) (ht : t.length ≤ 2000000) :
    Calls Tryd.prog 22 #[.pointer (some ⟨lb, 0, none⟩), .int .u8 k, .agg #[.int .i64 l, .int .i64 c], .string ⟨t.toArray⟩, .int .i64 n] w fun e w' => e = .returned (.tuple #[]) ∧ ∃ v', LexW B w' lb s ln cl i v' (out ++ [⟨k, t, n, l, c⟩]) ∧ Touch w w' (fun k => k = lb ∨ v.ownBlock = some k) := by
  obtain ⟨i0, hi0, hz0, hz1, hz2⟩ := info_parts infoTok
  have c4 := h.at'.c4
  go_enter Tryd.func22, Tryd.ntmps22
  have hb0 : Below w.heap.size w (w.alloc (.cells #[.int .i64 l, .int .i64 c] 24)) := (Below.refl _ _).alloc (Nat.le_refl _) _
  have hcl := Lib.hid (clone_any ⟨t.toArray⟩ (w.alloc (.cells #[.int .i64 l, .int .i64 c] 24)).drew (by show t.toArray.size ≤ 2000000; simpa using ht))
  have hrow := h.row
  have hlow := h.low
  have htop := h.top
  have hlb := h.at'.lt
  go_wp2_with fail
  generalize hx : w.alloc (.cells #[.int .i64 l, .int .i64 c] 24) = wx at *
  have hL := h.at'.below hb0
  have hrow1 := ownsRow_touch hrow (Touch.of_below hb0 (fun _ => False)) (fun _ _ h => h)
  have c4 := hL.c4
  have s0 : wx.cell? ⟨w.heap.size, 0, none⟩ = some (.int .i64 l) := by rw [← hx]; simp
  have s1 : wx.cell? ⟨w.heap.size, 1, none⟩ = some (.int .i64 c) := by rw [← hx]; simp
  have hxz : wx.heap.size = w.heap.size + 1 := by rw [← hx]; simp
  replace hxz := Lib.hid hxz
  have hxle : w.heap.size < wx.heap.size := by have := hxz.out; omega
  have hne : v.ownBlock ≠ some lb := fun e => by have := (hrow.lt lb e).1; omega
  clear hx hxz
  go_region_law (first
    | (go_simp; go_at_call 28; refine hcl.out.mono ?_; rintro e w1 ⟨rfl, hb1⟩; have r4 := (hb1.cell (p := ⟨lb, 4, none⟩) (by simp; omega)).trans c4; have r0 := (hb1.cell (p := ⟨w.heap.size, 0, none⟩) hxle).trans s0; have r1 := (hb1.cell (p := ⟨w.heap.size, 1, none⟩) hxle).trans s1; have hrow2 := ownsRow_touch hrow1.drew (Touch.of_below hb1 (fun _ => False)) (fun _ _ h => h); have hzw : wx.heap.size ≤ w1.heap.size := hb1.size; have q4 : ∀ o, (w1.alloc o).cell? ⟨lb, 4, none⟩ = some v := fun o => (World.cell?_alloc_past _ _ _ (by omega)).trans r4; have g4 : ∀ o, (w1.alloc o).frozen? ⟨lb, 4, none⟩ = false := fun o => (World.frozen?_alloc_past _ _ _ (by omega)).trans ((hb1.frozen (p := ⟨lb, 4, none⟩) (by simp; omega)).trans (hL.fr 4)); go_simp)
    | (refine step_append_lies _ (by rfl) _ _ _ (by rfl) B 34 i0 _ 5 48 Tryd.underlying22 hi0 hz0 hz1 hz2 rfl (by omega) v out.length _ (by rfl) (hrow2.alloc _)
            ⟨w1.heap.size, 0, none⟩ 1 1 [.int .u8 k, .string ⟨t.toArray⟩, .int .i64 n, .int .i64 l, .int .i64 c] (by rfl) (by rfl) (World.news_of_block (cs := #[.int .u8 k, .string ⟨t.toArray⟩, .int .i64 n, .int .i64 l, .int .i64 c]) (t := 34) (fr := (0, 0)) (heap_alloc_new w1 _)) (by simp [Value.oneCell'])
            (by omega) (by unfold maxLen; omega) (by omega) (by simp; omega) (w1.heap.size + 1) (by simp) ?_; intro gg cap' w2 hown2 hgrow hat hlt2; have t4 : w2.cell? ⟨lb, 4, none⟩ = some v := (hgrow.cell_far ⟨lb, 4, none⟩ (by simp; omega) (Ne.symm hne)).trans (q4 _); have u4 : w2.frozen? ⟨lb, 4, none⟩ = false := (hgrow.frozen_far ⟨lb, 4, none⟩ (by simp; omega) (Ne.symm hne)).trans (g4 _)))
  all_goals
    have hzb : Below w.heap.size w w1 := (hb0.mono (Nat.le_refl _)).trans (Below.trans (b := wx.drew) ⟨rfl, rfl, rfl, Nat.le_refl _, fun _ _ => rfl⟩ (hb1.mono (Nat.le_of_lt hxle)))
    have hres := Lib.hid (put_end (t := ⟨k, t, n, l, c⟩) h hzb hgrow hown2 hat)
    clear h hrow hrow1 hrow2 hL hb0 hb1 hcl r4 r0 r1 s0 s1 q4 g4 hown2 hgrow hat c4
    go_wp2_with fail
    go_end0
    exact ⟨rfl, _, hres.out⟩
end
end Go.Proofs.YtobfcbmphobmfaaDoor
