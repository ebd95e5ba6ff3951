/- The walks of the document's own table: a list of texts, asked from its beginning. -/
import Derived.Test.YtdeoclapamknfaaStrC
namespace Go.Proofs.Ytdeoclapamknfaa
open Go.RowKit Go.Maps Go.WideMaps Go.WideShapes Str

namespace Ref
/-- The table is a struct of one slice. -/
structure RTab (A B : Nat) (w : World) (rb : Nat) (v : Value) (ks : List ByteArray) : Prop where
  blk : w.heap[rb]? = some (.cells #[v] 29 (0, 0))
  row : w.ownsRow B 9 1 v ks.length (ks.map Value.string)
  low : A ≤ rb
  hi : rb < B
  top : B ≤ w.heap.size

def ROwn (rb : Nat) (v : Value) (k : Nat) : Prop := k = rb ∨ v.ownBlock = some k

variable {A B : Nat} {w : World} {rb : Nat} {v : Value} {ks : List ByteArray}

theorem RTab.lt (R : RTab A B w rb v ks) : ∀ k, ROwn rb v k → A ≤ k ∧ k < w.heap.size := by
  rintro k (rfl | h)
  · exact ⟨R.low, Nat.lt_of_lt_of_le R.hi R.top⟩
  · exact ⟨Nat.le_trans R.low (Nat.le_trans (Nat.le_of_lt R.hi) (R.row.lt k h).1), (R.row.lt k h).2⟩

theorem RTab.kept {w' : World} {Q : Nat → Prop} (R : RTab A B w rb v ks) (h : Touch w w' Q) (hd : ∀ k, ROwn rb v k → ¬ Q k) : RTab A B w' rb v ks := by
  have hb : ∀ k, ROwn rb v k → w'.heap[k]? = w.heap[k]? := fun k hk => h.block k (R.lt k hk).2 (hd k hk)
  refine ⟨(hb rb (Or.inl rfl)).trans R.blk, ?_, R.low, R.hi, Nat.le_trans R.top h.size⟩
  obtain ⟨h1, h2⟩ := R.row
  refine ⟨h1, or_map h2 id ?_⟩
  rintro ⟨g, cap, cur, rfl, h3, h4, h5⟩
  exact ⟨g, cap, cur, rfl, h3, (hb g (Or.inr rfl)).trans h4, h5⟩

theorem RTab.c0 (R : RTab A B w rb v ks) : w.cell? ⟨rb, 0, none⟩ = some v := blk_cell R.blk 0
theorem RTab.f0 (R : RTab A B w rb v ks) : w.frozen? ⟨rb, 0, none⟩ = false := by simp [World.frozen?, R.blk]
theorem RTab.form (R : RTab A B w rb v ks) : ∃ a cap, v = .slice a ks.length cap := by
  rcases R.row.2 with ⟨rfl, h⟩ | ⟨g, cap, cur, rfl, _⟩
  · exact ⟨none, 0, by rw [h]⟩
  · exact ⟨_, cap, rfl⟩
theorem RTab.cell (R : RTab A B w rb v ks) {i : Nat} {k : ByteArray} (hi : ks[i]? = some k) : ∃ g cap, v = .slice (some ⟨g, 0, none⟩) ks.length cap ∧ w.cell? ⟨g, i, none⟩ = some (.string k) := by
  obtain ⟨g, cap, e⟩ := row_form R.row (by have := (List.getElem?_eq_some_iff.1 hi).1; omega)
  refine ⟨g, cap, e, ?_⟩
  have := R.row.cells (g := g) (by rw [e]; rfl) i (.string k) (by simp [hi])
  rwa [add0] at this

theorem toList_eqb {a b : ByteArray} (h : a = b) : (a.toList == b.toList) = true := by rw [h]; exact beq_self_eq_true _

/-- What is asked from the beginning on: found at its place, or nowhere. -/
theorem find_any (R : RTab A B w rb v ks) (k : ByteArray) (hlen : ks.length ≤ 1000000) :
    Calls Try.prog 13 #[.pointer (some ⟨rb, 0, none⟩), .string k] w fun e w' => (∃ i : Nat, k ∈ ks ∧ i = place ks k ∧ e = .returned (.tuple #[.int .i64 i, .bool true]) ∨ k ∉ ks ∧ i = 0 ∧ e = .returned (.tuple #[.int .i64 i, .bool false])) ∧ w = w' := by
  obtain ⟨a, cap, rfl⟩ := R.form
  have c0 := R.c0
  go_enter Try.func13, Try.ntmps13
  go_wp2
  go_loop [6] (fun i => ∃ j : Nat, j ≤ ks.length ∧ i = .int .i64 j ∧ ∀ t, t < j → ks[t]? ≠ some k) (fun i => ks.length - (intOf i).toNat)
  case atStart => exact ⟨0, Nat.zero_le _, rfl, fun t ht => by omega⟩
  case round =>
    obtain ⟨j, hj, rfl, ht⟩ := hrel
    replace ht := Lib.hid ht
    by_cases hlt : j < ks.length
    · obtain ⟨x, hx⟩ : ∃ x, ks[j]? = some x := ⟨_, List.getElem?_eq_getElem hlt⟩
      obtain ⟨g, cap', e, hc⟩ := R.cell hx
      simp only [Value.slice.injEq] at e
      obtain ⟨rfl, -, rfl⟩ := e
      replace hx := Lib.hid hx
      by_cases hxk : x = k
      · have hb := toList_eqb hxk
        go_wp2
        go_ret2
        refine ⟨⟨j, Or.inl ⟨?_, ?_, rfl⟩⟩, rfl⟩
        · exact List.mem_of_getElem? (hxk ▸ hx.out)
        · exact (place_first (hxk ▸ hx.out) ht.out).symm
      · have hb := toList_ne hxk
        go_wp2
        go_round
        case rel => exact ⟨j + 1, by omega, by go_num, fun t ht2 => by
          rcases Nat.lt_or_ge t j with h | h
          · exact ht.out t h
          · have : t = j := by omega
            subst this
            rw [hx.out]
            exact fun e => hxk (Option.some.inj e)⟩
        case measure => simp [intOf]; omega
    · have hjl : j = ks.length := by omega
      subst hjl
      go_wp2
      go_ret2
      refine ⟨⟨0, Or.inr ⟨fun h => ?_, rfl, rfl⟩⟩, rfl⟩
      obtain ⟨t, ht1, ht2⟩ := List.getElem_of_mem h
      exact ht.out t ht1 (by rw [List.getElem?_eq_getElem ht1, ht2])

theorem find_hit (R : RTab A B w rb v ks) {k : ByteArray} (h : k ∈ ks) (hlen : ks.length ≤ 1000000) :
    Calls Try.prog 13 #[.pointer (some ⟨rb, 0, none⟩), .string k] w fun e w' => e = .returned (.tuple #[.int .i64 (place ks k), .bool true]) ∧ w = w' := by
  refine (find_any R k hlen).mono ?_
  rintro e w' ⟨⟨i, ⟨_, rfl, rfl⟩ | ⟨h', _⟩⟩, rfl⟩
  · exact ⟨rfl, rfl⟩
  · exact absurd h h'
theorem find_miss (R : RTab A B w rb v ks) {k : ByteArray} (h : k ∉ ks) (hlen : ks.length ≤ 1000000) :
    Calls Try.prog 13 #[.pointer (some ⟨rb, 0, none⟩), .string k] w fun e w' => e = .returned (.tuple #[.int .i64 0, .bool false]) ∧ w = w' := by
  refine (find_any R k hlen).mono ?_
  rintro e w' ⟨⟨i, ⟨h', _⟩ | ⟨_, rfl, rfl⟩⟩, rfl⟩
  · exact absurd h' h
  · exact ⟨rfl, rfl⟩

theorem key_out (R : RTab A B w rb v ks) {i : Int} (hi : i < 0 ∨ (ks.length : Int) ≤ i) :
    Calls Try.prog 15 #[.pointer (some ⟨rb, 0, none⟩), .int .i64 i] w fun e w' => e = .returned (.tuple #[.string ⟨#[]⟩, .int .i64 6]) ∧ w = w' := by
  obtain ⟨a, cap, rfl⟩ := R.form
  have c0 := R.c0
  clear R
  rcases hi with h | h
  · go_enter Try.func15, Try.ntmps15
    go_wp2
    go_ret2
    exact ⟨rfl, rfl⟩
  · have h0 : ¬ i < 0 := by omega
    go_enter Try.func15, Try.ntmps15
    go_wp2
    go_ret2
    exact ⟨rfl, rfl⟩
theorem key_hit (R : RTab A B w rb v ks) {i : Nat} {k : ByteArray} (hi : ks[i]? = some k) :
    Calls Try.prog 15 #[.pointer (some ⟨rb, 0, none⟩), .int .i64 i] w fun e w' => e = .returned (.tuple #[.string k, .int .i64 0]) ∧ w = w' := by
  have hlt : i < ks.length := (List.getElem?_eq_some_iff.1 hi).1
  obtain ⟨g, cap, rfl, hc⟩ := R.cell hi
  have c0 := R.c0
  clear R hi
  go_enter Try.func15, Try.ntmps15
  go_wp2
  go_ret2
  exact ⟨rfl, rfl⟩

def RGrown (A B : Nat) (w w' : World) (rb : Nat) (v : Value) (ks : List ByteArray) : Prop :=
  ∃ v', RTab A B w' rb v' ks ∧ Touch w w' (ROwn rb v) ∧ ∀ b, v'.ownBlock = some b → v.ownBlock = some b ∨ w.heap.size ≤ b

theorem id_hit (R : RTab A B w rb v ks) {k : ByteArray} (h : k ∈ ks) (hlen : ks.length ≤ 1000000) :
    Calls Try.prog 10 #[.pointer (some ⟨rb, 0, none⟩), .string k] w fun e w' => e = .returned (.int .i64 (place ks k)) ∧ w = w' := by
  have hnot : ∀ (x : Bool) (w : World), (Op.unary .not (.bool x)).run Try.prog w = .ok (.bool (!x)) w := fun _ _ => rfl
  go_enter Try.func10, Try.ntmps10
  go_wp2_with (go_at_call 13; refine (find_hit R h hlen).mono ?_; rintro e w' ⟨rfl, rfl⟩)
  go_ret
  exact ⟨rfl, rfl⟩

theorem id_new (R : RTab A B w rb v ks) {k : ByteArray} (h : k ∉ ks) (hlen : ks.length ≤ 1000000) :
    Calls Try.prog 10 #[.pointer (some ⟨rb, 0, none⟩), .string k] w fun e w' => e = .returned (.int .i64 ks.length) ∧ RGrown A B w w' rb v (ks ++ [k]) := by
  have hnot : ∀ (x : Bool) (w : World), (Op.unary .not (.bool x)).run Try.prog w = .ok (.bool (!x)) w := fun _ _ => rfl
  obtain ⟨i0, hi0, hz0, hz1, hz2⟩ := info_parts infoK
  obtain ⟨a, cap, rfl⟩ := R.form
  have c0 := R.c0
  have f0 := R.f0
  have hrow := R.row
  go_enter Try.func10, Try.ntmps10
  go_wp2_with (first | (go_at_call 13; refine (find_miss R h hlen).mono ?_; rintro e w' ⟨rfl, rfl⟩) | (at_builtin; refine wpList_append_own_at _ rfl _ _ 22 rfl B 9 i0 (.string ⟨#[]⟩) 1 16 Try.underlying22 hi0 hz0 hz1 hz2 rfl (by decide) _ _ _ rfl (hrow.alloc _) ⟨w.heap.size, 0, none⟩ 1 1 [.string k] rfl rfl ?c1 ?c2 ?c3 ?c4 ?c5 ?_))
  case c1 => exact cell_one_new _ _ _
  case c2 => intro u hu; simp at hu; subst hu; rfl
  case c3 => unfold maxLen; omega
  case c4 => omega
  case c5 => have := R.top; simp; omega
  intro v' w1 hown' hgrow _ hloc
  obtain ⟨g', cap', hv'⟩ := row_form hown' (Nat.succ_pos _)
  subst hv'
  have hrb : rb < w.heap.size := (R.lt rb (Or.inl rfl)).2
  have hne1 : some rb ≠ Value.ownBlock (.slice a ks.length cap) := fun e => by have := (R.row.lt rb e.symm).1; have := R.hi; omega
  have hb1 : w1.heap[rb]? = some (.cells #[.slice a ks.length cap] 29 (0, 0)) := by
    rw [hgrow.block rb (by simp; omega) hne1, Below.heap_alloc _ _ _ hrb]; exact R.blk
  have hb2 := blk_set (i := 0) (.slice (some ⟨g', 0, none⟩) (ks.length + 1) cap') hb1
  have c12 : w1.cell? ⟨rb, 0, none⟩ = some (.slice a ks.length cap) := blk_cell hb1 0
  have f12 : w1.frozen? ⟨rb, 0, none⟩ = false := by simp [World.frozen?, hb1]
  have c22 : (w1.setCell ⟨rb, 0, none⟩ (.slice (some ⟨g', 0, none⟩) (ks.length + 1) cap')).cell? ⟨rb, 0, none⟩ = some (.slice (some ⟨g', 0, none⟩) (ks.length + 1) cap') := blk_cell hb2 0
  have hown'' := ownsRow_setCell_below hown' (a := ⟨rb, 0, none⟩) R.hi (.slice (some ⟨g', 0, none⟩) (ks.length + 1) cap')
  go_wp2_with fail
  go_ret
  refine ⟨by simp, .slice (some ⟨g', 0, none⟩) (ks.length + 1) cap', ⟨hb2, ?_, R.low, R.hi, ?_⟩, ?_, ?_⟩
  · simpa using hown''
  · have := hgrow.size; have := R.top; simp at *; omega
  · exact (((Touch.refl w _).alloc _).trans (Touch.of_grown hgrow (fun b e => Or.inr e))).trans ((Touch.refl w1 _).setCell (fun _ => Or.inl rfl) _)
  · intro b e
    rcases hloc with h | h
    · exact Or.inl (h ▸ e)
    · right
      rw [h] at e
      simp at e
      omega
end Ref
end Go.Proofs.Ytdeoclapamknfaa
