/- Lex: every text's words. -/
import Derived.Test.YtobfcbmphobmfaaDoorLexO
namespace Go.Proofs.YtobfcbmphobmfaaDoor
open Go.RowKit Go.Shelf

/-- A slice that reads as these words, in new memory. -/
def RowT (w w' : World) (v : Value) (out : List Tok) : Prop := w'.ownsRow w.heap.size 34 5 v out.length (out.flatMap cellsT)
/-- What Lex answers. -/
def LexPost (w : World) (r : Except Bad (List Tok)) (e : Ending) (w' : World) : Prop :=
  match r with
  | .error (l, c, er) => e = .returned (.tuple #[.slice none 0 0, .agg #[.int .i64 l, .int .i64 c], .int .i64 er]) ∧ Below w.heap.size w w'
  | .ok out => (∃ v, e = .returned (.tuple #[v, .agg #[.int .i64 0, .int .i64 0], .int .i64 0]) ∧ RowT w w' v out) ∧ Below w.heap.size w w'

section
variable {w w' : World} {s : ByteArray}

theorem own_mono {b1 b2 : Nat} {e : TypeId} {size n : Nat} {v : Value} {us : List Value} (h : w.ownsRow b1 e size v n us) (hb : b2 ≤ b1) : w.ownsRow b2 e size v n us := by
  refine ⟨h.1, h.2.imp id ?_⟩
  rintro ⟨g, cap, cur, e1, h1, h2⟩
  exact ⟨g, cap, cur, e1, Nat.le_trans hb h1, h2⟩
theorem row_set {out : List Tok} {gg n c : Nat} (h : RowT w w' (.slice (some ⟨gg, 0, none⟩) n c) out) (hne : gg ≠ w.heap.size) (x y : Value) : RowT w ((w'.setCell ⟨w.heap.size, 0, none⟩ x).setCell ⟨w.heap.size, 1, none⟩ y) (.slice (some ⟨gg, 0, none⟩) n c) out :=
  ownsRow_touch (S := fun k => k = w.heap.size) h (((Touch.refl w' (fun k => k = w.heap.size)).setCell (a := ⟨w.heap.size, 0, none⟩) (fun _ => rfl) _).setCell (a := ⟨w.heap.size, 1, none⟩) (fun _ => rfl) _) (fun b hb e => by simp [Value.ownBlock] at hb; omega)
theorem rest_all (s : ByteArray) : rest s 0 = s.data.toList := by simp [rest]
theorem rest_drop (s : ByteArray) (i k : Nat) : (rest s i).drop k = rest s (i + k) := by unfold rest; rw [List.drop_drop]
theorem rest_ne {i : Nat} (h : i < s.size) : rest s i ≠ [] := by rw [rest_at h]; simp
theorem step_bound {l : List UInt8} {ln cl k ln' cl' : Nat} {t : Option Tok} (h : stepL l ln cl = .ok (k, ln', cl', t)) : ln' ≤ ln + k ∧ cl' ≤ cl + k + 1 := by
  have hp := step_pos h
  unfold stepL at h
  split at h
  · cases h
  · split at h
    · injection h with h; injection h with h1 h; injection h with h2 h; injection h with h3 h; omega
    · split at h
      · injection h with h; injection h with h1 h; injection h with h2 h; injection h with h3 h; omega
      · split at h
        · injection h with h; injection h with h1 h; injection h with h2 h; injection h with h3 h; omega
        · split at h
          · injection h with h; injection h with h1 h; injection h with h2 h; injection h with h3 h; omega
          · split at h
            · split at h
              · cases h
              · injection h with h; injection h with h1 h; injection h with h2 h; injection h with h3 h; omega
            · split at h
              · injection h with h; injection h with h1 h; injection h with h2 h; injection h with h3 h; omega
              · cases h

theorem step_err {l : List UInt8} {ln cl a b er : Nat} (h : stepL l ln cl = .error (a, b, er)) : er ≠ 0 := by
  unfold stepL at h
  split at h
  · injection h with h; injection h with h1 h; injection h with h2 h; omega
  · split at h
    · cases h
    · split at h
      · cases h
      · split at h
        · cases h
        · split at h
          · cases h
          · split at h
            · split at h
              · injection h with h; injection h with h1 h; injection h with h2 h; omega
              · cases h
            · split at h
              · cases h
              · injection h with h; injection h with h1 h; injection h with h2 h; omega

set_option maxHeartbeats 4000000 in
theorem lex_long (hs : 1048576 < s.size) (h63 : s.size ≤ maxLen) : Calls Tryd.prog 8 #[.string s] w fun e w' => e = .returned (.tuple #[.slice none 0 0, .agg #[.int .i64 0, .int .i64 0], .int .i64 2]) ∧ Below w.heap.size w w' := by
  unfold maxLen at h63
  have d1 : decide ((s.size : Int) > 1048576) = true := by simp; omega
  go_enter Tryd.func8, Tryd.ntmps8
  go_wp2_with fail
  refine bodyPost_ret (v := .tuple #[.slice none 0 0, .agg #[.int .i64 0, .int .i64 0], .int .i64 2]) (by simp [results, Tryd.results8, go_sem, *]) rfl ⟨rfl, ?_⟩
  exact (Below.refl _ _).alloc (Nat.le_refl _) _

set_option maxHeartbeats 4000000 in
theorem lex_any (hs : s.size ≤ 1048576) : Calls Tryd.prog 8 #[.string s] w fun e w' => LexPost w (lex s.data.toList 1 1) e w' := by
  have d1 : decide ((s.size : Int) > 1048576) = false := by simp; omega
  go_enter Tryd.func8, Tryd.ntmps8
  go_wp2_with fail
  have hb0 : Below w.heap.size w ((w.alloc (.cells #[.int .i64 0, .int .i64 0] 24)).alloc (.cells #[.int .i64 1, .int .i64 1, .int .i64 0, .string s, .slice none 0 0] 49)) := ((Below.refl _ _).alloc (Nat.le_refl _) _).alloc (by simp) _
  have hr0 : ((w.alloc (.cells #[.int .i64 0, .int .i64 0] 24)).alloc (.cells #[.int .i64 1, .int .i64 1, .int .i64 0, .string s, .slice none 0 0] 49)).heap[w.heap.size]? = some (.cells #[.int .i64 0, .int .i64 0] 24 (0, 0)) := by
    rw [Below.heap_alloc _ _ _ (by simp)]
    exact heap_alloc_new w _
  have hW0 : LexW (w.heap.size + 2) ((w.alloc (.cells #[.int .i64 0, .int .i64 0] 24)).alloc (.cells #[.int .i64 1, .int .i64 1, .int .i64 0, .string s, .slice none 0 0] 49)) (w.heap.size + 1) s 1 1 0 (.slice none 0 0) [] := by
    refine ⟨?_, World.ownsRow_nil _ _ _ _, by omega, by simp⟩
    have := heap_alloc_new (w.alloc (.cells #[.int .i64 0, .int .i64 0] 24)) (.cells #[.int .i64 1, .int .i64 1, .int .i64 0, .string s, .slice none 0 0] 49)
    rwa [World.size_alloc] at this
  generalize ((w.alloc (.cells #[.int .i64 0, .int .i64 0] 24)).alloc (.cells #[.int .i64 1, .int .i64 1, .int .i64 0, .string s, .slice none 0 0] 49)) = wa at hb0 hr0 hW0 ⊢
  go_loopg [] s.size (fun k wr => ∃ (i ln cl : Nat) (v : Value) (out : List Tok), Hid (i + k = s.size ∧ lex s.data.toList 1 1 = sofar out (lex (rest s i) ln cl)) ∧ i ≤ s.size ∧ out.length ≤ i ∧ ln ≤ i + 1 ∧ cl ≤ 2 * i + 1 ∧ LexW (w.heap.size + 2) wr (w.heap.size + 1) s ln cl i v out ∧ wr.heap[w.heap.size]? = some (.cells #[.int .i64 0, .int .i64 0] 24 (0, 0)) ∧ Below w.heap.size w wr)
  case atStart => exact ⟨0, 1, 1, _, [], Lib.hid ⟨by omega, by rw [sofar_nil, rest_all]⟩, Nat.zero_le _, Nat.le_refl _, by omega, by omega, hW0, hr0, hb0⟩
  case round =>
    clear hW0 hr0 hb0
    obtain ⟨i, ln, cl, v, out, hx, hi, ho, hln, hcl, hW, hr, hb⟩ := hrel
    have c2 := hW.at'.c2
    have r0 := blk_cell hr 0
    have r1 := blk_cell hr 1
    simp at r0 r1
    have rf0 : wr.frozen? ⟨w.heap.size, 0, none⟩ = false := by simp [World.frozen?, hr]
    have rf1 : wr.frozen? ⟨w.heap.size, 1, none⟩ = false := by simp [World.frozen?, hr]
    by_cases hlt : i < s.size
    · have hn := Lib.hid (next_any hW hlt (by omega) (by omega) (by omega) (by omega))
      have i1 : (i : Int) < (s.size : Int) := by omega
      have hown : ∀ k, v.ownBlock = some k → w.heap.size + 2 ≤ k := fun k e => (hW.row.lt k e).1
      clear r0 r1 rf0 rf1
      go_wp2_with fail
      refine hn.out.mono ?_
      rintro e w2 (⟨l, c, er, hst, rfl, ht⟩ | ⟨k, ln2, cl2, t, v2, hst, rfl, hW2, ht⟩)
      · have hb2 : Below w.heap.size w w2 := hb.trans (ht.below hb.size (fun k hk e => by rcases e with rfl | e; omega; have := hown k e; omega))
        have hr2 := (ht.block w.heap.size (by have := (Array.getElem?_eq_some_iff.1 hr).1; exact this) (by rintro (e | e); omega; have := hown _ e; omega)).trans hr
        have her : ((er : Int) != 0) = true := by have := step_err hst; simp; omega
        have hres : lex s.data.toList 1 1 = .error (l, c, er) := by rw [hx.out.2, lex_bad (rest_ne hlt) hst]; rfl
        replace hst := Lib.hid hst
        replace hres := Lib.hid hres
        clear hn hW hr hb ht c2 hx
        have hlt2 : w.heap.size < w2.heap.size := (Array.getElem?_eq_some_iff.1 hr2).1
        have r0 := blk_cell hr2 0
        have r1 := blk_cell hr2 1
        simp at r0 r1
        have rf0 : w2.frozen? ⟨w.heap.size, 0, none⟩ = false := by simp [World.frozen?, hr2]
        have rf1 : w2.frozen? ⟨w.heap.size, 1, none⟩ = false := by simp [World.frozen?, hr2]
        go_wp2_with fail
        go_region
        all_goals
          go_wp2_with fail
          refine bodyPost_ret (v := .tuple #[.slice none 0 0, .agg #[.int .i64 l, .int .i64 c], .int .i64 er]) (by simp [results, Tryd.results8, go_sem, *]) rfl ?_
          unfold LexPost
          rw [hres.out]
          exact ⟨rfl, (((hb2.setCell (p := ⟨w.heap.size, 0, none⟩) (Nat.le_refl _) _).setCell (p := ⟨w.heap.size, 1, none⟩) (Nat.le_refl _) _).alloc (by simp; exact hb2.size) _).drew⟩
      · have hb2 : Below w.heap.size w w2 := hb.trans (ht.below hb.size (fun k hk e => by rcases e with rfl | e; omega; have := hown k e; omega))
        have hr2 := (ht.block w.heap.size (by have := (Array.getElem?_eq_some_iff.1 hr).1; exact this) (by rintro (e | e); omega; have := hown _ e; omega)).trans hr
        have hp := step_pos hst
        have hpb := step_bound hst
        have hrl : (rest s i).length = s.size - i := by unfold rest; simp
        have hres : lex s.data.toList 1 1 = sofar (out ++ t.toList) (lex (rest s (i + k)) ln2 cl2) := by rw [hx.out.2, lex_went (rest_ne hlt) hst, sofar_add, rest_drop]
        have hot : (out ++ t.toList).length ≤ i + k := by rw [List.length_append]; cases t <;> simp <;> omega
        have hxk := hx.out.1
        replace hres := Lib.hid hres
        clear hn hW hr hb ht c2 hx hst
        go_wp2_with fail
        have hWa := hW2.below ((Below.refl _ w2).alloc (Nat.le_refl _) (.cells #[.int .i64 0, .int .i64 0] 24))
        have hra := (Below.heap_alloc w2 (.cells #[.int .i64 0, .int .i64 0] 24) w.heap.size (Array.getElem?_eq_some_iff.1 hr2).1).trans hr2
        have hba := hb2.alloc hb2.size (.cells #[.int .i64 0, .int .i64 0] 24)
        go_roundg (gk - k)
        case rel => exact ⟨i + k, ln2, cl2, v2, _, Lib.hid ⟨by omega, hres.out⟩, by omega, hot, by omega, by omega, hWa, hra, hba⟩
        case measure => omega
    · have hie : i = s.size := by omega
      obtain ⟨i0, hi0, hz0, hz1, hz2⟩ := info_parts infoTok
      have hres : lex s.data.toList 1 1 = .ok (out ++ [⟨4, [], 0, ln, cl⟩]) := by rw [hx.out.2, rest_end (by omega), lex_nil]; rfl
      replace hres := Lib.hid hres
      have g1 : decide ((i : Int) < (s.size : Int)) = false := by simp; omega
      have hW' := Lib.hid hW
      have hrow := hW.row
      have a0 := hW.at'.c0
      have a1 := hW.at'.c1
      have c4 := hW.at'.c4
      have htop := hW.top
      have hlb := hW.at'.lt
      have hne : v.ownBlock ≠ some (w.heap.size + 1) := fun e => by have := (hrow.lt _ e).1; omega
      have hon : out.length ≤ 1048576 := by omega
      replace hie := Lib.hid hie
      have hcz : ∀ o, (wr.alloc o).drew.cell? ⟨w.heap.size + 1, 4, none⟩ = some v := fun o => (World.cell?_alloc_past _ _ _ hlb).trans c4
      have hfz : ∀ o, (wr.alloc o).drew.frozen? ⟨w.heap.size + 1, 4, none⟩ = false := fun o => (World.frozen?_alloc_past _ _ _ hlb).trans (hW.at'.fr 4)
      clear hx hW r0 r1 rf0 rf1
      go_wp2_with fail
      go_region_law ((refine step_append_lies _ (by rfl) _ _ _ (by rfl) (w.heap.size + 2) 34 i0 _ 5 48 Tryd.underlying22 hi0 hz0 hz1 hz2 rfl (by omega) v out.length _ (by rfl) ((hrow.alloc _).drew) ⟨wr.heap.size, 0, none⟩ 1 1 [.int .u8 4, .string ⟨#[]⟩, .int .i64 0, .int .i64 ln, .int .i64 cl] (by rfl) (by rfl) (World.news_of_block (cs := #[.int .u8 4, .string ⟨#[]⟩, .int .i64 0, .int .i64 ln, .int .i64 cl]) (t := 34) (fr := (0, 0)) (heap_alloc_new wr _)) (by simp [Value.oneCell']) (by omega) (by unfold maxLen; omega) (by omega) (by simp; omega) (wr.heap.size + 1) (by simp) ?_; intro gg cap' w2 hown2 hgrow hat hlt2; have t4 : w2.cell? ⟨w.heap.size + 1, 4, none⟩ = some v := (hgrow.cell_far ⟨w.heap.size + 1, 4, none⟩ (by simp; omega) (Ne.symm hne)).trans (hcz _); have u4 : w2.frozen? ⟨w.heap.size + 1, 4, none⟩ = false := (hgrow.frozen_far ⟨w.heap.size + 1, 4, none⟩ (by simp; omega) (Ne.symm hne)).trans (hfz _)))
      all_goals
        have hg' : (wr.alloc (.cells #[.int .u8 4, .string ⟨#[]⟩, .int .i64 0, .int .i64 ln, .int .i64 cl] 34)).grownBy w2 v.ownBlock := ⟨hgrow.os, hgrow.tape, hgrow.output, hgrow.size, hgrow.block⟩
        have hend := put_end (t := ⟨4, [], 0, ln, cl⟩) hW'.out (Below.refl _ wr) hg' hown2 hat
        have hlr : w.heap.size < wr.heap.size := by omega
        have hr2 : w2.heap[w.heap.size]? = some (.cells #[.int .i64 0, .int .i64 0] 24 (0, 0)) := (hg'.block w.heap.size (by simp; omega) (fun e => by have := (hrow.lt _ e.symm).1; omega)).trans ((Below.heap_alloc _ _ _ hlr).trans hr)
        have hbe : Below w.heap.size w (w2.setCell ⟨w.heap.size + 1, 4, none⟩ (.slice (some ⟨gg, 0, none⟩) (out.length + 1) cap')) := hb.trans (hend.2.below hb.size (fun k hk e => by rcases e with rfl | e; omega; have := (hrow.lt _ e).1; omega))
        have hre : RowT w (w2.setCell ⟨w.heap.size + 1, 4, none⟩ (.slice (some ⟨gg, 0, none⟩) (out.length + 1) cap')) (.slice (some ⟨gg, 0, none⟩) (out.length + 1) cap') (out ++ [⟨4, [], 0, ln, cl⟩]) := own_mono hend.1.row (by omega)
        have x0 := blk_cell hr2 0
        have x1 := blk_cell hr2 1
        simp at x0 x1
        have xf0 : w2.frozen? ⟨w.heap.size, 0, none⟩ = false := by simp [World.frozen?, hr2]
        have xf1 : w2.frozen? ⟨w.heap.size, 1, none⟩ = false := by simp [World.frozen?, hr2]
        replace hbe := Lib.hid hbe
        replace hre := Lib.hid hre
        have hne2 : gg ≠ w.heap.size := by
          rintro rfl
          rcases hat with e | e
          · have := (hrow.lt _ e).1; omega
          · omega
        clear hend hW' hg' hgrow hown2 hat hr hb c4 a0 a1 c2 hcz hfz
        go_wp2_with fail
        refine bodyPost_ret (v := .tuple #[.slice (some ⟨gg, 0, none⟩) (out.length + 1) cap', .agg #[.int .i64 0, .int .i64 0], .int .i64 0]) (by simp [results, Tryd.results8, go_sem, *]) rfl ?_
        unfold LexPost
        rw [hres.out]
        have hof := row_set hre.out hne2 (.int .i64 0) (.int .i64 0)
        exact ⟨⟨_, rfl, hof⟩, (hbe.out.setCell (p := ⟨w.heap.size, 0, none⟩) (Nat.le_refl _) _).setCell (p := ⟨w.heap.size, 1, none⟩) (Nat.le_refl _) _⟩
end
end Go.Proofs.YtobfcbmphobmfaaDoor
