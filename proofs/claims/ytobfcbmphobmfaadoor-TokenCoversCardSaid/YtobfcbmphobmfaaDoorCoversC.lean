/- TokenCovers: the walk over a text's words. -/
import Derived.Test.YtobfcbmphobmfaaDoorCoversB
import Derived.Deep.CutRange
import Derived.Deep.CutBlock
namespace Go.Proofs.YtobfcbmphobmfaaDoor
open Go.RowKit Go.Shelf

theorem okG_step {s : ByteArray} {k f : Nat} {fl : Bool} (hk : k < f) (hf : f ≤ s.size) (h : okG fl ((rest s k).take (f - k)) = true) : (comStep fl (s[k]'(by omega)) || (blankB (s[k]'(by omega)) || (s[k]'(by omega)) == 10)) = true ∧ okG (comStep fl (s[k]'(by omega))) ((rest s (k + 1)).take (f - (k + 1))) = true := by
  rw [rest_at (by omega : k < s.size), show f - k = (f - (k + 1)) + 1 from by omega, List.take_succ_cons] at h
  unfold okG at h
  simpa using h

def ComRel (s : ByteArray) (b f : Nat) (cm k : Value) : Prop := ∃ (m : Nat) (fl : Bool), b ≤ m ∧ m ≤ f ∧ k = .int .i64 m ∧ cm = .bool fl ∧ Hid (okG fl ((rest s m).take (f - m)) = true)

set_option maxRecDepth 20000 in
set_option maxHeartbeats 8000000 in
theorem covers_good {w : World} {s : ByteArray} (h : s.size ≤ 5000) {out : List Tok} (ht : told s = .ok out) : Calls Tryd.prog 4 #[.string s] w fun e w' => e = .returned (.bool true) ∧ Below w.heap.size w w' := by
  have hk := Lib.hid lexes_any
  have hL := Lib.hid (fun s (h : s.size ≤ 5000) w => lex_told s w (by unfold maxLen; omega))
  have hB := Lib.hid (fun w => lines_any (w := w) h)
  have d1 : decide ((s.size : Int) > 5000) = false := by simp; omega
  have hlx : lex s.data.toList 1 1 = .ok out := by rw [← told_short (by omega)]; exact ht
  have hA0 : AtP s 0 (out.drop 0) := .inr (by rw [lexAt_zero]; exact hlx)
  have hne : out ≠ [] := lex_some _ _ _ _ _ hlx
  obtain ⟨N, hN⟩ : ∃ N, out.length = N + 1 := ⟨out.length - 1, by have : out.length ≠ 0 := fun h => hne (List.length_eq_zero_iff.1 h); omega⟩
  have hN0 : N ≤ 1048576 := by have := told_len s; rw [ht] at this; simp only [toks] at this; omega
  have hbl := begin_len s.data.toList
  have hszl : s.data.toList.length = s.size := by simp
  rw [hszl] at hbl
  have hb1' : 0 < (beginL s.data.toList).length := by simp [beginL]
  replace ht := Lib.hid ht
  replace hA0 := Lib.hid hA0
  have hpl := Lib.hid (fun m (hm : m ≤ s.size) => place_of_spot s.data.toList (m := m) (by simpa using hm))
  clear hlx hne hszl
  go_enter Tryd.func4, Tryd.ntmps4
  go_wp2_with fail
  refine (hL.out s h _).mono ?_
  rintro e1 w1 ⟨va, l1, k1, r1, rfl, hra, hwa, hb1⟩
  rw [ht.out] at hra hwa
  obtain ⟨rfl, rfl, rfl⟩ : 0 = l1 ∧ 0 = k1 ∧ 0 = r1 := by simpa [where'] using hwa
  have hra' : RdT w1 va out := hra
  obtain ⟨a1, ca1, rfl⟩ := hra'.form
  rw [hN] at hra' ⊢
  have hltx : w1.heap.size < (w1.alloc (.cells #[.int .i64 0, .int .i64 0] 24)).heap.size := by simp
  have hbx := hb1.alloc hb1.size (.cells #[.int .i64 0, .int .i64 0] 24)
  have hrx := hra'.below ((Below.refl _ w1).alloc (Nat.le_refl _) (.cells #[.int .i64 0, .int .i64 0] 24))
  have y0 : (w1.alloc (.cells #[.int .i64 0, .int .i64 0] 24)).cell? ⟨w1.heap.size, 0, none⟩ = some (.int .i64 0) := by simp
  have y1 : (w1.alloc (.cells #[.int .i64 0, .int .i64 0] 24)).cell? ⟨w1.heap.size, 1, none⟩ = some (.int .i64 0) := by simp
  replace hN := Lib.hid hN
  clear hra hwa hb1 hra'
  go_upto_region 4 with fail
  generalize (w1.alloc (.cells #[.int .i64 0, .int .i64 0] 24)) = wx at *
  go_wp2_with fail
  refine (hB.out _).mono ?_
  rintro e2 w2 ⟨vb, rfl, hrow, hb2⟩
  obtain ⟨gb, capb, rfl, hgb, hgbl, hcell⟩ := ints_at hrow hb1'
  have z0 := (hb2.cell (p := ⟨w1.heap.size, 0, none⟩) hltx).trans y0
  have z1 := (hb2.cell (p := ⟨w1.heap.size, 1, none⟩) hltx).trans y1
  have hby := hbx.trans (hb2.mono hbx.size)
  have hry := hrx.below hb2
  have hq0 := fun w => eql_spotN w 0 0 0 0
  simp at hq0
  have d4 : ((N : Int) + 1 == 0) = false := by simp; omega
  replace hcell := Lib.hid hcell
  have hbls := Lib.hid (rfl : (beginL s.data.toList).length = (beginL s.data.toList).length)
  obtain ⟨bl, hbleq⟩ : ∃ bl, Hid (bl = beginL s.data.toList) := ⟨_, Lib.hid rfl⟩
  rw [← hbleq.out] at hcell hpl hbl hb1' ⊢
  clear y0 y1 hbx hb2 hrow hB hrx hbls
  go_wp2_with fail

  go_loopw [10, 11, 12, 13, 14, 15, 16] (fun bh i _ _ _ _ _ wr => ∃ (j b : Nat), j ≤ N + 1 ∧ i = .int .i64 j ∧ bh = .int .i64 b ∧ b ≤ s.size ∧ Hid (AtP s b (out.drop j)) ∧ Below w2.heap.size w2 wr) (fun _ i _ _ _ _ _ _ => N + 1 - (intOf i).toNat)
  case atStart => exact ⟨0, 0, Nat.zero_le _, rfl, rfl, Nat.zero_le _, hA0, Below.refl _ _⟩
  case round =>
    clear hA0 z0 z1
    obtain ⟨j, b, hj, rfl, rfl, hbs, hat, hbw⟩ := hrel
    by_cases hlt : j < N + 1
    · have i1 : (j : Int) < (N : Int) + 1 := by omega
      obtain ⟨t, hjt⟩ : ∃ t, out[j]? = some t := ⟨_, List.getElem?_eq_getElem (by have := hN.out; omega)⟩
      have hdrop : out.drop j = t :: out.drop (j + 1) := by
        rw [List.drop_eq_getElem_cons (by have := hN.out; omega)]
        congr 1
        rw [List.getElem?_eq_getElem (by have := hN.out; omega)] at hjt
        exact Option.some.inj hjt
      have hat' := hat.out
      rw [hdrop] at hat'
      obtain ⟨f, hf⟩ := word_at_place hbs hat'
      obtain ⟨p1, p2, p3, x, p4, p5⟩ := hpl.out f (by have := hf.high; omega)
      have hsp : spotOf (s.data.toList.take f) = (t.line, t.col) := hf.spot
      rw [hsp] at p1 p2 p3 p4 p5
      simp only at p1 p2 p3 p4 p5
      obtain ⟨y, hy⟩ : ∃ y, t.line = y + 1 := ⟨t.line - 1, by omega⟩
      obtain ⟨ga, capa, ea, hga, v0, v1, v2, v3, v4⟩ := (hry.below hbw).at hjt
      simp only [Value.slice.injEq] at ea
      obtain ⟨rfl, -, rfl⟩ := ea
      have x0 := (hbw.cell (p := ⟨gb, y, none⟩) hgbl).trans (hcell.out y x (by rw [hy] at p4; simpa using p4))
      have hlast : (out.drop (j + 1) = []) ↔ j = N := by
        rw [List.drop_eq_nil_iff]
        have := hN.out
        omega
      clear hat hat' hdrop
      obtain ⟨d, hd⟩ : ∃ d, t.col = d + 1 := ⟨t.col - 1, by omega⟩
      have tcol : (t.col : Int) = (d : Int) + 1 := by omega
      have tlin : (t.line : Int) = (y : Int) + 1 := by omega
      rw [tlin] at v3
      rw [tcol] at v4
      rw [hy] at p2
      rw [hd] at p5
      have hhi := hf.high
      have hlo := hf.low
      replace hjt := Lib.hid hjt
      replace hy := Lib.hid hy
      replace hd := Lib.hid hd
      replace p4 := Lib.hid p4
      clear tcol tlin p1 p3
      have q : ∃ q : Bool, (((t.kind : Int) == 4) = q) ∧ (((j : Int) == (N : Int)) = q) ∧ (((t.text.length : Int) == 0) = q) := by
        have hl := hlast
        rcases hf.kinds with ⟨k1, k2, k3⟩ | ⟨k1, k2, k3⟩
        · refine ⟨true, ?_, ?_, ?_⟩
          · rw [k1]; rfl
          · rw [hl.1 k3]; simp
          · rw [k2]; rfl
        · refine ⟨false, ?_, ?_, ?_⟩
          · simp; omega
          · simp; intro h; exact k3 (hl.2 (by omega))
          · simp; intro h; exact k2 (by simpa using h)
      obtain ⟨q, e1, e2, e3⟩ := q
      go_upto_region 17 with fail
      have hbn := hbw.alloc hbw.size (.cells #[.int .u8 t.kind, .string ⟨t.text.toArray⟩, .int .i64 t.num, .int .i64 ((y : Int) + 1), .int .i64 ((d : Int) + 1)] 34)
      have u0 : (wr.alloc (.cells #[.int .u8 t.kind, .string ⟨t.text.toArray⟩, .int .i64 t.num, .int .i64 ((y : Int) + 1), .int .i64 ((d : Int) + 1)] 34)).cell? ⟨wr.heap.size, 0, none⟩ = some (.int .u8 t.kind) := by simp
      have u1 : (wr.alloc (.cells #[.int .u8 t.kind, .string ⟨t.text.toArray⟩, .int .i64 t.num, .int .i64 ((y : Int) + 1), .int .i64 ((d : Int) + 1)] 34)).cell? ⟨wr.heap.size, 1, none⟩ = some (.string ⟨t.text.toArray⟩) := by simp
      have u3 : (wr.alloc (.cells #[.int .u8 t.kind, .string ⟨t.text.toArray⟩, .int .i64 t.num, .int .i64 ((y : Int) + 1), .int .i64 ((d : Int) + 1)] 34)).cell? ⟨wr.heap.size, 3, none⟩ = some (.int .i64 ((y : Int) + 1)) := by simp
      have u4 : (wr.alloc (.cells #[.int .u8 t.kind, .string ⟨t.text.toArray⟩, .int .i64 t.num, .int .i64 ((y : Int) + 1), .int .i64 ((d : Int) + 1)] 34)).cell? ⟨wr.heap.size, 4, none⟩ = some (.int .i64 ((d : Int) + 1)) := by simp
      have hgbr : gb < wr.heap.size := Nat.lt_of_lt_of_le hgbl hbw.size
      have z : (wr.alloc (.cells #[.int .u8 t.kind, .string ⟨t.text.toArray⟩, .int .i64 t.num, .int .i64 ((y : Int) + 1), .int .i64 ((d : Int) + 1)] 34)).cell? ⟨gb, y, none⟩ = some (.int .i64 x) := (World.cell?_alloc_past _ _ _ hgbr).trans x0
      generalize (wr.alloc (.cells #[.int .u8 t.kind, .string ⟨t.text.toArray⟩, .int .i64 t.num, .int .i64 ((y : Int) + 1), .int .i64 ((d : Int) + 1)] 34)) = wz at *
      have bd1 : y ≤ 6000 := by omega
      have bd2 : d ≤ 6000 := by omega
      have bd3 : x ≤ 6000 := by omega
      have g2 : decide ((y : Int) + 1 < 1) = false := by simp; omega
      have g3 : decide ((y : Int) + 1 > (bl.length : Int)) = false := by simp; omega
      have g3n : decide (bl.length < y + 1) = false := by simp; omega
      have g4 : decide ((d : Int) + 1 < 1) = false := by simp; omega
      have wr1 : IntKind.i64.wrap (y : Int) = (y : Int) := wrap_small _ (by omega) (by omega)
      have wr2 : IntKind.i64.wrap ((x : Int) + ((d : Int) + 1)) = (x : Int) + ((d : Int) + 1) := wrap_small _ (by omega) (by omega)
      have wr3 : IntKind.i64.wrap (f : Int) = (f : Int) := wrap_small _ (by omega) (by omega)
      have hz2 : (x : Int) + ((d : Int) + 1) - 1 = (f : Int) := by omega
      have i2 : (y : Int) < (bl.length : Int) := by omega
      clear v0 v1 v2 v3 v4 x0 hga
      go_wp2_with fail
      go_quiet (fail)
      have c1 : decide ((f : Int) < (b : Int)) = false := by simp; omega
      have c1n : decide (f < b) = false := by simp; omega
      have c2 : decide ((f : Int) + (t.text.length : Int) > (s.size : Int)) = false := by simp; omega
      have c3 : IntKind.i64.wrap ((f : Int) + (t.text.length : Int)) = (f : Int) + (t.text.length : Int) := wrap_small _ (by omega) (by omega)
      have c4 : ((f : Int) + (t.text.length : Int)).toNat = f + t.text.length := by omega
      have c5 := hf.text
      have c6 : f ≤ f + t.text.length := by omega
      have c7 : (f : Int) ≤ (f : Int) + (t.text.length : Int) := by omega
      have c8 : (f : Int) + (t.text.length : Int) ≤ (s.size : Int) := by omega
      have c9 : (N : Int) + 1 - 1 = (N : Int) := by omega
      have hgap := Lib.hid hf.gap
      have hnext := Lib.hid hf.next
      clear hf hsp hlast
      go_wp2_with fail
      go_quiet (fail)
      go_wp2_with fail
      clear c1 c1n c2 c3 c4 c5 c6 c7 c8 c9 g2 g3 g3n g4 wr1 wr2 wr3 hz2 e1 e2 u0 u4 u3 z e3
      go_loop [2, 14, 15, 16] (fun _ cm k _ => ComRel s b f cm k) (fun _ _ k _ => f - (intOf k).toNat)
      case atStart => exact ⟨b, false, Nat.le_refl _, hlo, rfl, rfl, hgap⟩
      case round =>
        obtain ⟨m, fl, hbm, hmf, rfl, rfl, hok⟩ := hrel
        by_cases hlt2 : m < f
        · have hms : m < s.size := by omega
          obtain ⟨o1, o2⟩ := okG_step hlt2 (by omega) hok.out
          replace o2 := Lib.hid o2
          have i3 : (m : Int) < (f : Int) := by omega
          have i4 : (m : Int) < (s.size : Int) := by omega
          have hc : s[m] = 59 ∨ s[m] = 10 ∨ (s[m] ≠ 59 ∧ s[m] ≠ 10 ∧ fl = true) ∨ (fl = false ∧ (s[m] = 32 ∨ s[m] = 9 ∨ s[m] = 13)) := by
            by_cases x1 : s[m] = 59
            · exact .inl x1
            · by_cases x2 : s[m] = 10
              · exact .inr (.inl x2)
              · cases fl
                · refine .inr (.inr (.inr ⟨rfl, ?_⟩))
                  simp [comStep, blankB, x1, x2, or_assoc] at o1
                  exact o1
                · exact .inr (.inr (.inl ⟨x1, x2, rfl⟩))
          clear o1
          rcases hc with hc | hc | ⟨x1, x2, rfl⟩ | ⟨rfl, hc | hc | hc⟩
          · have o3 : Hid (okG true ((rest s (m + 1)).take (f - (m + 1))) = true) := by have := o2.out; rw [show comStep fl s[m] = true from by rw [hc]; rfl] at this; exact Lib.hid this
            have e59 : ((s[m].toNat : Int) == 59) = true := by rw [hc]; rfl
            have n59 : ((s[m].toNat : Int) != 59) = false := by show (!_) = _; rw [e59]; rfl
            have e10 : ((s[m].toNat : Int) == 10) = false := by rw [hc]; rfl
            have n10 : ((s[m].toNat : Int) != 10) = true := by show (!_) = _; rw [e10]; rfl
            clear hc o2
            go_wp2_with fail
            go_round
            case rel => exact ⟨_, _, _, ⟨m + 1, true, by omega, by omega, by go_num, rfl, o3⟩, rfl, rfl, rfl⟩
            case measure => simp [intOf]; omega
          · have o3 : Hid (okG false ((rest s (m + 1)).take (f - (m + 1))) = true) := by have := o2.out; rw [show comStep fl s[m] = false from by rw [hc]; rfl] at this; exact Lib.hid this
            have e59 : ((s[m].toNat : Int) == 59) = false := by rw [hc]; rfl
            have n59 : ((s[m].toNat : Int) != 59) = true := by show (!_) = _; rw [e59]; rfl
            have e10 : ((s[m].toNat : Int) == 10) = true := by rw [hc]; rfl
            have n10 : ((s[m].toNat : Int) != 10) = false := by show (!_) = _; rw [e10]; rfl
            have e32 : ((s[m].toNat : Int) == 32) = false := by rw [hc]; rfl
            have n32 : ((s[m].toNat : Int) != 32) = true := by show (!_) = _; rw [e32]; rfl
            have e9 : ((s[m].toNat : Int) == 9) = false := by rw [hc]; rfl
            have n9 : ((s[m].toNat : Int) != 9) = true := by show (!_) = _; rw [e9]; rfl
            have e13 : ((s[m].toNat : Int) == 13) = false := by rw [hc]; rfl
            have n13 : ((s[m].toNat : Int) != 13) = true := by show (!_) = _; rw [e13]; rfl
            clear hc o2
            go_wp2_with fail
            go_round
            case rel => exact ⟨_, _, _, ⟨m + 1, false, by omega, by omega, by go_num, rfl, o3⟩, rfl, rfl, rfl⟩
            case measure => simp [intOf]; omega
          · have o3 : Hid (okG true ((rest s (m + 1)).take (f - (m + 1))) = true) := by have := o2.out; rw [show comStep true s[m] = true from by unfold comStep; rw [if_neg x2, if_neg x1]] at this; exact Lib.hid this
            have e59 : ((s[m].toNat : Int) == 59) = false := by rw [show ((s[m].toNat : Int) == 59) = (s[m] == 59) from eqB s[m] 59]; simpa using x1
            have n59 : ((s[m].toNat : Int) != 59) = true := by show (!_) = _; rw [e59]; rfl
            have e10 : ((s[m].toNat : Int) == 10) = false := by rw [show ((s[m].toNat : Int) == 10) = (s[m] == 10) from eqB s[m] 10]; simpa using x2
            have n10 : ((s[m].toNat : Int) != 10) = true := by show (!_) = _; rw [e10]; rfl
            clear x1 x2 o2
            go_wp2_with fail
            go_round
            case rel => exact ⟨_, _, _, ⟨m + 1, true, by omega, by omega, by go_num, rfl, o3⟩, rfl, rfl, rfl⟩
            case measure => simp [intOf]; omega
          · have o3 : Hid (okG false ((rest s (m + 1)).take (f - (m + 1))) = true) := by have := o2.out; rw [show comStep false s[m] = false from by rw [hc]; rfl] at this; exact Lib.hid this
            have e59 : ((s[m].toNat : Int) == 59) = false := by rw [hc]; rfl
            have n59 : ((s[m].toNat : Int) != 59) = true := by show (!_) = _; rw [e59]; rfl
            have e10 : ((s[m].toNat : Int) == 10) = false := by rw [hc]; rfl
            have n10 : ((s[m].toNat : Int) != 10) = true := by show (!_) = _; rw [e10]; rfl
            have e32 : ((s[m].toNat : Int) == 32) = true := by rw [hc]; rfl
            have n32 : ((s[m].toNat : Int) != 32) = false := by show (!_) = _; rw [e32]; rfl
            have e9 : ((s[m].toNat : Int) == 9) = false := by rw [hc]; rfl
            have n9 : ((s[m].toNat : Int) != 9) = true := by show (!_) = _; rw [e9]; rfl
            have e13 : ((s[m].toNat : Int) == 13) = false := by rw [hc]; rfl
            have n13 : ((s[m].toNat : Int) != 13) = true := by show (!_) = _; rw [e13]; rfl
            clear hc o2
            go_wp2_with fail
            go_round
            case rel => exact ⟨_, _, _, ⟨m + 1, false, by omega, by omega, by go_num, rfl, o3⟩, rfl, rfl, rfl⟩
            case measure => simp [intOf]; omega
          · have o3 : Hid (okG false ((rest s (m + 1)).take (f - (m + 1))) = true) := by have := o2.out; rw [show comStep false s[m] = false from by rw [hc]; rfl] at this; exact Lib.hid this
            have e59 : ((s[m].toNat : Int) == 59) = false := by rw [hc]; rfl
            have n59 : ((s[m].toNat : Int) != 59) = true := by show (!_) = _; rw [e59]; rfl
            have e10 : ((s[m].toNat : Int) == 10) = false := by rw [hc]; rfl
            have n10 : ((s[m].toNat : Int) != 10) = true := by show (!_) = _; rw [e10]; rfl
            have e32 : ((s[m].toNat : Int) == 32) = false := by rw [hc]; rfl
            have n32 : ((s[m].toNat : Int) != 32) = true := by show (!_) = _; rw [e32]; rfl
            have e9 : ((s[m].toNat : Int) == 9) = true := by rw [hc]; rfl
            have n9 : ((s[m].toNat : Int) != 9) = false := by show (!_) = _; rw [e9]; rfl
            have e13 : ((s[m].toNat : Int) == 13) = false := by rw [hc]; rfl
            have n13 : ((s[m].toNat : Int) != 13) = true := by show (!_) = _; rw [e13]; rfl
            clear hc o2
            go_wp2_with fail
            go_round
            case rel => exact ⟨_, _, _, ⟨m + 1, false, by omega, by omega, by go_num, rfl, o3⟩, rfl, rfl, rfl⟩
            case measure => simp [intOf]; omega
          · have o3 : Hid (okG false ((rest s (m + 1)).take (f - (m + 1))) = true) := by have := o2.out; rw [show comStep false s[m] = false from by rw [hc]; rfl] at this; exact Lib.hid this
            have e59 : ((s[m].toNat : Int) == 59) = false := by rw [hc]; rfl
            have n59 : ((s[m].toNat : Int) != 59) = true := by show (!_) = _; rw [e59]; rfl
            have e10 : ((s[m].toNat : Int) == 10) = false := by rw [hc]; rfl
            have n10 : ((s[m].toNat : Int) != 10) = true := by show (!_) = _; rw [e10]; rfl
            have e32 : ((s[m].toNat : Int) == 32) = false := by rw [hc]; rfl
            have n32 : ((s[m].toNat : Int) != 32) = true := by show (!_) = _; rw [e32]; rfl
            have e9 : ((s[m].toNat : Int) == 9) = false := by rw [hc]; rfl
            have n9 : ((s[m].toNat : Int) != 9) = true := by show (!_) = _; rw [e9]; rfl
            have e13 : ((s[m].toNat : Int) == 13) = true := by rw [hc]; rfl
            have n13 : ((s[m].toNat : Int) != 13) = false := by show (!_) = _; rw [e13]; rfl
            clear hc o2
            go_wp2_with fail
            go_round
            case rel => exact ⟨_, _, _, ⟨m + 1, false, by omega, by omega, by go_num, rfl, o3⟩, rfl, rfl, rfl⟩
            case measure => simp [intOf]; omega
        · obtain rfl : m = f := by omega
          go_wp2_with fail
          refine ⟨⟨j + 1, m + t.text.length, by omega, by go_num, by go_num, by omega, ?_, below_drawn hbn _⟩, ?_⟩
          · have := hnext.out
            exact Lib.hid this
          · simp [intOf]; omega
    · obtain rfl : j = N + 1 := by omega
      have hat' := hat.out
      rw [List.drop_eq_nil_of_le (by rw [hN.out]; exact Nat.le_refl _)] at hat'
      obtain rfl : b = s.size := by
        rcases hat' with ⟨-, e⟩ | h
        · exact e
        · exact absurd rfl (lex_some _ _ _ _ _ h)
      clear hat hat'
      go_wp2_with fail
      refine (hk.out _).mono ?_
      rintro e3 w3 ⟨rfl, hb3⟩
      go_wp2_with fail
      go_ret
      exact ⟨rfl, (hby.trans (hbw.mono hby.size)).trans (hb3.mono (Nat.le_trans hby.size hbw.size))⟩

theorem covers_law {w : World} {s : ByteArray} (h63 : s.size ≤ maxLen) : Calls Tryd.prog 4 #[.string s] w fun e w' => e = .returned (.bool true) ∧ Below w.heap.size w w' := by
  by_cases h : s.size ≤ 5000
  · cases ht : told s with
    | error x => obtain ⟨l, c, er⟩ := x; exact covers_bad h ht
    | ok out => exact covers_good h ht
  · exact covers_long (by omega) h63
end Go.Proofs.YtobfcbmphobmfaaDoor
