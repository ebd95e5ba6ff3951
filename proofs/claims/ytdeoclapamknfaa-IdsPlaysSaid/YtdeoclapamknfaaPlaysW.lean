/- IdsPlays, walked. -/
import Derived.Test.YtdeoclapamknfaaPlaysS
import Derived.Deep.RegionHeld3
namespace Go.Proofs.Ytdeoclapamknfaa
open Go.RowKit Go.Maps Go.WideMaps Go.WideShapes Str

theorem rd_row {w : World} {base : Nat} {e : TypeId} {v : Value} {n : Nat} {xs : List Value} (h : w.ownsRow base e 1 v n xs) : Rd w v xs := by
  have hn : xs.length = n := by have := h.1; omega
  rcases h.2 with ⟨rfl, h0⟩ | ⟨g, cap, cur, rfl, h1, h2, _⟩
  · have : xs = [] := List.eq_nil_of_length_eq_zero (by omega)
    subst this
    exact Or.inl ⟨rfl, Or.inl rfl⟩
  · refine Or.inr ⟨g, 0, cap, by rw [hn], (Array.getElem?_eq_some_iff.1 h2).1, fun i u hu => ?_⟩
    have := h.cells (g := g) rfl i u hu
    rwa [add0, ← Nat.zero_add i] at this

/-- The copy of the keys: it is none, or a row of its own. -/
def InOk (w0 : World) (vin : Value) (n : Nat) (X : List (Nat × Obj)) : Prop :=
  n = 0 ∧ X = [] ∨ ∃ g cap cur, vin = .slice (some ⟨g, 0, none⟩) n cap ∧ X = [(g, .cells cur 9 (0, 0))] ∧ n ≤ cur.size ∧ w0.heap.size ≤ g

theorem St.row {w0 w w' : World} {sb bm rb : Nat} {ks1 ks2 : List ByteArray} (h : St w0 w sb bm rb [] ks1 ks2) {v : Value} {n : Nat} {xs : List Value} (hr : w'.ownsRow w.heap.size 9 1 v n xs) (hb : Below w.heap.size w w') :
    ∃ X, InOk w0 v n X ∧ St w0 w' sb bm rb X ks1 ks2 := by
  have h' := h.more hb
  rcases hr.2 with ⟨_, h0⟩ | ⟨g, cap, cur, e, h1, h2, h3, _, h4, _⟩
  · exact ⟨[], Or.inl ⟨h0, rfl⟩, h'⟩
  · obtain ⟨v1, rv, B1, B2, T, R, hd, hX, hlo⟩ := h
    have ht := Touch.of_below hb (fun _ => False)
    refine ⟨[(g, .cells cur 9 (0, 0))], Or.inr ⟨g, cap, cur, e, rfl, by omega, Nat.le_trans hlo.size h1⟩, v1, rv, B1, B2, T.kept ht (fun _ _ h => h), R.kept ht (fun _ _ h => h), hd, fun p hp => ?_, hlo.trans (hb.mono hlo.size)⟩
    simp at hp
    subst hp
    exact ⟨fun e => by have := T.lt _ e; omega, fun e => by have := (R.lt _ e).2; omega, (Array.getElem?_eq_some_iff.1 h2).1, h2⟩

theorem St.fr {w0 w : World} {sb bm rb : Nat} {X : List (Nat × Obj)} {ks1 ks2 : List ByteArray} (h : St w0 w sb bm rb X ks1 ks2) {b : Nat} {cs : Array Value} {t : TypeId} (hp : (b, Obj.cells cs t (0, 0)) ∈ X) (i : Nat) : w.frozen? ⟨b, i, none⟩ = false := by
  obtain ⟨v, rv, B1, B2, T, R, hd, hX, hlo⟩ := h
  simp [World.frozen?, (hX _ hp).2.2.2]

theorem St.find {w0 w : World} {sb bm rb : Nat} {X : List (Nat × Obj)} {ks : List ByteArray} (h : St w0 w sb bm rb X ks ks) {k : ByteArray} (hk : k.size ≤ maxLen) (hlen : ks.length ≤ 1000000) : ∃ (i : Int) (b : Bool),
    (Calls Try.prog 12 #[.pointer (some ⟨sb, 0, none⟩), .string k] w fun e w' => e = .returned (.tuple #[.int .i64 i, .bool b]) ∧ w = w') ∧
    (Calls Try.prog 13 #[.pointer (some ⟨rb, 0, none⟩), .string k] w fun e w' => e = .returned (.tuple #[.int .i64 i, .bool b]) ∧ w = w') := by
  obtain ⟨v, B, T⟩ := h.tab
  obtain ⟨rv, B2, R⟩ := h.ref
  by_cases hi : k ∈ ks
  · exact ⟨_, _, Str.find_hit T hk (place_get hi), Ref.find_hit R hi hlen⟩
  · exact ⟨_, _, Str.find_miss T hk hi, Ref.find_miss R hi hlen⟩
theorem St.key {w0 w : World} {sb bm rb : Nat} {X : List (Nat × Obj)} {ks : List ByteArray} (h : St w0 w sb bm rb X ks ks) (n : Int) (hlen : ks.length ≤ 1000000) : ∃ (s : ByteArray) (c : Int),
    (Calls Try.prog 14 #[.pointer (some ⟨sb, 0, none⟩), .int .i64 n] w fun e w' => e = .returned (.tuple #[.string s, .int .i64 c]) ∧ w = w') ∧
    (Calls Try.prog 15 #[.pointer (some ⟨rb, 0, none⟩), .int .i64 n] w fun e w' => e = .returned (.tuple #[.string s, .int .i64 c]) ∧ w = w') := by
  obtain ⟨v, B, T⟩ := h.tab
  obtain ⟨rv, B2, R⟩ := h.ref
  by_cases hi : n < 0 ∨ (ks.length : Int) ≤ n
  · exact ⟨_, _, Str.key_out T hi, Ref.key_out R hi⟩
  · obtain ⟨i, rfl⟩ := Int.eq_ofNat_of_zero_le (show 0 ≤ n by omega)
    have hlt : i < ks.length := by omega
    exact ⟨_, _, Str.key_hit T (List.getElem?_eq_getElem hlt) hlen, Ref.key_hit R (List.getElem?_eq_getElem hlt)⟩

theorem plus_keysOf (l : List ByteArray) (x : ByteArray) : plus (keysOf l) x = keysOf (l ++ [x]) := by rw [keysOf_snoc]; rfl

set_option maxHeartbeats 2000000 in
set_option maxRecDepth 100000 in
theorem plays_any {s a : Value} {l : List ByteArray} {acts : List (Int × Int × ByteArray)} {w : World} (hs : Rd w s (l.map Value.string)) (ha : RdA w a acts) (hl : ∀ x ∈ l, x.size ≤ maxLen) (hal : ∀ x ∈ acts, x.2.2.size ≤ maxLen)
    (hln : l.length ≤ 200) (han : acts.length ≤ 200) :
    Calls Try.prog 3 #[s, a] w fun e w' => e = .returned (.bool true) ∧ Below w.heap.size w w' := by
  obtain ⟨i0, hi0, hz0, hz1, hz2⟩ := info_parts infoK
  obtain ⟨as1, cs1, hs0⟩ := hs.form
  obtain ⟨aa1, ca1, ha0⟩ := ha.form
  subst hs0
  subst ha0
  rw [List.length_map] at *
  have hd1 : decide ((200 : Int) < (l.length : Int)) = false := by simp; omega
  have hd2 : decide ((200 : Int) < (acts.length : Int)) = false := by simp; omega
  have hnot : ∀ (x : Bool) (w : World), (Op.unary .not (.bool x)).run Try.prog w = .ok (.bool (!x)) w := fun _ _ => rfl
  go_enter Try.func3, Try.ntmps3
  go_wp2_with (at_builtin; refine wpList_append_rd _ rfl _ _ 22 rfl w.heap.size 9 i0 (.string ⟨#[]⟩) 16 Try.underlying22 hi0 hz0 hz1 hz2 rfl _ 0 [] rfl (World.ownsRow_nil _ _ _ _) _ (l.map Value.string) rfl hs ?c1 ?c2 ?c3 ?c4 ?_)
  case c1 => intro u hu; obtain ⟨x, _, rfl⟩ := List.mem_map.1 hu; rfl
  case c2 => unfold maxLen; simp; omega
  case c3 => simp; omega
  case c4 => exact Nat.le_refl _
  intro vin w1 hown hg1 _
  have hb1 : Below w.heap.size w w1 := (Below.refl _ _).grown hg1 (Nat.le_refl _) (by simp [Value.ownBlock])
  have hrd := rd_row hown
  have hnew := Lib.hid (new_any hrd hl (by omega))
  go_wp2_with fail
  refine hnew.out.mono ?_
  rintro e w2 ⟨rfl, v2, T2, hb2⟩
  go_wp2_with fail
  have hvin : InOk w vin l.length [] ∨ ∃ g cap cur, vin = .slice (some ⟨g, 0, none⟩) l.length cap ∧ w.heap.size ≤ g ∧ g < w1.heap.size ∧ w1.heap[g]? = some (.cells cur 9 (0, 0)) ∧ l.length ≤ cur.size := by
    rcases hown.2 with ⟨_, h0⟩ | ⟨g, cap, cur, e, h1, h2, h3, _, h4, _⟩
    · exact Or.inl (Or.inl ⟨h0, rfl⟩)
    · exact Or.inr ⟨g, cap, cur, e, h1, (Array.getElem?_eq_some_iff.1 h2).1, h2, by omega⟩
  have hst0 : ∃ X, InOk w vin l.length X ∧ St w (w2.alloc (.cells #[.slice none 0 0] 29)) (w1.heap.size + 1) w1.heap.size w2.heap.size X (keysOf l) [] := by
    have hb2' : Below w.heap.size w w2 := hb1.trans (hb2.mono hb1.size)
    have hb3 : Below w2.heap.size w2 (w2.alloc (.cells #[.slice none 0 0] 29)) := (Below.refl _ _).alloc (Nat.le_refl _) _
    have hT := (T2.mono hb1.size).kept (Touch.of_below hb3 (fun _ => False)) (fun _ _ h => h)
    have hR : Ref.RTab w.heap.size (w2.heap.size + 1) (w2.alloc (.cells #[.slice none 0 0] 29)) w2.heap.size (.slice none 0 0) [] :=
      ⟨heap_alloc_new w2 _, World.ownsRow_nil _ _ _ _, hb2'.size, by omega, by simp⟩
    have hdis : ∀ k, Own (w1.heap.size + 1) w1.heap.size v2 k → Ref.ROwn w2.heap.size (.slice none 0 0) k → False := by
      rintro k h1 (rfl | h2)
      · have := T2.lt _ h1; omega
      · simp [Value.ownBlock] at h2
    rcases hvin with h | ⟨g, cap, cur, e, h1, h2, h3, h4⟩
    · exact ⟨[], h, v2, _, _, _, hT, hR, hdis, by simp, hb2'.trans (hb3.mono hb2'.size)⟩
    · refine ⟨[(g, .cells cur 9 (0, 0))], Or.inr ⟨g, cap, cur, e, rfl, h4, h1⟩, v2, _, _, _, hT, hR, hdis, fun p hp => ?_, hb2'.trans (hb3.mono hb2'.size)⟩
      simp at hp
      subst hp
      refine ⟨fun ho => ?_, ?_, ?_, ?_⟩
      · have := T2.low _ ho; omega
      · rintro (e | e)
        · have := hb2.size; simp at e; omega
        · simp [Value.ownBlock] at e
      · have := hb2.size; simp; omega
      · rw [Below.heap_alloc _ _ _ (by have := hb2.size; simp; omega), hb2.block g h2]; exact h3
  clear hvin hown hg1 hrd hnew T2 hb2
  obtain ⟨X0, hin0, hst⟩ := hst0
  generalize hw3 : w2.alloc (.cells #[.slice none 0 0] 29) = w3 at *
  clear hw3
  clear hb1
  generalize w1.heap.size + 1 = sb at *
  generalize w1.heap.size = bm at *
  generalize w2.heap.size = rb at *
  clear hi0 hz0 hz1 hz2
  go_loopw [8] (fun i wr => ∃ (j : Nat) (X : List (Nat × Obj)), j ≤ l.length ∧ i = .int .i64 j ∧ InOk w vin l.length X ∧ St w wr sb bm rb X (keysOf l) (keysOf (l.take j))) (fun i _ => l.length - (intOf i).toNat)
  case atStart => exact ⟨0, X0, Nat.zero_le _, rfl, hin0, hst⟩
  case round =>
    clear hst hin0
    obtain ⟨j, X, hj, rfl, hin, hst⟩ := hrel
    by_cases hlt : j < l.length
    · obtain ⟨x, hx⟩ : ∃ x, l[j]? = some x := ⟨_, List.getElem?_eq_getElem hlt⟩
      obtain ⟨p, o, cp, e, _, hc⟩ := (hs.below hst.below).at (i := j) (u := .string x) (by simp [hx])
      simp only [Value.slice.injEq] at e
      obtain ⟨rfl, -, rfl⟩ := e
      have hts := Lib.hid (take_snoc hx)
      rcases hin with ⟨h0, _⟩ | ⟨g, cap, cur, rfl, rfl, hcur, hg⟩
      · omega
      · have hid := hst.id2 x (Nat.le_trans (keysOf_len _) (by simp; omega))
        rw [plus_keysOf, ← hts.out] at hid
        replace hid := Lib.hid hid
        clear hx hts
        go_wp2_with fail
        refine hid.out.mono ?_
        rintro e w4 ⟨rfl, hst4⟩
        have hcell := hst4.cell (by simp : (g, Obj.cells cur 9 (0, 0)) ∈ _) j
        have hcj : w4.cell? ⟨g, j, none⟩ = some cur[j] := by rw [hcell]; exact Array.getElem?_eq_getElem (by omega)
        have hfj : w4.frozen? ⟨g, j, none⟩ = false := by
          obtain ⟨v, rv, B1, B2, T, R, hd, hX, hlo⟩ := hst4
          have := (hX (g, Obj.cells cur 9 (0, 0)) (by simp)).2.2.2
          simp [World.frozen?, this]
        have hst5 := hst4.set (b := g) (i := j) rfl hg (by simp) (.string ⟨#[115, 112, 111, 105, 108, 116]⟩)
        clear hcell hst4 hid
        go_wp2_with fail
        go_roundw
        case rel => exact ⟨j + 1, _, by omega, by go_num, Or.inr ⟨g, cap, _, rfl, rfl, by simpa using hcur, hg⟩, hst5⟩
        case measure => simp [intOf]; omega
    · have hjl : j = l.length := by omega
      subst hjl
      rw [List.take_length] at hst
      have hst := hst.sub (Y := []) (by simp)
      clear hin
      go_wp2_with fail
      go_loopw [9] (fun i wr => ∃ (j : Nat) (ks : List ByteArray), j ≤ acts.length ∧ i = .int .i64 j ∧ ks.length ≤ 200 + j ∧ St w wr sb bm rb [] ks ks) (fun i _ => acts.length - (intOf i).toNat)
      case atStart => exact ⟨0, keysOf l, Nat.zero_le _, rfl, by have := keysOf_len l; omega, hst⟩
      case round =>
        clear hst
        obtain ⟨j, ks, hj2, rfl, hks, hst⟩ := hrel
        by_cases hlt2 : j < acts.length
        · obtain ⟨x, hx⟩ : ∃ x, acts[j]? = some x := ⟨_, List.getElem?_eq_getElem hlt2⟩
          obtain ⟨p, o, cp, e, h0, h1, h2⟩ := (ha.below hst.below).at (i := j) hx
          simp only [Value.slice.injEq] at e
          obtain ⟨rfl, -, rfl⟩ := e
          have hxk := hal x (List.mem_of_getElem? hx)
          obtain ⟨d, n, k⟩ := x
          simp only at h0 h1 h2 hxk
          clear hx
          have hsx := hst.alloc (.cells #[.int .i64 d, .int .i64 n, .string k] 32)
          generalize hwx : wr.alloc (.cells #[.int .i64 d, .int .i64 n, .string k] 32) = wx at *
          have hxk2 : wx.cell? ⟨wr.heap.size, 2, none⟩ = some (.string k) := hsx.cell (List.Mem.head _) 2
          have hxn2 : wx.cell? ⟨wr.heap.size, 1, none⟩ = some (.int .i64 n) := hsx.cell (List.Mem.head _) 1
          have hxd2 : wx.cell? ⟨wr.heap.size, 0, none⟩ = some (.int .i64 d) := hsx.cell (List.Mem.head _) 0
          have hwz : wr.heap.size < wx.heap.size := by rw [← hwx]; simp
          clear hst
          by_cases hd0 : d = 0
          · subst hd0
            have hi1 := Lib.hid (St.id1 (w := wx.drew) (hsx.drawn 1) hxk (by omega))
            go_wp2_with fail
            clear hwx
            go_region_held3 (fun w' => w'.cell? ⟨wr.heap.size, 2, none⟩ = some (.string k)) (go_keep)
              (first | (go_at_call 11; refine hi1.out.mono ?_; rintro e w4 ⟨rfl, hst4⟩; have hc4 := hst4.cell (List.Mem.head _) 2) | (go_at_call 10; refine (St.id2 (by assumption) k (by omega)).mono ?_; rintro e w5 ⟨rfl, hst5⟩; have hc5 := hst5.cell (List.Mem.head _) 2))
            go_wp2_with fail
            have hq := hst5.sub (Y := []) (by simp)
            have hpl := plus_len ks k
            generalize plus ks k = kq at *
            have hkq : kq.length ≤ 200 + (j + 1) := by omega
            clear hst4 hst5 hc4 hc5 hi1 hsx hxk2 hxn2 hxd2
            generalize w5 = wq at *
            obtain ⟨v5, B5, T5⟩ := hq.tab
            have hkn : kq.length ≤ 1000000 := by omega
            refine (Str.keys_any T5 hkn).mono ?_
            rintro e w6 ⟨v6, rfl, hcl⟩
            have hr6 := rd_cloned hcl
            obtain ⟨hcl1, hcl2⟩ := hcl
            rw [List.length_map] at hcl1
            obtain ⟨X6, hin6, hs6⟩ := hq.row hcl1 hcl2
            obtain ⟨ka6, kc6, hv6⟩ := hr6.form
            rw [List.length_map] at hv6
            subst hv6
            obtain ⟨v7, B7, T7⟩ := hs6.tab
            obtain ⟨rv, B8, R8⟩ := hs6.ref
            obtain ⟨ra, rc, hrv⟩ := R8.form
            subst hrv
            have rc0 := R8.c0
            have cL : ∀ n, Calls Try.prog 17 #[.pointer (some ⟨sb, 0, none⟩)] (w6.drewN n) fun e w'' => e = .returned (.int .i64 kq.length) ∧ ∃ m, w'' = w6.drewN m :=
              fun n => (Str.len_any (T7.drewN n)).mono fun _ _ ⟨h1, h2⟩ => ⟨h1, n, h2.symm⟩
            have hrR := rd_row R8.row
            have cS : ∀ n, Calls Try.prog 18 #[.slice ka6 kq.length kc6, .slice ra kq.length rc] (w6.drewN n) fun e w'' => e = .returned (.bool true) ∧ ∃ m, w'' = w6.drewN m :=
              fun n => (Str.same_any (hr6.below (below_drawn (Below.refl _ _) n)) (hrR.below (below_drawn (Below.refl _ _) n)) hkn).mono fun _ _ ⟨h1, m, h2⟩ => ⟨by rw [h1]; simp, n + m, by rw [h2, World.drewN_drewN]⟩
            replace cL := Lib.hid cL
            replace cS := Lib.hid cS
            replace hr6 := Lib.hid hr6
            clear hq T5 T7 R8 hcl1 hcl2 hrR
            go_wp2_with fail
            go_quiet (first | (with_reducible exact cL.out _) | (with_reducible exact cS.out _))
            have hs7 := hs6.drawn nq
            clear rc0 cL cS
            go_wp2_with fail
            go_loopw [20] (fun i wr2 => ∃ (jj : Nat) (X : List (Nat × Obj)), jj ≤ kq.length ∧ i = .int .i64 jj ∧ InOk w (.slice ka6 kq.length kc6) kq.length X ∧ St w wr2 sb bm rb X kq kq) (fun i _ => kq.length - (intOf i).toNat)
            case atStart => exact ⟨0, X6, Nat.zero_le _, rfl, hin6, hs7⟩
            case round =>
              clear hs6 hs7 hin6
              obtain ⟨jj, X7, hjj, rfl, hin7, hs8⟩ := hrel
              by_cases hl3 : jj < kq.length
              · rcases hin7 with ⟨h0, _⟩ | ⟨g, cap, cur, hv7, rfl, hcur, hg⟩
                · omega
                · simp only [Value.slice.injEq] at hv7
                  obtain ⟨rfl, -, rfl⟩ := hv7
                  have hcj : wr.cell? ⟨g, jj, none⟩ = some cur[jj] := by rw [hs8.cell (List.Mem.head _) jj]; exact Array.getElem?_eq_getElem (by omega)
                  have hfj := hs8.fr (List.Mem.head _) jj
                  have hs9 := hs8.set (b := g) (i := jj) rfl hg (by simp) (.string ⟨#[115, 112, 111, 105, 108, 116]⟩)
                  clear hs8
                  go_wp2_with fail
                  go_roundw
                  case rel => exact ⟨jj + 1, _, by omega, by go_num, Or.inr ⟨g, kc6, _, rfl, rfl, by simpa using hcur, hg⟩, hs9⟩
                  case measure => simp [intOf]; omega
              · have hs9 := hs8.sub (Y := []) (by simp)
                have hjl3 : jj = kq.length := by omega
                subst hjl3
                clear hs8 hin7
                go_wp2_with fail
                go_roundw
                case rel => exact ⟨j + 1, kq, by omega, by go_num, by omega, hs9⟩
                case measure => simp [intOf]; omega
          · have hd0b : (d == 0) = false := by simpa using hd0
            have hkq : ks.length ≤ 200 + (j + 1) := by omega
            by_cases hd1 : d = 1
            · subst hd1
              obtain ⟨fi, fb, c1, c2⟩ := hsx.find hxk (by omega)
              replace c1 := Lib.hid c1
              replace c2 := Lib.hid c2
              go_wp2_with fail
              refine c1.out.mono ?_
              rintro e w4 ⟨rfl, rfl⟩
              clear hwx
              go_wp2_with fail
              refine c2.out.mono ?_
              rintro e w4 ⟨rfl, rfl⟩
              go_wp2_with fail
              have hq := hsx.sub (Y := []) (by simp)
              generalize ks = kq at *
              clear c1 c2 hsx hxk2 hxn2 hxd2
              generalize wx = wq at *
              obtain ⟨v5, B5, T5⟩ := hq.tab
              have hkn : kq.length ≤ 1000000 := by omega
              refine (Str.keys_any T5 hkn).mono ?_
              rintro e w6 ⟨v6, rfl, hcl⟩
              have hr6 := rd_cloned hcl
              obtain ⟨hcl1, hcl2⟩ := hcl
              rw [List.length_map] at hcl1
              obtain ⟨X6, hin6, hs6⟩ := hq.row hcl1 hcl2
              obtain ⟨ka6, kc6, hv6⟩ := hr6.form
              rw [List.length_map] at hv6
              subst hv6
              obtain ⟨v7, B7, T7⟩ := hs6.tab
              obtain ⟨rv, B8, R8⟩ := hs6.ref
              obtain ⟨ra, rc, hrv⟩ := R8.form
              subst hrv
              have rc0 := R8.c0
              have cL : ∀ n, Calls Try.prog 17 #[.pointer (some ⟨sb, 0, none⟩)] (w6.drewN n) fun e w'' => e = .returned (.int .i64 kq.length) ∧ ∃ m, w'' = w6.drewN m :=
                fun n => (Str.len_any (T7.drewN n)).mono fun _ _ ⟨h1, h2⟩ => ⟨h1, n, h2.symm⟩
              have hrR := rd_row R8.row
              have cS : ∀ n, Calls Try.prog 18 #[.slice ka6 kq.length kc6, .slice ra kq.length rc] (w6.drewN n) fun e w'' => e = .returned (.bool true) ∧ ∃ m, w'' = w6.drewN m :=
                fun n => (Str.same_any (hr6.below (below_drawn (Below.refl _ _) n)) (hrR.below (below_drawn (Below.refl _ _) n)) hkn).mono fun _ _ ⟨h1, m, h2⟩ => ⟨by rw [h1]; simp, n + m, by rw [h2, World.drewN_drewN]⟩
              replace cL := Lib.hid cL
              replace cS := Lib.hid cS
              replace hr6 := Lib.hid hr6
              clear hq T5 T7 R8 hcl1 hcl2 hrR
              go_wp2_with fail
              go_quiet (first | (with_reducible exact cL.out _) | (with_reducible exact cS.out _))
              have hs7 := hs6.drawn nq
              clear rc0 cL cS
              go_wp2_with fail
              go_loopw [20] (fun i wr2 => ∃ (jj : Nat) (X : List (Nat × Obj)), jj ≤ kq.length ∧ i = .int .i64 jj ∧ InOk w (.slice ka6 kq.length kc6) kq.length X ∧ St w wr2 sb bm rb X kq kq) (fun i _ => kq.length - (intOf i).toNat)
              case atStart => exact ⟨0, X6, Nat.zero_le _, rfl, hin6, hs7⟩
              case round =>
                clear hs6 hs7 hin6
                obtain ⟨jj, X7, hjj, rfl, hin7, hs8⟩ := hrel
                by_cases hl3 : jj < kq.length
                · rcases hin7 with ⟨h0, _⟩ | ⟨g, cap, cur, hv7, rfl, hcur, hg⟩
                  · omega
                  · simp only [Value.slice.injEq] at hv7
                    obtain ⟨rfl, -, rfl⟩ := hv7
                    have hcj : wr.cell? ⟨g, jj, none⟩ = some cur[jj] := by rw [hs8.cell (List.Mem.head _) jj]; exact Array.getElem?_eq_getElem (by omega)
                    have hfj := hs8.fr (List.Mem.head _) jj
                    have hs9 := hs8.set (b := g) (i := jj) rfl hg (by simp) (.string ⟨#[115, 112, 111, 105, 108, 116]⟩)
                    clear hs8
                    go_wp2_with fail
                    go_roundw
                    case rel => exact ⟨jj + 1, _, by omega, by go_num, Or.inr ⟨g, kc6, _, rfl, rfl, by simpa using hcur, hg⟩, hs9⟩
                    case measure => simp [intOf]; omega
                · have hs9 := hs8.sub (Y := []) (by simp)
                  have hjl3 : jj = kq.length := by omega
                  subst hjl3
                  clear hs8 hin7
                  go_wp2_with fail
                  go_roundw
                  case rel => exact ⟨j + 1, kq, by omega, by go_num, by omega, hs9⟩
                  case measure => simp [intOf]; omega

            · have hd1b : (d == 1) = false := by simpa using hd1
              obtain ⟨fi, fb, c1, c2⟩ := hsx.key n (by omega)
              replace c1 := Lib.hid c1
              replace c2 := Lib.hid c2
              go_wp2_with fail
              refine c1.out.mono ?_
              rintro e w4 ⟨rfl, rfl⟩
              clear hwx
              go_wp2_with fail
              refine c2.out.mono ?_
              rintro e w4 ⟨rfl, rfl⟩
              go_wp2_with fail
              have hq := hsx.sub (Y := []) (by simp)
              generalize ks = kq at *
              clear c1 c2 hsx hxk2 hxn2 hxd2
              generalize wx = wq at *
              obtain ⟨v5, B5, T5⟩ := hq.tab
              have hkn : kq.length ≤ 1000000 := by omega
              refine (Str.keys_any T5 hkn).mono ?_
              rintro e w6 ⟨v6, rfl, hcl⟩
              have hr6 := rd_cloned hcl
              obtain ⟨hcl1, hcl2⟩ := hcl
              rw [List.length_map] at hcl1
              obtain ⟨X6, hin6, hs6⟩ := hq.row hcl1 hcl2
              obtain ⟨ka6, kc6, hv6⟩ := hr6.form
              rw [List.length_map] at hv6
              subst hv6
              obtain ⟨v7, B7, T7⟩ := hs6.tab
              obtain ⟨rv, B8, R8⟩ := hs6.ref
              obtain ⟨ra, rc, hrv⟩ := R8.form
              subst hrv
              have rc0 := R8.c0
              have cL : ∀ n, Calls Try.prog 17 #[.pointer (some ⟨sb, 0, none⟩)] (w6.drewN n) fun e w'' => e = .returned (.int .i64 kq.length) ∧ ∃ m, w'' = w6.drewN m :=
                fun n => (Str.len_any (T7.drewN n)).mono fun _ _ ⟨h1, h2⟩ => ⟨h1, n, h2.symm⟩
              have hrR := rd_row R8.row
              have cS : ∀ n, Calls Try.prog 18 #[.slice ka6 kq.length kc6, .slice ra kq.length rc] (w6.drewN n) fun e w'' => e = .returned (.bool true) ∧ ∃ m, w'' = w6.drewN m :=
                fun n => (Str.same_any (hr6.below (below_drawn (Below.refl _ _) n)) (hrR.below (below_drawn (Below.refl _ _) n)) hkn).mono fun _ _ ⟨h1, m, h2⟩ => ⟨by rw [h1]; simp, n + m, by rw [h2, World.drewN_drewN]⟩
              replace cL := Lib.hid cL
              replace cS := Lib.hid cS
              replace hr6 := Lib.hid hr6
              clear hq T5 T7 R8 hcl1 hcl2 hrR
              go_wp2_with fail
              go_quiet (first | (with_reducible exact cL.out _) | (with_reducible exact cS.out _))
              have hs7 := hs6.drawn nq
              clear rc0 cL cS
              go_wp2_with fail
              go_loopw [20] (fun i wr2 => ∃ (jj : Nat) (X : List (Nat × Obj)), jj ≤ kq.length ∧ i = .int .i64 jj ∧ InOk w (.slice ka6 kq.length kc6) kq.length X ∧ St w wr2 sb bm rb X kq kq) (fun i _ => kq.length - (intOf i).toNat)
              case atStart => exact ⟨0, X6, Nat.zero_le _, rfl, hin6, hs7⟩
              case round =>
                clear hs6 hs7 hin6
                obtain ⟨jj, X7, hjj, rfl, hin7, hs8⟩ := hrel
                by_cases hl3 : jj < kq.length
                · rcases hin7 with ⟨h0, _⟩ | ⟨g, cap, cur, hv7, rfl, hcur, hg⟩
                  · omega
                  · simp only [Value.slice.injEq] at hv7
                    obtain ⟨rfl, -, rfl⟩ := hv7
                    have hcj : wr.cell? ⟨g, jj, none⟩ = some cur[jj] := by rw [hs8.cell (List.Mem.head _) jj]; exact Array.getElem?_eq_getElem (by omega)
                    have hfj := hs8.fr (List.Mem.head _) jj
                    have hs9 := hs8.set (b := g) (i := jj) rfl hg (by simp) (.string ⟨#[115, 112, 111, 105, 108, 116]⟩)
                    clear hs8
                    go_wp2_with fail
                    go_roundw
                    case rel => exact ⟨jj + 1, _, by omega, by go_num, Or.inr ⟨g, kc6, _, rfl, rfl, by simpa using hcur, hg⟩, hs9⟩
                    case measure => simp [intOf]; omega
                · have hs9 := hs8.sub (Y := []) (by simp)
                  have hjl3 : jj = kq.length := by omega
                  subst hjl3
                  clear hs8 hin7
                  go_wp2_with fail
                  go_roundw
                  case rel => exact ⟨j + 1, kq, by omega, by go_num, by omega, hs9⟩
                  case measure => simp [intOf]; omega

        · have hsd := hst.drawn 1
          obtain ⟨v5, B5, T5⟩ := hsd.tab
          obtain ⟨rv, B8, R8⟩ := hsd.ref
          obtain ⟨ra, rc, hrv⟩ := R8.form
          subst hrv
          have rc0 : wr.cell? ⟨rb, 0, none⟩ = some (.slice ra ks.length rc) := R8.c0
          have hrb : rb < wr.heap.size := (R8.lt rb (Or.inl rfl)).2
          have hrR := rd_row R8.row
          have hkn : ks.length ≤ 1000000 := by omega
          have hbw : Below w.heap.size w (wr.drewN 1) := hsd.below
          have hck := Lib.hid (Str.keys_any T5 hkn)
          replace hbw := Lib.hid hbw
          replace hrR := Lib.hid hrR
          clear hsd T5 R8 hst
          go_wp2_with fail
          go_region_held3 (fun w' => w'.cell? ⟨rb, 0, none⟩ = some (.slice ra ks.length rc)) (go_keep)
            (first
              | (go_at_call 16; refine hck.out.mono ?_; rintro e w5 ⟨v6, rfl, hcl⟩; have hr6 := Lib.hid (rd_cloned hcl); have hb5 := Lib.hid (hbw.out.trans (hcl.2.mono hbw.out.size)); have hrR5 := Lib.hid (hrR.out.below hcl.2); have hc5 : w5.cell? ⟨rb, 0, none⟩ = some (.slice ra ks.length rc) := (hcl.2.cell (p := ⟨rb, 0, none⟩) (by simpa using hrb)).trans rc0; have hrb5 : rb < w5.heap.size := Nat.lt_of_lt_of_le hrb hcl.2.size; clear hcl)
              | (go_at_call 18; refine (Str.same_any hr6.out hrR5.out hkn).mono ?_; rintro e w7 ⟨rfl, n7, rfl⟩; rw [decide_eq_true (rfl : ks = ks)])
              | (go_at_call 8; refine (wakes_any _).mono ?_; rintro e w8 ⟨rfl, hb8⟩; have hc8 : w8.cell? ⟨rb, 0, none⟩ = some (.slice ra ks.length rc) := (hb8.cell (p := ⟨rb, 0, none⟩) (by simpa using hrb5)).trans hc5; have hb9 := Lib.hid ((below_drawn hb5.out n7).trans (hb8.mono hb5.out.size)); clear hb8))
          go_wp2_with fail
          go_ret
          exact ⟨rfl, hb9.out⟩

set_option maxRecDepth 100000 in
theorem plays_great {s a : Value} {l : List ByteArray} {acts : List (Int × Int × ByteArray)} {w : World} (hs : Rd w s (l.map Value.string)) (ha : RdA w a acts) (h : 200 < l.length ∨ l.length ≤ 200 ∧ 200 < acts.length) (hm : l.length ≤ maxLen) (hm2 : acts.length ≤ maxLen) :
    Calls Try.prog 3 #[s, a] w fun e w' => e = .returned (.bool true) ∧ Below w.heap.size w w' := by
  obtain ⟨as1, cs1, hs0⟩ := hs.form
  obtain ⟨aa1, ca1, ha0⟩ := ha.form
  subst hs0
  subst ha0
  rw [List.length_map] at *
  clear hs ha
  unfold maxLen at hm hm2
  rcases h with h | ⟨h0, h⟩
  · have hd1 : decide ((200 : Int) < (l.length : Int)) = true := by simp; omega
    go_enter Try.func3, Try.ntmps3
    go_wp2_with (go_at_call 8; refine (wakes_any _).mono ?_; rintro e w' ⟨rfl, hb⟩)
    go_ret
    exact ⟨rfl, hb⟩
  · have hd1 : decide ((200 : Int) < (l.length : Int)) = false := by simp; omega
    have hd2 : decide ((200 : Int) < (acts.length : Int)) = true := by simp; omega
    go_enter Try.func3, Try.ntmps3
    go_wp2_with (go_at_call 8; refine (wakes_any _).mono ?_; rintro e w' ⟨rfl, hb⟩)
    go_ret
    exact ⟨rfl, hb⟩
end Go.Proofs.Ytdeoclapamknfaa
