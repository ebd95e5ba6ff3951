/- TokenJoins: the walk. -/
import Derived.Test.YtobfcbmphobmfaaDoorCover
import Derived.Deep.Cut
namespace Go.Proofs.YtobfcbmphobmfaaDoor
open Go.RowKit Go.Shelf

theorem eql_spotN (w : World) (a b c e : Nat) : (Op.equalIn 10000 24 (.agg #[.int .i64 a, .int .i64 b]) (.agg #[.int .i64 c, .int .i64 e])).run Tryd.prog w = .ok (decide (a = c) && decide (b = e)) w := by
  rw [eq_spotT, beq_nat, beq_nat]

theorem told_short {s : ByteArray} (h : s.size ≤ 1048576) : told s = lex s.data.toList 1 1 := by unfold told; rw [if_pos h]
theorem bad_err {l : List UInt8} {a b e : Nat} (h : lex l 1 1 = .error (a, b, e)) : e ≠ 0 := by
  obtain ⟨m, _, _, h1, _⟩ := first_bad _ l 1 1 a b e (Nat.le_refl _) h
  omega

/-- Lines are no more than there are bytes. -/
theorem lex_lines : ∀ (n : Nat) (l : List UInt8) (ln cl : Nat), l.length ≤ n → (∀ t ∈ toks (lex l ln cl), t.line ≤ ln + l.length) ∧ ∀ a b e, lex l ln cl = .error (a, b, e) → a ≤ ln + l.length
  | _, [], ln, cl, _ => by
    rw [lex_nil]
    refine ⟨fun t ht => ?_, fun a b e h => by cases h⟩
    simp [toks] at ht
    rw [ht]
    exact Nat.le_refl _
  | 0, _ :: _, _, _, h => by simp at h
  | n + 1, c :: q, ln, cl, hn => by
    cases hs : stepL (c :: q) ln cl with
    | error e' =>
      rw [lex_bad (by simp) hs]
      refine ⟨fun t ht => by simp [toks] at ht, fun a b e h => ?_⟩
      obtain ⟨m, hm, h1, -, -⟩ := first_bad _ (c :: q) ln cl a b e (Nat.le_refl _) ((lex_bad (by simp) hs).trans h)
      have hb : ∀ (l : List UInt8) (p : Nat × Nat), (spotL p l).1 ≤ p.1 + l.length := by
        intro l
        induction l with
        | nil => intro p; exact Nat.le_refl _
        | cons x l ih =>
          intro p
          have := ih (spotStep p x)
          have h2 : (spotStep p x).1 ≤ p.1 + 1 := by unfold spotStep; split <;> simp
          show (spotL (spotStep p x) l).1 ≤ _
          rw [List.length_cons]
          omega
      have := hb ((c :: q).take m) (ln, cl)
      rw [h1] at this
      have h3 : ((c :: q).take m).length ≤ (c :: q).length := by rw [List.length_take]; omega
      show a ≤ _
      have h4 : (a, b).1 = a := rfl
      omega
    | ok x =>
      obtain ⟨k, a', b', w⟩ := x
      obtain ⟨hk0, hk⟩ := step_pos hs
      obtain ⟨hsb, -⟩ := step_bound hs
      obtain ⟨-, hf⟩ := step_forms hs
      obtain ⟨i1, i2⟩ := lex_lines n ((c :: q).drop k) a' b' (by rw [List.length_drop]; simp only [List.length_cons] at hn ⊢; omega)
      rw [List.length_drop] at i1 i2
      rw [lex_went (by simp) hs]
      cases hr : lex ((c :: q).drop k) a' b' with
      | error y =>
        rw [hr] at i2
        refine ⟨fun t ht => by simp [toks, add] at ht, fun a b e h => ?_⟩
        have := i2 a b e h
        omega
      | ok o =>
        rw [hr] at i1
        refine ⟨fun t ht => ?_, fun a b e h => by cases h⟩
        have ht : t ∈ w.toList ++ o := ht
        rcases List.mem_append.1 ht with ht | ht
        · rcases hf with ⟨rfl, -⟩ | ⟨w', rfl, -, hw, -⟩
          · simp at ht
          · simp at ht
            rw [ht]
            have : w'.line = ln := congrArg Prod.fst hw
            omega
        · have := i1 t ht
          omega

/-- The two texts as one. -/
def joinS (a b : ByteArray) : ByteArray := a ++ ⟨#[10]⟩ ++ b
theorem joinS_list (a b : ByteArray) : (joinS a b).data.toList = a.data.toList ++ 10 :: b.data.toList := by simp [joinS]
theorem joinS_size (a b : ByteArray) : (joinS a b).size = a.size + 1 + b.size := by
  have := congrArg List.length (joinS_list a b)
  simp at this
  omega
theorem told_join {a b : ByteArray} (ha : a.size ≤ 2000) (hb : b.size ≤ 2000) : told (joinS a b) = joinL b.data.toList (told a) := by
  rw [told_short (by rw [joinS_size]; omega), told_short (by omega), joinS_list, lex_join _ _ _ _ _ (Nat.le_refl _)]
theorem told_down {b : ByteArray} (hb : b.size ≤ 2000) (m : Nat) : lex b.data.toList (m + 1) 1 = down m (told b) := by
  rw [told_short (by omega), Nat.add_comm m 1, lex_down m _ _ 1 1 (Nat.le_refl _)]
section
variable {w : World} {a b : ByteArray}
set_option maxRecDepth 20000 in
set_option maxHeartbeats 4000000 in
theorem joins_long (h : 2000 < a.size ∨ 2000 < b.size) (ha : a.size ≤ maxLen) (hb : b.size ≤ maxLen) : Calls Tryd.prog 7 #[.string a, .string b] w fun e w' => e = .returned (.bool true) ∧ Below w.heap.size w w' := by
  unfold maxLen at ha hb
  by_cases h1 : 2000 < a.size
  · have d1 : decide ((a.size : Int) > 2000) = true := by simp; omega
    go_enter Tryd.func7, Tryd.ntmps7
    go_wp2_with fail
    go_ret
    exact ⟨rfl, Below.refl _ _⟩
  · have d1 : decide ((a.size : Int) > 2000) = false := by simp; omega
    have d2 : decide ((b.size : Int) > 2000) = true := by simp; omega
    go_enter Tryd.func7, Tryd.ntmps7
    go_wp2_with fail
    go_ret
    exact ⟨rfl, Below.refl _ _⟩

set_option maxRecDepth 20000 in
set_option maxHeartbeats 8000000 in
theorem joins_short (h1 : a.size ≤ 2000) (h2 : b.size ≤ 2000) : Calls Tryd.prog 7 #[.string a, .string b] w fun e w' => e = .returned (.bool true) ∧ Below w.heap.size w w' := by
  have hk := Lib.hid lexes_any
  have hL := Lib.hid (fun s (h : s.size ≤ 5000) w => lex_told s w (by unfold maxLen; omega))
  have hj3 : (joinS a b).size ≤ 5000 := by rw [joinS_size]; omega
  have hS : (joinS a b) = a ++ ⟨#[10]⟩ ++ b := rfl
  have d1 : decide ((a.size : Int) > 2000) = false := by simp; omega
  have d2 : decide ((b.size : Int) > 2000) = false := by simp; omega
  have hta := Lib.hid (told_join h1 h2)
  have htd := Lib.hid (told_down h2)
  have hsa := Lib.hid (told_short (s := a) (by omega))
  have hsb := Lib.hid (told_short (s := b) (by omega))
  have hla := told_len a
  have hlb := told_len b
  replace hS := Lib.hid hS
  go_enter Tryd.func7, Tryd.ntmps7
  go_wp2_with fail
  refine (hL.out a (by omega) _).mono ?_
  rintro e1 w1 ⟨va, l, c, er, rfl, hra, hwa, hb1⟩
  obtain ⟨a1, c1, rfl⟩ := hra.form
  have hlt1 : w.heap.size ≤ w1.heap.size := hb1.size
  replace hwa := Lib.hid hwa
  go_upto_region 4 with fail
  have hbx := hb1.alloc hb1.size (.cells #[.int .i64 l, .int .i64 c] 24)
  have hrax := hra.below ((Below.refl _ w1).alloc (Nat.le_refl _) (.cells #[.int .i64 l, .int .i64 c] 24))
  have hltx : w1.heap.size < (w1.alloc (.cells #[.int .i64 l, .int .i64 c] 24)).heap.size := by simp
  generalize (w1.alloc (.cells #[.int .i64 l, .int .i64 c] 24)) = wx at *
  clear hra hb1
  go_wp2_with fail
  refine (hL.out b (by omega) _).mono ?_
  rintro e2 w2 ⟨vb, l2, c2, er2, rfl, hrb, hwb, hb2⟩
  obtain ⟨a2, c3, rfl⟩ := hrb.form
  have hlt2 : wx.heap.size ≤ w2.heap.size := hb2.size
  replace hwb := Lib.hid hwb
  go_upto_region 5 with fail
  have hby := (hbx.trans (hb2.mono hbx.size)).alloc (Nat.le_trans hbx.size hb2.size) (.cells #[.int .i64 l2, .int .i64 c2] 24)
  have hray := (hrax.below hb2).below ((Below.refl _ w2).alloc (Nat.le_refl _) (.cells #[.int .i64 l2, .int .i64 c2] 24))
  have hrby := hrb.below ((Below.refl _ w2).alloc (Nat.le_refl _) (.cells #[.int .i64 l2, .int .i64 c2] 24))
  have hlty : w2.heap.size < (w2.alloc (.cells #[.int .i64 l2, .int .i64 c2] 24)).heap.size := by simp
  have y0 : (w2.alloc (.cells #[.int .i64 l2, .int .i64 c2] 24)).cell? ⟨w2.heap.size, 0, none⟩ = some (.int .i64 l2) := by simp
  have y1 : (w2.alloc (.cells #[.int .i64 l2, .int .i64 c2] 24)).cell? ⟨w2.heap.size, 1, none⟩ = some (.int .i64 c2) := by simp
  generalize (w2.alloc (.cells #[.int .i64 l2, .int .i64 c2] 24)) = wy at *
  clear hrax hbx hrb hb2
  go_wp2_with fail
  rw [← hS.out]
  refine (hL.out (joinS a b) hj3 _).mono ?_
  rintro e3 w3 ⟨vn, l3, c4, er3, rfl, hrn, hwn, hb3⟩
  obtain ⟨a3, c5, rfl⟩ := hrn.form
  have hlt3 : wy.heap.size ≤ w3.heap.size := hb3.size
  replace hwn := Lib.hid hwn
  go_upto_region 6 with fail
  have hbz := (hby.trans (hb3.mono hby.size)).alloc (Nat.le_trans hby.size hb3.size) (.cells #[.int .i64 l3, .int .i64 c4] 24)
  have hraz := (hray.below hb3).below ((Below.refl _ w3).alloc (Nat.le_refl _) (.cells #[.int .i64 l3, .int .i64 c4] 24))
  have hrbz := (hrby.below hb3).below ((Below.refl _ w3).alloc (Nat.le_refl _) (.cells #[.int .i64 l3, .int .i64 c4] 24))
  have hrnz := hrn.below ((Below.refl _ w3).alloc (Nat.le_refl _) (.cells #[.int .i64 l3, .int .i64 c4] 24))
  have hltz : w2.heap.size < w3.heap.size := Nat.lt_of_lt_of_le hlty hb3.size
  have z0 : (w3.alloc (.cells #[.int .i64 l3, .int .i64 c4] 24)).cell? ⟨w2.heap.size, 0, none⟩ = some (.int .i64 l2) := (World.cell?_alloc_past _ _ _ hltz).trans ((hb3.cell (p := ⟨w2.heap.size, 0, none⟩) hlty).trans y0)
  have z1 : (w3.alloc (.cells #[.int .i64 l3, .int .i64 c4] 24)).cell? ⟨w2.heap.size, 1, none⟩ = some (.int .i64 c2) := (World.cell?_alloc_past _ _ _ hltz).trans ((hb3.cell (p := ⟨w2.heap.size, 1, none⟩) hlty).trans y1)
  have z2 : (w3.alloc (.cells #[.int .i64 l3, .int .i64 c4] 24)).cell? ⟨w3.heap.size, 0, none⟩ = some (.int .i64 l3) := by simp
  have z3 : (w3.alloc (.cells #[.int .i64 l3, .int .i64 c4] 24)).cell? ⟨w3.heap.size, 1, none⟩ = some (.int .i64 c4) := by simp
  generalize (w3.alloc (.cells #[.int .i64 l3, .int .i64 c4] 24)) = wz at *
  clear hray hby hrn hb3 hrby y0 y1
  rcases hda : told a with ⟨l', c', e'⟩ | oa
  · -- the first text is none
    have hea := bad_err (hsa.out.symm.trans hda)
    have hw' := hwa.out
    rw [hda] at hw'
    have hn' := hwn.out
    rw [hta.out, hda] at hn'
    obtain ⟨rfl, rfl, rfl⟩ : l' = l ∧ c' = c ∧ e' = er := by simpa [where'] using hw'
    obtain ⟨rfl, rfl, rfl⟩ : l' = l3 ∧ c' = c4 ∧ e' = er3 := by simpa [where', joinL] using hn'
    have d3 : ((e' : Int) != 0) = true := by simp; omega
    clear hw' hn' hda
    go_wp2_with fail
    refine (hk.out _).mono ?_
    rintro e4 w4 ⟨rfl, hb7⟩
    have hb8 := hbz.trans (hb7.mono hbz.size)
    clear hbz hb7
    go_wp2_with fail
    go_ret
    exact ⟨rfl, hb8⟩
  · have hw' := hwa.out
    rw [hda] at hw'
    obtain ⟨rfl, rfl, rfl⟩ : 0 = l ∧ 0 = c ∧ 0 = er := by simpa [where'] using hw'
    clear hw'
    have hne : oa ≠ [] := lex_some _ _ _ _ _ (hsa.out.symm.trans hda)
    rw [hda] at hraz
    obtain ⟨k, hkk⟩ : ∃ k, oa.length = k + 1 := ⟨oa.length - 1, by have : oa.length ≠ 0 := fun h => hne (List.length_eq_zero_iff.1 h); omega⟩
    obtain ⟨t, ht⟩ : ∃ t, oa[k]? = some t := ⟨_, List.getElem?_eq_getElem (by omega)⟩
    have htl : lastLine oa = t.line := by
      unfold lastLine
      rw [List.getLast?_eq_getElem?, hkk, Nat.add_sub_cancel, ht]
    have hjoin : told (joinS a b) = sofar oa.dropLast (down t.line (told b)) := by
      rw [hta.out, hda, ← htd.out, ← htl]
      rfl
    have hn' := hwn.out
    have hrn' := hrnz
    rw [hjoin] at hn' hrn'
    obtain ⟨g, cap, e, hg, x0, x1, x2, x3, x4⟩ := hraz.at ht
    simp only [Value.slice.injEq, toks] at e
    obtain ⟨rfl, he, rfl⟩ := e
    have hlen : (toks (Except.ok oa : Except Bad (List Tok))).length = k + 1 := hkk
    rw [hlen]
    have hk0 : k ≤ 1048576 := by rw [hda, hlen] at hla; omega
    have hraz2 : RdT wz (.slice (some ⟨g, 0, none⟩) (k + 1) c1) oa := by rw [← hlen]; exact hraz
    rcases hdb : told b with ⟨l', c', e'⟩ | ob
    · -- the second text is none
      have heb := bad_err (hsb.out.symm.trans hdb)
      have hw' := hwb.out
      rw [hdb] at hw' hn'
      obtain ⟨rfl, rfl, rfl⟩ : l' = l2 ∧ c' = c2 ∧ e' = er2 := by simpa [where'] using hw'
      obtain ⟨h3, rfl, rfl⟩ : l3 = l' + t.line ∧ c' = c4 ∧ e' = er3 := by have h := hn'; simp [where', down, sofar] at h; omega
      have d3 : ((e' : Int) != 0) = true := by simp; omega
      have d4 : ((k : Int) + 1 == 0) = false := by simp; omega
      have hq : ∀ w, (Op.equalIn 10000 24 (.agg #[.int .i64 l3, .int .i64 c']) (.agg #[.int .i64 ((l' : Int) + (t.line : Int)), .int .i64 c'])).run Tryd.prog w = .ok true w := fun w => by rw [eq_spotT, h3]; simp
      have hl1 : l' ≤ 3000 := by
        have := (lex_lines _ b.data.toList 1 1 (Nat.le_refl _)).2 _ _ _ (hsb.out.symm.trans hdb)
        simp at this
        omega
      have hl2 : t.line ≤ 3000 := by
        have := (lex_lines _ a.data.toList 1 1 (Nat.le_refl _)).1 t (by rw [← hsa.out, hda]; exact List.mem_of_getElem? ht)
        simp at this
        omega
      replace h3 := Lib.hid h3
      clear hw' hn' hrn' hda hdb hraz hraz2 hla hlb hjoin htl ht he hlen hwn hwa hwb hta htd hsa hsb hS hrbz hrnz x0 x1 x2 x4
      go_wp2_with (go_at_call 11; refine (hk.out _).mono ?_; rintro e4 w4 ⟨rfl, hb7⟩; have hb8 := Lib.hid (hbz.trans (hb7.mono hbz.size)); clear hbz hb7)
      go_ret
      exact ⟨rfl, hb8.out⟩
    · -- both are
      have hw' := hwb.out
      rw [hdb] at hw' hn' hrn'
      obtain ⟨rfl, rfl, rfl⟩ : 0 = l2 ∧ 0 = c2 ∧ 0 = er2 := by simpa [where'] using hw'
      obtain ⟨rfl, rfl, rfl⟩ : 0 = l3 ∧ 0 = c4 ∧ 0 = er3 := by simpa [where', down, sofar] using hn'
      have hneb : ob ≠ [] := lex_some _ _ _ _ _ (hsb.out.symm.trans hdb)
      obtain ⟨m, hmm⟩ : ∃ m, ob.length = m + 1 := ⟨ob.length - 1, by have : ob.length ≠ 0 := fun h => hneb (List.length_eq_zero_iff.1 h); omega⟩
      have hlenb : (toks (Except.ok ob : Except Bad (List Tok))).length = m + 1 := hmm
      have hm0 : m ≤ 1048576 := by rw [hdb, hlenb] at hlb; omega
      obtain ⟨N, hN⟩ : ∃ N, N = oa.dropLast ++ ob.map (downT t.line) := ⟨_, rfl⟩
      have hNt : toks (told (joinS a b)) = N := by rw [hjoin, hdb, hN]; rfl
      have hlenN : N.length = k + m + 1 := by rw [hN]; simp; omega
      have hlenn : (toks (told (joinS a b))).length = k + m + 1 := by rw [hNt, hlenN]
      have hrbz2 : RdT wz (.slice a2 (m + 1) c3) ob := by rw [hdb] at hrbz; rw [← hlenb]; exact hrbz
      have hrnz2 : RdT wz (.slice a3 (k + m + 1) c5) N := by rw [hNt] at hrnz; rw [← hlenN]; exact hrnz
      have hlo : Hid (∀ i, i < k → N[i]? = oa[i]?) := Lib.hid (fun i hi => by rw [hN, List.getElem?_append_left (by simp; omega), List.getElem?_dropLast]; rw [if_pos (by omega)])
      have hhi : Hid (∀ j q, ob[j]? = some q → N[k + j]? = some (downT t.line q)) := Lib.hid (fun j q hj => by
        have hld : oa.dropLast.length = k := by simp; omega
        rw [hN, List.getElem?_append_right (by omega), hld, Nat.add_sub_cancel_left, List.getElem?_map, hj]; rfl)
      have hl2 : t.line ≤ 3000 := by
        have := (lex_lines _ a.data.toList 1 1 (Nat.le_refl _)).1 t (by rw [← hsa.out, hda]; exact List.mem_of_getElem? ht)
        simp at this
        omega
      have hlq : Hid (∀ (j : Nat) (q : Tok), ob[j]? = some q → q.line ≤ 3000) := Lib.hid (fun j q hj => by
        have := (lex_lines _ b.data.toList 1 1 (Nat.le_refl _)).1 q (by rw [← hsb.out, hdb]; exact List.mem_of_getElem? hj)
        simp at this
        omega)
      have d4 : ((k : Int) + 1 == 0) = false := by simp; omega
      have d5 : ((k : Int) + (m : Int) + 1 != (k : Int) + 1 + ((m : Int) + 1) - 1) = false := by simp; omega
      rw [hlenb, hlenn]
      replace hlenN := Lib.hid hlenN
      replace hmm := Lib.hid hmm
      replace hkk := Lib.hid hkk
      clear hw' hn' hrn' hda hdb hraz hla hlb hjoin htl ht hlen hlenb hlenn hwn hwa hwb hta htd hsa hsb hS hrbz hrnz x0 x1 x2 x4 hN hNt z0 z1 z2 z3 hne hneb
      go_wp2_with fail
      go_loopw [15, 16] (fun i p wr => ∃ j : Nat, j ≤ k + m + 1 ∧ i = .int .i64 j ∧ Below wz.heap.size wz wr) (fun i _ _ => k + m + 1 - (intOf i).toNat)
      case atStart => exact ⟨0, Nat.zero_le _, rfl, Below.refl _ _⟩
      case round =>
        obtain ⟨j, hj, rfl, hbw⟩ := hrel
        clear x3
        by_cases hlt : j < k + m + 1
        · have i1 : (j : Int) < (k : Int) + (m : Int) + 1 := by omega
          obtain ⟨n, hn⟩ : ∃ n, N[j]? = some n := ⟨_, List.getElem?_eq_getElem (by have := hlenN.out; omega)⟩
          obtain ⟨gn, capn, en, hgn, u0, u1, u2, u3, u4⟩ := (hrnz2.below hbw).at hn
          simp only [Value.slice.injEq] at en
          obtain ⟨rfl, -, rfl⟩ := en
          by_cases hjk : j < k
          · have i2 : decide ((j : Int) < (k : Int)) = true := by simp; omega
            have hna := (hlo.out j hjk).symm.trans hn
            obtain ⟨ga, capa, ea, hga, v0, v1, v2, v3, v4⟩ := (hraz2.below hbw).at hna
            simp only [Value.slice.injEq] at ea
            obtain ⟨ea, -, rfl⟩ := ea
            obtain rfl : g = ga := by simpa using ea
            have hq := fun w => eq_tokT n n w
            simp only [tokB_refl] at hq
            clear ea hna hn
            go_wp2_with fail
            go_quiet (fail)
            go_wp2_with fail
            have hbn := below_drawn (hbw.alloc hbw.size (.cells #[.int .u8 n.kind, .string ⟨n.text.toArray⟩, .int .i64 n.num, .int .i64 n.line, .int .i64 n.col] 34)) nq
            go_roundw
            case rel => exact ⟨j + 1, by omega, by go_num, hbn⟩
            case measure => simp [intOf]; omega
          · have i2 : decide ((j : Int) < (k : Int)) = false := by simp; omega
            obtain ⟨y, hy⟩ : ∃ y, j = k + y := ⟨j - k, by omega⟩
            obtain ⟨q, hbq⟩ : ∃ q, ob[y]? = some q := ⟨_, List.getElem?_eq_getElem (by have := hmm.out; omega)⟩
            have hnq : n = downT t.line q := by
              have := hhi.out y q hbq
              rw [← hy, hn] at this
              exact Option.some.inj this
            have hql := hlq.out y q hbq
            obtain ⟨ga, capa, ea, hga, v0, v1, v2, v3, v4⟩ := (hrbz2.below hbw).at hbq
            simp only [Value.slice.injEq] at ea
            obtain ⟨rfl, -, rfl⟩ := ea
            have hq : ∀ w, (Op.equalIn 10000 34 (.agg #[.int .u8 n.kind, .string ⟨n.text.toArray⟩, .int .i64 n.num, .int .i64 n.line, .int .i64 n.col]) (.agg #[.int .u8 q.kind, .string ⟨q.text.toArray⟩, .int .i64 q.num, .int .i64 ((q.line : Int) + (t.line : Int)), .int .i64 q.col])).run Tryd.prog w = .ok true w := fun w => by
              have h := eq_tokT n n w
              rw [tokB_refl] at h
              rw [hnq] at h ⊢
              exact h
            have hz : (j : Int) - ((k : Int) + 1) + 1 = (y : Int) := by omega
            have i3 : (y : Int) < (m : Int) + 1 := by omega
            replace hnq := Lib.hid hnq
            replace hy := Lib.hid hy
            clear hbq hn
            go_wp2_with fail
            go_quiet (fail)
            go_wp2_with fail
            have hbn := below_drawn (hbw.alloc hbw.size (.cells #[.int .u8 q.kind, .string ⟨q.text.toArray⟩, .int .i64 q.num, .int .i64 ((q.line : Int) + (t.line : Int)), .int .i64 q.col] 34)) nq
            go_roundw
            case rel => exact ⟨j + 1, by omega, by go_num, hbn⟩
            case measure => simp [intOf]; omega
        · have i1 : decide ((j : Int) < (k : Int) + (m : Int) + 1) = false := by simp; omega
          have hbv := hbz.trans (hbw.mono hbz.size)
          clear hrnz2 hraz2 hrbz2 hlo hhi hlq hbw hbz
          go_wp2_with (go_at_call 11; refine (hk.out _).mono ?_; rintro e4 w4 ⟨rfl, hb7⟩; have hb8 := Lib.hid (hbv.trans (hb7.mono hbv.size)); clear hbv hb7)
          go_ret
          exact ⟨rfl, hb8.out⟩
end
end Go.Proofs.YtobfcbmphobmfaaDoor
