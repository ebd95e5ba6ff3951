/- The document's own ways. -/
import Derived.Test.YteipncggndefmaaGRCol
import Derived.Deep.CutBlock
namespace Go.Proofs.Yteipncggndefmaa
open Go.RowKit Go.Maps Go.Shelf

set_option maxRecDepth 20000 in
set_option maxHeartbeats 8000000 in
theorem rreach_any {w : World} {v fv : Value} {L : List (List Int)} {fl : List Int} (h : RdG w v L) (hL : L.length ≤ 100000) (hr : ∀ r ∈ L, r.length ≤ 100000) (hf : RdI w fv fl) (hfl : fl.length ≤ 1000000) :
    Calls Try.prog 41 #[v, fv] w fun e w' => ∃ S s, e = .returned (.slice (some ⟨S, 0, none⟩) L.length L.length) ∧ w'.heap[S]? = some (.cells (seenA L.length s) 4 (0, 0)) ∧ (∀ x, x ∈ s ↔ Reached L fl x) ∧ w.heap.size ≤ S ∧ Below w.heap.size w w' := by
  obtain ⟨af, cf, rfl⟩ := hf.shape
  have hN := Lib.hid (rnorm_any h hL hr)
  go_enter Try.func41, Try.ntmps41
  go_wp2_with fail
  refine hN.out.mono ?_
  rintro e w1 ⟨vN, rfl, hrdN, hb1⟩
  have hX := hrdN.rd.off (U := fun b => b = w1.heap.size) (fun b e => by omega)
  have hmk := make_bools L.length hL w1
  obtain ⟨aN, cN, rfl⟩ := hrdN.rd.form
  rw [normL_len]
  have hb2 : Below w1.heap.size w1 (w1.alloc (.cells (seenA L.length []) 4)) := (Below.refl _ _).alloc (Nat.le_refl _) _
  have hX2 := hX.below hb2
  have hf2 : RdI (w1.alloc (.cells (seenA L.length []) 4)) (.slice af fl.length cf) fl := Rd.below (Rd.below hf hb1) hb2
  have hfo : Off (fun b => b = w1.heap.size) (.slice af fl.length cf) (fl.map encI).length := Rd.old (fun b e => by rw [e]; exact hb1.size) hf
  have hbs := heap_alloc_new w1 (.cells (seenA L.length []) 4)
  have hbe := hb1.trans (hb2.mono hb1.size)
  replace hr := Lib.hid hr
  clear hN hrdN hX hb2 h hf
  go_wp2_with fail
  obtain ⟨w2, hw2⟩ : ∃ w2, w2 = w1.alloc (.cells (seenA L.length []) 4) := ⟨_, rfl⟩
  rw [← hw2] at hX2 hf2 hbs hbe ⊢
  clear hw2 hmk
  have hlow : w.heap.size ≤ w1.heap.size := hb1.size
  obtain ⟨S, hS⟩ : ∃ S, S = w1.heap.size := ⟨_, rfl⟩
  rw [← hS] at hX2 hfo hbs hlow ⊢
  clear hS
  replace hbs := Lib.hid hbs
  have hNf := Lib.hid (norm_form L)
  go_loopw [6] (fun i wr => RFrom w2 wr S L fl i) (fun i _ => fl.length - (intOf i).toNat)
  case atStart => exact ⟨0, [], Nat.zero_le _, rfl, ⟨hbs.out, Touch.refl _ _⟩, fun x => by simp⟩
  case round =>
    obtain ⟨k, s, hk, rfl, hB, hmem⟩ := hrel
    by_cases hlt : k < fl.length
    · obtain ⟨y, hy⟩ : ∃ y, fl[k]? = some y := ⟨_, List.getElem?_eq_getElem hlt⟩
      obtain ⟨b, off, cap', e, hc⟩ := RdI.cell (Rd.off hf2 hB.2 hfo) hy
      simp only [Value.slice.injEq] at e
      obtain ⟨rfl, -, rfl⟩ := e
      have i1 : (k : Int) < (fl.length : Int) := by omega
      have htk := take_snoc hy
      have hfr : wr.frozen? ⟨S, y.toNat, none⟩ = false := by simp [World.frozen?, hB.1]
      have key : ∀ s' : List Nat, (∀ x, x ∈ s' ↔ (x ∈ s ∨ (x < L.length ∧ (x : Int) = y))) → ∀ x, x ∈ s' ↔ (x < L.length ∧ (x : Int) ∈ fl.take (k + 1)) := by
        intro s' h x
        rw [h, hmem, htk, List.mem_append, List.mem_singleton]
        constructor
        · rintro (⟨h1, h2⟩ | ⟨h1, h2⟩)
          · exact ⟨h1, .inl h2⟩
          · exact ⟨h1, .inr h2⟩
        · rintro ⟨h1, h2 | h2⟩
          · exact .inl ⟨h1, h2⟩
          · exact .inr ⟨h1, h2⟩
      replace key := Lib.hid key
      replace hmem := Lib.hid hmem
      clear htk
      by_cases h0 : 0 ≤ y
      · have d1 : decide (y ≥ 0) = true := by simpa using h0
        by_cases h1 : y < L.length
        · have d2 : decide (y < (L.length : Int)) = true := by simpa using h1
          obtain ⟨x, rfl⟩ : ∃ x : Nat, y = x := ⟨y.toNat, by omega⟩
          have hxn : x < L.length := by omega
          have i2 : (x : Int) < (L.length : Int) := h1
          have hsx : wr.cell? ⟨S, x, none⟩ = some (.bool (decide (x ∈ s))) := by rw [blk_cell hB.1]; exact seenA_at hxn
          rw [Int.toNat_natCast] at hfr
          have hB2 := hB.set hxn
          go_wp2_with fail
          refine ⟨⟨k + 1, x :: s, by omega, by go_num, hB2, key.out (x :: s) (fun z => ?_)⟩, by simp [intOf]; omega⟩
          rw [List.mem_cons]
          constructor
          · rintro (rfl | h)
            · exact .inr ⟨hxn, rfl⟩
            · exact .inl h
          · rintro (h | ⟨_, h⟩)
            · exact .inr h
            · exact .inl (Int.ofNat_inj.1 h)
        · have d2 : decide (y < (L.length : Int)) = false := by simpa using h1
          go_wp2_with fail
          exact ⟨⟨k + 1, s, by omega, by go_num, hB, key.out s (fun z => ⟨.inl, fun h => h.elim id (fun h => absurd (h.2 ▸ (by omega : (z : Int) < L.length)) h1)⟩)⟩, by simp [intOf]; omega⟩
      · have d1 : decide (y ≥ 0) = false := by simpa using h0
        go_wp2_with fail
        exact ⟨⟨k + 1, s, by omega, by go_num, hB, key.out s (fun z => ⟨.inl, fun h => h.elim id (fun h => absurd (h.2 ▸ (by omega : (0 : Int) ≤ z)) h0)⟩)⟩, by simp [intOf]; omega⟩
    · obtain rfl : k = fl.length := by omega
      have i1 : decide ((fl.length : Int) < (fl.length : Int)) = false := by simp
      rw [List.take_length] at hmem
      have hok : ∀ x ∈ s, Reached L fl x := fun x hx => by
        obtain ⟨h1, h2⟩ := (hmem x).1 hx
        exact ⟨x, h2, .refl h1⟩
      have hhas : ∀ x, x < L.length → (x : Int) ∈ fl → x ∈ s := fun x h1 h2 => (hmem x).2 ⟨h1, h2⟩
      replace hmem := Lib.hid hmem
      replace hok := Lib.hid hok
      replace hhas := Lib.hid hhas
      go_wp2_with fail
      go_loopg [7, 8, 9] (2 * unseen L.length s + 1) (fun m mv _ _ wx => RMore w2 wx S L fl m mv)
      case atStart => exact ⟨s, true, rfl, hB, hok.out, hhas.out, fun e => (by cases e), Lib.hid rfl⟩
      case round =>
        clear hB hmem hok hhas
        obtain ⟨s0, mo0, rfl, hB0, hok0, hhas0, hcl0, hm0⟩ := hrel
        cases mo0 with
        | false =>
          have hiff : ∀ x, x ∈ s0 ↔ Reached L fl x := by
            intro x
            refine ⟨hok0 x, ?_⟩
            rintro ⟨f, hf, hw⟩
            induction hw with
            | refl h => exact hhas0 _ h hf
            | step _ e ih => exact hcl0 rfl _ _ e ih
          have hfin := Lib.hid (And.intro hB0.1 (And.intro hiff (hbe.trans (hB0.2.below hbe.size (fun b hb e => by omega)))))
          clear hok0 hhas0 hcl0 hB0 hiff
          go_wp2_with fail
          go_ret
          exact ⟨S, s0, rfl, hfin.out.1, hfin.out.2.1, hlow, hfin.out.2.2⟩
        | true =>
          replace hhas0 := Lib.hid hhas0
          replace hcl0 := Lib.hid hcl0
          replace hok0 := Lib.hid hok0
          go_wp2_with fail
          go_loopw [7, 8, 9] (fun mv i _ wx => RRow w2 wx S L fl s0 mv i) (fun _ i _ _ => L.length - (intOf i).toNat)
          case atStart => exact ⟨0, s0, false, Nat.zero_le _, rfl, rfl, hB0, fun _ h => h, hok0.out, fun _ => ⟨rfl, fun i x h => absurd h.1 (Nat.not_lt_zero _)⟩, fun e => (by cases e)⟩
          case round =>
            clear hB0
            obtain ⟨k, s, mo, hk, rfl, rfl, hB, hP⟩ := hrel
            by_cases hlt : k < L.length
            · obtain ⟨r, hrk⟩ : ∃ r, (normL L)[k]? = some r := ⟨_, List.getElem?_eq_getElem (by rw [normL_len]; exact hlt)⟩
              obtain ⟨bN, oN, cN', u, e, hbN, hUN, hcell1, hrd1, hoff1⟩ := hX2.at hrk
              rw [normL_len] at e
              simp only [Value.slice.injEq] at e
              obtain ⟨rfl, -, rfl⟩ := e
              obtain ⟨ar, cr, rfl⟩ := hrd1.shape
              have i1 : (k : Int) < (L.length : Int) := by omega
              have hrf := hNf.out r (List.mem_of_getElem? hrk)
              have hrl : r.length ≤ 100000 := by
                obtain ⟨q, hq, rfl⟩ := List.mem_map.1 (List.mem_of_getElem? hrk)
                exact Nat.le_trans (rowL_len _ _) (hr.out q hq)
              rw [normL_len] at hrf
              replace hrf := Lib.hid hrf
              replace hrk := Lib.hid hrk
              replace hP := Lib.hid hP
              go_upto_block 6 with fail
              refine rreach_col (by kernel_rfl) hL hlt hrk hrl hrf hbN hUN hcell1 hrd1 hoff1 hB hP (Lib.hid ?_)
              intro s1 mo1 v7 e7 hB1 hP1
              subst e7
              replace hP1 := Lib.hid hP1
              go_wp2_with fail
              exact ⟨⟨k + 1, s1, mo1, by omega, by go_num, rfl, hB1, hP1.out⟩, by simp [intOf]; omega⟩
            · obtain rfl : k = L.length := by omega
              have i1 : decide ((L.length : Int) < (L.length : Int)) = false := by simp
              have hlt2 : 2 * unseen L.length s + mo.toNat < gk := by
                rw [hm0.out]
                cases mo with
                | true => have := hP.yes rfl; simp; omega
                | false => rw [(hP.no rfl).1]; simp
              have hfin := Lib.hid (show RMore w2 wr S L fl (2 * unseen L.length s + mo.toNat) (.bool mo) from ⟨s, mo, rfl, hB, hP.ok, fun x h1 h2 => hP.sub x (hhas0.out x h1 h2), fun e i x he hi => (hP.no e).2 i x ⟨he.lt.1, he⟩ hi, Lib.hid rfl⟩)
              clear hP hB
              go_wp2_with fail
              go_roundg (2 * unseen L.length s + mo.toNat)
              case rel => exact hfin.out
              case measure => exact hlt2
end Go.Proofs.Yteipncggndefmaa
