/- The document's own ways: a row. -/
import Derived.Test.YteipncggndefmaaGRNorm
import Derived.Test.YteipncggndefmaaFindB
namespace Go.Proofs.Yteipncggndefmaa
open Go.RowKit Go.Maps Go.Shelf

/-- What is reached in a pass: nothing goes, all that comes is reached; where nothing came, the edges gone through lead to what is there. -/
structure Pass (L : List (List Int)) (fl : List Int) (s0 : List Nat) (mo : Bool) (s : List Nat) (D : Nat → Nat → Prop) : Prop where
  sub : ∀ x ∈ s0, x ∈ s
  ok : ∀ x ∈ s, Reached L fl x
  no : mo = false → s = s0 ∧ ∀ i x, D i x → i ∈ s → x ∈ s
  yes : mo = true → unseen L.length s < unseen L.length s0
theorem Pass.same {L : List (List Int)} {fl : List Int} {s0 s : List Nat} {mo : Bool} {D D' : Nat → Nat → Prop} (h : Pass L fl s0 mo s D) (hd : mo = false → ∀ i x, D' i x → i ∈ s → D i x ∨ x ∈ s) : Pass L fl s0 mo s D' :=
  ⟨h.sub, h.ok, fun e => ⟨(h.no e).1, fun i x hix hi => (hd e i x hix hi).elim (fun h' => (h.no e).2 i x h' hi) id⟩, h.yes⟩
theorem Pass.add {L : List (List Int)} {fl : List Int} {s0 s : List Nat} {mo : Bool} {D D' : Nat → Nat → Prop} {i x : Nat} (h : Pass L fl s0 mo s D) (hi : i ∈ s) (he : Edge L i x) (hx : x ∉ s) : Pass L fl s0 true (x :: s) D' := by
  refine ⟨fun y hy => List.Mem.tail _ (h.sub y hy), fun y hy => ?_, fun e => (by cases e), fun _ => ?_⟩
  · rcases List.mem_cons.1 hy with rfl | hy
    · obtain ⟨f, hf, hw⟩ := h.ok i hi
      exact ⟨f, hf, .step hw he⟩
    · exact h.ok y hy
  · have h1 := unseen_lt he.lt.2 hx
    cases mo with
    | true => have := h.yes rfl; omega
    | false => rw [← (h.no rfl).1]; exact h1

def RBase (w wr : World) (S : Nat) (L : List (List Int)) (s : List Nat) : Prop := wr.heap[S]? = some (.cells (seenA L.length s) 4 (0, 0)) ∧ Touch w wr (fun b => b = S)
theorem RBase.set {w wr : World} {S x : Nat} {L : List (List Int)} {s : List Nat} (h : RBase w wr S L s) (hx : x < L.length) : RBase w (wr.setCell ⟨S, x, none⟩ (.bool true)) S L (x :: s) :=
  ⟨by rw [blk_set _ h.1, seenA_set hx], Touch.join h.2 ((Touch.refl wr (fun b => b = S)).setCell (a := ⟨S, x, none⟩) (fun _ => rfl) _) (fun _ _ e => e)⟩
def RFrom (w wr : World) (S : Nat) (L : List (List Int)) (fl : List Int) (i : Value) : Prop :=
  ∃ (k : Nat) (s : List Nat), k ≤ fl.length ∧ i = .int .i64 k ∧ RBase w wr S L s ∧ (∀ x, x ∈ s ↔ (x < L.length ∧ (x : Int) ∈ fl.take k))
def RMore (w wr : World) (S : Nat) (L : List (List Int)) (fl : List Int) (m : Nat) (mv : Value) : Prop :=
  ∃ (s : List Nat) (mo : Bool), mv = .bool mo ∧ RBase w wr S L s ∧ (∀ x ∈ s, Reached L fl x) ∧ (∀ x, x < L.length → (x : Int) ∈ fl → x ∈ s) ∧ (mo = false → ∀ i x, Edge L i x → i ∈ s → x ∈ s) ∧ Hid (m = 2 * unseen L.length s + mo.toNat)
def RRow (w wr : World) (S : Nat) (L : List (List Int)) (fl : List Int) (s0 : List Nat) (mv i : Value) : Prop :=
  ∃ (k : Nat) (s : List Nat) (mo : Bool), k ≤ L.length ∧ i = .int .i64 k ∧ mv = .bool mo ∧ RBase w wr S L s ∧ Pass L fl s0 mo s (fun a b => a < k ∧ Edge L a b)
def RCol (w wr : World) (S k : Nat) (L : List (List Int)) (fl : List Int) (r : List Int) (s0 : List Nat) (mv j : Value) : Prop :=
  ∃ (m : Nat) (s : List Nat) (mo : Bool), m ≤ r.length ∧ j = .int .i64 m ∧ mv = .bool mo ∧ RBase w wr S L s ∧ Pass L fl s0 mo s (fun a b => (a < k ∧ Edge L a b) ∨ (a = k ∧ (b : Int) ∈ r.take m))

set_option maxRecDepth 20000 in
set_option maxHeartbeats 8000000 in
theorem rreach_col {c : Code} (hc : Func.blockOf Try.f41 6 = some c) {Q : Exit → Act → World → Prop} {w2 wr : World} {S k bN oN cN cr : Nat} {ar : Option Addr} {L : List (List Int)} {fl r : List Int} {s0 s : List Nat} {mo : Bool} {u1 u2 u3 u4 u6 u10 u11 u12 u13 u14 u15 u16 u17 u18 u19 u20 u21 u22 u23 u24 u25 u26 u27 u28 u29 u30 u31 u32 u33 u34 u35 u36 u37 u38 u39 u40 u41 u42 u43 u44 u45 u46 u47 u48 u49 u50 u51 u52 u53 u54 u55 u56 u57 u58 u59 u60 u61 u62 u63 u64 u65 u66 u67 u68 u69 u70 u71 u72 u73 u74 u75 u76 u77 u78 u79 u80 u81 u82 u83 : Value}
    (hL : L.length ≤ 100000) (hlt : k < L.length) (hrk : Hid ((normL L)[k]? = some r)) (hrl : r.length ≤ 100000) (hrf : Hid (r.Pairwise (· < ·) ∧ ∀ x ∈ r, 0 ≤ x ∧ x < L.length)) (hbN : bN < w2.heap.size) (hUN : bN ≠ S) (hcell1 : w2.cell? ⟨bN, oN + k, none⟩ = some (.slice ar r.length cr)) (hrd1 : RdI w2 (.slice ar r.length cr) r) (hoff1 : Off (fun b => b = S) (.slice ar r.length cr) r.length)
    (hB : RBase w2 wr S L s) (hP : Hid (Pass L fl s0 mo s (fun a b => a < k ∧ Edge L a b)))
    (hQ : Hid (∀ {wx : World} {v9 v48 v49 v50 v51 v52 v53 v54 v55 v56 v57 v58 v59 v60 v61 v62 v63 v64 v65 v66 v67 v68 v69 v70 v71 v72 v73 v74 v75 v76 v77 v78 v79 v80 v81 v82 : Value} (s1 : List Nat) (mo1 : Bool) {v7 : Value}, v7 = .bool mo1 → RBase w2 wx S L s1 → Pass L fl s0 mo1 s1 (fun a b => a < k + 1 ∧ Edge L a b) → Q .normal { tmps := #[.slice (some ⟨bN, oN, none⟩) L.length cN, u1, u2, u3, u4, .slice (some ⟨S, 0, none⟩) L.length L.length, u6, .bool mo1, .int .i64 k, v9, u10, u11, u12, u13, u14, u15, u16, u17, u18, u19, u20, u21, u22, u23, u24, u25, u26, u27, u28, u29, u30, u31, u32, u33, u34, u35, u36, u37, u38, u39, u40, u41, u42, u43, u44, u45, u46, u47, v48, v49, v50, v51, v52, v53, v54, v55, v56, v57, v58, v59, v60, v61, v62, v63, v64, v65, v66, v67, v68, v69, v70, v71, v72, v73, v74, v75, v76, v77, v78, v79, v80, v81, v82, u83], defers := [] } wx)) :
    c.wp Try.prog Q { tmps := #[.slice (some ⟨bN, oN, none⟩) L.length cN, u1, u2, u3, u4, .slice (some ⟨S, 0, none⟩) L.length L.length, u6, .bool mo, .int .i64 k, .int .i64 0, u10, u11, u12, u13, u14, u15, u16, u17, u18, u19, u20, u21, u22, u23, u24, u25, u26, u27, u28, u29, u30, u31, u32, u33, u34, u35, u36, u37, u38, u39, u40, u41, u42, u43, u44, u45, u46, u47, u48, u49, u50, u51, u52, u53, u54, u55, u56, u57, u58, u59, u60, u61, u62, u63, u64, u65, u66, u67, u68, u69, u70, u71, u72, u73, u74, u75, u76, u77, u78, u79, u80, u81, u82, u83], defers := [] } wr := by
  conv at hc => lhs; whnf
  simp only [Option.some.injEq] at hc
  subst hc
  have i1 : (k : Int) < (L.length : Int) := by omega
  go_wp2_with fail
  go_loopw [7, 9] (fun mv j wx => RCol w2 wx S k L fl r s0 mv j) (fun _ j _ => r.length - (intOf j).toNat)
  case atStart => exact ⟨0, s, mo, Nat.zero_le _, rfl, rfl, hB, hP.out.same (fun _ i x h _ => by
    rcases h with h | ⟨_, h⟩
    · exact .inl h
    · simp at h)⟩
  case round =>
    clear hB hP
    obtain ⟨m, s1, mo1, hm, rfl, rfl, hB1, hP1⟩ := hrel
    have hcell := (cell_off hB1.2 hbN hUN).trans hcell1
    by_cases hltm : m < r.length
    · obtain ⟨x, hx⟩ : ∃ x, r[m]? = some x := ⟨_, List.getElem?_eq_getElem hltm⟩
      obtain ⟨hx0, hxn⟩ := hrf.out.2 x (List.mem_of_getElem? hx)
      obtain ⟨y, rfl⟩ : ∃ y : Nat, x = y := ⟨x.toNat, by omega⟩
      obtain ⟨b2, off2, cap2, e2, hc2⟩ := RdI.cell (Rd.off hrd1 hB1.2 (by rw [List.length_map]; exact hoff1)) hx
      simp only [Value.slice.injEq] at e2
      obtain ⟨rfl, -, rfl⟩ := e2
      have i2 : (m : Int) < (r.length : Int) := by omega
      have hyn : y < L.length := by omega
      have i3 : (y : Int) < (L.length : Int) := hxn
      have c1 : wr.cell? ⟨S, k, none⟩ = some (.bool (decide (k ∈ s1))) := by rw [blk_cell hB1.1]; exact seenA_at hlt
      have c2 : wr.cell? ⟨S, y, none⟩ = some (.bool (decide (y ∈ s1))) := by rw [blk_cell hB1.1]; exact seenA_at hyn
      have f2 : wr.frozen? ⟨S, y, none⟩ = false := by simp [World.frozen?, hB1.1]
      have htk := Lib.hid (take_snoc hx)
      have he : Edge L k y := edge_norm.1 ⟨by rw [normL_len]; exact hyn, r, hrk.out, List.mem_of_getElem? hx⟩
      have hsame : (k ∈ s1 → y ∈ s1) → Pass L fl s0 mo1 s1 (fun a b => (a < k ∧ Edge L a b) ∨ (a = k ∧ (b : Int) ∈ r.take (m + 1))) := fun hky => hP1.same (fun _ i z h hi => by
        rcases h with h | ⟨rfl, h⟩
        · exact .inl (.inl h)
        · rw [htk.out] at h
          rcases List.mem_append.1 h with h | h
          · exact .inl (.inr ⟨rfl, h⟩)
          · obtain rfl : z = y := Int.ofNat_inj.1 (by simpa using h)
            exact .inr (hky hi))
      by_cases hks : k ∈ s1
      · rw [decide_eq_true hks] at c1
        by_cases hys : y ∈ s1
        · rw [decide_eq_true hys] at c2
          have hP2 := Lib.hid (hsame (fun _ => hys))
          clear hsame hP1 hks hys
          go_wp2_with fail
          exact ⟨⟨m + 1, s1, mo1, by omega, by go_num, rfl, hB1, hP2.out⟩, by simp [intOf]; omega⟩
        · rw [decide_eq_false hys] at c2
          have hP2 := Lib.hid (hP1.add (D' := fun a b => (a < k ∧ Edge L a b) ∨ (a = k ∧ (b : Int) ∈ r.take (m + 1))) hks he hys)
          have hB2 := hB1.set hyn
          clear hsame hP1 hks hys
          go_wp2_with fail
          exact ⟨⟨m + 1, y :: s1, true, by omega, by go_num, rfl, hB2, hP2.out⟩, by simp [intOf]; omega⟩
      · rw [decide_eq_false hks] at c1
        have hP2 := Lib.hid (hsame (fun h => absurd h hks))
        clear hsame hP1 hks
        go_wp2_with fail
        exact ⟨⟨m + 1, s1, mo1, by omega, by go_num, rfl, hB1, hP2.out⟩, by simp [intOf]; omega⟩
    · obtain rfl : m = r.length := by omega
      rw [List.take_length] at hP1
      have i2 : decide ((r.length : Int) < (r.length : Int)) = false := by simp
      have hP2 : Pass L fl s0 mo1 s1 (fun a b => a < k + 1 ∧ Edge L a b) := hP1.same (fun _ i z h hi => .inl (by
        by_cases h' : i < k
        · exact .inl ⟨h', h.2⟩
        · obtain rfl : i = k := by omega
          obtain ⟨_, r', hr', hz⟩ := edge_norm.2 h.2
          rw [hrk.out] at hr'
          obtain rfl := Option.some.inj hr'
          exact .inr ⟨rfl, hz⟩))
      replace hP2 := Lib.hid hP2
      clear hP1
      go_wp2_with fail
      exact hQ.out s1 mo1 rfl hB1 hP2.out
end Go.Proofs.Yteipncggndefmaa
