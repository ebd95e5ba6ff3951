/- Api, RdM, StrK, VMap, OwnE, Sep, RdA, RdX, RdB, RdC, RdD, RdE. -/
import Derived.Test.YtgcanabckogmmaaDoorZA
import Derived.Test.YtgcanabckogmmaaDoorZB
import Derived.DataReads
import Derived.ChangeSame
import Derived.Deep.Fields
import Derived.Deep.Strs
import Derived.Deep.Slices
import Derived.Lib.Bytes
import Derived.Deep.LoopGhost
import Derived.StillTailTactics
import Derived.Deep.QuietTactic
import Derived.BigQuiet
import Derived.Deep.CutRange
import Derived.Deep.CutBlock
import Derived.Outline
import Derived.Deep.RegionHeld3
import Derived.Deep.RegionLaw
import Derived.Deep.AppendLies
namespace Go.Proofs.YtgcanabckogmmaaDoor
set_option linter.unusedVariables false
set_option linter.unusedSimpArgs false
section
open Go.RowKit Go.Maps Go.WideShapes Go.ChangeShapes Go.ChangeAt Go.Deep

/-- A slice that reads as these texts. -/
abbrev RdS (w : World) (v : Value) (ss : List ByteArray) : Prop := Rd w v (ss.map Value.string)

/-- A slice of elements of c cells each, each of which reads by R. -/
def RdE {α : Type} (c : Nat) (R : World → List Value → α → Prop) (w : World) (v : Value) (L : List α) : Prop :=
  (L = [] ∧ (v = .slice none 0 0 ∨ ∃ a k, v = .slice (some a) 0 k)) ∨ ∃ b off cap, v = .slice (some ⟨b, off, none⟩) L.length cap ∧ b < w.heap.size ∧
    ∀ i d, L[i]? = some d → ∃ cs, R w cs d ∧ cs.length = c ∧ ∀ j u, cs[j]? = some u → w.cell? ⟨b, off + i * c + j, none⟩ = some u

section
variable {α : Type} {c : Nat} {R : World → List Value → α → Prop} {w w' : World} {v : Value} {L : List α}
theorem RdE.form (h : RdE c R w v L) : ∃ a k, v = .slice a L.length k := by
  rcases h with ⟨rfl, rfl | ⟨a, k, rfl⟩⟩ | ⟨b, off, cap, rfl, _⟩
  · exact ⟨none, 0, rfl⟩
  · exact ⟨some a, k, rfl⟩
  · exact ⟨_, cap, rfl⟩
theorem RdE.below (hR : ∀ cs d, R w cs d → R w' cs d) (h : RdE c R w v L) (hb : Below w.heap.size w w') : RdE c R w' v L := by
  refine or_map h id ?_
  rintro ⟨b, off, cap, e, hlt, hc⟩
  refine ⟨b, off, cap, e, Nat.lt_of_lt_of_le hlt hb.size, fun i d hi => ?_⟩
  obtain ⟨cs, h1, h2, h3⟩ := hc i d hi
  exact ⟨cs, hR cs d h1, h2, fun j u hj => (hb.cell (p := ⟨b, off + i * c + j, none⟩) hlt).trans (h3 j u hj)⟩
theorem RdE.at (h : RdE c R w v L) {i : Nat} {d : α} (hi : L[i]? = some d) : ∃ b off cap cs, v = .slice (some ⟨b, off, none⟩) L.length cap ∧ b < w.heap.size ∧ R w cs d ∧ cs.length = c ∧ ∀ j u, cs[j]? = some u → w.cell? ⟨b, off + i * c + j, none⟩ = some u := by
  rcases h with ⟨rfl, _⟩ | ⟨b, off, cap, e, hlt, hc⟩
  · simp at hi
  · obtain ⟨cs, h1, h2, h3⟩ := hc i d hi
    exact ⟨b, off, cap, cs, e, hlt, h1, h2, h3⟩
theorem RdE.nil (w : World) : RdE c R w (.slice none 0 0) [] := Or.inl ⟨rfl, Or.inl rfl⟩
end

/-- An instruction. -/
structure Ins where
  op : Int
  dst : ByteArray
  a : ByteArray
  b : ByteArray
  n : Int
  fn : ByteArray
  args : List ByteArray
  labels : List ByteArray
/-- .. as its cells. -/
def insV (d : Ins) (va vl : Value) : List Value := [.int .u8 d.op, .string d.dst, .string d.a, .string d.b, .int .i64 d.n, .string d.fn, va, vl]
def RdIns (w : World) (cs : List Value) (d : Ins) : Prop := ∃ va vl, cs = insV d va vl ∧ RdS w va d.args ∧ RdS w vl d.labels
/-- A block. -/
structure Blk where
  label : ByteArray
  code : List Ins
def RdBlk (w : World) (cs : List Value) (d : Blk) : Prop := ∃ vc, cs = [.string d.label, vc] ∧ RdE 8 RdIns w vc d.code
/-- A function. -/
structure Fun where
  name : ByteArray
  params : List ByteArray
  blocks : List Blk
def RdFun (w : World) (cs : List Value) (d : Fun) : Prop := ∃ vp vb, cs = [.string d.name, vp, vb] ∧ RdS w vp d.params ∧ RdE 2 RdBlk w vb d.blocks

section
variable {w w' : World} {cs : List Value}
theorem RdIns.below {d : Ins} (h : RdIns w cs d) (hb : Below w.heap.size w w') : RdIns w' cs d := by
  obtain ⟨va, vl, e, h1, h2⟩ := h
  exact ⟨va, vl, e, Rd.below h1 hb, Rd.below h2 hb⟩
theorem RdBlk.below {d : Blk} (h : RdBlk w cs d) (hb : Below w.heap.size w w') : RdBlk w' cs d := by
  obtain ⟨vc, e, h1⟩ := h
  exact ⟨vc, e, RdE.below (fun _ _ h => h.below hb) h1 hb⟩
theorem RdFun.below {d : Fun} (h : RdFun w cs d) (hb : Below w.heap.size w w') : RdFun w' cs d := by
  obtain ⟨vp, vb, e, h1, h2⟩ := h
  exact ⟨vp, vb, e, Rd.below h1 hb, RdE.below (fun _ _ h => h.below hb) h2 hb⟩
end

/-- What may be, of sizes. -/
def Ins.Fits (d : Ins) : Prop := 0 ≤ d.op ∧ d.op < 256 ∧ d.dst.size ≤ maxLen ∧ d.a.size ≤ maxLen ∧ d.b.size ≤ maxLen ∧ (Lit.int .i64 d.n).wf = true ∧ d.fn.size ≤ maxLen ∧ (∀ s ∈ d.args, s.size ≤ maxLen) ∧ (∀ s ∈ d.labels, s.size ≤ maxLen) ∧ d.args.length ≤ maxLen ∧ d.labels.length ≤ maxLen
def Blk.Fits (d : Blk) : Prop := d.label.size ≤ maxLen ∧ (∀ x ∈ d.code, x.Fits) ∧ d.code.length ≤ maxLen
def Fun.Fits (d : Fun) : Prop := d.name.size ≤ maxLen ∧ (∀ s ∈ d.params, s.size ≤ maxLen) ∧ (∀ x ∈ d.blocks, x.Fits) ∧ d.params.length ≤ maxLen ∧ d.blocks.length ≤ maxLen

section
variable {H : Type} {enc : TypeId × Value → H} {P : Program} {w : World}
/-- A slice of texts in a cell. -/
theorem rd_strs_in {t e : TypeId} {n : Nat} {cs : List Value} {x : DataW H × List MemPlace} (ht : P.underlying t = some (.slice e)) (he : P.underlying e = some .string) (hc : P.cellsOf e = 1)
    (hn : DataW.trod enc P w 0 (fun _ => true) true n t cs = some x) : ∃ v ss, cs = [v] ∧ RdS w v ss ∧ (∀ s ∈ ss, s.size ≤ maxLen) ∧ ss.length ≤ maxLen := by
  rcases open_strs ht he hc hn with ⟨e1, _⟩ | ⟨a', len, cap, m, Sx, e1, _, hl, hm, hmm, _, hx⟩
  · exact ⟨_, [], e1, Or.inl ⟨rfl, Or.inl rfl⟩, (fun x h => by cases h), Nat.zero_le _⟩
  · simp only [if_true] at hmm
    refine ⟨_, (List.range len).map Sx, e1, ?_, fun x hx' => ?_, by simp; omega⟩
    · have := rd_of (w := w) (v := .slice (some a') len cap) (X := fun i => .string (Sx i)) rfl (by omega : len ≤ m) (fun i hi => (hx i hi).1) (by
        by_cases h0 : len = 0
        · exact Or.inr h0
        · left
          have h1 := (hx 0 (by omega)).1
          unfold World.cell? at h1
          split at h1
          · rename_i h2
            have := (Array.getElem?_eq_some_iff.1 h2).1
            unfold Addr.add at this
            split at this <;> simpa using this
          · cases h1)
      rw [RdS, List.map_map]
      exact this
    · obtain ⟨i, hi, rfl⟩ := List.mem_map.1 hx'
      rw [List.mem_range] at hi
      exact (hx i (by omega)).2

theorem choose_lt' {α : Type} {Q : Nat → α → Prop} {n : Nat} (h : ∀ i, i < n → ∃ x, Q i x) : ∃ L : List α, L.length = n ∧ ∀ i x, L[i]? = some x → Q i x := by
  induction n with
  | zero => exact ⟨[], rfl, fun i x h => by simp at h⟩
  | succ n ih =>
    obtain ⟨L, hl, hL⟩ := ih (fun i hi => h i (by omega))
    obtain ⟨x, hx⟩ := h n (by omega)
    refine ⟨L ++ [x], by simp [hl], fun i y hy => ?_⟩
    rcases Nat.lt_or_ge i n with h1 | h1
    · rw [List.getElem?_append_left (by omega)] at hy
      exact hL i y hy
    · have h2 := (List.getElem?_eq_some_iff.1 hy).1
      simp at h2
      obtain rfl : i = n := by omega
      rw [List.getElem?_append_right (by omega)] at hy
      simp [hl] at hy
      subst hy
      exact hx

/-- A slice of structs in a cell. -/
theorem rd_elems_in {α : Type} {F : α → Prop} {R : World → List Value → α → Prop} {t e : TypeId} {n c : Nat} {cs : List Value} {x : DataW H × List MemPlace} (ht : P.underlying t = some (.slice e)) (hc : P.cellsOf e = c) (hc0 : 0 < c)
    (hR : ∀ (n : Nat) (cs : List Value) (x : DataW H × List MemPlace), DataW.trod enc P w 0 (fun _ => true) true n e cs = some x → ∃ d, R w cs d ∧ F d)
    (hn : DataW.trod enc P w 0 (fun _ => true) true n t cs = some x) : ∃ v L, cs = [v] ∧ RdE c R w v L ∧ (∀ d ∈ L, F d) ∧ L.length ≤ maxLen := by
  subst hc
  rcases open_slice ht hn with ⟨e1, _⟩ | ⟨a', len, cap, m, n', D, Pl, e1, _, hl, hm, hmm, _, hx⟩
  · exact ⟨_, [], e1, Or.inl ⟨rfl, Or.inl rfl⟩, (fun x h => by cases h), Nat.zero_le _⟩
  · simp only [if_true] at hmm
    by_cases h0 : len = 0
    · subst h0
      exact ⟨_, [], e1, Or.inl ⟨rfl, Or.inr ⟨_, _, rfl⟩⟩, (fun x h => by cases h), Nat.zero_le _⟩
    · obtain ⟨b, o, s⟩ := a'
      obtain ⟨cs0, hcs0, _⟩ := hx 0 (by omega)
      obtain ⟨_, hlen0, hce0⟩ := World.cells?_some hcs0
      have h1 : ∃ u, w.cell? (((⟨b, o, s⟩ : Addr).add (0 * P.cellsOf e)).add 0) = some u := by
        rw [hce0 0 (by omega)]
        exact ⟨_, List.getElem?_eq_getElem (by omega)⟩
      obtain ⟨u, hu⟩ := h1
      have hs : s = none := by
        have h2 := spot_none hu
        have h3 : (((⟨b, o, s⟩ : Addr).add (0 * P.cellsOf e)).add 0).spot = s := by simp [Addr.add]
        exact h3.symm.trans h2
      subst hs
      have hb : b < w.heap.size := by
        rw [add_add] at hu
        unfold World.cell? at hu
        split at hu
        · rename_i h4
          exact (Array.getElem?_eq_some_iff.1 h4).1
        · cases hu
      obtain ⟨L, hL, hQ⟩ := choose_lt' (n := len) (Q := fun i d => (∃ cs, R w cs d ∧ cs.length = P.cellsOf e ∧ ∀ j u, cs[j]? = some u → w.cell? ⟨b, o + i * P.cellsOf e + j, none⟩ = some u) ∧ F d) (fun i hi => by
        obtain ⟨cs', hcs, htr⟩ := hx i (by omega)
        obtain ⟨_, hlen, hce⟩ := World.cells?_some hcs
        obtain ⟨d, hd, hF⟩ := hR _ _ _ htr
        refine ⟨d, ⟨cs', hd, hlen, fun j u hj => ?_⟩, hF⟩
        have hlt := (List.getElem?_eq_some_iff.1 hj).1
        rw [← hj, ← hce j (by omega), add_add])
      refine ⟨_, L, e1, Or.inr ⟨b, o, cap, by rw [hL], hb, fun i d hi => (hQ i d hi).1⟩, fun d hd => ?_, by omega⟩
      obtain ⟨i, hi⟩ := List.mem_iff_getElem?.1 hd
      exact (hQ i d hi).2
end

theorem cellsStr : Tryd.prog.cellsOf 9 = 1 := by kernel_rfl
theorem cellsIns : Tryd.prog.cellsOf 49 = 8 := by kernel_rfl
theorem cellsBlk : Tryd.prog.cellsOf 46 = 2 := by kernel_rfl
theorem cellsFun : Tryd.prog.cellsOf 43 = 3 := by kernel_rfl

section
variable {H : Type} {enc : TypeId × Value → H} {w : World}
theorem u8_bounds {k : Int} (h : (Lit.int .u8 k).wf = true) : 0 ≤ k ∧ k < 256 := by
  simp [Lit.wf, IntKind.min, IntKind.max, IntKind.signed, IntKind.bits] at h
  omega
theorem field_one {P : Program} {fs : Array Field} {n : Nat} {cs : List Value} {xs : List (DataW H × List MemPlace)} (hone : oneCellFields P fs = true) (hxl : xs.length = fs.size)
    (hf : ∀ (i : Nat) (f : Field), fs[i]? = some f → DataW.trod enc P w 0 (fun _ => true) true n f.type ((cs.drop f.offset).take (P.cellsOf f.type)) = xs[i]?) {i : Nat} {f : Field} (hi : fs[i]? = some f) {v : Value} (hv : cs[i]? = some v) :
    ∃ y, DataW.trod enc P w 0 (fun _ => true) true n f.type [v] = some y := by
  obtain ⟨h0, h1⟩ := hone_of hone i f hi
  have h2 := hf i f hi
  rw [h0, h1] at h2
  obtain ⟨hlt, e⟩ := List.getElem?_eq_some_iff.1 hv
  have h3 : (cs.drop i).take 1 = [v] := by rw [List.drop_eq_getElem_cons hlt, e]; rfl
  rw [h3] at h2
  have h4 : i < xs.length := by rw [hxl]; exact (Array.getElem?_eq_some_iff.1 hi).1
  exact ⟨_, h2.trans (List.getElem?_eq_getElem h4)⟩

theorem list2 {α : Type} : ∀ {l : List α}, l.length = 2 → ∃ a b, l = [a, b]
  | [a, b], _ => ⟨a, b, rfl⟩
theorem list3 {α : Type} : ∀ {l : List α}, l.length = 3 → ∃ a b c, l = [a, b, c]
  | [a, b, c], _ => ⟨a, b, c, rfl⟩
theorem list8 {α : Type} : ∀ {l : List α}, l.length = 8 → ∃ a b c d e f g h, l = [a, b, c, d, e, f, g, h]
  | [a, b, c, d, e, f, g, h], _ => ⟨a, b, c, d, e, f, g, h, rfl⟩

theorem rd_ins_in {n : Nat} {cs : List Value} {x : DataW H × List MemPlace} (hn : DataW.trod enc Tryd.prog w 0 (fun _ => true) true n 49 cs = some x) : ∃ d : Ins, RdIns w cs d ∧ d.Fits := by
  obtain ⟨xs, m, rfl, rfl, hl, hxl, hf⟩ := DataW.trod_struct Tryd.underlying49 hn
  rw [cellsIns] at hl
  obtain ⟨c0, c1, c2, c3, c4, c5, c6, c7, rfl⟩ := list8 hl
  have hg := fun i f hi v hv => field_one (by kernel_rfl) hxl hf (i := i) (f := f) hi (v := v) hv
  obtain ⟨y0, h0⟩ := hg 0 _ rfl _ rfl
  obtain ⟨y1, h1⟩ := hg 1 _ rfl _ rfl
  obtain ⟨y2, h2⟩ := hg 2 _ rfl _ rfl
  obtain ⟨y3, h3⟩ := hg 3 _ rfl _ rfl
  obtain ⟨y4, h4⟩ := hg 4 _ rfl _ rfl
  obtain ⟨y5, h5⟩ := hg 5 _ rfl _ rfl
  obtain ⟨y6, h6⟩ := hg 6 _ rfl _ rfl
  obtain ⟨y7, h7⟩ := hg 7 _ rfl _ rfl
  obtain ⟨op, e0, -, w0⟩ := DataW.trod_int Tryd.underlying47 h0
  obtain ⟨s1, e1, -, w1⟩ := DataW.trod_string Tryd.underlying9 h1
  obtain ⟨s2, e2, -, w2⟩ := DataW.trod_string Tryd.underlying9 h2
  obtain ⟨s3, e3, -, w3⟩ := DataW.trod_string Tryd.underlying9 h3
  obtain ⟨nn, e4, -, w4⟩ := DataW.trod_int Tryd.underlying3 h4
  obtain ⟨s5, e5, -, w5⟩ := DataW.trod_string Tryd.underlying9 h5
  obtain ⟨v6, ss6, e6, r6, w6, l6⟩ := rd_strs_in Tryd.underlying39 Tryd.underlying9 cellsStr h6
  obtain ⟨v7, ss7, e7, r7, w7, l7⟩ := rd_strs_in Tryd.underlying39 Tryd.underlying9 cellsStr h7
  simp only [List.cons.injEq, and_true] at e0 e1 e2 e3 e4 e5 e6 e7
  subst e0 e1 e2 e3 e4 e5 e6 e7
  exact ⟨⟨op, s1, s2, s3, nn, s5, ss6, ss7⟩, ⟨c6, c7, rfl, r6, r7⟩, (u8_bounds w0).1, (u8_bounds w0).2, w1, w2, w3, w4, w5, w6, w7, l6, l7⟩

theorem rd_blk_in {n : Nat} {cs : List Value} {x : DataW H × List MemPlace} (hn : DataW.trod enc Tryd.prog w 0 (fun _ => true) true n 46 cs = some x) : ∃ d : Blk, RdBlk w cs d ∧ d.Fits := by
  obtain ⟨xs, m, rfl, rfl, hl, hxl, hf⟩ := DataW.trod_struct Tryd.underlying46 hn
  rw [cellsBlk] at hl
  obtain ⟨c0, c1, rfl⟩ := list2 hl
  have hg := fun i f hi v hv => field_one (by kernel_rfl) hxl hf (i := i) (f := f) hi (v := v) hv
  obtain ⟨y0, h0⟩ := hg 0 _ rfl _ rfl
  obtain ⟨y1, h1⟩ := hg 1 _ rfl _ rfl
  obtain ⟨s, e0, -, w0⟩ := DataW.trod_string Tryd.underlying9 h0
  obtain ⟨v, L, e1, r1, w1, l1⟩ := rd_elems_in (R := RdIns) (F := Ins.Fits) Tryd.underlying44 cellsIns (by decide) (fun n cs x h => rd_ins_in h) h1
  simp only [List.cons.injEq, and_true] at e0 e1
  subst e0 e1
  exact ⟨⟨s, L⟩, ⟨c1, rfl, r1⟩, w0, w1, l1⟩

theorem rd_fun_in {n : Nat} {cs : List Value} {x : DataW H × List MemPlace} (hn : DataW.trod enc Tryd.prog w 0 (fun _ => true) true n 43 cs = some x) : ∃ d : Fun, RdFun w cs d ∧ d.Fits := by
  obtain ⟨xs, m, rfl, rfl, hl, hxl, hf⟩ := DataW.trod_struct Tryd.underlying43 hn
  rw [cellsFun] at hl
  obtain ⟨c0, c1, c2, rfl⟩ := list3 hl
  have hg := fun i f hi v hv => field_one (by kernel_rfl) hxl hf (i := i) (f := f) hi (v := v) hv
  obtain ⟨y0, h0⟩ := hg 0 _ rfl _ rfl
  obtain ⟨y1, h1⟩ := hg 1 _ rfl _ rfl
  obtain ⟨y2, h2⟩ := hg 2 _ rfl _ rfl
  obtain ⟨s, e0, -, w0⟩ := DataW.trod_string Tryd.underlying9 h0
  obtain ⟨v6, ss6, e1, r1, w1, l1⟩ := rd_strs_in Tryd.underlying39 Tryd.underlying9 cellsStr h1
  obtain ⟨v, L, e2, r2, w2, l2⟩ := rd_elems_in (R := RdBlk) (F := Blk.Fits) Tryd.underlying41 cellsBlk (by decide) (fun n cs x h => rd_blk_in h) h2
  simp only [List.cons.injEq, and_true] at e0 e1 e2
  subst e0 e1 e2
  exact ⟨⟨s, ss6, L⟩, ⟨c1, c2, rfl, r1, r2⟩, w0, w1, w2, l1, l2⟩

/-- A struct that came in. -/
theorem rd_agg_in {α : Type} {F : α → Prop} {R : World → List Value → α → Prop} {P : Program} {t : TypeId} {fs : Array Field} (ht : P.underlying t = some (.struct fs)) {base : Nat} {v : Value} {d : DataW H} {ps : List MemPlace}
    (hval : Value.okWide P w .any base t v)
    (hR : ∀ (n : Nat) (cs : List Value) (x : DataW H × List MemPlace), DataW.trod enc P w 0 (fun _ => true) true n t cs = some x → ∃ d, R w cs d ∧ F d)
    (h : DataW.Trod enc P w 0 (fun _ => true) true t v d ps) : ∃ cs d, v = .agg cs.toArray ∧ R w cs d ∧ F d := by
  obtain ⟨⟨cs⟩, rfl, hsz⟩ := okWide_struct ht hval
  obtain ⟨n, hn⟩ := h
  obtain ⟨d, h1, h2⟩ := hR n cs _ hn
  exact ⟨cs, d, rfl, h1, h2⟩
end
end
section
/-- What is given up by: a line, a column, an error. -/
abbrev Flt := Nat × Nat × Nat
def nmT (t : Tok) : ByteArray := ⟨t.text.toArray⟩
def fltL : List Tok → Flt
  | [] => (0, 0, 0)
  | t :: _ => (t.line, t.col, if t.kind = 4 then 41 else 40)
/-- Does the piece of a line go on? -/
def moreB : List Tok → Nat → Bool
  | [], _ => false
  | t :: _, ln => !(t.kind == 4) && t.line == ln
def signAt : List Tok → UInt8 → Bool
  | [], _ => false
  | t :: _, c => t.kind == 3 && t.text == [c]
def isB (l : List Tok) (ln : Nat) (c : UInt8) : Bool := moreB l ln && signAt l c
def kindAt : List Tok → Nat → Bool
  | [], _ => false
  | t :: _, k => t.kind == k
def takeP (k : Nat) (l : List Tok) (ln : Nat) : Except Flt (Tok × List Tok) :=
  match l with
  | [] => .error (0, 0, 0)
  | t :: r => if (moreB (t :: r) ln && t.kind == k) = true then .ok (t, r) else .error (fltL (t :: r))
def nameP (l : List Tok) (ln : Nat) : Except Flt (ByteArray × List Tok) :=
  match takeP 1 l ln with
  | .error e => .error e
  | .ok (t, r) => .ok (nmT t, r)
def signP (c : UInt8) (l : List Tok) (ln : Nat) : Except Flt (List Tok) := if isB l ln c = true then .ok l.tail else .error (fltL l)
def lineAt : List Tok → Nat
  | [] => 0
  | t :: _ => t.line
def beginP (l : List Tok) (ln : Nat) : Except Flt Nat := if (!kindAt l 4 && lineAt l == ln) = true then .error (fltL l) else .ok (lineAt l)
/-- One thing or more, and the bracket behind them. -/
def listP {α : Type} (one : α → List Tok → Nat → Except Flt (α × List Tok)) (c : UInt8) : Nat → α → List Tok → Nat → Except Flt (α × List Tok)
  | 0, _, _, _ => .error (0, 0, 0)
  | n + 1, x, l, ln =>
    match one x l ln with
    | .error e => .error e
    | .ok (x, l) =>
      if isB l ln c = true then
        match signP c l ln with
        | .error e => .error e
        | .ok l => .ok (x, l)
      else
        match signP 44 l ln with
        | .error e => .error e
        | .ok l => listP one c n x l ln
def oneName (x : List ByteArray) (l : List Tok) (ln : Nat) : Except Flt (List ByteArray × List Tok) :=
  match nameP l ln with
  | .error e => .error e
  | .ok (s, l) => .ok (x ++ [s], l)
def namesP (l : List Tok) (ln : Nat) : Except Flt (List ByteArray × List Tok) :=
  match signP 40 l ln with
  | .error e => .error e
  | .ok l =>
    if isB l ln 41 = true then
      match signP 41 l ln with
      | .error e => .error e
      | .ok l => .ok ([], l)
    else listP oneName 41 (l.length + 1) [] l ln
/-- What reads the words behind an operation's own. -/
inductive Rst
  | fields | nothing | fn | operand | field | phi | call | icall | store | branch | label | result
def fieldsP (x : Ins) (l : List Tok) (ln : Nat) : Except Flt (Ins × List Tok) :=
  match takeP 2 l ln with
  | .error e => .error e
  | .ok (t, l) => .ok ({ x with n := t.num }, l)
def fnP (x : Ins) (l : List Tok) (ln : Nat) : Except Flt (Ins × List Tok) :=
  match nameP l ln with
  | .error e => .error e
  | .ok (s, l) => .ok ({ x with fn := s }, l)
def operandP (x : Ins) (l : List Tok) (ln : Nat) : Except Flt (Ins × List Tok) :=
  match nameP l ln with
  | .error e => .error e
  | .ok (s, l) => .ok ({ x with a := s }, l)
def labelP (x : Ins) (l : List Tok) (ln : Nat) : Except Flt (Ins × List Tok) :=
  match nameP l ln with
  | .error e => .error e
  | .ok (s, l) => .ok ({ x with labels := x.labels ++ [s] }, l)
def argsP (x : Ins) (l : List Tok) (ln : Nat) : Except Flt (Ins × List Tok) :=
  match namesP l ln with
  | .error e => .error e
  | .ok (ss, l) => .ok ({ x with args := ss }, l)
def thenP (f g : Ins → List Tok → Nat → Except Flt (Ins × List Tok)) (x : Ins) (l : List Tok) (ln : Nat) : Except Flt (Ins × List Tok) :=
  match f x l ln with
  | .error e => .error e
  | .ok (x, l) => g x l ln
def skipP (c : UInt8) (x : Ins) (l : List Tok) (ln : Nat) : Except Flt (Ins × List Tok) :=
  match signP c l ln with
  | .error e => .error e
  | .ok l => .ok (x, l)
def valP (x : Ins) (l : List Tok) (ln : Nat) : Except Flt (Ins × List Tok) :=
  match nameP l ln with
  | .error e => .error e
  | .ok (s, l) => .ok ({ x with b := s }, l)
def argP (x : Ins) (l : List Tok) (ln : Nat) : Except Flt (Ins × List Tok) :=
  match nameP l ln with
  | .error e => .error e
  | .ok (s, l) => .ok ({ x with args := x.args ++ [s] }, l)
def pairP : Ins → List Tok → Nat → Except Flt (Ins × List Tok) := thenP labelP (thenP (skipP 58) argP)
def phiP (x : Ins) (l : List Tok) (ln : Nat) : Except Flt (Ins × List Tok) :=
  match signP 91 l ln with
  | .error e => .error e
  | .ok l => listP pairP 93 (l.length + 1) x l ln
def storeP : Ins → List Tok → Nat → Except Flt (Ins × List Tok) := thenP operandP (thenP (skipP 44) valP)
def resultP (x : Ins) (l : List Tok) (ln : Nat) : Except Flt (Ins × List Tok) := if moreB l ln = true then operandP x l ln else .ok (x, l)
def restP : Rst → Ins → List Tok → Nat → Except Flt (Ins × List Tok)
  | .fields => fieldsP
  | .nothing => fun x l _ => .ok (x, l)
  | .fn => fnP
  | .operand => operandP
  | .field => thenP operandP fieldsP
  | .phi => phiP
  | .call => thenP fnP argsP
  | .icall => thenP operandP argsP
  | .store => storeP
  | .branch => thenP labelP labelP
  | .label => labelP
  | .result => resultP
/-- The operations behind a =, and those that a line may begin with. -/
def valueF (s : List UInt8) : Option (Int × Rst) :=
  if s = [97, 108, 108, 111, 99, 97] then some (1, .fields)
  else if s = [109, 97, 108, 108, 111, 99] then some (2, .fields)
  else if s = [110, 117, 108, 108] then some (3, .nothing)
  else if s = [97, 100, 100, 114] then some (4, .fn)
  else if s = [99, 111, 112, 121] then some (5, .operand)
  else if s = [108, 111, 97, 100] then some (8, .operand)
  else if s = [102, 105, 101, 108, 100] then some (7, .field)
  else if s = [112, 104, 105] then some (6, .phi)
  else if s = [99, 97, 108, 108] then some (10, .call)
  else if s = [105, 99, 97, 108, 108] then some (11, .icall)
  else none
def bareF (s : List UInt8) : Option (Int × Rst) :=
  if s = [99, 97, 108, 108] then some (10, .call)
  else if s = [105, 99, 97, 108, 108] then some (11, .icall)
  else if s = [115, 116, 111, 114, 101] then some (9, .store)
  else if s = [98, 114] then some (12, .branch)
  else if s = [103, 111, 116, 111] then some (13, .label)
  else if s = [114, 101, 116] then some (14, .result)
  else none
def insOf (op : Int) (dst : ByteArray) : Ins := ⟨op, dst, ⟨#[]⟩, ⟨#[]⟩, 0, ⟨#[]⟩, [], []⟩
def instrP (how : Int × Rst) (dst : ByteArray) (l : List Tok) (ln : Nat) : Except Flt (Ins × List Tok) := restP how.2 (insOf how.1 dst) l ln
def addB (d : Fun) (s : ByteArray) : Fun := { d with blocks := d.blocks ++ [⟨s, []⟩] }
def addCode : List Blk → Ins → List Blk
  | [], _ => []
  | [b], x => [{ b with code := b.code ++ [x] }]
  | b :: bs, x => b :: addCode bs x
def addI (d : Fun) (x : Ins) : Fun := { d with blocks := addCode d.blocks x }
def headT : List Tok → List UInt8
  | [] => []
  | t :: _ => t.text
/-- A block's head, or an instruction of the block that is open. -/
def insideP (d : Fun) (l : List Tok) (ln : Nat) : Except Flt (Fun × List Tok) :=
  match nameP l ln with
  | .error e => .error e
  | .ok (s, l) =>
    if (d.blocks.isEmpty || isB l ln 58) = true then
      match signP 58 l ln with
      | .error e => .error e
      | .ok l => .ok (addB d s, l)
    else
      match (if isB l ln 61 = true then none else bareF s.data.toList) with
      | some how =>
        match instrP how ⟨#[]⟩ l ln with
        | .error e => .error e
        | .ok (x, l) => .ok (addI d x, l)
      | none =>
        match signP 61 l ln with
        | .error e => .error e
        | .ok l =>
          match valueF (headT l) with
          | none => .error (fltL l)
          | some how =>
            match nameP l ln with
            | .error e => .error e
            | .ok (_, l) =>
              match instrP how s l ln with
              | .error e => .error e
              | .ok (x, l) => .ok (addI d x, l)
def bodyP : Nat → Fun → List Tok → Nat → Except Flt (Fun × List Tok × Nat)
  | 0, _, _, _ => .error (0, 0, 0)
  | n + 1, d, l, ln =>
    if isB l ln 125 = true then
      match signP 125 l ln with
      | .error e => .error e
      | .ok l => .ok (d, l, ln)
    else
      match insideP d l ln with
      | .error e => .error e
      | .ok (d, l) =>
        match beginP l ln with
        | .error e => .error e
        | .ok ln => bodyP n d l ln
def funcT : List UInt8 := [102, 117, 110, 99]
def funcP (l : List Tok) (ln : Nat) : Except Flt (Fun × List Tok × Nat) :=
  if headT l = funcT then
    match nameP l ln with
    | .error e => .error e
    | .ok (_, l) =>
      match nameP l ln with
      | .error e => .error e
      | .ok (s, l) =>
        match namesP l ln with
        | .error e => .error e
        | .ok (ps, l) =>
          match signP 123 l ln with
          | .error e => .error e
          | .ok l =>
            match beginP l ln with
            | .error e => .error e
            | .ok ln => bodyP (l.length + 1) ⟨s, ps, []⟩ l ln
  else .error (fltL l)
def progP : Nat → List Fun → List Tok → Nat → Except Flt (List Fun)
  | 0, _, _, _ => .error (0, 0, 0)
  | n + 1, acc, l, ln =>
    if kindAt l 4 = true then .ok acc
    else
      match funcP l ln with
      | .error e => .error e
      | .ok (d, l, ln) =>
        match beginP l ln with
        | .error e => .error e
        | .ok ln => progP n (acc ++ [d]) l ln
/-- A program's words. -/
def parseT (l : List Tok) : Except Flt (List Fun) :=
  match beginP l 0 with
  | .error e => .error e
  | .ok ln => progP (l.length + 1) [] l ln
/-- .. and a text. -/
def parseL (s : List UInt8) : Except Flt (List Fun) :=
  match lex s 1 1 with
  | .error e => .error e
  | .ok l => parseT l

/-- What is left is shorter. -/
theorem take_len {k : Nat} {l r : List Tok} {ln : Nat} {t : Tok} (h : takeP k l ln = .ok (t, r)) : l = t :: r ∧ t.kind = k ∧ t.line = ln ∧ t.kind ≠ 4 := by
  unfold takeP at h
  split at h
  · cases h
  · split at h
    · rename_i hm
      simp only [Except.ok.injEq, Prod.mk.injEq] at h
      obtain ⟨rfl, rfl⟩ := h
      simp only [moreB, Bool.and_eq_true, Bool.not_eq_true', beq_eq_false_iff_ne, beq_iff_eq] at hm
      exact ⟨rfl, hm.2, hm.1.2, hm.1.1⟩
    · cases h
theorem name_len {l r : List Tok} {ln : Nat} {s : ByteArray} (h : nameP l ln = .ok (s, r)) : ∃ t, l = t :: r ∧ s = nmT t ∧ t.kind = 1 ∧ t.line = ln := by
  unfold nameP at h
  split at h
  · cases h
  · rename_i t r' h1
    simp only [Except.ok.injEq, Prod.mk.injEq] at h
    obtain ⟨rfl, rfl⟩ := h
    obtain ⟨e1, e2, e3, -⟩ := take_len h1
    exact ⟨t, e1, rfl, e2, e3⟩
theorem sign_len {c : UInt8} {l r : List Tok} {ln : Nat} (h : signP c l ln = .ok r) : ∃ t, l = t :: r ∧ t.kind = 3 ∧ t.text = [c] ∧ t.line = ln := by
  unfold signP at h
  split at h
  · rename_i hm
    simp only [Except.ok.injEq] at h
    cases l with
    | nil => simp [isB, moreB] at hm
    | cons t r' =>
      simp only [List.tail_cons] at h
      subst h
      simp only [isB, moreB, signAt, Bool.and_eq_true, Bool.not_eq_true', beq_eq_false_iff_ne, beq_iff_eq] at hm
      exact ⟨t, rfl, hm.2.1, hm.2.2, hm.1.2⟩
  · cases h
end
section
open Go.RowKit Go.Maps Go.WideMaps

instance memBytes (s : ByteArray) (ls : List ByteArray) : Decidable (s ∈ ls) := @List.instDecidableMemOfLawfulBEq ByteArray instBEqOfDecidableEq inferInstance s ls
def litS (s : ByteArray) : Lit := .string s.data.toList
theorem litS_inj {a b : ByteArray} (h : litS a = litS b) : a = b := by
  unfold litS at h
  simp only [Lit.string.injEq] at h
  exact ByteArray.ext (Array.toList_inj.1 h)
theorem litS_key (a : ByteArray) : WideAt.IsKeyLit (litS a) := trivial
theorem lawS : Keyed Tryd.prog 9 := string_keyed Tryd.underlying9
theorem zeroI (w : World) : (zeroValue 3).run Tryd.prog w = .ok (.int .i64 0) w := by kernel_rfl
theorem ownsMap_block {w w' : World} {P : Program} {k : TypeId} {R : Value → Option (DataW Unit × List MemPlace)} {b n : Nat} {D : DataW Unit} (h : w.ownsMap P k R b n D) (hb : w'.heap[b]? = w.heap[b]?) : w'.ownsMap P k R b n D := by
  obtain ⟨es, clock, h1, h2⟩ := h
  exact ⟨es, clock, hb.trans h1, h2⟩
theorem keyS (s : ByteArray) (h : s.size ≤ maxLen) : keyOf Tryd.prog 9 (.string s) = some (litS s) := keyOf_string_mk Tryd.underlying9 h
theorem own_tightS {k : TypeId} {R : Value → Option (DataW Unit × List MemPlace)} {w : World} {b n : Nat} {D : DataW Unit} (h : w.ownsMap Tryd.prog k R b n D) : w.ownsMap Tryd.prog k R b (Maps.size D) D := by
  obtain ⟨es, clock, hb, F, hs, rfl⟩ := h
  refine ⟨es, clock, hb, F, ?_, rfl⟩
  simp [Maps.size, length_sorted]

/-- A map that is a set of texts. -/
def SetS (w : World) (b : Nat) (l : List ByteArray) : Prop :=
  ∃ D : DataW Unit, w.ownsMap Tryd.prog 9 (unitElem (H := Unit)) b l.length D ∧ Maps.size D = l.length ∧ ∀ s, Maps.has D (litS s) = decide (s ∈ l)
theorem SetS.lt {w : World} {b : Nat} {l : List ByteArray} (h : SetS w b l) : b < w.heap.size := by
  obtain ⟨D, h1, -⟩ := h
  exact h1.lt
theorem SetS.block {w w' : World} {b : Nat} {l : List ByteArray} (h : SetS w b l) (hb : w'.heap[b]? = w.heap[b]?) : SetS w' b l := by
  obtain ⟨D, h1, h3⟩ := h
  exact ⟨D, ownsMap_block h1 hb, h3⟩
theorem SetS.new (w : World) : SetS (w.alloc (.map #[] 0)) w.heap.size [] := by
  refine ⟨.map [], World.ownsMap_made w _ _ _, rfl, fun s => ?_⟩
  simp [Maps.has]
def plusS (l : List ByteArray) (y : ByteArray) : List ByteArray := if y ∈ l then l else y :: l
theorem mem_plusS {l : List ByteArray} {y x : ByteArray} : x ∈ plusS l y ↔ x ∈ l ∨ x = y := by
  unfold plusS
  by_cases h : y ∈ l
  · rw [if_pos h]
    exact ⟨.inl, fun h1 => h1.elim id (fun e => e ▸ h)⟩
  · rw [if_neg h, List.mem_cons]
    exact ⟨fun h1 => h1.elim .inr .inl, fun h1 => h1.elim .inr .inl⟩
theorem plusS_len (l : List ByteArray) (y : ByteArray) : (plusS l y).length ≤ l.length + 1 := by
  unfold plusS
  split <;> simp
section
variable {w : World} {ops : Array Oper} {rest : List Oper} {o : Oper} {a : Act} {Q : Exit → Act → World → Prop}
end
end
section
open Go.RowKit Go.Maps Go.WideMaps
attribute [local instance] Classical.propDecidable

/-- A value stands for itself. -/
def heldE (v : Value) : Option (DataW Value × List MemPlace) := some (.held v, [])
/-- What a map has of each key. -/
structure HMap (D : DataW Value) (f : Lit → Option Value) : Prop where
  isMap : IsMap D
  has : ∀ l, WideAt.IsKeyLit l → Maps.has D l = (f l).isSome
  at_ : ∀ l v, WideAt.IsKeyLit l → f l = some v → ∀ z, D.atKey l z = .held v
theorem HMap.nil : HMap (.map []) (fun _ => none) := ⟨isMap_empty, fun s _ => by simp [Maps.has], fun s n _ h => by cases h⟩
theorem HMap.put {D : DataW Value} {f : Lit → Option Value} (h : HMap D f) {y : Lit} (hy : WideAt.IsKeyLit y) (v : Value) : HMap (D.put y (.held v)) (fun s => if s = y then some v else f s) := by
  refine ⟨h.isMap.put _ _, fun s hs => ?_, fun s m hk hs z => ?_⟩
  · by_cases e : s = y
    · subst e
      rw [has_put_same h.isMap hs, if_pos rfl]
      rfl
    · rw [has_put_other (fun h => e h), h.has s hs, if_neg e]
  · by_cases e : s = y
    · subst e
      rw [if_pos rfl] at hs
      cases hs
      rw [atKey_put_same h.isMap hk]
    · rw [if_neg e] at hs
      rw [atKey_put_other (fun h => e h), h.at_ s m hk hs z]
/-- A block that is a map. -/
def VMap (w : World) (k : TypeId) (b n : Nat) (f : Lit → Option Value) : Prop := ∃ D : DataW Value, w.ownsMap Tryd.prog k heldE b n D ∧ HMap D f
section
variable {w : World} {k : TypeId} {b n : Nat} {f : Lit → Option Value}
theorem VMap.block {w' : World} (h : VMap w k b n f) (hb : w'.heap[b]? = w.heap[b]?) : VMap w' k b n f := by
  obtain ⟨D, ⟨es, clock, h1, h2⟩, h3⟩ := h
  exact ⟨D, ⟨es, clock, hb.trans h1, h2⟩, h3⟩
theorem VMap.lt (h : VMap w k b n f) : b < w.heap.size := by
  obtain ⟨D, h1, h2⟩ := h
  exact h1.lt
theorem VMap.more (h : VMap w k b n f) {n' : Nat} (hn : n ≤ n') : VMap w k b n' f := by
  obtain ⟨D, h1, h2⟩ := h
  exact ⟨D, h1.mono hn, h2⟩
theorem VMap.new (w : World) (k : TypeId) : VMap (w.alloc (.map #[] 0)) k w.heap.size 0 (fun _ => none) := ⟨.map [], World.ownsMap_made w _ _ _, HMap.nil⟩
variable {ops : Array Oper} {rest : List Oper} {o : Oper} {a : Act} {Q : Exit → Act → World → Prop}
theorem wpList_vmap_put (hg : o.guard = none) (m x v : Operand) (t : TypeId) (hop : o.op = Op.mapUpdate t m x v) (k e : TypeId) (K : Keyed Tryd.prog k) (ht : Tryd.prog.underlying t = some (.map k e)) (b n : Nat) (f : Lit → Option Value) (h : VMap w k b n f) (hn : n < maxLen) (hm : a.eval m = .map (some b)) (key val : Value) (kl : Lit) (hx : a.eval x = key) (hv : a.eval v = val) (hkey : keyOf Tryd.prog k key = some kl)
    (hK : ∀ w', VMap w' k b (n + 1) (fun s => if s = kl then some val else f s) → Touch w w' (fun j => j = b) → wpList Tryd.prog ops Q rest (a.put o.dst undef) w') : wpList Tryd.prog ops Q (o :: rest) a w := by
  obtain ⟨D, hown, hD⟩ := h
  refine wpList_mapUpdate_in w hg m x v t hop k e K ht heldE b n D hm hown hn key val kl hx hv hkey (.held val) [] rfl ?_
  intro w1 hown1 hturn1
  exact hK w1 ⟨_, hown1, hD.put (K.key hkey) val⟩ (Touch.of_grown hturn1.grown (fun b e => (Option.some.inj e).symm))
theorem wpList_vmap_ins (hg : o.guard = none) (m x v : Operand) (t : TypeId) (hop : o.op = Op.insert t m x v) (k e : TypeId) (K : Keyed Tryd.prog k) (ht : Tryd.prog.underlying t = some (.map k e)) (b n : Nat) (f : Lit → Option Value) (h : VMap w k b n f) (hn : n < maxLen) (hm : a.eval m = .map (some b)) (key val : Value) (kl : Lit) (hx : a.eval x = key) (hv : a.eval v = val) (hkey : keyOf Tryd.prog k key = some kl)
    (hK : ∀ w', VMap w' k b (n + 1) (fun s => if s = kl then some val else f s) → Touch w w' (fun j => j = b) → wpList Tryd.prog ops Q rest (a.put o.dst undef) w') : wpList Tryd.prog ops Q (o :: rest) a w := by
  obtain ⟨D, hown, hD⟩ := h
  refine wpList_plain hg fun K' hK' => ?_
  obtain ⟨w1, hrun, r1, r2⟩ := hown.store K ht hn hkey (d := .held val) (ps := []) rfl
  unfold Oper.wp
  simp [execOp, hop, hm, hx, hv, hrun, Result.andThen]
  exact hK' _ _ (hK w1 ⟨_, r1, hD.put (K.key hkey) val⟩ (Touch.of_grown r2.grown (fun b e => (Option.some.inj e).symm)))
theorem wpList_vmap_ok (hg : o.guard = none) (m x : Operand) (t : TypeId) (hop : o.op = Op.lookup t m x true) (k e : TypeId) (K : Keyed Tryd.prog k) (ht : Tryd.prog.underlying t = some (.map k e)) {z : Value} (hz : (zeroValue e).run Tryd.prog w = .ok z w) (b n : Nat) (f : Lit → Option Value) (h : VMap w k b n f) (hm : a.eval m = .map (some b)) (key : Value) (kl : Lit) (hx : a.eval x = key) (hkey : keyOf Tryd.prog k key = some kl)
    (hK : wpList Tryd.prog ops Q rest (a.put o.dst (.tuple #[(f kl).getD z, .bool (f kl).isSome])) w) : wpList Tryd.prog ops Q (o :: rest) a w := by
  obtain ⟨D, hown, hD⟩ := h
  refine wpList_lookup_own_ok w hg m x t hop k e K ht heldE hz (.held z) [] rfl b n D hm hown key kl hx hkey ?_
  intro v ps hv
  have hh := hD.has kl (K.key hkey)
  rw [hh]
  simp only [heldE, Option.some.injEq, Prod.mk.injEq] at hv
  cases hf : f kl with
  | none =>
    rw [hf] at hh hK
    rw [atKey_of_not_has hh] at hv
    obtain ⟨e1, -⟩ := hv
    cases e1
    exact hK
  | some u =>
    rw [hf] at hK
    rw [hD.at_ kl u (K.key hkey) hf] at hv
    obtain ⟨e1, -⟩ := hv
    cases e1
    exact hK
theorem wpList_vmap_at (hg : o.guard = none) (m x : Operand) (t : TypeId) (hop : o.op = Op.lookup t m x false) (k e : TypeId) (K : Keyed Tryd.prog k) (ht : Tryd.prog.underlying t = some (.map k e)) {z : Value} (hz : (zeroValue e).run Tryd.prog w = .ok z w) (b n : Nat) (f : Lit → Option Value) (h : VMap w k b n f) (hm : a.eval m = .map (some b)) (key : Value) (kl : Lit) (hx : a.eval x = key) (hkey : keyOf Tryd.prog k key = some kl)
    (hK : wpList Tryd.prog ops Q rest (a.put o.dst ((f kl).getD z)) w) : wpList Tryd.prog ops Q (o :: rest) a w := by
  obtain ⟨D, hown, hD⟩ := h
  refine wpList_plain hg fun K' hK' => ?_
  obtain ⟨v, ps, hrun, hv⟩ := hown.lookup K ht hz (zd := .held z) (zp := []) rfl hkey
  have hh := hD.has kl (K.key hkey)
  simp only [heldE, Option.some.injEq, Prod.mk.injEq] at hv
  have hv2 : v = (f kl).getD z := by
    cases hf : f kl with
    | none =>
      rw [hf] at hh
      rw [atKey_of_not_has hh] at hv
      obtain ⟨e1, -⟩ := hv
      cases e1
      rfl
    | some u =>
      rw [hD.at_ kl u (K.key hkey) hf] at hv
      obtain ⟨e1, -⟩ := hv
      cases e1
      rfl
  subst hv2
  unfold Oper.wp
  simp [execOp, hop, hm, hx, hrun, Result.andThen]
  exact hK' _ _ hK
end
end
section
open Go.RowKit Go.Maps

/-- A row of one's own that reads as these elements. -/
def OwnE {α : Type} (c : Nat) (R : World → List Value → α → Prop) (w : World) (base : Nat) (e : TypeId) (v : Value) (L : List α) : Prop :=
  ∃ xs, w.ownsRow base e c v L.length xs ∧ ∀ i d, L[i]? = some d → ∃ cs, R w cs d ∧ cs.length = c ∧ ∀ j u, cs[j]? = some u → xs[i * c + j]? = some u
section
variable {α : Type} {c : Nat} {R : World → List Value → α → Prop} {w w' : World} {base : Nat} {e : TypeId} {v : Value} {L : List α}
theorem OwnE.nil (w : World) (base : Nat) (e : TypeId) : OwnE c R w base e (.slice none 0 0) [] := ⟨[], World.ownsRow_nil _ _ _ _, fun i d h => by simp at h⟩
theorem OwnE.rd (h : OwnE c R w base e v L) : RdE c R w v L := by
  obtain ⟨xs, h1, h2⟩ := h
  rcases h1.2 with ⟨rfl, h0⟩ | ⟨g, cap, cur, rfl, -⟩
  · exact .inl ⟨List.eq_nil_of_length_eq_zero h0, .inl rfl⟩
  · refine .inr ⟨g, 0, cap, rfl, (h1.lt g rfl).2, fun i d hi => ?_⟩
    obtain ⟨cs, k1, k2, k3⟩ := h2 i d hi
    refine ⟨cs, k1, k2, fun j u hj => ?_⟩
    have := h1.cells (g := g) rfl _ u (k3 j u hj)
    rw [add0] at this
    rw [Nat.zero_add]
    exact this
theorem OwnE.form (h : OwnE c R w base e v L) : ∃ a k, v = .slice a L.length k := by
  obtain ⟨xs, h1, h2⟩ := h
  rcases h1.2 with ⟨rfl, h0⟩ | ⟨g, cap, cur, rfl, -⟩
  · exact ⟨none, 0, by rw [h0]⟩
  · exact ⟨_, cap, rfl⟩
theorem OwnE.lt (h : OwnE c R w base e v L) : ∀ g, v.ownBlock = some g → base ≤ g ∧ g < w.heap.size := by
  obtain ⟨xs, h1, h2⟩ := h
  exact fun g hg => h1.lt g hg
theorem OwnE.touch {S : Nat → Prop} (h : OwnE c R w base e v L) (hT : Touch w w' S) (hS : ∀ g, v.ownBlock = some g → ¬ S g) (hR : ∀ cs d, R w cs d → R w' cs d) : OwnE c R w' base e v L := by
  obtain ⟨xs, h1, h2⟩ := h
  refine ⟨xs, ⟨h1.1, ?_⟩, fun i d hi => ?_⟩
  · rcases h1.2 with ⟨rfl, h0⟩ | ⟨g, cap, cur, rfl, k1, k2, k3⟩
    · exact .inl ⟨rfl, h0⟩
    · exact .inr ⟨g, cap, cur, rfl, k1, (hT.block g (Array.getElem?_eq_some_iff.1 k2).1 (hS g rfl)).trans k2, k3⟩
  · obtain ⟨cs, k1, k2, k3⟩ := h2 i d hi
    exact ⟨cs, hR cs d k1, k2, k3⟩
theorem RdE.flat (h : RdE c R w v L) : v = .slice none 0 0 ∧ L = [] ∨ ∃ (ad : Addr) (k : Nat) (news : List Value), v = .slice (some ad) L.length k ∧ news.length = L.length * c ∧ (∀ j u, news[j]? = some u → w.cell? (ad.add j) = some u) ∧
    (∀ i d, L[i]? = some d → ∃ cs, R w cs d ∧ cs.length = c ∧ ∀ j u, cs[j]? = some u → news[i * c + j]? = some u) ∧ ∀ u ∈ news, ∃ cs d, R w cs d ∧ u ∈ cs := by
  rcases h with ⟨rfl, rfl | ⟨a, k, rfl⟩⟩ | ⟨b, off, cap, rfl, hlt, hc⟩
  · exact .inl ⟨rfl, rfl⟩
  · exact .inr ⟨a, k, [], rfl, by simp, fun j u h => by simp at h, fun i d h => by simp at h, fun u h => by simp at h⟩
  · refine .inr ⟨⟨b, off, none⟩, cap, ?_⟩
    have key : ∀ n, n ≤ L.length → ∃ news : List Value, news.length = n * c ∧ (∀ j u, news[j]? = some u → w.cell? ⟨b, off + j, none⟩ = some u) ∧
        (∀ i d, i < n → L[i]? = some d → ∃ cs, R w cs d ∧ cs.length = c ∧ ∀ j u, cs[j]? = some u → news[i * c + j]? = some u) ∧ ∀ u ∈ news, ∃ cs d, R w cs d ∧ u ∈ cs := by
      intro n
      induction n with
      | zero => intro _; exact ⟨[], by simp, fun j u h => by simp at h, fun i d h => by omega, fun u h => by simp at h⟩
      | succ n ih =>
        intro hn
        obtain ⟨news, k1, k2, k3, k4⟩ := ih (by omega)
        obtain ⟨d, hd⟩ : ∃ d, L[n]? = some d := ⟨_, List.getElem?_eq_getElem (by omega)⟩
        obtain ⟨cs, m1, m2, m3⟩ := hc n d hd
        refine ⟨news ++ cs, by rw [List.length_append, k1, m2, Nat.succ_mul], fun j u hj => ?_, fun i d' hi hd' => ?_, fun u hu => ?_⟩
        · rcases Nat.lt_or_ge j news.length with h | h
          · rw [List.getElem?_append_left h] at hj
            exact k2 j u hj
          · rw [List.getElem?_append_right h] at hj
            have := m3 _ u hj
            rw [k1] at this h
            rw [show off + j = off + n * c + (j - n * c) by omega]
            exact this
        · by_cases e : i = n
          · subst e
            rw [hd] at hd'
            cases hd'
            refine ⟨cs, m1, m2, fun j u hj => ?_⟩
            rw [List.getElem?_append_right (by omega), k1, show i * c + j - i * c = j by omega]
            exact hj
          · obtain ⟨cs', n1, n2, n3⟩ := k3 i d' (by omega) hd'
            refine ⟨cs', n1, n2, fun j u hj => ?_⟩
            have := n3 j u hj
            rw [List.getElem?_append_left (List.getElem?_eq_some_iff.1 this).1]
            exact this
        · rcases List.mem_append.1 hu with h | h
          · exact k4 u h
          · exact ⟨cs, d, m1, h⟩
    obtain ⟨news, k1, k2, k3, k4⟩ := key L.length (Nat.le_refl _)
    refine ⟨news, rfl, k1, fun j u hj => ?_, fun i d hd => k3 i d (List.getElem?_eq_some_iff.1 hd).1 hd, k4⟩
    have e2 : (⟨b, off, none⟩ : Addr).add j = ⟨b, off + j, none⟩ := by
      unfold Addr.add
      split <;> simp_all
    rw [e2]
    exact k2 j u hj
/-- append, of a slice that reads, onto a row of one's own. -/
theorem wpList_append_rde {P : Program} {ops : Array Oper} {rest : List Oper} {o : Oper} {a : Act} {Q : Exit → Act → World → Prop} (w : World) (hgd : o.guard = none) (s x : Operand) (t : TypeId)
    (ho : o.op = .call { callee := .builtin .append, args := #[s, x], argTypes := #[t, t] })
    (base : Nat) (e : TypeId) (i : TypeInfo) (z : Value) (bytes : Nat) (ht : P.underlying t = some (.slice e)) (hi : P.info? e = some i) (hz : i.zero = some z)
    (hsize : i.size = c) (hby : i.bytes = bytes) (hzs : z.cells.size = c) (hc0 : 0 < c)
    (v : Value) (L : List α) (hs : a.eval s = v) (hown : OwnE c R w base e v L)
    (sv : Value) (M : List α) (hx : a.eval x = sv) (hrd : RdE c R w sv M) (h1 : ∀ cs d, R w cs d → ∀ u ∈ cs, u.oneCell' = true)
    (h63 : L.length + M.length ≤ maxLen) (hbytes : (L.length + M.length) * bytes ≤ 140737488355328) (hbase : base ≤ w.heap.size)
    (hR : ∀ w' cs d, Touch w w' (fun k => v.ownBlock = some k) → R w cs d → R w' cs d)
    (h : ∀ v' w', OwnE c R w' base e v' (L ++ M) → Touch w w' (fun k => v.ownBlock = some k) → (v'.ownBlock = v.ownBlock ∨ v'.ownBlock = some w.heap.size) → wpList P ops Q rest (a.put o.dst v') w') :
    wpList P ops Q (o :: rest) a w := by
  obtain ⟨xs, hxs, hxr⟩ := hown
  have hxl := hxs.1
  rcases hrd.flat with ⟨rfl, rfl⟩ | ⟨ad, k, news, rfl, k1, k2, k3, k4⟩
  · exact wpList_append_own_none (w := w) hgd s x t ho base e i c ht hi v L.length xs hs hxs hx (h v w (by rw [List.append_nil]; exact ⟨xs, hxs, hxr⟩) (Touch.refl _ _) (Or.inl rfl))
  · refine wpList_append_own_at w hgd s x t ho base e i z c bytes ht hi hz hsize hby hzs hc0 v L.length xs hs hxs ad M.length k news hx k1 k2 (fun u hu => by obtain ⟨cs, d, hr, hm⟩ := k4 u hu; exact h1 cs d hr u hm) h63 hbytes hbase ?_
    intro v' w' h2 h3 _ h4
    have hT : Touch w w' (fun k => v.ownBlock = some k) := Touch.of_grown h3 (fun k e => e)
    refine h v' w' ⟨xs ++ news, by rw [List.length_append]; exact h2, fun i' d hd => ?_⟩ hT h4
    rcases Nat.lt_or_ge i' L.length with hlt | hge
    · rw [List.getElem?_append_left hlt] at hd
      obtain ⟨cs, m1, m2, m3⟩ := hxr i' d hd
      refine ⟨cs, hR w' cs d hT m1, m2, fun j u hj => ?_⟩
      have := m3 j u hj
      rw [List.getElem?_append_left (List.getElem?_eq_some_iff.1 this).1]
      exact this
    · rw [List.getElem?_append_right hge] at hd
      obtain ⟨cs, m1, m2, m3⟩ := k3 _ d hd
      refine ⟨cs, hR w' cs d hT m1, m2, fun j u hj => ?_⟩
      have h5 : i' * c = L.length * c + (i' - L.length) * c := by rw [← Nat.add_mul]; congr 1; omega
      rw [List.getElem?_append_right (by omega), hxl, show i' * c + j - L.length * c = (i' - L.length) * c + j by omega]
      exact m3 j u hj
end
end
section
open Go.RowKit Go.Maps

theorem Touch.then {a b c : World} {S S' : Nat → Prop} (h : Touch a b S) (g : Touch b c S') (hs : ∀ k, k < a.heap.size → S' k → S k) : Touch a c S :=
  ⟨g.os.trans h.os, g.tape.trans h.tape, g.output.trans h.output, Nat.le_trans h.size g.size, fun k hk hn => (g.block k (Nat.lt_of_lt_of_le hk h.size) (fun s => hn (hs k hk s))).trans (h.block k hk hn)⟩
section
variable {α : Type} {c : Nat} {R R' : World → List Value → α → Prop} {w w' : World} {base : Nat} {e : TypeId} {v : Value} {L : List α} {No No' : Nat → Prop}
/-- It reads so, whatever becomes of the blocks of No. -/
def Away (No : Nat → Prop) (R : World → List Value → α → Prop) (w : World) (cs : List Value) (d : α) : Prop := ∀ w', Touch w w' No → R w' cs d
theorem Away.rd {cs : List Value} {d : α} (h : Away No R w cs d) : R w cs d := h w (Touch.refl _ _)
theorem Away.move {cs : List Value} {d : α} (h : Away No R w cs d) (t : Touch w w' No) (hs : ∀ k, k < w.heap.size → No' k → No k) : Away No' R w' cs d := fun _ t' => h _ (t.then t' hs)
theorem OwnE.imp (h : OwnE c R w base e v L) (hR : ∀ cs d, R w cs d → R' w cs d) : OwnE c R' w base e v L := by
  obtain ⟨xs, h1, h2⟩ := h
  exact ⟨xs, h1, fun i d hi => by obtain ⟨cs, k1, k2, k3⟩ := h2 i d hi; exact ⟨cs, hR cs d k1, k2, k3⟩⟩
theorem RdE.imp (h : RdE c R w v L) (hR : ∀ cs d, R w cs d → R' w cs d) : RdE c R' w v L := by
  refine or_map h id ?_
  rintro ⟨b, off, cap, e, hlt, hc⟩
  refine ⟨b, off, cap, e, hlt, fun i d hi => ?_⟩
  obtain ⟨cs, h1, h2, h3⟩ := hc i d hi
  exact ⟨cs, hR cs d h1, h2, h3⟩
/-- A row of one's own, with things that other turns don't reach, in a later world. -/
theorem OwnE.move (h : OwnE c (Away No R) w base e v L) (t : Touch w w' No) (hv : ∀ g, v.ownBlock = some g → ¬ No g) (hs : ∀ k, k < w.heap.size → No' k → No k) : OwnE c (Away No' R) w' base e v L := by
  obtain ⟨xs, h1, h2⟩ := h
  exact ⟨xs, ownsRow_touch h1 t hv, fun i d hi => by obtain ⟨cs, k1, k2, k3⟩ := h2 i d hi; exact ⟨cs, k1.move t hs, k2, k3⟩⟩
/-- A row of one's own stays where others turn; its things are away from its own block, and from those that turn. -/
theorem OwnE.go {B : Nat → Prop} (h : OwnE c (Away (fun k => v.ownBlock = some k ∨ B k) R) w base e v L) (t : Touch w w' B) (hv : ∀ g, v.ownBlock = some g → ¬ B g) : OwnE c (Away (fun k => v.ownBlock = some k ∨ B k) R) w' base e v L := by
  obtain ⟨xs, h1, h2⟩ := h
  exact ⟨xs, ownsRow_touch h1 t hv, fun i d hi => by obtain ⟨cs, k1, k2, k3⟩ := h2 i d hi; exact ⟨cs, k1.move (t.mono fun k _ hk => .inr hk) (fun k _ hk => hk), k2, k3⟩⟩
theorem OwnE.to {B : Nat → Prop} (h : OwnE c (Away (fun k => v.ownBlock = some k ∨ B k) R) w base e v L) (t : Touch w w' No) (hv : ∀ g, v.ownBlock = some g → ¬ No g) (hs : ∀ k, k < w.heap.size → No k → B k) : RdE c R w' v L := by
  obtain ⟨xs, h1, h2⟩ := h
  exact OwnE.rd (base := base) (e := e) ⟨xs, ownsRow_touch h1 t hv, fun i d hi => by obtain ⟨cs, k1, k2, k3⟩ := h2 i d hi; exact ⟨cs, k1 _ (t.mono fun k hk hn => .inr (hs k hk hn)), k2, k3⟩⟩
theorem oneCell_of {cs : List Value} (h : ∀ u ∈ cs, u.oneCell' = true) : ∀ u ∈ cs, u.oneCell' = true := h
/-- append, of a slice of things that are away, onto a row of one's own whose things are away. -/
theorem wpList_append_away {P : Program} {ops : Array Oper} {rest : List Oper} {o : Oper} {a : Act} {Q : Exit → Act → World → Prop} (w : World) (hgd : o.guard = none) (s x : Operand) (t : TypeId)
    (ho : o.op = .call { callee := .builtin .append, args := #[s, x], argTypes := #[t, t] })
    (base : Nat) (e : TypeId) (i : TypeInfo) (z : Value) (bytes : Nat) (ht : P.underlying t = some (.slice e)) (hi : P.info? e = some i) (hz : i.zero = some z)
    (hsize : i.size = c) (hby : i.bytes = bytes) (hzs : z.cells.size = c) (hc0 : 0 < c) (B : Nat → Prop)
    (v : Value) (L : List α) (hs : a.eval s = v) (hown : OwnE c (Away (fun k => v.ownBlock = some k ∨ B k) R) w base e v L)
    (sv : Value) (M : List α) (hx : a.eval x = sv) (hrd : RdE c (Away (fun k => v.ownBlock = some k ∨ B k) R) w sv M) (h1 : ∀ w cs d, R w cs d → ∀ u ∈ cs, u.oneCell' = true)
    (h63 : L.length + M.length ≤ maxLen) (hbytes : (L.length + M.length) * bytes ≤ 140737488355328) (hbase : base ≤ w.heap.size)
    (h : ∀ v' w', OwnE c (Away (fun k => v'.ownBlock = some k ∨ B k) R) w' base e v' (L ++ M) → Touch w w' (fun k => v.ownBlock = some k) → (v'.ownBlock = v.ownBlock ∨ v'.ownBlock = some w.heap.size) → wpList P ops Q rest (a.put o.dst v') w') :
    wpList P ops Q (o :: rest) a w := by
  have hup : ∀ cs d, Away (fun k => v.ownBlock = some k ∨ B k) R w cs d → Touch w w (fun k => v.ownBlock = some k ∨ B k) ∧ Away (fun k => v.ownBlock = some k ∨ B k) R w cs d := fun cs d h => ⟨Touch.refl _ _, h⟩
  refine wpList_append_rde (R := fun w' cs d => Touch w w' (fun k => v.ownBlock = some k ∨ B k) ∧ Away (fun k => v.ownBlock = some k ∨ B k) R w cs d) w hgd s x t ho base e i z bytes ht hi hz hsize hby hzs hc0 v L hs (OwnE.imp hown hup) sv M hx (RdE.imp hrd hup) (fun cs d k u hu => h1 w cs d k.2.rd u hu) h63 hbytes hbase (fun w' cs d t k => ⟨k.1.trans (t.mono fun k _ hk => .inl hk), k.2⟩) ?_
  intro v' w' k1 k2 k3
  refine h v' w' (OwnE.imp k1 fun cs d hk => hk.2.move hk.1 fun k hlt hk' => ?_) k2 k3
  rcases hk' with hk' | hk'
  · rcases k3 with e3 | e3
    · exact .inl (e3 ▸ hk')
    · rw [e3, Option.some.injEq] at hk'
      omega
  · exact .inr hk'
end
end
section
open Go.RowKit Go.Maps Go.Shelf
attribute [local go_sem] Oper.semAt_some

theorem wp_tailP {P : Program} {id : Nat} {Q : Exit → Act → World → Prop} {a : Act} {w : World} {l : List Oper} (n : Nat) (hm : P.follows .mixedOrders = true) (hB : Region.lexTailB .any l.toArray n = true)
    (h : wpStill P l.toArray w.drew (fun a' => wpList P l.toArray Q (l.drop n) a' w.drew) (l.take n) a) : (Code.region id l.toArray true).wp P Q a w :=
  wp_region_still_tail n hm hB h
/-- What forms are, as values. -/
def rstF : Rst → FuncId
  | .fields => 28
  | .nothing => 29
  | .fn => 30
  | .operand => 31
  | .field => 32
  | .phi => 33
  | .call => 34
  | .icall => 35
  | .store => 36
  | .branch => 37
  | .label => 38
  | .result => 39
def formV (x : Int × Rst) : Value := .agg #[.int .u8 x.1, .func (.func (rstF x.2)) #[] #[]]
/-- A map's forms. -/
def formsV (f : List UInt8 → Option (Int × Rst)) : Lit → Option Value
  | .string s => (f s).map formV
  | _ => none
/-- What is known of words. -/
structure TokOk (T : List Tok) : Prop where
  len : T.length ≤ 2000000
  text : ∀ t ∈ T, t.text.length ≤ 2000000
  num : ∀ t ∈ T, t.num ≤ 999999999
  line : ∀ t ∈ T, t.line ≤ 4000000 ∧ t.col ≤ 4000000
  kind : ∀ t ∈ T, t.kind ≤ 4
  last : ∃ l t, T = l ++ [t] ∧ t.kind = 4 ∧ ∀ x ∈ l, x.kind ≠ 4
/-- The parser: its words, where it is, its line, its forms. -/
structure PAt (B : Nat) (w : World) (pb gw cw : Nat) (T : List Tok) (i ln vb bb : Nat) : Prop where
  blk : w.heap[pb]? = some (.cells #[.slice (some ⟨gw, 0, none⟩) T.length cw, .int .i64 i, .int .i64 ln, .map (some vb), .map (some bb)] 63 (0, 0))
  toks : ∀ k t, T[k]? = some t → w.cell? ⟨gw, k * 5, none⟩ = some (.int .u8 t.kind) ∧ w.cell? ⟨gw, k * 5 + 1, none⟩ = some (.string (nmT t)) ∧ w.cell? ⟨gw, k * 5 + 2, none⟩ = some (.int .i64 t.num) ∧ w.cell? ⟨gw, k * 5 + 3, none⟩ = some (.int .i64 t.line) ∧ w.cell? ⟨gw, k * 5 + 4, none⟩ = some (.int .i64 t.col)
  vmap : VMap w 9 vb 10 (formsV valueF)
  bmap : VMap w 9 bb 6 (formsV bareF)
  ok : TokOk T
  here : i < T.length
  line : ln ≤ 4000000
  ltP : pb < B
  ltG : gw < B
  ltV : vb < B
  ltB : bb < B
  neG : gw ≠ pb
  neV : vb ≠ pb
  neB : bb ≠ pb
  top : B ≤ w.heap.size
section
variable {B : Nat} {w w' : World} {pb gw cw : Nat} {T : List Tok} {i ln vb bb : Nat}
theorem PAt.keep {No : Nat → Prop} (h : PAt B w pb gw cw T i ln vb bb) (t : Touch w w' No) (hn : ∀ k, No k → B ≤ k) : PAt B w' pb gw cw T i ln vb bb := by
  have hbl : ∀ k, k < B → w'.heap[k]? = w.heap[k]? := fun k hk => t.block k (Nat.lt_of_lt_of_le hk h.top) (fun hx => by have := hn k hx; omega)
  have hc : ∀ o u, w.cell? ⟨gw, o, none⟩ = some u → w'.cell? ⟨gw, o, none⟩ = some u := fun o u hu => by
    rw [← hu]
    unfold World.cell?
    rw [hbl gw h.ltG]
  exact ⟨(hbl pb h.ltP).trans h.blk, fun k t ht => by obtain ⟨h0, h1, h2, h3, h4⟩ := h.toks k t ht; exact ⟨hc _ _ h0, hc _ _ h1, hc _ _ h2, hc _ _ h3, hc _ _ h4⟩, h.vmap.block (hbl vb h.ltV), h.bmap.block (hbl bb h.ltB), h.ok, h.here, h.line, h.ltP, h.ltG, h.ltV, h.ltB, h.neG, h.neV, h.neB, Nat.le_trans h.top t.size⟩
theorem PAt.below (h : PAt B w pb gw cw T i ln vb bb) (hb : Below w.heap.size w w') : PAt B w' pb gw cw T i ln vb bb := h.keep (No := fun _ => False) (Touch.of_below hb _) (fun _ h => h.elim)
/-- The parser's own cells turn. -/
theorem PAt.set {i' ln' : Nat} (h : PAt B w pb gw cw T i ln vb bb) (t : Touch w w' (fun k => k = pb)) (hb : w'.heap[pb]? = some (.cells #[.slice (some ⟨gw, 0, none⟩) T.length cw, .int .i64 i', .int .i64 ln', .map (some vb), .map (some bb)] 63 (0, 0))) (hi : i' < T.length) (hl : ln' ≤ 4000000) : PAt B w' pb gw cw T i' ln' vb bb := by
  have hbl : ∀ k, k < B → k ≠ pb → w'.heap[k]? = w.heap[k]? := fun k hk hx => t.block k (Nat.lt_of_lt_of_le hk h.top) hx
  have hc : ∀ o u, w.cell? ⟨gw, o, none⟩ = some u → w'.cell? ⟨gw, o, none⟩ = some u := fun o u hu => by
    rw [← hu]
    unfold World.cell?
    rw [hbl gw h.ltG h.neG]
  exact ⟨hb, fun k t ht => by obtain ⟨h0, h1, h2, h3, h4⟩ := h.toks k t ht; exact ⟨hc _ _ h0, hc _ _ h1, hc _ _ h2, hc _ _ h3, hc _ _ h4⟩, h.vmap.block (hbl vb h.ltV h.neV), h.bmap.block (hbl bb h.ltB h.neB), h.ok, hi, hl, h.ltP, h.ltG, h.ltV, h.ltB, h.neG, h.neV, h.neB, Nat.le_trans h.top t.size⟩
theorem PAt.at (h : PAt B w pb gw cw T i ln vb bb) : ∃ t, T[i]? = some t ∧ T.drop i = t :: T.drop (i + 1) := ⟨T[i]'h.here, List.getElem?_eq_getElem h.here, List.drop_eq_getElem_cons h.here⟩
def tokV (t : Tok) : Value := .agg #[.int .u8 t.kind, .string (nmT t), .int .i64 t.num, .int .i64 t.line, .int .i64 t.col]
set_option maxRecDepth 20000 in
theorem word_any (h : PAt B w pb gw cw T i ln vb bb) {t : Tok} (ht : T[i]? = some t) : Calls Tryd.prog 19 #[.pointer (some ⟨pb, 0, none⟩)] w fun e w' => e = .returned (tokV t) ∧ Below w.heap.size w w' := by
  obtain ⟨k0, k1, k2, k3, k4⟩ := h.toks i t ht
  have c0 : w.cell? ⟨pb, 0, none⟩ = some (.slice (some ⟨gw, 0, none⟩) T.length cw) := by rw [blk_cell h.blk]; rfl
  have c1 : w.cell? ⟨pb, 1, none⟩ = some (.int .i64 i) := by rw [blk_cell h.blk]; rfl
  have hi := h.here
  have hl := h.ok.len
  have lp : pb < w.heap.size := Nat.lt_of_lt_of_le h.ltP h.top
  have lg : gw < w.heap.size := Nat.lt_of_lt_of_le h.ltG h.top
  obtain ⟨n, hn⟩ : ∃ n, n = T.length := ⟨_, rfl⟩
  rw [← hn] at c0 hi hl
  have hi2 : (i : Int) < (n : Int) := by omega
  unfold tokV
  clear h ht hn
  go_enter Tryd.func19, Tryd.ntmps19
  go_upto_region 1 with fail
  refine wp_tailP 10 (by kernel_rfl) (by kernel_rfl) ?_
  simp only [List.take_succ_cons, List.take_zero, List.drop_succ_cons, List.drop_zero]
  repeat still_step
  refine wpStill_nil ?_
  go_wp2_with fail
  exact bodyPost_ret (v := .agg #[.int .u8 t.kind, .string (nmT t), .int .i64 t.num, .int .i64 t.line, .int .i64 t.col]) (by simp [results, Tryd.results19, go_sem, *]) rfl ⟨rfl, ((Below.refl _ _).drew).alloc (by simp) _⟩
end
end
section
open Go.RowKit

theorem numOf_bd (l : List UInt8) : ∀ (acc : Nat), (∀ b ∈ l, digitB b = true) → l.foldl (fun n b => 10 * n + (b.toNat - 48)) acc + 1 ≤ (acc + 1) * 10 ^ l.length := by
  induction l with
  | nil => intro acc _; simp
  | cons b r ih =>
    intro acc h
    have hb := h b (by simp)
    unfold digitB at hb
    simp only [Bool.and_eq_true, decide_eq_true_eq, UInt8.le_iff_toNat_le] at hb
    have h1 : b.toNat ≤ 57 := hb.2
    have := ih (10 * acc + (b.toNat - 48)) (fun x hx => h x (by simp [hx]))
    rw [List.foldl_cons, List.length_cons]
    refine Nat.le_trans this ?_
    rw [Nat.pow_succ, Nat.mul_comm (10 ^ r.length) 10, ← Nat.mul_assoc]
    exact Nat.mul_le_mul_right _ (by omega)
theorem step_tok {l : List UInt8} {ln cl k ln' cl' : Nat} {t : Tok} (h : stepL l ln cl = .ok (k, ln', cl', some t)) : t.text.length ≤ l.length ∧ t.num ≤ 999999999 ∧ t.line = ln ∧ t.col = cl ∧ t.kind ≤ 4 ∧ t.kind ≠ 4 := by
  have tl : ∀ (p : UInt8 → Bool) (l : List UInt8), (l.takeWhile p).length ≤ l.length := fun p l => List.Sublist.length_le (List.takeWhile_sublist p)
  unfold stepL at h
  split at h
  · cases h
  · split at h
    · injection h with h; injection h with h1 h; injection h with h2 h; injection h with h3 h; cases h
    · split at h
      · injection h with h; injection h with h1 h; injection h with h2 h; injection h with h3 h; cases h
      · split at h
        · injection h with h; injection h with h1 h; injection h with h2 h; injection h with h3 h; cases h
        · split at h
          · injection h with h; injection h with h1 h; injection h with h2 h; injection h with h3 h; injection h with h
            subst h
            exact ⟨tl _ _, Nat.zero_le _, rfl, rfl, by dsimp only; omega, by dsimp only; omega⟩
          · split at h
            · split at h
              · cases h
              · rename_i hbad
                injection h with h; injection h with h1 h; injection h with h2 h; injection h with h3 h; injection h with h
                subst h
                refine ⟨tl _ _, ?_, rfl, rfl, by dsimp only; omega, by dsimp only; omega⟩
                rename_i c r _ _ _ _ _
                have h9 : ((c :: r).takeWhile digitB).length ≤ 9 := by
                  simp only [Bool.or_eq_true, decide_eq_true_eq, not_or, Nat.not_lt] at hbad
                  exact hbad.1.2
                have hd : ∀ b ∈ (c :: r).takeWhile digitB, digitB b = true := fun b hb => List.all_eq_true.1 (List.all_takeWhile) b hb
                have h1 := numOf_bd ((c :: r).takeWhile digitB) 0 hd
                have h2 : (10 : Nat) ^ ((c :: r).takeWhile digitB).length ≤ 10 ^ 9 := Nat.pow_le_pow_right (by omega) h9
                show numOf ((c :: r).takeWhile digitB) ≤ _
                unfold numOf
                omega
            · split at h
              · injection h with h; injection h with h1 h; injection h with h2 h; injection h with h3 h; injection h with h
                subst h
                exact ⟨by simp, Nat.zero_le _, rfl, rfl, by dsimp only; omega, by dsimp only; omega⟩
              · cases h
theorem lexN_ok : ∀ (n : Nat) (l : List UInt8) (ln cl : Nat) (T : List Tok), lexN n l ln cl = .ok T → T.length ≤ l.length + 1 ∧ (∀ t ∈ T, t.text.length ≤ l.length ∧ t.num ≤ 999999999 ∧ t.line ≤ ln + l.length ∧ t.col ≤ cl + 2 * l.length ∧ t.kind ≤ 4) ∧ ∃ l' t, T = l' ++ [t] ∧ t.kind = 4 ∧ ∀ x ∈ l', x.kind ≠ 4
  | n, [], ln, cl, T, h => by
    rw [lexN.eq_def] at h
    injection h with h
    subst h
    refine ⟨by simp, fun t ht => ?_, [], ⟨4, [], 0, ln, cl⟩, rfl, rfl, fun x hx => by cases hx⟩
    rw [List.mem_singleton] at ht
    subst ht
    exact ⟨Nat.le_refl _, Nat.zero_le _, Nat.le_add_right _ _, Nat.le_add_right _ _, Nat.le_refl _⟩
  | 0, c :: r, ln, cl, T, h => by rw [lexN.eq_def] at h; cases h
  | n + 1, c :: r, ln, cl, T, h => by
    rw [lexN] at h
    cases hs : stepL (c :: r) ln cl with
    | error e => rw [hs] at h; cases h
    | ok x =>
      obtain ⟨k, ln', cl', t⟩ := x
      rw [hs] at h
      have hp := step_pos hs
      have hb := step_bound hs
      cases hr : lexN n ((c :: r).drop k) ln' cl' with
      | error e => have h : add t (lexN n ((c :: r).drop k) ln' cl') = .ok T := h; rw [hr] at h; cases h
      | ok T' =>
        have h : add t (lexN n ((c :: r).drop k) ln' cl') = .ok T := h
        rw [hr] at h
        injection h with h
        obtain ⟨a1, a2, l', tt, a3, a4, a5⟩ := lexN_ok n _ _ _ _ hr
        have hdl : ((c :: r).drop k).length = (c :: r).length - k := List.length_drop
        rw [hdl] at a1 a2
        subst h
        cases t with
        | none =>
          refine ⟨by show T'.length ≤ _; omega, fun u hu => ?_, l', tt, a3, a4, a5⟩
          obtain ⟨b1, b2, b3, b4, b5⟩ := a2 u hu
          exact ⟨by omega, b2, by omega, by omega, b5⟩
        | some t =>
          obtain ⟨c1, c2, c3, c4, c5, c6⟩ := step_tok hs
          refine ⟨by show (t :: T').length ≤ _; rw [List.length_cons]; omega, fun u hu => ?_, t :: l', tt, by show t :: T' = _; rw [a3]; rfl, a4, fun u hu => ?_⟩
          · rcases List.mem_cons.1 hu with rfl | hu
            · exact ⟨c1, c2, by omega, by omega, c5⟩
            · obtain ⟨b1, b2, b3, b4, b5⟩ := a2 u hu
              exact ⟨by omega, b2, by omega, by omega, b5⟩
          · rcases List.mem_cons.1 hu with rfl | hu
            · exact c6
            · exact a5 u hu
theorem lex_tok {s : List UInt8} {T : List Tok} (h : lex s 1 1 = .ok T) (hs : s.length ≤ 1048576) : TokOk T := by
  obtain ⟨a1, a2, a3⟩ := lexN_ok _ _ _ _ _ h
  exact ⟨by omega, fun t ht => by have := (a2 t ht).1; omega, fun t ht => (a2 t ht).2.1, fun t ht => by have := (a2 t ht).2.2; omega, fun t ht => (a2 t ht).2.2.2.2, a3⟩
end
section
open Go.RowKit Go.Maps Go.Shelf
attribute [local go_sem] Oper.semAt_some

section
variable {B : Nat} {w w' : World} {pb gw cw : Nat} {T : List Tok} {i ln vb bb : Nat}
theorem kindB (k m : Nat) : ((k : Int) == (m : Int)) = (k == m) := by
  rw [Bool.eq_iff_iff]
  simp
  omega
theorem more_any (h : PAt B w pb gw cw T i ln vb bb) {q : Bool} (hq : moreB (T.drop i) ln = q) : Calls Tryd.prog 65 #[.pointer (some ⟨pb, 0, none⟩)] w fun e w' => e = .returned (.bool q) ∧ Below w.heap.size w w' := by
  obtain ⟨t, ht, hd⟩ := h.at
  have hw := Lib.hid (word_any h ht)
  have hc2 := Lib.hid (fun (w' : World) (hb : Below w.heap.size w w') => (show w'.cell? ⟨pb, 2, none⟩ = some (.int .i64 ln) ∧ pb < w'.heap.size from ⟨by rw [blk_cell (h.below hb).blk]; rfl, Nat.lt_of_lt_of_le h.ltP (h.below hb).top⟩))
  rw [hd] at hq
  simp only [moreB] at hq
  have g1 : ((t.kind : Int) != 4) = !(t.kind == 4) := by rw [show ((4 : Int)) = ((4 : Nat) : Int) from rfl, bne, kindB]
  have g2 : ((t.line : Int) == (ln : Int)) = (t.line == ln) := kindB _ _
  unfold tokV at hw
  generalize (t.kind == 4) = x1 at hq g1
  generalize (t.line == ln) = x2 at hq g2
  clear hd ht h
  subst hq
  cases x1 <;> cases x2 <;> (
    simp only [Bool.not_true, Bool.not_false] at g1
    go_enter Tryd.func65, Tryd.ntmps65
    go_upto_region 2 with (go_at_call 19; refine hw.out.mono ?_; rintro e w2 ⟨rfl, hb2⟩)
    obtain ⟨c2, lp⟩ := hc2.out _ hb2
    go_quiet (fail)
    go_wp2_with fail
    go_ret
    exact ⟨rfl, below_drawn (hb2.alloc hb2.size _) _⟩)
theorem fld0 (t : Tok) (w : World) : (Instr.field 38 (.agg #[.int .u8 t.kind, .string (nmT t), .int .i64 t.num, .int .i64 t.line, .int .i64 t.col]) 0).run Tryd.prog w = .ok (.int .u8 t.kind) w := by kernel_rfl
theorem fld1 (t : Tok) (w : World) : (Instr.field 38 (.agg #[.int .u8 t.kind, .string (nmT t), .int .i64 t.num, .int .i64 t.line, .int .i64 t.col]) 1).run Tryd.prog w = .ok (.string (nmT t)) w := by kernel_rfl
theorem fld2 (t : Tok) (w : World) : (Instr.field 38 (.agg #[.int .u8 t.kind, .string (nmT t), .int .i64 t.num, .int .i64 t.line, .int .i64 t.col]) 2).run Tryd.prog w = .ok (.int .i64 t.num) w := by kernel_rfl
attribute [local go_sem] fld0 fld1 fld2
theorem nm_list (t : Tok) : (nmT t).toList = t.text := by unfold nmT; rw [Lib.toList_data]
set_option maxRecDepth 20000 in
theorem is_any (h : PAt B w pb gw cw T i ln vb bb) (c : UInt8) {q : Bool} (hq : isB (T.drop i) ln c = q) : Calls Tryd.prog 44 #[.pointer (some ⟨pb, 0, none⟩), .string ⟨#[c]⟩] w fun e w' => e = .returned (.bool q) ∧ Below w.heap.size w w' := by
  obtain ⟨t, ht, hd⟩ := h.at
  obtain ⟨m, hm⟩ : ∃ m, moreB (T.drop i) ln = m := ⟨_, rfl⟩
  have hmo := Lib.hid (more_any h hm)
  have hw := Lib.hid (fun (w' : World) (hb : Below w.heap.size w w') => word_any (h.below hb) ht)
  unfold isB at hq
  rw [hm, hd] at hq
  simp only [signAt] at hq
  have g1 : ((t.kind : Int) == 3) = (t.kind == 3) := kindB _ 3
  have g2 : ((nmT t).toList == [c]) = (t.text == [c]) := by rw [nm_list]
  unfold tokV at hw
  generalize (t.kind == 3) = x1 at hq g1
  generalize (t.text == [c]) = x2 at hq g2
  clear hd ht h hm
  subst hq
  cases m with
  | false =>
    go_enter Tryd.func44, Tryd.ntmps44
    go_wp2_with (go_at_call 65; refine hmo.out.mono ?_; rintro e w2 ⟨rfl, hb2⟩)
    go_ret
    exact ⟨rfl, hb2⟩
  | true =>
    cases x1 with
    | false =>
      go_enter Tryd.func44, Tryd.ntmps44
      go_wp2_with (go_at_call 65; refine hmo.out.mono ?_; rintro e w2 ⟨rfl, hb2⟩)
      go_wp2_with (go_at_call 19; refine (hw.out _ hb2).mono ?_; rintro e w3 ⟨rfl, hb3⟩)
      go_ret
      exact ⟨rfl, hb2.trans (hb3.mono hb2.size)⟩
    | true =>
      cases x2 <;> (
        go_enter Tryd.func44, Tryd.ntmps44
        go_wp2_with (go_at_call 65; refine hmo.out.mono ?_; rintro e w2 ⟨rfl, hb2⟩)
        go_wp2_with (go_at_call 19; refine (hw.out _ hb2).mono ?_; rintro e w3 ⟨rfl, hb3⟩; replace hb2 := hb2.trans (hb3.mono hb2.size); clear hb3)
        go_ret
        exact ⟨rfl, hb2⟩)
/-- What a fault is thrown as. -/
def chF (f : Flt) : List PanicEntry := [{ v := .iface 57 (.agg #[.int .i64 f.1, .int .i64 f.2.1, .int .i64 f.2.2]), recovered := false, goexit := false }]
set_option maxRecDepth 20000 in
theorem refuse_any (h : PAt B w pb gw cw T i ln vb bb) : Calls Tryd.prog 40 #[.pointer (some ⟨pb, 0, none⟩)] w fun e w' => e = .panicked (chF (fltL (T.drop i))) ∧ Below w.heap.size w w' := by
  obtain ⟨t, ht, hd⟩ := h.at
  have hw := Lib.hid (word_any h ht)
  rw [hd]
  unfold tokV at hw
  clear h ht hd
  by_cases h4 : t.kind = 4
  · have g1 : ((t.kind : Int) == 4) = true := by simp; omega
    rw [show fltL (t :: T.drop (i + 1)) = (t.line, t.col, 41) by simp only [fltL]; rw [if_pos h4]]
    clear h4
    unfold chF
    go_enter Tryd.func40, Tryd.ntmps40
    go_wp2_with (go_at_call 19; refine hw.out.mono ?_; rintro e w2 ⟨rfl, hb2⟩)
    exact ⟨rfl, rfl, hb2.alloc hb2.size _⟩
  · have g1 : ((t.kind : Int) == 4) = false := by simp; omega
    rw [show fltL (t :: T.drop (i + 1)) = (t.line, t.col, 40) by simp only [fltL]; rw [if_neg h4]]
    clear h4
    unfold chF
    go_enter Tryd.func40, Tryd.ntmps40
    go_wp2_with (go_at_call 19; refine hw.out.mono ?_; rintro e w2 ⟨rfl, hb2⟩)
    exact ⟨rfl, rfl, hb2.alloc hb2.size _⟩
theorem keepB {w w' : World} {b : Nat} {x : Obj} (hb : Below w.heap.size w w') (h : w.heap[b]? = some x) : w'.heap[b]? = some x := (hb.block b (Array.getElem?_eq_some_iff.1 h).1).trans h
theorem cells5 {w : World} {b : Nat} {x0 x1 x2 x3 x4 : Value} {t : TypeId} (h : w.heap[b]? = some (.cells #[x0, x1, x2, x3, x4] t (0, 0))) : w.cell? ⟨b, 0, none⟩ = some x0 ∧ w.cell? ⟨b, 1, none⟩ = some x1 ∧ w.cell? ⟨b, 2, none⟩ = some x2 ∧ w.cell? ⟨b, 3, none⟩ = some x3 ∧ w.cell? ⟨b, 4, none⟩ = some x4 := by
  refine ⟨?_, ?_, ?_, ?_, ?_⟩ <;> (rw [blk_cell h]; rfl)
theorem frozB {w : World} {b : Nat} {cs : Array Value} {t : TypeId} (h : w.heap[b]? = some (.cells cs t (0, 0))) (o : Nat) : w.frozen? ⟨b, o, none⟩ = false := by simp [World.frozen?, h]
theorem at_newP {w : World} {o : Obj} {b : Nat} (h : b = w.heap.size) : (w.alloc o).heap[b]? = some o := by
  subst h
  exact heap_alloc_new _ _
theorem at_oldP {w : World} {o : Obj} {b : Nat} {x : Obj} (h : w.heap[b]? = some x) : (w.alloc o).heap[b]? = some x := by
  have hb := (Array.getElem?_eq_some_iff.1 h).1
  simp only [World.alloc]
  rw [Array.getElem?_push, if_neg (by omega)]
  exact h
theorem heap_set5 {w : World} {b k : Nat} (h : k ≠ b) (x0 x1 x2 x3 x4 : Value) : (((((w.setCell ⟨b, 0, none⟩ x0).setCell ⟨b, 1, none⟩ x1).setCell ⟨b, 2, none⟩ x2).setCell ⟨b, 3, none⟩ x3).setCell ⟨b, 4, none⟩ x4).heap[k]? = w.heap[k]? := by
  rw [Below.heap_setCell _ _ _ _ h, Below.heap_setCell _ _ _ _ h, Below.heap_setCell _ _ _ _ h, Below.heap_setCell _ _ _ _ h, Below.heap_setCell _ _ _ _ h]
theorem next_in {T : List Tok} {i : Nat} {t : Tok} (h : TokOk T) (ht : T[i]? = some t) (h4 : t.kind ≠ 4) : i + 1 < T.length := by
  obtain ⟨l, x, rfl, hx, -⟩ := h.last
  rcases Nat.lt_or_ge i l.length with hi | hi
  · rw [List.length_append, List.length_singleton]; omega
  · exfalso
    have hl := (List.getElem?_eq_some_iff.1 ht).1
    rw [List.length_append, List.length_singleton] at hl
    rw [List.getElem?_append_right hi, show i - l.length = 0 by omega] at ht
    simp at ht
    exact h4 (ht ▸ hx)
set_option maxRecDepth 20000 in
theorem take_ok (h : PAt B w pb gw cw T i ln vb bb) {k : Nat} {t : Tok} {r : List Tok} (hr : takeP k (T.drop i) ln = .ok (t, r)) : Calls Tryd.prog 62 #[.pointer (some ⟨pb, 0, none⟩), .int .u8 k] w fun e w' => e = .returned (tokV t) ∧ PAt B w' pb gw cw T (i + 1) ln vb bb ∧ Touch w w' (fun k => k = pb) := by
  obtain ⟨t', ht, hd⟩ := h.at
  have hm : moreB (T.drop i) ln = true := by
    unfold takeP at hr
    rw [hd] at hr ⊢
    dsimp only at hr
    split at hr
    · rename_i h1; rw [Bool.and_eq_true] at h1; exact h1.1
    · cases hr
  obtain ⟨e1, e2, -, e4⟩ := take_len hr
  rw [hd] at e1
  obtain ⟨rfl, rfl⟩ := List.cons.inj e1
  have hw := Lib.hid (word_any (h.below ((Below.refl w.heap.size w).alloc (Nat.le_refl _) (.cells #[.int .u8 0, .string ⟨#[]⟩, .int .i64 0, .int .i64 0, .int .i64 0] 38))) ht)
  have hmo := Lib.hid (fun (w' : World) (hb : Below w.heap.size w w') => more_any (h.below hb) hm)
  have hnx := next_in h.ok ht e4
  have g1 : ((t'.kind : Int) != (k : Int)) = false := by rw [bne, kindB]; simpa using e2
  have hi := h.here
  have hlen := h.ok.len
  have hP := Lib.hid h
  have lp : pb < w.heap.size := Nat.lt_of_lt_of_le h.ltP h.top
  unfold tokV at hw ⊢
  clear h ht hd hr hm e1 e2 e4
  go_enter Tryd.func62, Tryd.ntmps62
  go_wp2_with (go_at_call 19; refine hw.out.mono ?_; rintro e w2 ⟨rfl, hb2⟩)
  have hN1 := keepB hb2 (at_newP (w := w) rfl)
  have hb3 : Below w.heap.size w w2 := ((Below.refl w.heap.size w).alloc (Nat.le_refl _) _).trans (hb2.mono (by simp))
  have hb4 := hb3.alloc hb3.size (.cells #[.int .u8 t'.kind, .string (nmT t'), .int .i64 t'.num, .int .i64 t'.line, .int .i64 t'.col] 38)
  have hN2 := at_oldP (o := .cells #[.int .u8 t'.kind, .string (nmT t'), .int .i64 t'.num, .int .i64 t'.line, .int .i64 t'.col] 38) hN1
  have hN3 := at_newP (w := w2) (o := .cells #[.int .u8 t'.kind, .string (nmT t'), .int .i64 t'.num, .int .i64 t'.line, .int .i64 t'.col] 38) rfl
  refine (hmo.out _ hb4).mono ?_
  rintro e w5 ⟨rfl, hb5⟩
  replace hN2 := keepB hb5 hN2
  replace hN3 := keepB hb5 hN3
  have hb6 := hb4.trans (hb5.mono hb4.size)
  have hP6 := hP.out.below hb6
  have p1 : w5.cell? ⟨pb, 1, none⟩ = some (.int .i64 i) := by rw [blk_cell hP6.blk]; rfl
  have y1 := frozB hP6.blk 1
  obtain ⟨k0, k1, k2, k3, k4⟩ := cells5 hN3
  obtain ⟨r0, r1, r2, r3, r4⟩ := cells5 hN2
  have z0 := frozB hN2 0
  have z1 := frozB hN2 1
  have z2 := frozB hN2 2
  have z3 := frozB hN2 3
  have z4 := frozB hN2 4
  have l2 : w.heap.size < w2.heap.size := by have := hb2.size; simp at this; omega
  have l5 : w2.heap.size < w5.heap.size := by have := hb5.size; simp at this; omega
  replace hb6 := Lib.hid hb6
  replace hP6 := Lib.hid hP6
  replace hN2 := Lib.hid hN2
  clear hN1 hN3 hb2 hb3 hb4 hb5
  go_wp2_with fail
  have hT : Touch w (((((w5.setCell ⟨pb, 1, none⟩ (.int .i64 ((i : Int) + 1))).setCell ⟨w.heap.size, 0, none⟩ (.int .u8 t'.kind)).setCell ⟨w.heap.size, 1, none⟩ (.string (nmT t'))).setCell ⟨w.heap.size, 2, none⟩ (.int .i64 t'.num)).setCell ⟨w.heap.size, 3, none⟩ (.int .i64 t'.line) |>.setCell ⟨w.heap.size, 4, none⟩ (.int .i64 t'.col)) (fun k => k = pb) :=
    ((((((Touch.of_below hb6.out (fun k => k = pb)).setCell (a := ⟨pb, 1, none⟩) (fun _ => rfl) _).setCell (a := ⟨w.heap.size, 0, none⟩) (fun h => absurd h (Nat.lt_irrefl _)) _).setCell (a := ⟨w.heap.size, 1, none⟩) (fun h => absurd h (Nat.lt_irrefl _)) _).setCell (a := ⟨w.heap.size, 2, none⟩) (fun h => absurd h (Nat.lt_irrefl _)) _).setCell (a := ⟨w.heap.size, 3, none⟩) (fun h => absurd h (Nat.lt_irrefl _)) _).setCell (a := ⟨w.heap.size, 4, none⟩) (fun h => absurd h (Nat.lt_irrefl _)) _
  refine bodyPost_ret (v := .agg #[.int .u8 t'.kind, .string (nmT t'), .int .i64 t'.num, .int .i64 t'.line, .int .i64 t'.col]) (by simp [results, Tryd.results62, go_sem, *]) rfl ⟨rfl, hP.out.set hT ?_ hnx hP.out.line, hT⟩
  rw [heap_set5 (by omega)]
  exact blk_set (i := 1) _ hP6.out.blk
set_option maxRecDepth 20000 in
theorem take_bad (h : PAt B w pb gw cw T i ln vb bb) {k : Nat} {f : Flt} (hr : takeP k (T.drop i) ln = .error f) : Calls Tryd.prog 62 #[.pointer (some ⟨pb, 0, none⟩), .int .u8 k] w fun e w' => e = .panicked (chF f) ∧ Below w.heap.size w w' := by
  obtain ⟨t', ht, hd⟩ := h.at
  have hf : f = fltL (T.drop i) := by
    unfold takeP at hr
    rw [hd] at hr ⊢
    dsimp only at hr
    split at hr
    · cases hr
    · injection hr with hr; exact hr.symm
  have hq : (moreB (T.drop i) ln && t'.kind == k) = false := by
    unfold takeP at hr
    rw [hd] at hr ⊢
    dsimp only at hr
    split at hr
    · cases hr
    · rename_i h1; simpa using h1
  obtain ⟨m, hm⟩ : ∃ m, moreB (T.drop i) ln = m := ⟨_, rfl⟩
  rw [hm] at hq
  have hw := Lib.hid (word_any (h.below ((Below.refl w.heap.size w).alloc (Nat.le_refl _) (.cells #[.int .u8 0, .string ⟨#[]⟩, .int .i64 0, .int .i64 0, .int .i64 0] 38))) ht)
  have hmo := Lib.hid (fun (w' : World) (hb : Below w.heap.size w w') => more_any (h.below hb) hm)
  have hre := Lib.hid (fun (w' : World) (hb : Below w.heap.size w w') => refuse_any (h.below hb))
  rw [← hf] at hre
  have hg : m = true → ((t'.kind : Int) != (k : Int)) = true := fun e => by rw [bne, kindB]; rw [e] at hq; simpa using hq
  unfold tokV at hw
  clear h ht hd hr hm hf hq
  cases m with
  | false =>
    clear hg
    go_enter Tryd.func62, Tryd.ntmps62
    go_wp2_with (go_at_call 19; refine hw.out.mono ?_; rintro e w2 ⟨rfl, hb2⟩)
    have hb3 : Below w.heap.size w w2 := ((Below.refl w.heap.size w).alloc (Nat.le_refl _) _).trans (hb2.mono (by simp))
    have hb4 := hb3.alloc hb3.size (.cells #[.int .u8 t'.kind, .string (nmT t'), .int .i64 t'.num, .int .i64 t'.line, .int .i64 t'.col] 38)
    refine (hmo.out _ hb4).mono ?_
    rintro e w5 ⟨rfl, hb5⟩
    have hb6 := hb4.trans (hb5.mono hb4.size)
    clear hb2 hb3 hb4 hb5
    go_wp2_with (go_at_call 40; refine (hre.out _ hb6).mono ?_; rintro e w6 ⟨rfl, hb7⟩)
    exact ⟨rfl, rfl, hb6.trans (hb7.mono hb6.size)⟩
  | true =>
    have g1 := hg rfl
    clear hg
    go_enter Tryd.func62, Tryd.ntmps62
    go_wp2_with (go_at_call 19; refine hw.out.mono ?_; rintro e w2 ⟨rfl, hb2⟩)
    have hb3 : Below w.heap.size w w2 := ((Below.refl w.heap.size w).alloc (Nat.le_refl _) _).trans (hb2.mono (by simp))
    have hb4 := hb3.alloc hb3.size (.cells #[.int .u8 t'.kind, .string (nmT t'), .int .i64 t'.num, .int .i64 t'.line, .int .i64 t'.col] 38)
    have hN3 := at_newP (w := w2) (o := .cells #[.int .u8 t'.kind, .string (nmT t'), .int .i64 t'.num, .int .i64 t'.line, .int .i64 t'.col] 38) rfl
    refine (hmo.out _ hb4).mono ?_
    rintro e w5 ⟨rfl, hb5⟩
    replace hN3 := keepB hb5 hN3
    obtain ⟨k0, -, -, -, -⟩ := cells5 hN3
    have hb6 := hb4.trans (hb5.mono hb4.size)
    clear hb2 hb3 hb4 hb5 hN3
    go_wp2_with (go_at_call 40; refine (hre.out _ hb6).mono ?_; rintro e w6 ⟨rfl, hb7⟩)
    exact ⟨rfl, rfl, hb6.trans (hb7.mono hb6.size)⟩
theorem name_ok (h : PAt B w pb gw cw T i ln vb bb) {s : ByteArray} {r : List Tok} (hr : nameP (T.drop i) ln = .ok (s, r)) : Calls Tryd.prog 41 #[.pointer (some ⟨pb, 0, none⟩)] w fun e w' => e = .returned (.string s) ∧ PAt B w' pb gw cw T (i + 1) ln vb bb ∧ Touch w w' (fun k => k = pb) := by
  unfold nameP at hr
  cases ht : takeP 1 (T.drop i) ln with
  | error f => rw [ht] at hr; cases hr
  | ok x =>
    obtain ⟨t, r'⟩ := x
    rw [ht] at hr
    injection hr with hr
    injection hr with e1 e2
    subst e1
    have ht2 := Lib.hid (take_ok h ht)
    unfold tokV at ht2
    clear h ht
    go_enter Tryd.func41, Tryd.ntmps41
    go_wp2_with (go_at_call 62; refine ht2.out.mono ?_; rintro e w2 ⟨rfl, hP, hT⟩)
    go_ret
    exact ⟨rfl, hP, hT⟩
theorem name_bad (h : PAt B w pb gw cw T i ln vb bb) {f : Flt} (hr : nameP (T.drop i) ln = .error f) : Calls Tryd.prog 41 #[.pointer (some ⟨pb, 0, none⟩)] w fun e w' => e = .panicked (chF f) ∧ Below w.heap.size w w' := by
  unfold nameP at hr
  cases ht : takeP 1 (T.drop i) ln with
  | ok x => rw [ht] at hr; cases hr
  | error g =>
    rw [ht] at hr
    injection hr with e1
    subst e1
    have ht2 := Lib.hid (take_bad h ht)
    clear h ht
    go_enter Tryd.func41, Tryd.ntmps41
    go_wp2_with (go_at_call 62; refine ht2.out.mono ?_; rintro e w2 ⟨rfl, hb⟩)
    exact ⟨rfl, rfl, hb⟩
set_option maxRecDepth 20000 in
theorem sign_ok (h : PAt B w pb gw cw T i ln vb bb) {c : UInt8} {r : List Tok} (hr : signP c (T.drop i) ln = .ok r) : Calls Tryd.prog 43 #[.pointer (some ⟨pb, 0, none⟩), .string ⟨#[c]⟩] w fun e w' => e = .returned (.tuple #[]) ∧ PAt B w' pb gw cw T (i + 1) ln vb bb ∧ Touch w w' (fun k => k = pb) := by
  obtain ⟨t, ht, hd⟩ := h.at
  have hq : isB (T.drop i) ln c = true := by
    unfold signP at hr
    split at hr
    · assumption
    · cases hr
  obtain ⟨t', e1, e2, -, -⟩ := sign_len hr
  rw [hd] at e1
  obtain ⟨rfl, -⟩ := List.cons.inj e1
  have hnx := next_in h.ok ht (by omega)
  have his := Lib.hid (is_any h c hq)
  have hi := h.here
  have hlen := h.ok.len
  have lp : pb < w.heap.size := Nat.lt_of_lt_of_le h.ltP h.top
  have hP := Lib.hid h
  clear h ht hd hr hq e1 e2
  go_enter Tryd.func43, Tryd.ntmps43
  go_wp2_with fail
  refine his.out.mono ?_
  rintro e w2 ⟨rfl, hb2⟩
  have hP2 := hP.out.below hb2
  have p1 : w2.cell? ⟨pb, 1, none⟩ = some (.int .i64 i) := by rw [blk_cell hP2.blk]; rfl
  have y1 := frozB hP2.blk 1
  replace hb2 := Lib.hid hb2
  replace hP2 := Lib.hid hP2
  go_wp2_with fail
  have hT : Touch w (w2.setCell ⟨pb, 1, none⟩ (.int .i64 ((i : Int) + 1))) (fun k => k = pb) := (Touch.of_below hb2.out (fun k => k = pb)).setCell (a := ⟨pb, 1, none⟩) (fun _ => rfl) _
  go_end0
  exact ⟨rfl, hP.out.set hT (blk_set (i := 1) _ hP2.out.blk) hnx hP.out.line, hT⟩
theorem sign_bad (h : PAt B w pb gw cw T i ln vb bb) {c : UInt8} {f : Flt} (hr : signP c (T.drop i) ln = .error f) : Calls Tryd.prog 43 #[.pointer (some ⟨pb, 0, none⟩), .string ⟨#[c]⟩] w fun e w' => e = .panicked (chF f) ∧ Below w.heap.size w w' := by
  have hq : isB (T.drop i) ln c = false ∧ f = fltL (T.drop i) := by
    unfold signP at hr
    split at hr
    · cases hr
    · rename_i h1
      injection hr with hr
      exact ⟨by simpa using h1, hr.symm⟩
  have his := Lib.hid (is_any h c hq.1)
  have hre := Lib.hid (fun (w' : World) (hb : Below w.heap.size w w') => refuse_any (h.below hb))
  rw [← hq.2] at hre
  clear h hr hq
  go_enter Tryd.func43, Tryd.ntmps43
  go_wp2_with (go_at_call 44; refine his.out.mono ?_; rintro e w2 ⟨rfl, hb2⟩)
  go_wp2_with (go_at_call 40; refine (hre.out _ hb2).mono ?_; rintro e w6 ⟨rfl, hb7⟩)
  exact ⟨rfl, rfl, hb2.trans (hb7.mono hb2.size)⟩
end
end
section
open Go.RowKit Go.Maps Go.Shelf
attribute [local go_sem] Oper.semAt_some

section
variable {B : Nat} {w w' : World} {pb gw cw : Nat} {T : List Tok} {i ln vb bb : Nat}
theorem begin_cons (t : Tok) (r : List Tok) (ln : Nat) : beginP (t :: r) ln = if (!(t.kind == 4) && t.line == ln) = true then .error (fltL (t :: r)) else .ok t.line := rfl
set_option maxRecDepth 20000 in
theorem begin_ok (h : PAt B w pb gw cw T i ln vb bb) {ln' : Nat} (hr : beginP (T.drop i) ln = .ok ln') : Calls Tryd.prog 18 #[.pointer (some ⟨pb, 0, none⟩)] w fun e w' => e = .returned (.tuple #[]) ∧ PAt B w' pb gw cw T i ln' vb bb ∧ Touch w w' (fun k => k = pb) := by
  obtain ⟨t, ht, hd⟩ := h.at
  have hq : (!(t.kind == 4) && t.line == ln) = false ∧ ln' = t.line := by
    rw [hd, begin_cons] at hr
    by_cases h1 : (!(t.kind == 4) && t.line == ln) = true
    · rw [if_pos h1] at hr; cases hr
    · rw [if_neg h1] at hr
      injection hr with hr
      exact ⟨by simpa using h1, hr.symm⟩
  have hw := Lib.hid (word_any h ht)
  obtain ⟨hq, rfl⟩ := hq
  have hln := (h.ok.line t (List.mem_of_getElem? ht)).1
  have g1 : ((t.kind : Int) != 4) = !(t.kind == 4) := by rw [show ((4 : Int)) = ((4 : Nat) : Int) from rfl, bne, kindB]
  have g2 : ((t.line : Int) == (ln : Int)) = (t.line == ln) := kindB _ _
  generalize (t.kind == 4) = x1 at hq g1
  generalize (t.line == ln) = x2 at hq g2
  have hP := Lib.hid h
  unfold tokV at hw
  clear h ht hd hr
  go_enter Tryd.func18, Tryd.ntmps18
  go_upto_region 1 with (go_at_call 19; refine hw.out.mono ?_; rintro e w2 ⟨rfl, hb2⟩)
  have hN := at_newP (w := w2) (o := .cells #[.int .u8 t.kind, .string (nmT t), .int .i64 t.num, .int .i64 t.line, .int .i64 t.col] 38) rfl
  have hb3 := hb2.alloc hb2.size (.cells #[.int .u8 t.kind, .string (nmT t), .int .i64 t.num, .int .i64 t.line, .int .i64 t.col] 38)
  generalize (w2.alloc (.cells #[.int .u8 t.kind, .string (nmT t), .int .i64 t.num, .int .i64 t.line, .int .i64 t.col] 38)) = w3 at hN hb3 ⊢
  generalize w2.heap.size = tb at hN ⊢
  obtain ⟨k0, k1, k2, k3, k4⟩ := cells5 hN
  have hP3 := hP.out.below hb3
  have c2 : w3.cell? ⟨pb, 2, none⟩ = some (.int .i64 ln) := by rw [blk_cell hP3.blk]; rfl
  have y2 := frozB hP3.blk 2
  replace hN := Lib.hid hN
  replace hb3 := Lib.hid hb3
  replace hP3 := Lib.hid hP3
  clear hb2
  have hfin : ∀ w4, w4.heap = w3.heap → Below w3.heap.size w3 w4 → PAt B (w4.setCell ⟨pb, 2, none⟩ (.int .i64 t.line)) pb gw cw T i t.line vb bb ∧ Touch w (w4.setCell ⟨pb, 2, none⟩ (.int .i64 t.line)) (fun k => k = pb) := fun w4 e4 hb4 => by
    have hT : Touch w (w4.setCell ⟨pb, 2, none⟩ (.int .i64 t.line)) (fun k => k = pb) := (Touch.of_below (hb3.out.trans (hb4.mono hb3.out.size)) (fun k => k = pb)).setCell (a := ⟨pb, 2, none⟩) (fun _ => rfl) _
    exact ⟨hP.out.set hT (blk_set (i := 2) _ (by rw [e4]; exact hP3.out.blk)) hP.out.here (by omega), hT⟩
  replace hfin := Lib.hid hfin
  cases x1 with
  | true =>
    simp only [Bool.not_true] at g1
    go_quiet (fail)
    go_wp2_with fail
    go_end0
    exact ⟨rfl, hfin.out _ rfl (below_drawn (Below.refl _ _) _)⟩
  | false =>
    obtain rfl : x2 = false := by simpa using hq
    simp only [Bool.not_false] at g1
    go_quiet (fail)
    go_wp2_with fail
    go_end0
    exact ⟨rfl, hfin.out _ rfl (below_drawn (Below.refl _ _) _)⟩
set_option maxRecDepth 20000 in
theorem begin_bad (h : PAt B w pb gw cw T i ln vb bb) {f : Flt} (hr : beginP (T.drop i) ln = .error f) : Calls Tryd.prog 18 #[.pointer (some ⟨pb, 0, none⟩)] w fun e w' => e = .panicked (chF f) ∧ Below w.heap.size w w' := by
  obtain ⟨t, ht, hd⟩ := h.at
  have hq : t.kind ≠ 4 ∧ t.line = ln ∧ f = fltL (T.drop i) := by
    rw [hd, begin_cons] at hr
    rw [hd]
    by_cases h1 : (!(t.kind == 4) && t.line == ln) = true
    · rw [if_pos h1] at hr
      injection hr with hr
      simp at h1
      exact ⟨h1.1, h1.2, hr.symm⟩
    · rw [if_neg h1] at hr; cases hr
  have hw := Lib.hid (word_any h ht)
  have hre := Lib.hid (fun (w' : World) (hb : Below w.heap.size w w') => refuse_any (h.below hb))
  rw [← hq.2.2] at hre
  have g1 : ((t.kind : Int) != 4) = true := by have := hq.1; simp; omega
  have g2 : ((t.line : Int) == (ln : Int)) = true := by have := hq.2.1; simp; omega
  have hP := Lib.hid h
  unfold tokV at hw
  clear h ht hd hr hq
  go_enter Tryd.func18, Tryd.ntmps18
  go_upto_region 1 with (go_at_call 19; refine hw.out.mono ?_; rintro e w2 ⟨rfl, hb2⟩)
  have hN := at_newP (w := w2) (o := .cells #[.int .u8 t.kind, .string (nmT t), .int .i64 t.num, .int .i64 t.line, .int .i64 t.col] 38) rfl
  have hb3 := hb2.alloc hb2.size (.cells #[.int .u8 t.kind, .string (nmT t), .int .i64 t.num, .int .i64 t.line, .int .i64 t.col] 38)
  generalize (w2.alloc (.cells #[.int .u8 t.kind, .string (nmT t), .int .i64 t.num, .int .i64 t.line, .int .i64 t.col] 38)) = w3 at hN hb3 ⊢
  generalize w2.heap.size = tb at hN ⊢
  obtain ⟨k0, k1, k2, k3, k4⟩ := cells5 hN
  have hP3 := hP.out.below hb3
  have c2 : w3.cell? ⟨pb, 2, none⟩ = some (.int .i64 ln) := by rw [blk_cell hP3.blk]; rfl
  replace hN := Lib.hid hN
  replace hb3 := Lib.hid hb3
  replace hP3 := Lib.hid hP3
  clear hb2
  go_quiet (fail)
  go_wp2_with (go_at_call 40; refine (hre.out _ (below_drawn hb3.out _)).mono ?_; rintro e w6 ⟨rfl, hb7⟩)
  exact ⟨rfl, rfl, (below_drawn hb3.out _).trans (hb7.mono (below_drawn hb3.out _).size)⟩
end
end
section
open Go.RowKit Go.Maps Go.Shelf
attribute [local go_sem] Oper.semAt_some fld0 fld1 fld2

/-- An instruction that is being read, in its box: its rows are its own. -/
structure XAt (Bx : Nat) (w : World) (Sx : Nat) (y : Ins) (va vl : Value) : Prop where
  blk : w.heap[Sx]? = some (.cells #[.int .u8 y.op, .string y.dst, .string y.a, .string y.b, .int .i64 y.n, .string y.fn, va, vl] 49 (0, 0))
  ra : w.ownsRow Bx 9 1 va y.args.length (y.args.map Value.string)
  rl : w.ownsRow Bx 9 1 vl y.labels.length (y.labels.map Value.string)
  ne : ∀ g, va.ownBlock = some g → ¬ vl.ownBlock = some g
  lt : Sx < Bx
  top : Bx ≤ w.heap.size
theorem XAt.keep {Bx : Nat} {w w' : World} {Sx : Nat} {y : Ins} {va vl : Value} {No : Nat → Prop} (h : XAt Bx w Sx y va vl) (t : Touch w w' No) (hn : ∀ k, No k → k < Bx ∧ k ≠ Sx) : XAt Bx w' Sx y va vl :=
  ⟨(t.block Sx (Nat.lt_of_lt_of_le h.lt h.top) (fun e => (hn _ e).2 rfl)).trans h.blk, ownsRow_touch h.ra t (fun g hg e => by have := (h.ra.lt g hg).1; have := (hn g e).1; omega), ownsRow_touch h.rl t (fun g hg e => by have := (h.rl.lt g hg).1; have := (hn g e).1; omega), h.ne, h.lt, Nat.le_trans h.top t.size⟩
/-- A cell of the box turns. -/
theorem XAt.set {Bx : Nat} {w : World} {Sx : Nat} {y : Ins} {va vl : Value} (h : XAt Bx w Sx y va vl) (j : Nat) (u : Value) : ((w.setCell ⟨Sx, j, none⟩ u).heap[Sx]? = some (.cells (#[.int .u8 y.op, .string y.dst, .string y.a, .string y.b, .int .i64 y.n, .string y.fn, va, vl].setIfInBounds j u) 49 (0, 0))) ∧ (w.setCell ⟨Sx, j, none⟩ u).ownsRow Bx 9 1 va y.args.length (y.args.map Value.string) ∧ (w.setCell ⟨Sx, j, none⟩ u).ownsRow Bx 9 1 vl y.labels.length (y.labels.map Value.string) := by
  have t : Touch w (w.setCell ⟨Sx, j, none⟩ u) (fun k => k = Sx) := (Touch.refl w (fun k => k = Sx)).setCell (a := ⟨Sx, j, none⟩) (fun _ => rfl) u
  have hlt := h.lt
  exact ⟨blk_set _ h.blk, ownsRow_touch h.ra t (fun g hg e => by have := (h.ra.lt g hg).1; omega), ownsRow_touch h.rl t (fun g hg e => by have := (h.rl.lt g hg).1; omega)⟩
/-- The parser and the instruction. -/
structure SAt (B Bx pb gw cw : Nat) (T : List Tok) (ln vb bb Sx : Nat) (w : World) (i : Nat) (y : Ins) (va vl : Value) : Prop where
  p : PAt B w pb gw cw T i ln vb bb
  x : XAt Bx w Sx y va vl
  ba : y.args.length ≤ i
  bl : y.labels.length ≤ i
  lo : B ≤ Sx
/-- How reading a part ends. -/
def RPost (B Bx pb gw cw : Nat) (T : List Tok) (ln vb bb Sx : Nat) (w : World) (r : Except Flt (Ins × List Tok)) (e : Ending) (w' : World) : Prop :=
  Touch w w' (fun k => k = pb ∨ k = Sx ∨ Bx ≤ k) ∧ match r with
  | .error f => e = .panicked (chF f)
  | .ok (y', l') => e = .returned (.tuple #[]) ∧ ∃ va' vl' i', l' = T.drop i' ∧ SAt B Bx pb gw cw T ln vb bb Sx w' i' y' va' vl'
theorem drop_next {T : List Tok} {i : Nat} {t : Tok} {r : List Tok} (h : T.drop i = t :: r) : r = T.drop (i + 1) := by
  have : (T.drop i).drop 1 = r := by rw [h]; rfl
  rw [← this, List.drop_drop]
section
variable {B Bx pb gw cw : Nat} {T : List Tok} {ln vb bb Sx : Nat} {w w2 : World} {i : Nat} {y : Ins} {va vl : Value}
theorem SAt.ltx (h : SAt B Bx pb gw cw T ln vb bb Sx w i y va vl) : pb ≠ Sx := by have := h.p.ltP; have := h.lo; omega
/-- The parser has gone on. -/
theorem SAt.on (h : SAt B Bx pb gw cw T ln vb bb Sx w i y va vl) {i' : Nat} (hi : i ≤ i') (hP : PAt B w2 pb gw cw T i' ln vb bb) (t : Touch w w2 (fun k => k = pb)) : SAt B Bx pb gw cw T ln vb bb Sx w2 i' y va vl := by
  have h1 := h.p.ltP
  have h2 := h.lo
  have h3 := h.x.lt
  exact ⟨hP, h.x.keep t (fun k e => by subst e; omega), Nat.le_trans h.ba hi, Nat.le_trans h.bl hi, h.lo⟩
theorem touch_pb {w' : World} (t : Touch w w' (fun k => k = pb)) : Touch w w' (fun k => k = pb ∨ k = Sx ∨ Bx ≤ k) := t.mono (fun _ _ h => .inl h)
set_option maxRecDepth 20000 in
theorem operand_any (h : SAt B Bx pb gw cw T ln vb bb Sx w i y va vl) : Calls Tryd.prog 31 #[.pointer (some ⟨pb, 0, none⟩), .pointer (some ⟨Sx, 0, none⟩)] w (RPost B Bx pb gw cw T ln vb bb Sx w (operandP y (T.drop i) ln)) := by
  unfold operandP
  cases hn : nameP (T.drop i) ln with
  | error f =>
    have hk := Lib.hid (name_bad h.p hn)
    clear hn
    go_enter Tryd.func31, Tryd.ntmps31
    go_wp2_with (go_at_call 41; refine hk.out.mono ?_; rintro e w2 ⟨rfl, hb⟩)
    exact ⟨rfl, touch_pb (Touch.of_below hb _), rfl⟩
  | ok x =>
    obtain ⟨s, r⟩ := x
    have hk := Lib.hid (name_ok h.p hn)
    have hr : r = T.drop (i + 1) := by
      obtain ⟨t, e, -⟩ := name_len hn
      exact drop_next e
    have hS := Lib.hid h
    clear hn h
    go_enter Tryd.func31, Tryd.ntmps31
    go_wp2_with fail
    refine hk.out.mono ?_
    rintro e w2 ⟨rfl, hP, hT⟩
    have hS2 := hS.out.on (Nat.le_succ i) hP hT
    have z : w2.cell? ⟨Sx, 2, none⟩ = some (.string y.a) := by rw [blk_cell hS2.x.blk]; rfl
    have f : w2.frozen? ⟨Sx, 2, none⟩ = false := frozB hS2.x.blk 2
    have hS2 := Lib.hid hS2
    have hT2 := Lib.hid hT
    clear hP hT
    go_wp2_with fail
    go_end0
    have t2 : Touch w2 (w2.setCell ⟨Sx, 2, none⟩ (.string s)) (fun k => k = Sx) := (Touch.refl w2 (fun k => k = Sx)).setCell (a := ⟨Sx, 2, none⟩) (fun _ => rfl) _
    obtain ⟨g1, g2, g3⟩ := hS2.out.x.set 2 (.string s)
    refine ⟨(touch_pb hT2.out).trans (t2.mono (fun _ _ h => .inr (.inl h))), rfl, va, vl, i + 1, hr, ?_⟩
    have hlo := hS2.out.lo
    exact ⟨hS2.out.p.keep t2 (fun k e => by subst e; exact hlo), ⟨g1, g2, g3, hS2.out.x.ne, hS2.out.x.lt, by simpa using hS2.out.x.top⟩, hS2.out.ba, hS2.out.bl, hlo⟩
set_option maxRecDepth 20000 in
theorem fn_any (h : SAt B Bx pb gw cw T ln vb bb Sx w i y va vl) : Calls Tryd.prog 30 #[.pointer (some ⟨pb, 0, none⟩), .pointer (some ⟨Sx, 0, none⟩)] w (RPost B Bx pb gw cw T ln vb bb Sx w (fnP y (T.drop i) ln)) := by
  unfold fnP
  cases hn : nameP (T.drop i) ln with
  | error f =>
    have hk := Lib.hid (name_bad h.p hn)
    clear hn
    go_enter Tryd.func30, Tryd.ntmps30
    go_wp2_with (go_at_call 41; refine hk.out.mono ?_; rintro e w2 ⟨rfl, hb⟩)
    exact ⟨rfl, touch_pb (Touch.of_below hb _), rfl⟩
  | ok x =>
    obtain ⟨s, r⟩ := x
    have hk := Lib.hid (name_ok h.p hn)
    have hr : r = T.drop (i + 1) := by
      obtain ⟨t, e, -⟩ := name_len hn
      exact drop_next e
    have hS := Lib.hid h
    clear hn h
    go_enter Tryd.func30, Tryd.ntmps30
    go_wp2_with fail
    refine hk.out.mono ?_
    rintro e w2 ⟨rfl, hP, hT⟩
    have hS2 := hS.out.on (Nat.le_succ i) hP hT
    have z : w2.cell? ⟨Sx, 5, none⟩ = some (.string y.fn) := by rw [blk_cell hS2.x.blk]; rfl
    have f : w2.frozen? ⟨Sx, 5, none⟩ = false := frozB hS2.x.blk 5
    have hS2 := Lib.hid hS2
    have hT2 := Lib.hid hT
    clear hP hT
    go_wp2_with fail
    go_end0
    have t2 : Touch w2 (w2.setCell ⟨Sx, 5, none⟩ (.string s)) (fun k => k = Sx) := (Touch.refl w2 (fun k => k = Sx)).setCell (a := ⟨Sx, 5, none⟩) (fun _ => rfl) _
    obtain ⟨g1, g2, g3⟩ := hS2.out.x.set 5 (.string s)
    refine ⟨(touch_pb hT2.out).trans (t2.mono (fun _ _ h => .inr (.inl h))), rfl, va, vl, i + 1, hr, ?_⟩
    have hlo := hS2.out.lo
    exact ⟨hS2.out.p.keep t2 (fun k e => by subst e; exact hlo), ⟨g1, g2, g3, hS2.out.x.ne, hS2.out.x.lt, by simpa using hS2.out.x.top⟩, hS2.out.ba, hS2.out.bl, hlo⟩
set_option maxRecDepth 20000 in
theorem fields_any (h : SAt B Bx pb gw cw T ln vb bb Sx w i y va vl) : Calls Tryd.prog 28 #[.pointer (some ⟨pb, 0, none⟩), .pointer (some ⟨Sx, 0, none⟩)] w (RPost B Bx pb gw cw T ln vb bb Sx w (fieldsP y (T.drop i) ln)) := by
  unfold fieldsP
  cases hn : takeP 2 (T.drop i) ln with
  | error f =>
    have hk := Lib.hid (take_bad h.p hn)
    clear hn
    go_enter Tryd.func28, Tryd.ntmps28
    go_wp2_with (go_at_call 62; refine hk.out.mono ?_; rintro e w2 ⟨rfl, hb⟩)
    exact ⟨rfl, touch_pb (Touch.of_below hb _), rfl⟩
  | ok x =>
    obtain ⟨s, r⟩ := x
    have hk := Lib.hid (take_ok h.p hn)
    have hr : r = T.drop (i + 1) := by
      exact drop_next (take_len hn).1
    have hS := Lib.hid h
    unfold tokV at hk
    clear hn h
    go_enter Tryd.func28, Tryd.ntmps28
    go_wp2_with fail
    refine hk.out.mono ?_
    rintro e w2 ⟨rfl, hP, hT⟩
    have hS2 := hS.out.on (Nat.le_succ i) hP hT
    have z : w2.cell? ⟨Sx, 4, none⟩ = some (.int .i64 y.n) := by rw [blk_cell hS2.x.blk]; rfl
    have f : w2.frozen? ⟨Sx, 4, none⟩ = false := frozB hS2.x.blk 4
    have hS2 := Lib.hid hS2
    have hT2 := Lib.hid hT
    clear hP hT
    go_wp2_with fail
    go_end0
    have t2 : Touch w2 (w2.setCell ⟨Sx, 4, none⟩ (.int .i64 s.num)) (fun k => k = Sx) := (Touch.refl w2 (fun k => k = Sx)).setCell (a := ⟨Sx, 4, none⟩) (fun _ => rfl) _
    obtain ⟨g1, g2, g3⟩ := hS2.out.x.set 4 (.int .i64 s.num)
    refine ⟨(touch_pb hT2.out).trans (t2.mono (fun _ _ h => .inr (.inl h))), rfl, va, vl, i + 1, hr, ?_⟩
    have hlo := hS2.out.lo
    exact ⟨hS2.out.p.keep t2 (fun k e => by subst e; exact hlo), ⟨g1, g2, g3, hS2.out.x.ne, hS2.out.x.lt, by simpa using hS2.out.x.top⟩, hS2.out.ba, hS2.out.bl, hlo⟩
end
end
section
open Go.RowKit Go.Maps Go.Shelf
attribute [local go_sem] Oper.semAt_some fld0 fld1 fld2

theorem infoStrP : (Tryd.prog.info? 9).map (fun i => (i.zero, i.size, i.bytes)) = some (some (.string ⟨#[]⟩), 1, 16) := by kernel_rfl
theorem own_formP {w : World} {base n : Nat} {v : Value} {xs : List Value} {t : TypeId} {size : Nat} (h : w.ownsRow base t size v n xs) : ∃ a c, v = .slice a n c := by
  rcases h.2 with ⟨rfl, h0⟩ | ⟨g, cap, cur, rfl, h1, h2⟩
  · exact ⟨none, 0, by rw [h0]⟩
  · exact ⟨_, cap, rfl⟩
section
variable {B Bx pb gw cw : Nat} {T : List Tok} {ln vb bb Sx : Nat} {w w2 w3 : World} {i : Nat} {y : Ins} {va vl : Value}
/-- A label more. -/
theorem label_end {o : Obj} {al : Option Addr} {nl cl gg cap : Nat} {s : ByteArray} (hS : SAt B Bx pb gw cw T ln vb bb Sx w2 i y va (.slice al nl cl)) (hg : (w2.alloc o).grownBy w3 (Value.slice al nl cl).ownBlock) (hO : w3.ownsRow Bx 9 1 (.slice (some ⟨gg, 0, none⟩) (nl + 1) cap) (nl + 1) (y.labels.map Value.string ++ [.string s])) (hat : (Value.slice al nl cl).ownBlock = some gg ∨ gg = w2.heap.size + 1) (hb : y.labels.length + 1 ≤ i) :
    SAt B Bx pb gw cw T ln vb bb Sx (w3.setCell ⟨Sx, 7, none⟩ (.slice (some ⟨gg, 0, none⟩) (nl + 1) cap)) i { y with labels := y.labels ++ [s] } va (.slice (some ⟨gg, 0, none⟩) (nl + 1) cap) ∧ Touch w2 (w3.setCell ⟨Sx, 7, none⟩ (.slice (some ⟨gg, 0, none⟩) (nl + 1) cap)) (fun k => k = Sx ∨ Bx ≤ k) := by
  have hnl : nl = y.labels.length := by obtain ⟨a, c, e⟩ := own_formP hS.x.rl; simp only [Value.slice.injEq] at e; exact e.2.1
  have t3 : Touch w2 w3 (fun k => (Value.slice al nl cl).ownBlock = some k) := ((Touch.refl w2 _).alloc o).trans (Touch.of_grown hg (fun k e => e))
  have t4 : Touch w3 (w3.setCell ⟨Sx, 7, none⟩ (.slice (some ⟨gg, 0, none⟩) (nl + 1) cap)) (fun k => k = Sx) := (Touch.refl w3 (fun k => k = Sx)).setCell (a := ⟨Sx, 7, none⟩) (fun _ => rfl) _
  have hlt := hS.x.lt
  have hxl : Sx < w2.heap.size := Nat.lt_of_lt_of_le hlt hS.x.top
  have hown : ∀ k, (Value.slice al nl cl).ownBlock = some k → Bx ≤ k := fun k e => (hS.x.rl.lt k e).1
  have tt : Touch w2 (w3.setCell ⟨Sx, 7, none⟩ (.slice (some ⟨gg, 0, none⟩) (nl + 1) cap)) (fun k => k = Sx ∨ Bx ≤ k) := (t3.mono (S' := fun k => k = Sx ∨ Bx ≤ k) (fun k _ e => .inr (hown k e))).trans (t4.mono (fun _ _ e => .inl e))
  have hlo := hS.lo
  have b3 : w3.heap[Sx]? = some (.cells #[.int .u8 y.op, .string y.dst, .string y.a, .string y.b, .int .i64 y.n, .string y.fn, va, .slice al nl cl] 49 (0, 0)) := (t3.block Sx hxl (fun e => by have := hown Sx e; omega)).trans hS.x.blk
  have ra3 := ownsRow_touch hS.x.ra t3 (fun g hg e => hS.x.ne g hg e)
  refine ⟨⟨hS.p.keep tt (fun k e => by rcases e with e | e <;> omega), ⟨blk_set (i := 7) _ b3, ownsRow_touch ra3 t4 (fun g hg e => by have := (ra3.lt g hg).1; omega), ?_, fun g hg e => ?_, hlt, ?_⟩, hS.ba, by simpa using hb, hlo⟩, tt⟩
  · rw [List.map_append, List.length_append]
    have := ownsRow_touch hO t4 (fun g hg e => by have := (hO.lt g hg).1; omega)
    rw [hnl] at this ⊢
    exact this
  · simp only [Value.ownBlock, Option.some.injEq] at e
    rcases hat with e2 | e2
    · exact hS.x.ne g hg (by rw [← e]; exact e2)
    · have := (hS.x.ra.lt g hg).2; omega
  · have := tt.size; have := hS.x.top; omega
/-- An argument more. -/
theorem arg_end {o : Obj} {al : Option Addr} {nl cl gg cap : Nat} {s : ByteArray} (hS : SAt B Bx pb gw cw T ln vb bb Sx w2 i y (.slice al nl cl) vl) (hg : (w2.alloc o).grownBy w3 (Value.slice al nl cl).ownBlock) (hO : w3.ownsRow Bx 9 1 (.slice (some ⟨gg, 0, none⟩) (nl + 1) cap) (nl + 1) (y.args.map Value.string ++ [.string s])) (hat : (Value.slice al nl cl).ownBlock = some gg ∨ gg = w2.heap.size + 1) (hb : y.args.length + 1 ≤ i) :
    SAt B Bx pb gw cw T ln vb bb Sx (w3.setCell ⟨Sx, 6, none⟩ (.slice (some ⟨gg, 0, none⟩) (nl + 1) cap)) i { y with args := y.args ++ [s] } (.slice (some ⟨gg, 0, none⟩) (nl + 1) cap) vl ∧ Touch w2 (w3.setCell ⟨Sx, 6, none⟩ (.slice (some ⟨gg, 0, none⟩) (nl + 1) cap)) (fun k => k = Sx ∨ Bx ≤ k) := by
  have hnl : nl = y.args.length := by obtain ⟨a, c, e⟩ := own_formP hS.x.ra; simp only [Value.slice.injEq] at e; exact e.2.1
  have t3 : Touch w2 w3 (fun k => (Value.slice al nl cl).ownBlock = some k) := ((Touch.refl w2 _).alloc o).trans (Touch.of_grown hg (fun k e => e))
  have t4 : Touch w3 (w3.setCell ⟨Sx, 6, none⟩ (.slice (some ⟨gg, 0, none⟩) (nl + 1) cap)) (fun k => k = Sx) := (Touch.refl w3 (fun k => k = Sx)).setCell (a := ⟨Sx, 6, none⟩) (fun _ => rfl) _
  have hlt := hS.x.lt
  have hxl : Sx < w2.heap.size := Nat.lt_of_lt_of_le hlt hS.x.top
  have hown : ∀ k, (Value.slice al nl cl).ownBlock = some k → Bx ≤ k := fun k e => (hS.x.ra.lt k e).1
  have tt : Touch w2 (w3.setCell ⟨Sx, 6, none⟩ (.slice (some ⟨gg, 0, none⟩) (nl + 1) cap)) (fun k => k = Sx ∨ Bx ≤ k) := (t3.mono (S' := fun k => k = Sx ∨ Bx ≤ k) (fun k _ e => .inr (hown k e))).trans (t4.mono (fun _ _ e => .inl e))
  have hlo := hS.lo
  have b3 : w3.heap[Sx]? = some (.cells #[.int .u8 y.op, .string y.dst, .string y.a, .string y.b, .int .i64 y.n, .string y.fn, .slice al nl cl, vl] 49 (0, 0)) := (t3.block Sx hxl (fun e => by have := hown Sx e; omega)).trans hS.x.blk
  have rl3 := ownsRow_touch hS.x.rl t3 (fun g hg e => hS.x.ne g e hg)
  refine ⟨⟨hS.p.keep tt (fun k e => by rcases e with e | e <;> omega), ⟨blk_set (i := 6) _ b3, ?_, ownsRow_touch rl3 t4 (fun g hg e => by have := (rl3.lt g hg).1; omega), fun g hg e => ?_, hlt, ?_⟩, by simpa using hb, hS.bl, hlo⟩, tt⟩
  · rw [List.map_append, List.length_append]
    have := ownsRow_touch hO t4 (fun g hg e => by have := (hO.lt g hg).1; omega)
    rw [hnl] at this ⊢
    exact this
  · simp only [Value.ownBlock, Option.some.injEq] at hg
    rcases hat with e2 | e2
    · exact hS.x.ne g (by rw [← hg]; exact e2) e
    · have := (hS.x.rl.lt g e).2; omega
  · have := tt.size; have := hS.x.top; omega
theorem SAt.drew (h : SAt B Bx pb gw cw T ln vb bb Sx w i y va vl) : SAt B Bx pb gw cw T ln vb bb Sx w.drew i y va vl := ⟨h.p.below (Below.refl _ _).drew, h.x.keep (No := fun _ => False) (Touch.refl w _).drew (fun _ e => e.elim), h.ba, h.bl, h.lo⟩
theorem touch_sx {w' : World} (t : Touch w w' (fun k => k = Sx ∨ Bx ≤ k)) : Touch w w' (fun k => k = pb ∨ k = Sx ∨ Bx ≤ k) := t.mono (fun _ _ h => .inr h)
set_option maxRecDepth 20000 in
set_option maxHeartbeats 2000000 in
theorem label_any (h : SAt B Bx pb gw cw T ln vb bb Sx w i y va vl) : Calls Tryd.prog 38 #[.pointer (some ⟨pb, 0, none⟩), .pointer (some ⟨Sx, 0, none⟩)] w (RPost B Bx pb gw cw T ln vb bb Sx w (labelP y (T.drop i) ln)) := by
  obtain ⟨al, cl, rfl⟩ := own_formP h.x.rl
  obtain ⟨nl, hnl⟩ : ∃ nl, nl = y.labels.length := ⟨_, rfl⟩
  rw [← hnl] at h
  have z : w.drew.cell? ⟨Sx, 7, none⟩ = some (.slice al nl cl) := by rw [blk_cell h.drew.x.blk]; rfl
  unfold labelP
  cases hn : nameP (T.drop i) ln with
  | error f =>
    have hk := Lib.hid (name_bad h.drew.p hn)
    clear hn
    replace h := Lib.hid h
    replace hnl := Lib.hid hnl
    go_enter Tryd.func38, Tryd.ntmps38
    refine wp_region_held_drew (S := (fun _ => True)) (by kernel_rfl) trivial (fun hHeld => ?_)
    clear hHeld
    refine wpAnyH_take (i := 0) (oi := (Oper.mk (some 4) (Op.move (Operand.tmp 1)) 98 "read.go:204" #[] none)) (v := ?_) rfl (by kernel_rfl) (by kernel_rfl) (by kernel_rfl) (fun _ _ _ h => h) (Or.inl ⟨by rfl, ?_⟩) trivial ?_
    rotate_left
    · (intro w hSw; (try dsimp only at hSw); go_simp; try with_reducible rfl)
    try simp only [Act.put, List.setIfInBounds_toArray, List.set_cons_zero, List.set_cons_succ]
    refine wpAnyH_take (i := 1) (oi := (Oper.mk (some 5) (Op.move (Operand.tmp 1)) 98 "read.go:204" #[] none)) (v := ?_) rfl (by kernel_rfl) (by kernel_rfl) (by kernel_rfl) (fun _ _ _ h => h) (Or.inl ⟨by rfl, ?_⟩) trivial ?_
    rotate_left
    · (intro w hSw; (try dsimp only at hSw); go_simp; try with_reducible rfl)
    try simp only [Act.put, List.setIfInBounds_toArray, List.set_cons_zero, List.set_cons_succ]
    refine wpAnyH_take (i := 2) (oi := (Oper.mk (some 6) (Op.nilCheck (Operand.tmp 5)) 0 "read.go:204" #[(Edge.mk 1 Ground.data)] none)) (v := ?_) rfl (by kernel_rfl) (by kernel_rfl) (by kernel_rfl) (fun _ _ _ h => h) (Or.inl ⟨by rfl, ?_⟩) trivial ?_
    rotate_left
    · (intro w hSw; (try dsimp only at hSw); go_simp; try with_reducible rfl)
    try simp only [Act.put, List.setIfInBounds_toArray, List.set_cons_zero, List.set_cons_succ]
    refine wpAnyH_take (i := 3) (oi := (Oper.mk (some 7) (Op.fieldAddr 49 (Operand.tmp 6) 7) 0 "read.go:204" #[(Edge.mk 2 Ground.data)] none)) (v := ?_) rfl (by kernel_rfl) (by kernel_rfl) (by kernel_rfl) (fun _ _ _ h => h) (Or.inl ⟨by rfl, ?_⟩) trivial ?_
    rotate_left
    · (intro w hSw; (try dsimp only at hSw); go_simp; try with_reducible rfl)
    try simp only [Act.put, List.setIfInBounds_toArray, List.set_cons_zero, List.set_cons_succ]
    refine wpAnyH_take (i := 5) (oi := (Oper.mk (some 9) (Op.move (Operand.tmp 0)) 59 "read.go:204" #[] none)) (v := ?_) rfl (by kernel_rfl) (by kernel_rfl) (by kernel_rfl) (fun _ _ _ h => h) (Or.inl ⟨by rfl, ?_⟩) trivial ?_
    rotate_left
    · (intro w hSw; (try dsimp only at hSw); go_simp; try with_reducible rfl)
    try simp only [Act.put, List.setIfInBounds_toArray, List.set_cons_zero, List.set_cons_succ]
    refine wpAnyH_ready (rs := [4, 6]) (by kernel_rfl) (by simp) (AllReadyH.cons (o := (Oper.mk (some 8) (Op.load 39 (Operand.tmp 7)) 39 "read.go:204" #[(Edge.mk 3 Ground.data)] none)) rfl (fun K hK => ?_) (AllReadyH.cons (o := (Oper.mk (some 10) (Op.call (Call.mk (Callee.value (Operand.func 41)) #[(Operand.tmp 9)] #[59])) 9 "read.go:204" #[(Edge.mk 5 Ground.data)] none)) rfl (fun K hK => ?_) AllReadyH.nil))
    · skip
      go_simp
      skip
      refine hK.out _ _ trivial (fun hHeld => ?_)
      clear hK K hHeld
      try simp only [Act.put, List.setIfInBounds_toArray, List.set_cons_zero, List.set_cons_succ]
      refine wpAnyH_ready (rs := [6]) (by kernel_rfl) (by simp) (AllReadyH.cons (o := (Oper.mk (some 10) (Op.call (Call.mk (Callee.value (Operand.func 41)) #[(Operand.tmp 9)] #[59])) 9 "read.go:204" #[(Edge.mk 5 Ground.data)] none)) rfl (fun K hK => ?_) AllReadyH.nil)
      go_simp
      go_at_call 41
      refine hk.out.mono ?_
      rintro e w2 ⟨rfl, hb⟩
      exact ⟨rfl, touch_pb ((Touch.refl w _).drew.trans (Touch.of_below hb _)), rfl⟩
    · skip
      go_simp
      go_at_call 41
      refine hk.out.mono ?_
      rintro e w2 ⟨rfl, hb⟩
      exact ⟨rfl, touch_pb ((Touch.refl w _).drew.trans (Touch.of_below hb _)), rfl⟩
  | ok x =>
    obtain ⟨s, r⟩ := x
    have hk := Lib.hid (name_ok h.drew.p hn)
    obtain ⟨i0, hi0, hz0, hz1, hz2⟩ := info_parts infoStrP
    have hr : r = T.drop (i + 1) := by
      obtain ⟨t, e, -⟩ := name_len hn
      exact drop_next e
    have hS := Lib.hid h
    have hlen : nl ≤ 2000000 := by have := h.bl; have := h.p.here; have := h.p.ok.len; omega
    replace hnl := Lib.hid hnl
    clear hn h
    go_enter Tryd.func38, Tryd.ntmps38
    refine wp_region_held_drew (S := (fun _ => True)) (by kernel_rfl) trivial (fun hHeld => ?_)
    clear hHeld
    refine wpAnyH_take (i := 0) (oi := (Oper.mk (some 4) (Op.move (Operand.tmp 1)) 98 "read.go:204" #[] none)) (v := ?_) rfl (by kernel_rfl) (by kernel_rfl) (by kernel_rfl) (fun _ _ _ h => h) (Or.inl ⟨by rfl, ?_⟩) trivial ?_
    rotate_left
    · (intro w hSw; (try dsimp only at hSw); go_simp; try with_reducible rfl)
    try simp only [Act.put, List.setIfInBounds_toArray, List.set_cons_zero, List.set_cons_succ]
    refine wpAnyH_take (i := 1) (oi := (Oper.mk (some 5) (Op.move (Operand.tmp 1)) 98 "read.go:204" #[] none)) (v := ?_) rfl (by kernel_rfl) (by kernel_rfl) (by kernel_rfl) (fun _ _ _ h => h) (Or.inl ⟨by rfl, ?_⟩) trivial ?_
    rotate_left
    · (intro w hSw; (try dsimp only at hSw); go_simp; try with_reducible rfl)
    try simp only [Act.put, List.setIfInBounds_toArray, List.set_cons_zero, List.set_cons_succ]
    refine wpAnyH_take (i := 2) (oi := (Oper.mk (some 6) (Op.nilCheck (Operand.tmp 5)) 0 "read.go:204" #[(Edge.mk 1 Ground.data)] none)) (v := ?_) rfl (by kernel_rfl) (by kernel_rfl) (by kernel_rfl) (fun _ _ _ h => h) (Or.inl ⟨by rfl, ?_⟩) trivial ?_
    rotate_left
    · (intro w hSw; (try dsimp only at hSw); go_simp; try with_reducible rfl)
    try simp only [Act.put, List.setIfInBounds_toArray, List.set_cons_zero, List.set_cons_succ]
    refine wpAnyH_take (i := 3) (oi := (Oper.mk (some 7) (Op.fieldAddr 49 (Operand.tmp 6) 7) 0 "read.go:204" #[(Edge.mk 2 Ground.data)] none)) (v := ?_) rfl (by kernel_rfl) (by kernel_rfl) (by kernel_rfl) (fun _ _ _ h => h) (Or.inl ⟨by rfl, ?_⟩) trivial ?_
    rotate_left
    · (intro w hSw; (try dsimp only at hSw); go_simp; try with_reducible rfl)
    try simp only [Act.put, List.setIfInBounds_toArray, List.set_cons_zero, List.set_cons_succ]
    refine wpAnyH_take (i := 5) (oi := (Oper.mk (some 9) (Op.move (Operand.tmp 0)) 59 "read.go:204" #[] none)) (v := ?_) rfl (by kernel_rfl) (by kernel_rfl) (by kernel_rfl) (fun _ _ _ h => h) (Or.inl ⟨by rfl, ?_⟩) trivial ?_
    rotate_left
    · (intro w hSw; (try dsimp only at hSw); go_simp; try with_reducible rfl)
    try simp only [Act.put, List.setIfInBounds_toArray, List.set_cons_zero, List.set_cons_succ]
    refine wpAnyH_ready (rs := [4, 6]) (by kernel_rfl) (by simp) (AllReadyH.cons (o := (Oper.mk (some 8) (Op.load 39 (Operand.tmp 7)) 39 "read.go:204" #[(Edge.mk 3 Ground.data)] none)) rfl (fun K hK => ?_) (AllReadyH.cons (o := (Oper.mk (some 10) (Op.call (Call.mk (Callee.value (Operand.func 41)) #[(Operand.tmp 9)] #[59])) 9 "read.go:204" #[(Edge.mk 5 Ground.data)] none)) rfl (fun K hK => ?_) AllReadyH.nil))
    · skip
      go_simp
      skip
      refine hK.out _ _ trivial (fun hHeld => ?_)
      clear hK K hHeld
      try simp only [Act.put, List.setIfInBounds_toArray, List.set_cons_zero, List.set_cons_succ]
      refine wpAnyH_ready (rs := [6]) (by kernel_rfl) (by simp) (AllReadyH.cons (o := (Oper.mk (some 10) (Op.call (Call.mk (Callee.value (Operand.func 41)) #[(Operand.tmp 9)] #[59])) 9 "read.go:204" #[(Edge.mk 5 Ground.data)] none)) rfl (fun K hK => ?_) AllReadyH.nil)
      go_simp
      go_at_call 41
      refine hk.out.mono ?_
      rintro e w2 ⟨rfl, hP, hT⟩
      have hS2 := hS.out.drew.on (Nat.le_succ i) hP hT
      have z : w2.cell? ⟨Sx, 7, none⟩ = some (.slice al nl cl) := by rw [blk_cell hS2.x.blk]; rfl
      have lSx : Sx < w2.heap.size := Nat.lt_of_lt_of_le hS2.x.lt hS2.x.top
      have hown2 := Lib.hid (ownsRow_touch (S := fun _ => False) hS2.x.rl ((Touch.refl w2 _).alloc (.cells #[.string s] 9)) (fun _ _ h => h))
      have htop : Bx ≤ w2.heap.size := hS2.x.top
      replace hS2 := Lib.hid hS2
      have hT2 : Hid (Touch w w2 (fun k => k = pb)) := Lib.hid ((Touch.refl w _).drew.trans hT)
      clear hP hT
      go_simp
      refine hK.out _ _ trivial (fun hHeld => ?_)
      clear hK K hHeld
      try simp only [Act.put, List.setIfInBounds_toArray, List.set_cons_zero, List.set_cons_succ]
      refine wpAnyH_ready (rs := [7]) (by kernel_rfl) (by simp) (AllReadyH.cons (o := (Oper.mk (some 11) (Op.buildSlice 39 1 #[(0, (Operand.tmp 10))]) 39 "read.go:204" #[(Edge.mk 6 Ground.data)] none)) rfl (fun K hK => ?_) AllReadyH.nil)
      go_simp
      skip
      refine hK.out _ _ trivial (fun hHeld => ?_)
      clear hK K hHeld
      try simp only [Act.put, List.setIfInBounds_toArray, List.set_cons_zero, List.set_cons_succ]
      refine wpAnyH_ready (rs := [8]) (by kernel_rfl) (by simp) (AllReadyH.cons (o := (Oper.mk (some 12) (Op.call (Call.mk (Callee.builtin Builtin.append) #[(Operand.tmp 8), (Operand.tmp 11)] #[39, 39])) 39 "read.go:204" #[(Edge.mk 4 Ground.data), (Edge.mk 7 Ground.data), (Edge.mk 6 Ground.chain)] none)) rfl (fun K hK => ?_) AllReadyH.nil)
      refine step_append_lies _ (by rfl) _ _ _ (by rfl) Bx 9 i0 _ 1 16 Tryd.underlying39 hi0 hz0 hz1 hz2 rfl (by omega) (.slice al nl cl) nl (y.labels.map Value.string) (by rfl) (by rw [hnl.out]; rw [hnl.out] at hown2; exact hown2.out) ⟨w2.heap.size, 0, none⟩ 1 1 [.string s] (by rfl) (by rfl) (World.news_of_block (cs := #[.string s]) (t := 9) (fr := (0, 0)) (heap_alloc_new w2 _)) (by simp [Value.oneCell']) (by omega) (by unfold maxLen; omega) (by omega) (by simp; omega) (w2.heap.size + 1) (by simp) ?_
      intro gg cap2 w3 hO3 hg3 hat3 hlt3
      have he := Lib.hid (label_end hS2.out hg3 hO3 hat3 (by have := hS.out.bl; omega))
      have y7 : w3.frozen? ⟨Sx, 7, none⟩ = false := frozB ((hg3.block Sx (by simp; omega) (fun e => by have := (hS2.out.x.rl.lt Sx e.symm).1; have := hS2.out.x.lt; omega)).trans (at_oldP hS2.out.x.blk)) 7
      have z7 : w3.cell? ⟨Sx, 7, none⟩ = some (.slice al nl cl) := by rw [blk_cell ((hg3.block Sx (by simp; omega) (fun e => by have := (hS2.out.x.rl.lt Sx e.symm).1; have := hS2.out.x.lt; omega)).trans (at_oldP hS2.out.x.blk))]; rfl
      clear hO3 hg3 hat3 hlt3 hown2 z
      refine hK.out _ _ trivial (fun hHeld => ?_)
      clear hK K hHeld
      try simp only [Act.put, List.setIfInBounds_toArray, List.set_cons_zero, List.set_cons_succ]
      refine wpAnyH_take (i := 9) (oi := (Oper.mk (some 13) (Op.nilCheck (Operand.tmp 4)) 0 "read.go:204" #[(Edge.mk 0 Ground.data), (Edge.mk 0 Ground.phase), (Edge.mk 1 Ground.phase), (Edge.mk 2 Ground.phase), (Edge.mk 3 Ground.phase), (Edge.mk 4 Ground.phase), (Edge.mk 5 Ground.phase), (Edge.mk 6 Ground.phase), (Edge.mk 7 Ground.phase), (Edge.mk 8 Ground.phase)] none)) (v := ?_) rfl (by kernel_rfl) (by kernel_rfl) (by kernel_rfl) (fun _ _ _ h => h) (Or.inl ⟨by rfl, ?_⟩) trivial ?_
      rotate_left
      · (intro w hSw; (try dsimp only at hSw); go_simp; try with_reducible rfl)
      try simp only [Act.put, List.setIfInBounds_toArray, List.set_cons_zero, List.set_cons_succ]
      refine wpAnyH_take (i := 10) (oi := (Oper.mk (some 14) (Op.fieldAddr 49 (Operand.tmp 13) 7) 0 "read.go:204" #[(Edge.mk 9 Ground.data), (Edge.mk 0 Ground.phase), (Edge.mk 1 Ground.phase), (Edge.mk 2 Ground.phase), (Edge.mk 3 Ground.phase), (Edge.mk 4 Ground.phase), (Edge.mk 5 Ground.phase), (Edge.mk 6 Ground.phase), (Edge.mk 7 Ground.phase), (Edge.mk 8 Ground.phase)] none)) (v := ?_) rfl (by kernel_rfl) (by kernel_rfl) (by kernel_rfl) (fun _ _ _ h => h) (Or.inl ⟨by rfl, ?_⟩) trivial ?_
      rotate_left
      · (intro w hSw; (try dsimp only at hSw); go_simp; try with_reducible rfl)
      try simp only [Act.put, List.setIfInBounds_toArray, List.set_cons_zero, List.set_cons_succ]
      refine wpAnyH_ready (rs := [11]) (by kernel_rfl) (by simp) (AllReadyH.cons (o := (Oper.mk none (Op.store 39 (Operand.tmp 14) (Operand.tmp 12)) 0 "read.go:204" #[(Edge.mk 10 Ground.data), (Edge.mk 8 Ground.data), (Edge.mk 8 Ground.chain), (Edge.mk 0 Ground.phase), (Edge.mk 1 Ground.phase), (Edge.mk 2 Ground.phase), (Edge.mk 3 Ground.phase), (Edge.mk 4 Ground.phase), (Edge.mk 5 Ground.phase), (Edge.mk 6 Ground.phase), (Edge.mk 7 Ground.phase), (Edge.mk 8 Ground.phase)] none)) rfl (fun K hK => ?_) AllReadyH.nil)
      go_simp
      skip
      refine hK.out _ _ trivial (fun hHeld => ?_)
      clear hK K hHeld
      try simp only [Act.put, List.setIfInBounds_toArray, List.set_cons_zero, List.set_cons_succ]
      refine wpAnyH_done (by kernel_rfl) ?_ _
      go_wp2_with fail
      go_end0
      exact ⟨(touch_pb hT2.out).trans (touch_sx he.out.2), rfl, va, _, i + 1, hr, he.out.1⟩
    · skip
      go_simp
      go_at_call 41
      refine hk.out.mono ?_
      rintro e w2 ⟨rfl, hP, hT⟩
      have hS2 := hS.out.drew.on (Nat.le_succ i) hP hT
      have z : w2.cell? ⟨Sx, 7, none⟩ = some (.slice al nl cl) := by rw [blk_cell hS2.x.blk]; rfl
      have lSx : Sx < w2.heap.size := Nat.lt_of_lt_of_le hS2.x.lt hS2.x.top
      have hown2 := Lib.hid (ownsRow_touch (S := fun _ => False) hS2.x.rl ((Touch.refl w2 _).alloc (.cells #[.string s] 9)) (fun _ _ h => h))
      have htop : Bx ≤ w2.heap.size := hS2.x.top
      replace hS2 := Lib.hid hS2
      have hT2 : Hid (Touch w w2 (fun k => k = pb)) := Lib.hid ((Touch.refl w _).drew.trans hT)
      clear hP hT
      go_simp
      refine hK.out _ _ trivial (fun hHeld => ?_)
      clear hK K hHeld
      try simp only [Act.put, List.setIfInBounds_toArray, List.set_cons_zero, List.set_cons_succ]
      refine wpAnyH_ready (rs := [4, 7]) (by kernel_rfl) (by simp) (AllReadyH.cons (o := (Oper.mk (some 8) (Op.load 39 (Operand.tmp 7)) 39 "read.go:204" #[(Edge.mk 3 Ground.data)] none)) rfl (fun K hK => ?_) (AllReadyH.cons (o := (Oper.mk (some 11) (Op.buildSlice 39 1 #[(0, (Operand.tmp 10))]) 39 "read.go:204" #[(Edge.mk 6 Ground.data)] none)) rfl (fun K hK => ?_) AllReadyH.nil))
      · skip
        go_simp
        skip
        refine hK.out _ _ trivial (fun hHeld => ?_)
        clear hK K hHeld
        try simp only [Act.put, List.setIfInBounds_toArray, List.set_cons_zero, List.set_cons_succ]
        refine wpAnyH_ready (rs := [7]) (by kernel_rfl) (by simp) (AllReadyH.cons (o := (Oper.mk (some 11) (Op.buildSlice 39 1 #[(0, (Operand.tmp 10))]) 39 "read.go:204" #[(Edge.mk 6 Ground.data)] none)) rfl (fun K hK => ?_) AllReadyH.nil)
        go_simp
        skip
        refine hK.out _ _ trivial (fun hHeld => ?_)
        clear hK K hHeld
        try simp only [Act.put, List.setIfInBounds_toArray, List.set_cons_zero, List.set_cons_succ]
        refine wpAnyH_ready (rs := [8]) (by kernel_rfl) (by simp) (AllReadyH.cons (o := (Oper.mk (some 12) (Op.call (Call.mk (Callee.builtin Builtin.append) #[(Operand.tmp 8), (Operand.tmp 11)] #[39, 39])) 39 "read.go:204" #[(Edge.mk 4 Ground.data), (Edge.mk 7 Ground.data), (Edge.mk 6 Ground.chain)] none)) rfl (fun K hK => ?_) AllReadyH.nil)
        refine step_append_lies _ (by rfl) _ _ _ (by rfl) Bx 9 i0 _ 1 16 Tryd.underlying39 hi0 hz0 hz1 hz2 rfl (by omega) (.slice al nl cl) nl (y.labels.map Value.string) (by rfl) (by rw [hnl.out]; rw [hnl.out] at hown2; exact hown2.out) ⟨w2.heap.size, 0, none⟩ 1 1 [.string s] (by rfl) (by rfl) (World.news_of_block (cs := #[.string s]) (t := 9) (fr := (0, 0)) (heap_alloc_new w2 _)) (by simp [Value.oneCell']) (by omega) (by unfold maxLen; omega) (by omega) (by simp; omega) (w2.heap.size + 1) (by simp) ?_
        intro gg cap2 w3 hO3 hg3 hat3 hlt3
        have he := Lib.hid (label_end hS2.out hg3 hO3 hat3 (by have := hS.out.bl; omega))
        have y7 : w3.frozen? ⟨Sx, 7, none⟩ = false := frozB ((hg3.block Sx (by simp; omega) (fun e => by have := (hS2.out.x.rl.lt Sx e.symm).1; have := hS2.out.x.lt; omega)).trans (at_oldP hS2.out.x.blk)) 7
        have z7 : w3.cell? ⟨Sx, 7, none⟩ = some (.slice al nl cl) := by rw [blk_cell ((hg3.block Sx (by simp; omega) (fun e => by have := (hS2.out.x.rl.lt Sx e.symm).1; have := hS2.out.x.lt; omega)).trans (at_oldP hS2.out.x.blk))]; rfl
        clear hO3 hg3 hat3 hlt3 hown2 z
        refine hK.out _ _ trivial (fun hHeld => ?_)
        clear hK K hHeld
        try simp only [Act.put, List.setIfInBounds_toArray, List.set_cons_zero, List.set_cons_succ]
        refine wpAnyH_take (i := 9) (oi := (Oper.mk (some 13) (Op.nilCheck (Operand.tmp 4)) 0 "read.go:204" #[(Edge.mk 0 Ground.data), (Edge.mk 0 Ground.phase), (Edge.mk 1 Ground.phase), (Edge.mk 2 Ground.phase), (Edge.mk 3 Ground.phase), (Edge.mk 4 Ground.phase), (Edge.mk 5 Ground.phase), (Edge.mk 6 Ground.phase), (Edge.mk 7 Ground.phase), (Edge.mk 8 Ground.phase)] none)) (v := ?_) rfl (by kernel_rfl) (by kernel_rfl) (by kernel_rfl) (fun _ _ _ h => h) (Or.inl ⟨by rfl, ?_⟩) trivial ?_
        rotate_left
        · (intro w hSw; (try dsimp only at hSw); go_simp; try with_reducible rfl)
        try simp only [Act.put, List.setIfInBounds_toArray, List.set_cons_zero, List.set_cons_succ]
        refine wpAnyH_take (i := 10) (oi := (Oper.mk (some 14) (Op.fieldAddr 49 (Operand.tmp 13) 7) 0 "read.go:204" #[(Edge.mk 9 Ground.data), (Edge.mk 0 Ground.phase), (Edge.mk 1 Ground.phase), (Edge.mk 2 Ground.phase), (Edge.mk 3 Ground.phase), (Edge.mk 4 Ground.phase), (Edge.mk 5 Ground.phase), (Edge.mk 6 Ground.phase), (Edge.mk 7 Ground.phase), (Edge.mk 8 Ground.phase)] none)) (v := ?_) rfl (by kernel_rfl) (by kernel_rfl) (by kernel_rfl) (fun _ _ _ h => h) (Or.inl ⟨by rfl, ?_⟩) trivial ?_
        rotate_left
        · (intro w hSw; (try dsimp only at hSw); go_simp; try with_reducible rfl)
        try simp only [Act.put, List.setIfInBounds_toArray, List.set_cons_zero, List.set_cons_succ]
        refine wpAnyH_ready (rs := [11]) (by kernel_rfl) (by simp) (AllReadyH.cons (o := (Oper.mk none (Op.store 39 (Operand.tmp 14) (Operand.tmp 12)) 0 "read.go:204" #[(Edge.mk 10 Ground.data), (Edge.mk 8 Ground.data), (Edge.mk 8 Ground.chain), (Edge.mk 0 Ground.phase), (Edge.mk 1 Ground.phase), (Edge.mk 2 Ground.phase), (Edge.mk 3 Ground.phase), (Edge.mk 4 Ground.phase), (Edge.mk 5 Ground.phase), (Edge.mk 6 Ground.phase), (Edge.mk 7 Ground.phase), (Edge.mk 8 Ground.phase)] none)) rfl (fun K hK => ?_) AllReadyH.nil)
        go_simp
        skip
        refine hK.out _ _ trivial (fun hHeld => ?_)
        clear hK K hHeld
        try simp only [Act.put, List.setIfInBounds_toArray, List.set_cons_zero, List.set_cons_succ]
        refine wpAnyH_done (by kernel_rfl) ?_ _
        go_wp2_with fail
        go_end0
        exact ⟨(touch_pb hT2.out).trans (touch_sx he.out.2), rfl, va, _, i + 1, hr, he.out.1⟩
      · skip
        go_simp
        skip
        refine hK.out _ _ trivial (fun hHeld => ?_)
        clear hK K hHeld
        try simp only [Act.put, List.setIfInBounds_toArray, List.set_cons_zero, List.set_cons_succ]
        refine wpAnyH_ready (rs := [4]) (by kernel_rfl) (by simp) (AllReadyH.cons (o := (Oper.mk (some 8) (Op.load 39 (Operand.tmp 7)) 39 "read.go:204" #[(Edge.mk 3 Ground.data)] none)) rfl (fun K hK => ?_) AllReadyH.nil)
        go_simp
        skip
        refine hK.out _ _ trivial (fun hHeld => ?_)
        clear hK K hHeld
        try simp only [Act.put, List.setIfInBounds_toArray, List.set_cons_zero, List.set_cons_succ]
        refine wpAnyH_ready (rs := [8]) (by kernel_rfl) (by simp) (AllReadyH.cons (o := (Oper.mk (some 12) (Op.call (Call.mk (Callee.builtin Builtin.append) #[(Operand.tmp 8), (Operand.tmp 11)] #[39, 39])) 39 "read.go:204" #[(Edge.mk 4 Ground.data), (Edge.mk 7 Ground.data), (Edge.mk 6 Ground.chain)] none)) rfl (fun K hK => ?_) AllReadyH.nil)
        refine step_append_lies _ (by rfl) _ _ _ (by rfl) Bx 9 i0 _ 1 16 Tryd.underlying39 hi0 hz0 hz1 hz2 rfl (by omega) (.slice al nl cl) nl (y.labels.map Value.string) (by rfl) (by rw [hnl.out]; rw [hnl.out] at hown2; exact hown2.out) ⟨w2.heap.size, 0, none⟩ 1 1 [.string s] (by rfl) (by rfl) (World.news_of_block (cs := #[.string s]) (t := 9) (fr := (0, 0)) (heap_alloc_new w2 _)) (by simp [Value.oneCell']) (by omega) (by unfold maxLen; omega) (by omega) (by simp; omega) (w2.heap.size + 1) (by simp) ?_
        intro gg cap2 w3 hO3 hg3 hat3 hlt3
        have he := Lib.hid (label_end hS2.out hg3 hO3 hat3 (by have := hS.out.bl; omega))
        have y7 : w3.frozen? ⟨Sx, 7, none⟩ = false := frozB ((hg3.block Sx (by simp; omega) (fun e => by have := (hS2.out.x.rl.lt Sx e.symm).1; have := hS2.out.x.lt; omega)).trans (at_oldP hS2.out.x.blk)) 7
        have z7 : w3.cell? ⟨Sx, 7, none⟩ = some (.slice al nl cl) := by rw [blk_cell ((hg3.block Sx (by simp; omega) (fun e => by have := (hS2.out.x.rl.lt Sx e.symm).1; have := hS2.out.x.lt; omega)).trans (at_oldP hS2.out.x.blk))]; rfl
        clear hO3 hg3 hat3 hlt3 hown2 z
        refine hK.out _ _ trivial (fun hHeld => ?_)
        clear hK K hHeld
        try simp only [Act.put, List.setIfInBounds_toArray, List.set_cons_zero, List.set_cons_succ]
        refine wpAnyH_take (i := 9) (oi := (Oper.mk (some 13) (Op.nilCheck (Operand.tmp 4)) 0 "read.go:204" #[(Edge.mk 0 Ground.data), (Edge.mk 0 Ground.phase), (Edge.mk 1 Ground.phase), (Edge.mk 2 Ground.phase), (Edge.mk 3 Ground.phase), (Edge.mk 4 Ground.phase), (Edge.mk 5 Ground.phase), (Edge.mk 6 Ground.phase), (Edge.mk 7 Ground.phase), (Edge.mk 8 Ground.phase)] none)) (v := ?_) rfl (by kernel_rfl) (by kernel_rfl) (by kernel_rfl) (fun _ _ _ h => h) (Or.inl ⟨by rfl, ?_⟩) trivial ?_
        rotate_left
        · (intro w hSw; (try dsimp only at hSw); go_simp; try with_reducible rfl)
        try simp only [Act.put, List.setIfInBounds_toArray, List.set_cons_zero, List.set_cons_succ]
        refine wpAnyH_take (i := 10) (oi := (Oper.mk (some 14) (Op.fieldAddr 49 (Operand.tmp 13) 7) 0 "read.go:204" #[(Edge.mk 9 Ground.data), (Edge.mk 0 Ground.phase), (Edge.mk 1 Ground.phase), (Edge.mk 2 Ground.phase), (Edge.mk 3 Ground.phase), (Edge.mk 4 Ground.phase), (Edge.mk 5 Ground.phase), (Edge.mk 6 Ground.phase), (Edge.mk 7 Ground.phase), (Edge.mk 8 Ground.phase)] none)) (v := ?_) rfl (by kernel_rfl) (by kernel_rfl) (by kernel_rfl) (fun _ _ _ h => h) (Or.inl ⟨by rfl, ?_⟩) trivial ?_
        rotate_left
        · (intro w hSw; (try dsimp only at hSw); go_simp; try with_reducible rfl)
        try simp only [Act.put, List.setIfInBounds_toArray, List.set_cons_zero, List.set_cons_succ]
        refine wpAnyH_ready (rs := [11]) (by kernel_rfl) (by simp) (AllReadyH.cons (o := (Oper.mk none (Op.store 39 (Operand.tmp 14) (Operand.tmp 12)) 0 "read.go:204" #[(Edge.mk 10 Ground.data), (Edge.mk 8 Ground.data), (Edge.mk 8 Ground.chain), (Edge.mk 0 Ground.phase), (Edge.mk 1 Ground.phase), (Edge.mk 2 Ground.phase), (Edge.mk 3 Ground.phase), (Edge.mk 4 Ground.phase), (Edge.mk 5 Ground.phase), (Edge.mk 6 Ground.phase), (Edge.mk 7 Ground.phase), (Edge.mk 8 Ground.phase)] none)) rfl (fun K hK => ?_) AllReadyH.nil)
        go_simp
        skip
        refine hK.out _ _ trivial (fun hHeld => ?_)
        clear hK K hHeld
        try simp only [Act.put, List.setIfInBounds_toArray, List.set_cons_zero, List.set_cons_succ]
        refine wpAnyH_done (by kernel_rfl) ?_ _
        go_wp2_with fail
        go_end0
        exact ⟨(touch_pb hT2.out).trans (touch_sx he.out.2), rfl, va, _, i + 1, hr, he.out.1⟩
end
end
end Go.Proofs.YtgcanabckogmmaaDoor
