/- What the program's types read as: instructions, blocks, functions. -/
import Derived.Test.YtjblhiekccjdcaaRRead
import Derived.Test.YtjblhiekccjdcaaRReadE
import Derived.DataReads
import Derived.ChangeSame
import Derived.Deep.Fields
import Derived.Deep.Strs
import Derived.Deep.Slices
namespace Go.Proofs.YtjblhiekccjdcaaR
open Go.RowKit Go.Maps Go.WideShapes Go.ChangeShapes Go.ChangeAt Go.Deep

/-- A slice that reads as these texts. -/
abbrev RdS (w : World) (v : Value) (ss : List ByteArray) : Prop := Rd w v (ss.map Value.string)

/-- A slice of elements of c cells each, each of which reads by R. -/
def RdE {α : Type} (c : Nat) (R : World → List Value → α → Prop) (w : World) (v : Value) (L : List α) : Prop :=
  (L = [] ∧ (v = .slice none 0 0 ∨ ∃ a k, v = .slice (some a) 0 k)) ∨ ∃ b off cap, v = .slice (some ⟨b, off, none⟩) L.length cap ∧ b < w.heap.size ∧
    ∀ i d, L[i]? = some d → ∃ cs, R w cs d ∧ cs.length = c ∧ ∀ j u, cs[j]? = some u → w.cell? ⟨b, off + i * c + j, none⟩ = some u

section
variable {α : Type} {c : Nat} {R : World → List Value → α → Prop} {w w' : World} {v : Value} {L : List α}
theorem RdE.form (h : RdE c R w v L) : ∃ a k, v = .slice a L.length k := by
  rcases h with ⟨rfl, rfl | ⟨a, k, rfl⟩⟩ | ⟨b, off, cap, rfl, _⟩
  · exact ⟨none, 0, rfl⟩
  · exact ⟨some a, k, rfl⟩
  · exact ⟨_, cap, rfl⟩
theorem RdE.below (hR : ∀ cs d, R w cs d → R w' cs d) (h : RdE c R w v L) (hb : Below w.heap.size w w') : RdE c R w' v L := by
  refine or_map h id ?_
  rintro ⟨b, off, cap, e, hlt, hc⟩
  refine ⟨b, off, cap, e, Nat.lt_of_lt_of_le hlt hb.size, fun i d hi => ?_⟩
  obtain ⟨cs, h1, h2, h3⟩ := hc i d hi
  exact ⟨cs, hR cs d h1, h2, fun j u hj => (hb.cell (p := ⟨b, off + i * c + j, none⟩) hlt).trans (h3 j u hj)⟩
theorem RdE.at (h : RdE c R w v L) {i : Nat} {d : α} (hi : L[i]? = some d) : ∃ b off cap cs, v = .slice (some ⟨b, off, none⟩) L.length cap ∧ b < w.heap.size ∧ R w cs d ∧ cs.length = c ∧ ∀ j u, cs[j]? = some u → w.cell? ⟨b, off + i * c + j, none⟩ = some u := by
  rcases h with ⟨rfl, _⟩ | ⟨b, off, cap, e, hlt, hc⟩
  · simp at hi
  · obtain ⟨cs, h1, h2, h3⟩ := hc i d hi
    exact ⟨b, off, cap, cs, e, hlt, h1, h2, h3⟩
theorem RdE.nil (w : World) : RdE c R w (.slice none 0 0) [] := Or.inl ⟨rfl, Or.inl rfl⟩
end

/-- An instruction. -/
structure Ins where
  op : Int
  dst : ByteArray
  a : ByteArray
  b : ByteArray
  n : Int
  fn : ByteArray
  args : List ByteArray
  labels : List ByteArray
/-- .. as its cells. -/
def insV (d : Ins) (va vl : Value) : List Value := [.int .u8 d.op, .string d.dst, .string d.a, .string d.b, .int .i64 d.n, .string d.fn, va, vl]
def RdIns (w : World) (cs : List Value) (d : Ins) : Prop := ∃ va vl, cs = insV d va vl ∧ RdS w va d.args ∧ RdS w vl d.labels
/-- A block. -/
structure Blk where
  label : ByteArray
  code : List Ins
def RdBlk (w : World) (cs : List Value) (d : Blk) : Prop := ∃ vc, cs = [.string d.label, vc] ∧ RdE 8 RdIns w vc d.code
/-- A function. -/
structure Fun where
  name : ByteArray
  params : List ByteArray
  blocks : List Blk
def RdFun (w : World) (cs : List Value) (d : Fun) : Prop := ∃ vp vb, cs = [.string d.name, vp, vb] ∧ RdS w vp d.params ∧ RdE 2 RdBlk w vb d.blocks

section
variable {w w' : World} {cs : List Value}
theorem RdIns.below {d : Ins} (h : RdIns w cs d) (hb : Below w.heap.size w w') : RdIns w' cs d := by
  obtain ⟨va, vl, e, h1, h2⟩ := h
  exact ⟨va, vl, e, Rd.below h1 hb, Rd.below h2 hb⟩
theorem RdBlk.below {d : Blk} (h : RdBlk w cs d) (hb : Below w.heap.size w w') : RdBlk w' cs d := by
  obtain ⟨vc, e, h1⟩ := h
  exact ⟨vc, e, RdE.below (fun _ _ h => h.below hb) h1 hb⟩
theorem RdFun.below {d : Fun} (h : RdFun w cs d) (hb : Below w.heap.size w w') : RdFun w' cs d := by
  obtain ⟨vp, vb, e, h1, h2⟩ := h
  exact ⟨vp, vb, e, Rd.below h1 hb, RdE.below (fun _ _ h => h.below hb) h2 hb⟩
end

/-- What may be, of sizes. -/
def Ins.Fits (d : Ins) : Prop := 0 ≤ d.op ∧ d.op < 256 ∧ d.dst.size ≤ maxLen ∧ d.a.size ≤ maxLen ∧ d.b.size ≤ maxLen ∧ (Lit.int .i64 d.n).wf = true ∧ d.fn.size ≤ maxLen ∧ (∀ s ∈ d.args, s.size ≤ maxLen) ∧ (∀ s ∈ d.labels, s.size ≤ maxLen) ∧ d.args.length ≤ maxLen ∧ d.labels.length ≤ maxLen
def Blk.Fits (d : Blk) : Prop := d.label.size ≤ maxLen ∧ (∀ x ∈ d.code, x.Fits) ∧ d.code.length ≤ maxLen
def Fun.Fits (d : Fun) : Prop := d.name.size ≤ maxLen ∧ (∀ s ∈ d.params, s.size ≤ maxLen) ∧ (∀ x ∈ d.blocks, x.Fits) ∧ d.params.length ≤ maxLen ∧ d.blocks.length ≤ maxLen

section
variable {H : Type} {enc : TypeId × Value → H} {P : Program} {w : World}
/-- A slice of texts in a cell. -/
theorem rd_strs_in {t e : TypeId} {n : Nat} {cs : List Value} {x : DataW H × List MemPlace} (ht : P.underlying t = some (.slice e)) (he : P.underlying e = some .string) (hc : P.cellsOf e = 1)
    (hn : DataW.trod enc P w 0 (fun _ => true) true n t cs = some x) : ∃ v ss, cs = [v] ∧ RdS w v ss ∧ (∀ s ∈ ss, s.size ≤ maxLen) ∧ ss.length ≤ maxLen := by
  rcases open_strs ht he hc hn with ⟨e1, _⟩ | ⟨a', len, cap, m, Sx, e1, _, hl, hm, hmm, _, hx⟩
  · exact ⟨_, [], e1, Or.inl ⟨rfl, Or.inl rfl⟩, (fun x h => by cases h), Nat.zero_le _⟩
  · simp only [if_true] at hmm
    refine ⟨_, (List.range len).map Sx, e1, ?_, fun x hx' => ?_, by simp; omega⟩
    · have := rd_of (w := w) (v := .slice (some a') len cap) (X := fun i => .string (Sx i)) rfl (by omega : len ≤ m) (fun i hi => (hx i hi).1) (by
        by_cases h0 : len = 0
        · exact Or.inr h0
        · left
          have h1 := (hx 0 (by omega)).1
          unfold World.cell? at h1
          split at h1
          · rename_i h2
            have := (Array.getElem?_eq_some_iff.1 h2).1
            unfold Addr.add at this
            split at this <;> simpa using this
          · cases h1)
      rw [RdS, List.map_map]
      exact this
    · obtain ⟨i, hi, rfl⟩ := List.mem_map.1 hx'
      rw [List.mem_range] at hi
      exact (hx i (by omega)).2

theorem choose_lt' {α : Type} {Q : Nat → α → Prop} {n : Nat} (h : ∀ i, i < n → ∃ x, Q i x) : ∃ L : List α, L.length = n ∧ ∀ i x, L[i]? = some x → Q i x := by
  induction n with
  | zero => exact ⟨[], rfl, fun i x h => by simp at h⟩
  | succ n ih =>
    obtain ⟨L, hl, hL⟩ := ih (fun i hi => h i (by omega))
    obtain ⟨x, hx⟩ := h n (by omega)
    refine ⟨L ++ [x], by simp [hl], fun i y hy => ?_⟩
    rcases Nat.lt_or_ge i n with h1 | h1
    · rw [List.getElem?_append_left (by omega)] at hy
      exact hL i y hy
    · have h2 := (List.getElem?_eq_some_iff.1 hy).1
      simp at h2
      obtain rfl : i = n := by omega
      rw [List.getElem?_append_right (by omega)] at hy
      simp [hl] at hy
      subst hy
      exact hx

/-- A slice of structs in a cell. -/
theorem rd_elems_in {α : Type} {F : α → Prop} {R : World → List Value → α → Prop} {t e : TypeId} {n c : Nat} {cs : List Value} {x : DataW H × List MemPlace} (ht : P.underlying t = some (.slice e)) (hc : P.cellsOf e = c) (hc0 : 0 < c)
    (hR : ∀ (n : Nat) (cs : List Value) (x : DataW H × List MemPlace), DataW.trod enc P w 0 (fun _ => true) true n e cs = some x → ∃ d, R w cs d ∧ F d)
    (hn : DataW.trod enc P w 0 (fun _ => true) true n t cs = some x) : ∃ v L, cs = [v] ∧ RdE c R w v L ∧ (∀ d ∈ L, F d) ∧ L.length ≤ maxLen := by
  subst hc
  rcases open_slice ht hn with ⟨e1, _⟩ | ⟨a', len, cap, m, n', D, Pl, e1, _, hl, hm, hmm, _, hx⟩
  · exact ⟨_, [], e1, Or.inl ⟨rfl, Or.inl rfl⟩, (fun x h => by cases h), Nat.zero_le _⟩
  · simp only [if_true] at hmm
    by_cases h0 : len = 0
    · subst h0
      exact ⟨_, [], e1, Or.inl ⟨rfl, Or.inr ⟨_, _, rfl⟩⟩, (fun x h => by cases h), Nat.zero_le _⟩
    · obtain ⟨b, o, s⟩ := a'
      obtain ⟨cs0, hcs0, _⟩ := hx 0 (by omega)
      obtain ⟨_, hlen0, hce0⟩ := World.cells?_some hcs0
      have h1 : ∃ u, w.cell? (((⟨b, o, s⟩ : Addr).add (0 * P.cellsOf e)).add 0) = some u := by
        rw [hce0 0 (by omega)]
        exact ⟨_, List.getElem?_eq_getElem (by omega)⟩
      obtain ⟨u, hu⟩ := h1
      have hs : s = none := by
        have h2 := spot_none hu
        have h3 : (((⟨b, o, s⟩ : Addr).add (0 * P.cellsOf e)).add 0).spot = s := by simp [Addr.add]
        exact h3.symm.trans h2
      subst hs
      have hb : b < w.heap.size := by
        rw [add_add] at hu
        unfold World.cell? at hu
        split at hu
        · rename_i h4
          exact (Array.getElem?_eq_some_iff.1 h4).1
        · cases hu
      obtain ⟨L, hL, hQ⟩ := choose_lt' (n := len) (Q := fun i d => (∃ cs, R w cs d ∧ cs.length = P.cellsOf e ∧ ∀ j u, cs[j]? = some u → w.cell? ⟨b, o + i * P.cellsOf e + j, none⟩ = some u) ∧ F d) (fun i hi => by
        obtain ⟨cs', hcs, htr⟩ := hx i (by omega)
        obtain ⟨_, hlen, hce⟩ := World.cells?_some hcs
        obtain ⟨d, hd, hF⟩ := hR _ _ _ htr
        refine ⟨d, ⟨cs', hd, hlen, fun j u hj => ?_⟩, hF⟩
        have hlt := (List.getElem?_eq_some_iff.1 hj).1
        rw [← hj, ← hce j (by omega), add_add])
      refine ⟨_, L, e1, Or.inr ⟨b, o, cap, by rw [hL], hb, fun i d hi => (hQ i d hi).1⟩, fun d hd => ?_, by omega⟩
      obtain ⟨i, hi⟩ := List.mem_iff_getElem?.1 hd
      exact (hQ i d hi).2
end

theorem cellsStr : Try.prog.cellsOf 9 = 1 := by kernel_rfl
theorem cellsIns : Try.prog.cellsOf 47 = 8 := by kernel_rfl
theorem cellsBlk : Try.prog.cellsOf 43 = 2 := by kernel_rfl
theorem cellsFun : Try.prog.cellsOf 39 = 3 := by kernel_rfl

section
variable {H : Type} {enc : TypeId × Value → H} {w : World}
theorem u8_bounds {k : Int} (h : (Lit.int .u8 k).wf = true) : 0 ≤ k ∧ k < 256 := by
  simp [Lit.wf, IntKind.min, IntKind.max, IntKind.signed, IntKind.bits] at h
  omega
theorem field_one {P : Program} {fs : Array Field} {n : Nat} {cs : List Value} {xs : List (DataW H × List MemPlace)} (hone : oneCellFields P fs = true) (hxl : xs.length = fs.size)
    (hf : ∀ (i : Nat) (f : Field), fs[i]? = some f → DataW.trod enc P w 0 (fun _ => true) true n f.type ((cs.drop f.offset).take (P.cellsOf f.type)) = xs[i]?) {i : Nat} {f : Field} (hi : fs[i]? = some f) {v : Value} (hv : cs[i]? = some v) :
    ∃ y, DataW.trod enc P w 0 (fun _ => true) true n f.type [v] = some y := by
  obtain ⟨h0, h1⟩ := hone_of hone i f hi
  have h2 := hf i f hi
  rw [h0, h1] at h2
  obtain ⟨hlt, e⟩ := List.getElem?_eq_some_iff.1 hv
  have h3 : (cs.drop i).take 1 = [v] := by rw [List.drop_eq_getElem_cons hlt, e]; rfl
  rw [h3] at h2
  have h4 : i < xs.length := by rw [hxl]; exact (Array.getElem?_eq_some_iff.1 hi).1
  exact ⟨_, h2.trans (List.getElem?_eq_getElem h4)⟩

theorem list2 {α : Type} : ∀ {l : List α}, l.length = 2 → ∃ a b, l = [a, b]
  | [a, b], _ => ⟨a, b, rfl⟩
theorem list3 {α : Type} : ∀ {l : List α}, l.length = 3 → ∃ a b c, l = [a, b, c]
  | [a, b, c], _ => ⟨a, b, c, rfl⟩
theorem list8 {α : Type} : ∀ {l : List α}, l.length = 8 → ∃ a b c d e f g h, l = [a, b, c, d, e, f, g, h]
  | [a, b, c, d, e, f, g, h], _ => ⟨a, b, c, d, e, f, g, h, rfl⟩

theorem rd_ins_in {n : Nat} {cs : List Value} {x : DataW H × List MemPlace} (hn : DataW.trod enc Try.prog w 0 (fun _ => true) true n 47 cs = some x) : ∃ d : Ins, RdIns w cs d ∧ d.Fits := by
  obtain ⟨xs, m, rfl, rfl, hl, hxl, hf⟩ := DataW.trod_struct Try.underlying47 hn
  rw [cellsIns] at hl
  obtain ⟨c0, c1, c2, c3, c4, c5, c6, c7, rfl⟩ := list8 hl
  have hg := fun i f hi v hv => field_one (by kernel_rfl) hxl hf (i := i) (f := f) hi (v := v) hv
  obtain ⟨y0, h0⟩ := hg 0 _ rfl _ rfl
  obtain ⟨y1, h1⟩ := hg 1 _ rfl _ rfl
  obtain ⟨y2, h2⟩ := hg 2 _ rfl _ rfl
  obtain ⟨y3, h3⟩ := hg 3 _ rfl _ rfl
  obtain ⟨y4, h4⟩ := hg 4 _ rfl _ rfl
  obtain ⟨y5, h5⟩ := hg 5 _ rfl _ rfl
  obtain ⟨y6, h6⟩ := hg 6 _ rfl _ rfl
  obtain ⟨y7, h7⟩ := hg 7 _ rfl _ rfl
  obtain ⟨op, e0, -, w0⟩ := DataW.trod_int Try.underlying45 h0
  obtain ⟨s1, e1, -, w1⟩ := DataW.trod_string Try.underlying9 h1
  obtain ⟨s2, e2, -, w2⟩ := DataW.trod_string Try.underlying9 h2
  obtain ⟨s3, e3, -, w3⟩ := DataW.trod_string Try.underlying9 h3
  obtain ⟨nn, e4, -, w4⟩ := DataW.trod_int Try.underlying3 h4
  obtain ⟨s5, e5, -, w5⟩ := DataW.trod_string Try.underlying9 h5
  obtain ⟨v6, ss6, e6, r6, w6, l6⟩ := rd_strs_in Try.underlying36 Try.underlying9 cellsStr h6
  obtain ⟨v7, ss7, e7, r7, w7, l7⟩ := rd_strs_in Try.underlying36 Try.underlying9 cellsStr h7
  simp only [List.cons.injEq, and_true] at e0 e1 e2 e3 e4 e5 e6 e7
  subst e0 e1 e2 e3 e4 e5 e6 e7
  exact ⟨⟨op, s1, s2, s3, nn, s5, ss6, ss7⟩, ⟨c6, c7, rfl, r6, r7⟩, (u8_bounds w0).1, (u8_bounds w0).2, w1, w2, w3, w4, w5, w6, w7, l6, l7⟩

theorem rd_blk_in {n : Nat} {cs : List Value} {x : DataW H × List MemPlace} (hn : DataW.trod enc Try.prog w 0 (fun _ => true) true n 43 cs = some x) : ∃ d : Blk, RdBlk w cs d ∧ d.Fits := by
  obtain ⟨xs, m, rfl, rfl, hl, hxl, hf⟩ := DataW.trod_struct Try.underlying43 hn
  rw [cellsBlk] at hl
  obtain ⟨c0, c1, rfl⟩ := list2 hl
  have hg := fun i f hi v hv => field_one (by kernel_rfl) hxl hf (i := i) (f := f) hi (v := v) hv
  obtain ⟨y0, h0⟩ := hg 0 _ rfl _ rfl
  obtain ⟨y1, h1⟩ := hg 1 _ rfl _ rfl
  obtain ⟨s, e0, -, w0⟩ := DataW.trod_string Try.underlying9 h0
  obtain ⟨v, L, e1, r1, w1, l1⟩ := rd_elems_in (R := RdIns) (F := Ins.Fits) Try.underlying41 cellsIns (by decide) (fun n cs x h => rd_ins_in h) h1
  simp only [List.cons.injEq, and_true] at e0 e1
  subst e0 e1
  exact ⟨⟨s, L⟩, ⟨c1, rfl, r1⟩, w0, w1, l1⟩

theorem rd_fun_in {n : Nat} {cs : List Value} {x : DataW H × List MemPlace} (hn : DataW.trod enc Try.prog w 0 (fun _ => true) true n 39 cs = some x) : ∃ d : Fun, RdFun w cs d ∧ d.Fits := by
  obtain ⟨xs, m, rfl, rfl, hl, hxl, hf⟩ := DataW.trod_struct Try.underlying39 hn
  rw [cellsFun] at hl
  obtain ⟨c0, c1, c2, rfl⟩ := list3 hl
  have hg := fun i f hi v hv => field_one (by kernel_rfl) hxl hf (i := i) (f := f) hi (v := v) hv
  obtain ⟨y0, h0⟩ := hg 0 _ rfl _ rfl
  obtain ⟨y1, h1⟩ := hg 1 _ rfl _ rfl
  obtain ⟨y2, h2⟩ := hg 2 _ rfl _ rfl
  obtain ⟨s, e0, -, w0⟩ := DataW.trod_string Try.underlying9 h0
  obtain ⟨v6, ss6, e1, r1, w1, l1⟩ := rd_strs_in Try.underlying36 Try.underlying9 cellsStr h1
  obtain ⟨v, L, e2, r2, w2, l2⟩ := rd_elems_in (R := RdBlk) (F := Blk.Fits) Try.underlying37 cellsBlk (by decide) (fun n cs x h => rd_blk_in h) h2
  simp only [List.cons.injEq, and_true] at e0 e1 e2
  subst e0 e1 e2
  exact ⟨⟨s, ss6, L⟩, ⟨c1, c2, rfl, r1, r2⟩, w0, w1, w2, l1, l2⟩

/-- A struct that came in. -/
theorem rd_agg_in {α : Type} {F : α → Prop} {R : World → List Value → α → Prop} {P : Program} {t : TypeId} {fs : Array Field} (ht : P.underlying t = some (.struct fs)) {base : Nat} {v : Value} {d : DataW H} {ps : List MemPlace}
    (hval : Value.okWide P w .any base t v)
    (hR : ∀ (n : Nat) (cs : List Value) (x : DataW H × List MemPlace), DataW.trod enc P w 0 (fun _ => true) true n t cs = some x → ∃ d, R w cs d ∧ F d)
    (h : DataW.Trod enc P w 0 (fun _ => true) true t v d ps) : ∃ cs d, v = .agg cs.toArray ∧ R w cs d ∧ F d := by
  obtain ⟨⟨cs⟩, rfl, hsz⟩ := okWide_struct ht hval
  obtain ⟨n, hn⟩ := h
  obtain ⟨d, h1, h2⟩ := hR n cs _ hn
  exact ⟨cs, d, rfl, h1, h2⟩
end
end Go.Proofs.YtjblhiekccjdcaaR
