/- What came in, read: values by themselves, slices of acts. -/
import Derived.Test.YtaidjamcjinooaaReadE
import Derived.Test.YtaidjamcjinooaaKeepsS
namespace Go.Proofs.Ytaidjamcjinooaa
open Go.RowKit Go.WideShapes Go.ChangeShapes Go.ChangeAt Go.Deep

section
variable {H : Type} {enc : TypeId × Value → H} {w : World}

theorem cellsV : Try.prog.cellsOf 24 = 3 := by kernel_rfl
theorem cellsI : Try.prog.cellsOf 3 = 1 := by kernel_rfl
theorem cellsU : Try.prog.cellsOf 5 = 1 := by kernel_rfl
theorem cellsAct : Try.prog.cellsOf 29 = 9 := by kernel_rfl

theorem rd_v3 {fuel : Nat} {cs : List Value} {x : DataW H × List MemPlace} (h : DataW.trod enc Try.prog w 0 (fun _ => true) true fuel 24 cs = some x) : ∃ p : V3, cs = vcells p := by
  obtain ⟨y0, y1, y2, n', _, hlen, t0, t1, t2⟩ := trod_struct3 Try.underlying24 h
  rw [cellsV] at hlen
  simp only [cellsI, cellsU] at t0 t1 t2
  obtain ⟨x0, e0, _⟩ := DataW.trod_int Try.underlying5 t0
  obtain ⟨x1, e1, _⟩ := DataW.trod_int Try.underlying3 t1
  obtain ⟨x2, e2, _⟩ := DataW.trod_int Try.underlying3 t2
  match cs, hlen with
  | [c0, c1, c2], _ =>
    simp at e0 e1 e2
    subst e0; subst e1; subst e2
    exact ⟨(x0, x1, x2), rfl⟩

theorem rd_val {v : Value} {d : DataW H} {ps : List MemPlace} {base : Nat} (hval : Value.okWide Try.prog w .any base 24 v) (h : DataW.Trod enc Try.prog w 0 (fun _ => true) true 24 v d ps) :
    ∃ p : V3, v = .agg #[.int .u8 p.1, .int .i64 p.2.1, .int .i64 p.2.2] := by
  obtain ⟨cs, rfl, _⟩ := okWide_struct Try.underlying24 hval
  obtain ⟨n, hn⟩ := h
  obtain ⟨p, hp⟩ := rd_v3 hn
  refine ⟨p, ?_⟩
  simp [Value.cells] at hp
  congr 1
  apply Array.ext'
  rw [hp]
  rfl

theorem rd_keeps {v : Value} {d : DataW H} {ps : List MemPlace} {base : Nat} (hval : Value.okWide Try.prog w .any base 22 v) (h : DataW.Trod enc Try.prog w 0 (fun _ => true) true 22 v d ps) :
    ∃ l : List Act9, RdAct w v l ∧ l.length ≤ maxLen := by
  rcases rd_elems Try.underlying22 cellsAct (by decide) hval h with h0 | ⟨b, off, len, cap, rfl, hb, hl, hx⟩
  · exact ⟨[], Or.inl ⟨rfl, h0⟩, Nat.zero_le _⟩
  · have hx' : ∀ i, i < len → ∃ x : Act9, ∀ t u, (flat9 x)[t]? = some u → w.cell? ⟨b, off + i * 9 + t, none⟩ = some u := by
      intro i hi'
      obtain ⟨cs, n, y, hlen, hce, htr⟩ := hx i hi'
      obtain ⟨xs, n', _, rfl, _, hxl, hf⟩ := DataW.trod_struct Try.underlying29 htr
      have key : ∃ x : Act9, cs = flat9 x := by
        match xs, hxl with
        | [y0, y1, y2, y3, y4], _ =>
          have t0 : DataW.trod enc Try.prog w 0 (fun _ => true) true n' 3 ((cs.drop 0).take (Try.prog.cellsOf 3)) = some y0 := hf 0 _ rfl
          have t1 : DataW.trod enc Try.prog w 0 (fun _ => true) true n' 3 ((cs.drop 1).take (Try.prog.cellsOf 3)) = some y1 := hf 1 _ rfl
          have t2 : DataW.trod enc Try.prog w 0 (fun _ => true) true n' 3 ((cs.drop 2).take (Try.prog.cellsOf 3)) = some y2 := hf 2 _ rfl
          have t3 : DataW.trod enc Try.prog w 0 (fun _ => true) true n' 24 ((cs.drop 3).take (Try.prog.cellsOf 24)) = some y3 := hf 3 _ rfl
          have t4 : DataW.trod enc Try.prog w 0 (fun _ => true) true n' 24 ((cs.drop 6).take (Try.prog.cellsOf 24)) = some y4 := hf 4 _ rfl
          simp only [cellsI, cellsV] at t0 t1 t2 t3 t4
          obtain ⟨x0, e0, _⟩ := DataW.trod_int Try.underlying3 t0
          obtain ⟨x1, e1, _⟩ := DataW.trod_int Try.underlying3 t1
          obtain ⟨x2, e2, _⟩ := DataW.trod_int Try.underlying3 t2
          obtain ⟨x3, e3⟩ := rd_v3 t3
          obtain ⟨x4, e4⟩ := rd_v3 t4
          match cs, hlen with
          | [c0, c1, c2, c3, c4, c5, c6, c7, c8], _ =>
            simp [vcells] at e0 e1 e2 e3 e4
            obtain ⟨rfl, rfl, rfl⟩ := e3
            obtain ⟨rfl, rfl, rfl⟩ := e4
            subst e0; subst e1; subst e2
            exact ⟨(x0, x1, x2, x3, x4), rfl⟩
      obtain ⟨x, rfl⟩ := key
      refine ⟨x, fun t u hu => ?_⟩
      have ht : t < 9 := by have := (List.getElem?_eq_some_iff.1 hu).1; simpa [flat9] using this
      rw [hce t ht]
      exact hu
    refine ⟨(List.range len).attach.map fun i => (hx' i.1 (List.mem_range.1 i.2)).choose, Or.inr ⟨b, off, cap, by simp, hb, fun i x hi' => ?_⟩, by simpa using hl⟩
    have hlt : i < len := by have := (List.getElem?_eq_some_iff.1 hi').1; simpa using this
    simp [hlt] at hi'
    subst hi'
    exact (hx' i hlt).choose_spec
end
end Go.Proofs.Ytaidjamcjinooaa
