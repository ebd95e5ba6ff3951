/- How a slice of words that comes in reads. -/
import Derived.Test.YtobfcbmphobmfaaDoorLaidW
import Derived.Test.YtobfcbmphobmfaaDoorRead
import Derived.DataReads
namespace Go.Proofs.YtobfcbmphobmfaaDoor
section
open Go.RowKit Go.WideShapes Go.ChangeShapes Go.ChangeAt Go.Deep

section
variable {H : Type} {enc : TypeId × Value → H} {P : Program} {w : World}

theorem adr_add {b o i j : Nat} : ((⟨b, o, none⟩ : Addr).add i).add j = ⟨b, o + i + j, none⟩ := by
  unfold Addr.add
  split <;> split <;> simp_all

/-- A slice that came in: each element's cells read as an element. -/
theorem rd_elems {t e : TypeId} {v : Value} {d : DataW H} {ps : List MemPlace} {base c : Nat} (ht : P.underlying t = some (.slice e)) (hc : P.cellsOf e = c) (hc0 : 0 < c)
    (hval : Value.okWide P w .any base t v) (h : DataW.Trod enc P w 0 (fun _ => true) true t v d ps) :
    (v = .slice none 0 0 ∨ ∃ a k, v = .slice (some a) 0 k) ∨ ∃ b off len cap, v = .slice (some ⟨b, off, none⟩) len cap ∧ b < w.heap.size ∧ len ≤ maxLen ∧
      ∀ i, i < len → ∃ cs n y, cs.length = c ∧ (∀ j, j < c → w.cell? ⟨b, off + i * c + j, none⟩ = cs[j]?) ∧ DataW.trod enc P w 0 (fun _ => true) true n e cs = some y := by
  subst hc
  obtain ⟨a, len, cap, rfl⟩ := okWide_slice ht hval
  obtain ⟨n, hn⟩ := h
  rcases open_slice ht hn with ⟨e1, _⟩ | ⟨a', len', cap', m, n', D, Pl, e1, _, hl, hm, hmm, _, hx⟩
  · simp [Value.cells] at e1
    obtain ⟨rfl, rfl, rfl⟩ := e1
    exact Or.inl (Or.inl rfl)
  · simp [Value.cells] at e1
    obtain ⟨rfl, rfl, rfl⟩ := e1
    simp only [if_true] at hmm
    by_cases h0 : len = 0
    · subst h0
      exact Or.inl (Or.inr ⟨_, _, rfl⟩)
    · right
      obtain ⟨b, o, s⟩ := a'
      obtain ⟨cs0, hcs0, _⟩ := hx 0 (by omega)
      obtain ⟨_, hlen0, hce0⟩ := World.cells?_some hcs0
      have h1 : ∃ u, w.cell? (((⟨b, o, s⟩ : Addr).add (0 * P.cellsOf e)).add 0) = some u := by
        rw [hce0 0 (by omega)]
        exact ⟨_, List.getElem?_eq_getElem (by omega)⟩
      obtain ⟨u, hu⟩ := h1
      have hs : s = none := by
        have h2 := spot_none hu
        have h3 : (((⟨b, o, s⟩ : Addr).add (0 * P.cellsOf e)).add 0).spot = s := by simp [Addr.add]
        exact h3.symm.trans h2
      subst hs
      have hb : b < w.heap.size := by
        rw [adr_add] at hu
        unfold World.cell? at hu
        split at hu
        · rename_i h4
          exact (Array.getElem?_eq_some_iff.1 h4).1
        · cases hu
      refine ⟨b, o, len, cap, rfl, hb, by omega, fun i hi => ?_⟩
      obtain ⟨cs, hcs, htr⟩ := hx i (by omega)
      obtain ⟨_, hlen, hce⟩ := World.cells?_some hcs
      refine ⟨cs, n', _, hlen, fun j hj => ?_, htr⟩
      rw [← hce j hj, adr_add]
end
end
open Go.RowKit Go.WideShapes Go.ChangeShapes Go.ChangeAt Go.WideMaps Go.ChangeMaps

section
variable {H : Type} {enc : TypeId × Value → H} {w : World}
theorem cellsU8 : Tryd.prog.cellsOf 5 = 1 := by kernel_rfl
theorem cellsStr : Tryd.prog.cellsOf 9 = 1 := by kernel_rfl
theorem cellsWord : Tryd.prog.cellsOf 38 = 3 := by kernel_rfl
theorem u8_nat {n : Int} (h : (Lit.int .u8 n).wf = true) : ∃ k : Nat, n = (k : Int) ∧ k < 256 := by
  have h' : (0 : Int) ≤ n ∧ n < 256 := by
    simp [Lit.wf, IntKind.min, IntKind.max, IntKind.signed, IntKind.bits] at h
    omega
  exact ⟨n.toNat, by omega, by omega⟩
theorem rd_words {v : Value} {d : DataW H} {ps : List MemPlace} {base : Nat} (hval : Value.okWide Tryd.prog w .any base 35 v) (h : DataW.Trod enc Tryd.prog w 0 (fun _ => true) true 35 v d ps) :
    ∃ L : List Wd, RdWs w v L := by
  rcases rd_elems Tryd.underlying35 cellsWord (by decide) hval h with h0 | ⟨b, off, len, cap, rfl, hb, hl, hx⟩
  · rcases h0 with rfl | ⟨a, k, rfl⟩
    · exact ⟨[], none, 0, rfl, fun i x h => by simp at h⟩
    · exact ⟨[], some a, k, rfl, fun i x h => by simp at h⟩
  · have hx' : ∀ i, i < len → ∃ x : Wd, w.cell? ⟨b, off + i * 3, none⟩ = some (.int .u8 x.kind) ∧ w.cell? ⟨b, off + i * 3 + 1, none⟩ = some (.string x.text) ∧ w.cell? ⟨b, off + i * 3 + 2, none⟩ = some (.int .u8 x.ahead) ∧ x.kind < 256 ∧ x.ahead < 256 ∧ x.text.size ≤ maxLen := by
      intro i hi'
      obtain ⟨cs, n, y, hlen, hce, htr⟩ := hx i hi'
      obtain ⟨xs, n', _, rfl, _, hxl, hf⟩ := DataW.trod_struct Tryd.underlying38 htr
      match xs, hxl with
      | [y0, y1, y2], _ =>
        have t0 : DataW.trod enc Tryd.prog w 0 (fun _ => true) true n' 5 ((cs.drop 0).take (Tryd.prog.cellsOf 5)) = some y0 := hf 0 _ rfl
        have t1 : DataW.trod enc Tryd.prog w 0 (fun _ => true) true n' 9 ((cs.drop 1).take (Tryd.prog.cellsOf 9)) = some y1 := hf 1 _ rfl
        have t2 : DataW.trod enc Tryd.prog w 0 (fun _ => true) true n' 5 ((cs.drop 2).take (Tryd.prog.cellsOf 5)) = some y2 := hf 2 _ rfl
        simp only [cellsU8, cellsStr] at t0 t1 t2
        obtain ⟨x0, e0, _, r0⟩ := DataW.trod_int Tryd.underlying5 t0
        obtain ⟨x1, e1, _, r1⟩ := DataW.trod_string Tryd.underlying9 t1
        obtain ⟨x2, e2, _, r2⟩ := DataW.trod_int Tryd.underlying5 t2
        obtain ⟨k0, rfl, hk0⟩ := u8_nat r0
        obtain ⟨k2, rfl, hk2⟩ := u8_nat r2
        match cs, hlen with
        | [c0, c1, c2], _ =>
          simp at e0 e1 e2
          subst e0; subst e1; subst e2
          have h0 := hce 0 (by omega)
          have h1 := hce 1 (by omega)
          have h2 := hce 2 (by omega)
          exact ⟨⟨k0, x1, k2⟩, h0, h1, h2, hk0, hk2, r1⟩
    refine ⟨(List.range len).attach.map fun i => (hx' i.1 (List.mem_range.1 i.2)).choose, some ⟨b, off, none⟩, cap, by simp, fun i x hi' => ?_⟩
    have hlt : i < len := by have := (List.getElem?_eq_some_iff.1 hi').1; simpa using this
    simp [hlt] at hi'
    subst hi'
    exact ⟨b, off, rfl, hb, (hx' i hlt).choose_spec⟩
end
end Go.Proofs.YtobfcbmphobmfaaDoor
