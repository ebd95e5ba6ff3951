/- cfg.Uses, the document's Uses, SameInstr. -/
import Derived.Test.YtedleliddhhacaaCVars
import Derived.Laws.OwnMore
namespace Go.Proofs.Ytedleliddhhacaa
open Go.RowKit Go.Maps

theorem own_lower {w : World} {b0 base n : Nat} {v : Value} {xs : List Value} {t : TypeId} {size : Nat} (h : w.ownsRow base t size v n xs) (hb : b0 ≤ base) : w.ownsRow b0 t size v n xs := by
  refine ⟨h.1, h.2.imp id ?_⟩
  rintro ⟨g, cap, cur, e, h0, h2⟩
  exact ⟨g, cap, cur, e, Nat.le_trans hb h0, h2⟩
/-- A row of texts reads as they are. -/
theorem rds_own {w : World} {base n : Nat} {v : Value} {ss : List ByteArray} {t : TypeId} (h : w.ownsRow base t 1 v n (ss.map Value.string)) : RdS w v ss := by
  rcases h.2 with ⟨rfl, h0⟩ | ⟨g, cap, cur, rfl, h1, h2, h3, h4, h5, h6⟩
  · have : ss = [] := by have := h.1; rw [h0, List.length_map] at this; exact List.eq_nil_of_length_eq_zero (by omega)
    subst this
    exact rd_none w
  · have hl : n = ss.length := by have := h.1; rw [List.length_map] at this; omega
    subst hl
    refine Or.inr ⟨g, 0, cap, by simp, (h.lt g rfl).2, fun k u hu => ?_⟩
    have := h.cells (g := g) rfl k u hu
    rw [add0] at this
    rw [Nat.zero_add]
    exact this

def usesL (d : Ins) : List ByteArray := ([d.a, d.b] ++ d.args).filter isVar

set_option maxRecDepth 20000 in
theorem uses_any {w : World} {cs : List Value} {d : Ins} (h : RdIns w cs d) (hl : d.args.length ≤ 100000) :
    Calls Try.prog 8 #[.agg cs.toArray] w fun e w' => ∃ v', e = .returned v' ∧ OwnS w w' v' (usesL d) ∧ Below w.heap.size w w' := by
  obtain ⟨va, vl, rfl, ha, -⟩ := h
  obtain ⟨aa, ca, rfl⟩ := ha.form
  obtain ⟨i0, hi0, hz0, hz1, hz2⟩ := info_parts infoS1
  replace ha := Lib.hid ha
  unfold insV
  have hown0 : ((w.alloc (.cells #[.int .u8 d.op, .string d.dst, .string d.a, .string d.b, .int .i64 d.n, .string d.fn, .slice aa d.args.length ca, vl] 25)).alloc (.cells #[.string d.a, .string d.b] 9)).ownsRow w.heap.size 9 1 (.slice (some ⟨w.heap.size + 1, 0, none⟩) 2 2) 2 [.string d.a, .string d.b] := by
    have := World.ownsRow_lit (base := w.heap.size) (e := 9) (size := 1) (w.alloc (.cells #[.int .u8 d.op, .string d.dst, .string d.a, .string d.b, .int .i64 d.n, .string d.fn, .slice aa d.args.length ca, vl] 25)) #[.string d.a, .string d.b] 2 (by simp) (by decide) rfl
    rwa [World.size_alloc] at this
  have hbe0 : Below w.heap.size w ((w.alloc (.cells #[.int .u8 d.op, .string d.dst, .string d.a, .string d.b, .int .i64 d.n, .string d.fn, .slice aa d.args.length ca, vl] 25)).alloc (.cells #[.string d.a, .string d.b] 9)) := ((Below.refl _ _).alloc (Nat.le_refl _) _).alloc (by simp) _
  rw [List.length_map] at ha
  have hrd0 := Lib.hid (Rd.below ha.out hbe0)
  go_enter Try.func8, Try.ntmps8
  go_wp2_with (at_builtin; refine wpList_append_rd _ rfl _ _ 23 rfl w.heap.size 9 i0 (.string ⟨#[]⟩) 16 Try.underlying23 hi0 hz0 hz1 hz2 rfl _ 2 _ rfl hown0 _ (d.args.map Value.string) rfl hrd0.out (oneStr _) (by simp; unfold maxLen; omega) (by simp; omega) (by simp; omega) ?_)
  intro v' w2 hown2 hgrow hat
  have hb2 : Below w.heap.size w w2 := hbe0.grown hgrow (by simp; omega) (fun b e => by simp [Value.ownBlock] at e; omega)
  have hrd : RdS w2 v' ([d.a, d.b] ++ d.args) := rds_own (base := w.heap.size) (t := 9) (n := 2 + d.args.length) (by simpa using hown2)
  have hc := Lib.hid (variables_any hrd (by simp; omega))
  clear hown2 hrd
  go_wp2_with fail
  refine hc.out.mono ?_
  rintro e w3 ⟨v3, rfl, hO, hb3⟩
  go_wp2_with fail
  go_ret
  exact ⟨_, rfl, own_lower hO hb2.size, hb2.trans (hb3.mono hb2.size)⟩
end Go.Proofs.Ytedleliddhhacaa
