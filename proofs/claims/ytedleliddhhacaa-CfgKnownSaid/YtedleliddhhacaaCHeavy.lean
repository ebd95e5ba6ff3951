/- The laws' own 'heavy', cfg.Loops. -/
import Derived.Test.YtedleliddhhacaaCLaw
import Derived.Test.YtedleliddhhacaaSCyc
namespace Go.Proofs.Ytedleliddhhacaa
open Go.RowKit Go.Maps

/-- What the laws look at. -/
def LightB (b : Blk) : Prop := b.label.size ≤ 200 ∧ b.code.length ≤ 100 ∧ ∀ x, b.code.getLast? = some x → x.labels.length ≤ 20 ∧ ∀ s ∈ x.labels, s.size ≤ 200
def LightF (d : Fun) : Prop := d.blocks.length ≤ 40 ∧ ∀ b ∈ d.blocks, LightB b
theorem waysL_sub {b : Blk} {s : ByteArray} (h : s ∈ waysL b) : ∃ x, b.code.getLast? = some x ∧ s ∈ x.labels := by
  unfold waysL waysB at h
  rcases hx : b.code.getLast? with _ | x
  · simp [hx] at h
  · simp only [hx] at h
    split at h
    · exact ⟨x, rfl, h⟩
    · split at h
      · cases h
      · cases h
theorem waysL_len {b : Blk} {n : Nat} (h : ∀ x, b.code.getLast? = some x → x.labels.length ≤ n) : (waysL b).length ≤ n := by
  unfold waysL waysB
  rcases hx : b.code.getLast? with _ | x
  · simp
  · simp only
    split
    · exact h x hx
    · split <;> simp
theorem LightF.small {d : Fun} (h : LightF d) : SmallF d := by
  refine ⟨by have := h.1; omega, fun b hb => ?_⟩
  obtain ⟨h1, h2, h3⟩ := h.2 b hb
  refine ⟨by unfold maxLen; omega, by omega, Nat.le_trans (waysL_len (n := 20) (fun x hx => (h3 x hx).1)) (by omega), fun s hs => ?_⟩
  obtain ⟨x, hx, hm⟩ := waysL_sub hs
  have := (h3 x hx).2 s hm
  unfold maxLen
  omega

def HeavyPost (w : World) (d : Fun) (e : Ending) (w' : World) : Prop := ∃ q, e = .returned (.bool q) ∧ Below w.heap.size w w' ∧ (q = false → LightF d)

set_option maxRecDepth 20000 in
set_option maxHeartbeats 4000000 in
theorem heavy_any {w : World} {cs : List Value} {d : Fun} (h : RdFun w cs d) (hfit : d.Fits) : Calls Try.prog 12 #[.agg cs.toArray] w (HeavyPost w d) := by
  obtain ⟨vp, vb, rfl, hp, hb⟩ := h
  obtain ⟨n, hn⟩ : ∃ n, n = d.blocks.length := ⟨_, rfl⟩
  obtain ⟨ap, cp, rfl⟩ := hp.form
  obtain ⟨ab, cb, rfl⟩ := hb.form
  rw [List.length_map] at hp ⊢
  clear hp
  rw [← hn] at hb ⊢
  replace hb := Lib.hid hb
  replace hn := Lib.hid hn
  have hfit' := Lib.hid hfit
  clear hfit
  by_cases h40 : n ≤ 40
  · have d1 : decide ((n : Int) > 40) = false := by simp; omega
    have hbe0 : Below w.heap.size w (w.alloc (.cells #[.string d.name, .slice ap d.params.length cp, .slice ab n cb] 32)) := (Below.refl _ _).alloc (Nat.le_refl _) _
    have hS0 : (w.alloc (.cells #[.string d.name, .slice ap d.params.length cp, .slice ab n cb] 32)).heap[w.heap.size]? = some (.cells #[.string d.name, .slice ap d.params.length cp, .slice ab n cb] 32 (0, 0)) := heap_alloc_new _ _
    go_enter Try.func12, Try.ntmps12
    go_wp2_with fail
    generalize (w.alloc (.cells #[.string d.name, .slice ap d.params.length cp, .slice ab n cb] 32)) = w0 at hbe0 hS0 ⊢
    obtain ⟨S, hS⟩ : ∃ S, S = w.heap.size := ⟨_, rfl⟩
    rw [← hS] at hS0 ⊢
    have hSw : w.heap.size ≤ S := by omega
    have hlt0 := (Array.getElem?_eq_some_iff.1 hS0).1
    replace hS := Lib.hid hS
    replace hS0 := Lib.hid hS0
    go_loopw [3, 4, 5, 6] (fun i _ _ _ wr => ∃ k, k ≤ n ∧ i = .int .i64 k ∧ Below w0.heap.size w0 wr ∧ Hid (∀ b ∈ d.blocks.take k, LightB b)) (fun i _ _ _ _ => n - (intOf i).toNat)
    case atStart => exact ⟨0, Nat.zero_le _, rfl, Below.refl _ _, Lib.hid (fun b hb => by simp at hb)⟩
    case round =>
      obtain ⟨k, hk, rfl, hbr, hall⟩ := hrel
      have hS1 := (hbr.block S hlt0).trans hS0.out
      have cF : wr.cell? ⟨S, 2, none⟩ = some (.slice ab n cb) := by rw [blk_cell hS1]; rfl
      have hBr : Below w.heap.size w wr := hbe0.trans (hbr.mono hbe0.size)
      by_cases hlt : k < n
      · obtain ⟨x, hx⟩ : ∃ x, d.blocks[k]? = some x := ⟨_, List.getElem?_eq_getElem (by rw [← hn.out]; exact hlt)⟩
        obtain ⟨b, off, cap, cs, e, hbl, ⟨vc, rfl, hcode⟩, -, hcell⟩ := hb.out.at hx
        rw [← hn.out] at e
        simp only [Value.slice.injEq] at e
        obtain ⟨rfl, -, rfl⟩ := e
        obtain ⟨ac, cc, rfl⟩ := hcode.form
        have c0 : wr.cell? ⟨b, off + k * 2, none⟩ = some (.string x.label) := (hBr.cell (p := ⟨b, off + k * 2, none⟩) hbl).trans (hcell 0 _ rfl)
        have c1 := (hBr.cell (p := ⟨b, off + k * 2 + 1, none⟩) hbl).trans (hcell 1 _ rfl)
        have i2 : (k : Int) < (n : Int) := by omega
        have htk := Lib.hid (take_snoc hx)
        have hfx := hfit'.out.2.2.1 x (List.mem_of_getElem? hx)
        have hlen := hfx.2.2
        replace hfx := Lib.hid hfx
        obtain ⟨m, hm⟩ : ∃ m, m = x.code.length := ⟨_, rfl⟩
        rw [← hm] at hlen c1 hcode
        replace hm := Lib.hid hm
        clear hcell hx hS1
        by_cases h100 : m ≤ 100
        · have d2 : decide ((m : Int) > 100) = false := by simp; omega
          by_cases h200 : x.label.size ≤ 200
          · have d3 : decide ((x.label.size : Int) > 200) = false := by simp; omega
            rcases Nat.eq_zero_or_pos m with h0 | h0
            · have d4 : ((m : Int) == 0) = true := by simp [h0]
              have hl : LightB x := ⟨h200, by rw [← hm.out]; exact h100, fun y hy => by
                have : x.code = [] := List.eq_nil_of_length_eq_zero (by rw [← hm.out]; exact h0)
                rw [this] at hy; cases hy⟩
              have hall2 : Hid (∀ y ∈ d.blocks.take (k + 1), LightB y) := Lib.hid (by
                rw [htk.out]
                intro y hy
                rcases List.mem_append.1 hy with h | h
                · exact hall.out y h
                · rw [List.mem_singleton.1 h]; exact hl)
              clear hl hcode
              go_wp2_with fail
              exact ⟨⟨k + 1, by omega, by go_num, hbr, hall2⟩, by simp [intOf]; omega⟩
            · have d4 : ((m : Int) == 0) = false := by simp; omega
              obtain ⟨l, hl⟩ : ∃ l, m = l + 1 := ⟨m - 1, by omega⟩
              obtain ⟨y, hy⟩ : ∃ y, x.code[l]? = some y := ⟨_, List.getElem?_eq_getElem (by rw [← hm.out]; omega)⟩
              have hlast : Hid (x.code.getLast? = some y) := Lib.hid (by rw [List.getLast?_eq_getElem?, ← hm.out, hl]; simpa using hy)
              obtain ⟨b1, off1, cap1, cs1, e1, hbl1, ⟨va, vl, rfl, ha, hlab⟩, -, hcell1⟩ := hcode.at hy
              rw [← hm.out] at e1
              simp only [Value.slice.injEq] at e1
              obtain ⟨rfl, -, rfl⟩ := e1
              obtain ⟨a6, k6, rfl⟩ := ha.form
              obtain ⟨a7, k7, rfl⟩ := hlab.form
              rw [List.length_map] at hlab
              obtain ⟨p, hp⟩ : ∃ p, p = y.labels.length := ⟨_, rfl⟩
              simp only [List.length_map] at hcell1
              rw [← hp] at hlab hcell1
              replace hp := Lib.hid hp
              have e0 : wr.cell? ⟨b1, off1 + l * 8, none⟩ = some (.int .u8 y.op) := (hBr.cell (p := ⟨b1, off1 + l * 8, none⟩) hbl1).trans (hcell1 0 _ rfl)
              have e1 : wr.cell? ⟨b1, off1 + l * 8 + 1, none⟩ = some (.string y.dst) := (hBr.cell (p := ⟨b1, off1 + l * 8 + 1, none⟩) hbl1).trans (hcell1 1 _ rfl)
              have e2 : wr.cell? ⟨b1, off1 + l * 8 + 2, none⟩ = some (.string y.a) := (hBr.cell (p := ⟨b1, off1 + l * 8 + 2, none⟩) hbl1).trans (hcell1 2 _ rfl)
              have e3 : wr.cell? ⟨b1, off1 + l * 8 + 3, none⟩ = some (.string y.b) := (hBr.cell (p := ⟨b1, off1 + l * 8 + 3, none⟩) hbl1).trans (hcell1 3 _ rfl)
              have e4 : wr.cell? ⟨b1, off1 + l * 8 + 4, none⟩ = some (.int .i64 y.n) := (hBr.cell (p := ⟨b1, off1 + l * 8 + 4, none⟩) hbl1).trans (hcell1 4 _ rfl)
              have e5 : wr.cell? ⟨b1, off1 + l * 8 + 5, none⟩ = some (.string y.fn) := (hBr.cell (p := ⟨b1, off1 + l * 8 + 5, none⟩) hbl1).trans (hcell1 5 _ rfl)
              have e6 : wr.cell? ⟨b1, off1 + l * 8 + 6, none⟩ = some (.slice a6 y.args.length k6) := (hBr.cell (p := ⟨b1, off1 + l * 8 + 6, none⟩) hbl1).trans (hcell1 6 _ rfl)
              have e7 : wr.cell? ⟨b1, off1 + l * 8 + 7, none⟩ = some (.slice a7 p k7) := (hBr.cell (p := ⟨b1, off1 + l * 8 + 7, none⟩) hbl1).trans (hcell1 7 _ rfl)
              have hml : (m : Int) - 1 = (l : Int) := by omega
              have hlm : (l : Int) < (m : Int) := by omega
              have hbl1' : b1 < wr.heap.size := Nat.lt_of_lt_of_le hbl1 hBr.size
              have hfy := hfx.out.2.1 y (List.mem_of_getElem? hy)
              have hplen : p ≤ 9223372036854775807 := by rw [hp.out]; exact hfy.2.2.2.2.2.2.2.2.2.2
              replace hfy := Lib.hid hfy
              replace hlab := Lib.hid hlab
              replace hl := Lib.hid hl
              have hbe2 : ∀ a : Array Value, Below wr.heap.size wr (wr.alloc (.cells a 25)) := fun a => (Below.refl _ _).alloc (Nat.le_refl _) _
              have hbrx : ∀ a : Array Value, Below w0.heap.size w0 (wr.alloc (.cells a 25)) := fun a => hbr.trans ((hbe2 a).mono hbr.size)
              have hBrx : ∀ a : Array Value, Below w.heap.size w (wr.alloc (.cells a 25)) := fun a => hBr.trans ((hbe2 a).mono hBr.size)
              clear hcell1 hy ha hcode
              by_cases h20 : p ≤ 20
              · have d5 : decide ((p : Int) > 20) = false := by simp; omega
                go_wp2_with fail
                have hI0 : (wr.alloc (.cells #[.int .u8 y.op, .string y.dst, .string y.a, .string y.b, .int .i64 y.n, .string y.fn, .slice a6 y.args.length k6, .slice a7 p k7] 25)).heap[wr.heap.size]? = some (.cells #[.int .u8 y.op, .string y.dst, .string y.a, .string y.b, .int .i64 y.n, .string y.fn, .slice a6 y.args.length k6, .slice a7 p k7] 25 (0, 0)) := heap_alloc_new _ _
                have hw1 := hbrx #[.int .u8 y.op, .string y.dst, .string y.a, .string y.b, .int .i64 y.n, .string y.fn, .slice a6 y.args.length k6, .slice a7 p k7]
                have hw2 := hBrx #[.int .u8 y.op, .string y.dst, .string y.a, .string y.b, .int .i64 y.n, .string y.fn, .slice a6 y.args.length k6, .slice a7 p k7]
                generalize (wr.alloc (.cells #[.int .u8 y.op, .string y.dst, .string y.a, .string y.b, .int .i64 y.n, .string y.fn, .slice a6 y.args.length k6, .slice a7 p k7] 25)) = w1 at hI0 hw1 hw2 ⊢
                have c7 : w1.cell? ⟨wr.heap.size, 7, none⟩ = some (.slice a7 p k7) := by rw [blk_cell hI0]; rfl
                clear hbrx hBrx hbe2 e0 e1 e2 e3 e4 e5 e6 e7 c0 c1 cF hI0
                go_loopw [6] (fun i wx => ∃ q, q ≤ p ∧ i = .int .i64 q ∧ wx = w1 ∧ Hid (∀ s ∈ y.labels.take q, s.size ≤ 200)) (fun i _ => p - (intOf i).toNat)
                case atStart => exact ⟨0, Nat.zero_le _, rfl, rfl, Lib.hid (fun s hs => by simp at hs)⟩
                case round =>
                  obtain ⟨q, hq, rfl, rfl, hin⟩ := hrel
                  by_cases hltq : q < p
                  · obtain ⟨s, hs⟩ : ∃ s, y.labels[q]? = some s := ⟨_, List.getElem?_eq_getElem (by rw [← hp.out]; exact hltq)⟩
                    obtain ⟨b3, off3, cap3, e3, hbl3, hc3⟩ := Rd.at hlab.out (i := q) (u := .string s) (by simp [hs])
                    simp only [Value.slice.injEq] at e3
                    obtain ⟨rfl, -, rfl⟩ := e3
                    have hc := (hw2.cell (p := ⟨b3, off3 + q, none⟩) hbl3).trans hc3
                    have i3 : (q : Int) < (p : Int) := by omega
                    have htq := Lib.hid (take_snoc hs)
                    clear hs hc3
                    by_cases hs2 : s.size ≤ 200
                    · have d6 : decide ((s.size : Int) > 200) = false := by simp; omega
                      go_wp2_with fail
                      exact ⟨⟨q + 1, by omega, by go_num, by first | rfl | trivial, Lib.hid (by rw [htq.out]; intro z hz; rcases List.mem_append.1 hz with h | h; exact hin.out z h; rw [List.mem_singleton.1 h]; exact hs2)⟩, by simp [intOf]; omega⟩
                    · have d6 : decide ((s.size : Int) > 200) = true := by simp; omega
                      go_wp2_with fail
                      go_ret
                      exact ⟨true, rfl, hw2, fun h => by cases h⟩
                  · obtain rfl : q = p := by omega
                    have i3 : decide ((q : Int) < (q : Int)) = false := by simp
                    have hall2 : Hid (∀ z ∈ d.blocks.take (k + 1), LightB z) := Lib.hid (by
                      rw [htk.out]
                      intro z hz
                      rcases List.mem_append.1 hz with h | h
                      · exact hall.out z h
                      · rw [List.mem_singleton.1 h]
                        refine ⟨h200, by rw [← hm.out]; exact h100, fun u hu => ?_⟩
                        rw [hlast.out] at hu
                        cases hu
                        exact ⟨by rw [← hp.out]; exact h20, fun s hs => hin.out s (by rw [hp.out, List.take_length]; exact hs)⟩)
                    clear hin
                    go_wp2_with fail
                    exact ⟨⟨k + 1, by omega, by go_num, hw1, hall2⟩, by simp [intOf]; omega⟩
              · have d5 : decide ((p : Int) > 20) = true := by simp; omega
                go_wp2_with fail
                go_ret
                exact ⟨true, rfl, hBrx _, fun h => by cases h⟩
          · have d3 : decide ((x.label.size : Int) > 200) = true := by simp; omega
            clear hcode
            go_wp2_with fail
            go_ret
            exact ⟨true, rfl, hBr, fun h => by cases h⟩
        · have d2 : decide ((m : Int) > 100) = true := by simp; omega
          clear hcode
          go_wp2_with fail
          go_ret
          exact ⟨true, rfl, hBr, fun h => by cases h⟩
      · obtain rfl : k = n := by omega
        have i1 : decide ((k : Int) < (k : Int)) = false := by simp
        go_wp2_with fail
        go_ret
        exact ⟨false, rfl, hBr, fun _ => ⟨by rw [← hn.out]; exact h40, by rw [hn.out, List.take_length] at hall; exact hall.out⟩⟩
  · have d1 : decide ((n : Int) > 40) = true := by simp; omega
    go_enter Try.func12, Try.ntmps12
    go_wp2_with fail
    go_ret
    exact ⟨true, rfl, (Below.refl _ _).alloc (Nat.le_refl _) _, fun h => by cases h⟩
end Go.Proofs.Ytedleliddhhacaa
