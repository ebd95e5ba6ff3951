/- names: how often names, labels, variables stand. -/
import Derived.Test.YtjblhiekccjdcaaRNOne1
import Derived.Test.YtjblhiekccjdcaaRNHeavy
namespace Go.Proofs.YtjblhiekccjdcaaR
open Go.RowKit Go.Maps Go.Shelf
attribute [local go_sem] Oper.semAt_some

theorem nameN_succ {P : List Fun} {k : Nat} {x : Fun} {s : ByteArray} (h : P[k]? = some x) : nameN (P.take (k + 1)) s = nameN (P.take k) s + (if x.name = s then 1 else 0) := by
  unfold nameN
  rw [take_snocS h, List.filter_append, List.length_append]
  by_cases e : x.name = s <;> simp [e]
set_option maxHeartbeats 1000000 in
theorem funcs_any {P : List Fun} (hl : P.length ≤ 1000000) {w : World} {v : Value} (h : RdE 3 RdFun w v P) (s : ByteArray) : Calls Try.prog 13 #[.agg #[v], .string s] w fun e w' => e = .returned (.int .i64 (nameN P s)) ∧ Below w.heap.size w w' := by
  obtain ⟨a0, c0, rfl⟩ := h.form
  generalize hA : nameN P s = A
  generalize hn : P.length = n at h hl ⊢
  have hb0 : Below w.heap.size w (w.alloc (.cells #[.slice a0 n c0] 26)) := (Below.refl _ _).alloc (Nat.le_refl _) _
  have hS : (w.alloc (.cells #[.slice a0 n c0] 26)).cell? ⟨w.heap.size, 0, none⟩ = some (.slice a0 n c0) := by rw [blk_cell (at_newN rfl)]; rfl
  replace hA := Lib.hid hA
  replace hn := Lib.hid hn
  replace h := Lib.hid h
  go_enter Try.func13, Try.ntmps13
  go_upto_region 1 with fail
  generalize (w.alloc (.cells #[.slice a0 n c0] 26)) = wb at hb0 hS ⊢
  replace hb0 := Lib.hid hb0
  go_wp2_with fail
  go_loopw [5, 6] (fun q i wr => ∃ k m : Nat, k ≤ n ∧ m ≤ k ∧ i = .int .i64 k ∧ q = .int .i64 m ∧ wr = wb ∧ Hid (nameN (P.take k) s = m)) (fun _ i _ => n - (intOf i).toNat)
  case atStart => exact ⟨0, 0, Nat.zero_le _, Nat.le_refl _, rfl, rfl, rfl, Lib.hid rfl⟩
  case round =>
    obtain ⟨k, m, hk, hm, rfl, rfl, rfl, hN⟩ := hrel
    by_cases hlt : k < n
    · have j1 : decide ((k : Int) < (n : Int)) = true := by simpa using hlt
      have j2 : (k : Int) < (n : Int) := by omega
      obtain ⟨x, hx⟩ : ∃ x, P[k]? = some x := ⟨_, List.getElem?_eq_getElem (by rw [hn.out]; exact hlt)⟩
      obtain ⟨g, off, cap, cs, e, hgl, ⟨vp, vb, rfl, hp, hb⟩, -, hcell⟩ := (RdE.below (fun _ _ h => h.below hb0.out) h.out hb0.out).at hx
      simp only [Value.slice.injEq] at e
      obtain ⟨rfl, -, rfl⟩ := e
      obtain ⟨ap, cp, rfl⟩ := hp.shape
      obtain ⟨ab, cb, rfl⟩ := hb.form
      have c0 : wr.cell? ⟨g, off + k * 3, none⟩ = some (.string x.name) := hcell 0 _ rfl
      have c1 := hcell 1 _ rfl
      have c2 := hcell 2 _ rfl
      have hN2 := Lib.hid (nameN_succ (s := s) hx)
      clear hcell hp hb hx
      by_cases em : x.name = s
      · have e1 : (x.name.toList == s.toList) = true := by rw [em]; simp
        rw [if_pos em] at hN2
        clear em
        go_wp2_with fail
        go_round
        case rel => exact ⟨k + 1, m + 1, by omega, by omega, by go_num, by go_num, by first | rfl | trivial, Lib.hid (by rw [hN2.out, hN.out])⟩
        case measure => simp [intOf]; omega
      · have e1 : (x.name.toList == s.toList) = false := by rw [beq_eq_false_iff_ne]; exact fun e => em (toList_inj e)
        rw [if_neg em] at hN2
        clear em
        go_wp2_with fail
        go_round
        case rel => exact ⟨k + 1, m, by omega, by omega, by go_num, rfl, by first | rfl | trivial, Lib.hid (by rw [hN2.out, hN.out, Nat.add_zero])⟩
        case measure => simp [intOf]; omega
    · obtain rfl : k = n := by omega
      have j1 : decide ((k : Int) < (k : Int)) = false := by simp
      have hfin : Hid (m = A) := Lib.hid (by have := hN.out; rw [List.take_of_length_le (by rw [hn.out]; exact Nat.le_refl _), hA.out] at this; exact this.symm)
      obtain rfl := hfin.out
      go_wp2_with fail
      go_ret
      exact ⟨rfl, hb0.out⟩
theorem lastN_succ {P : List Fun} {k : Nat} {x : Fun} {s : ByteArray} (h : P[k]? = some x) : lastN (P.take (k + 1)) s = if x.name = s then (x.params.length : Int) else lastN (P.take k) s := by
  unfold lastN
  rw [take_snocS h, List.foldl_append]
  rfl
set_option maxHeartbeats 1000000 in
theorem params_any {P : List Fun} (hl : P.length ≤ 1000000) {w : World} {v : Value} (h : RdE 3 RdFun w v P) (s : ByteArray) : Calls Try.prog 17 #[.agg #[v], .string s] w fun e w' => e = .returned (.int .i64 (lastN P s)) ∧ Below w.heap.size w w' := by
  obtain ⟨a0, c0, rfl⟩ := h.form
  generalize hA : lastN P s = A
  generalize hn : P.length = n at h hl ⊢
  have hb0 : Below w.heap.size w (w.alloc (.cells #[.slice a0 n c0] 26)) := (Below.refl _ _).alloc (Nat.le_refl _) _
  have hS : (w.alloc (.cells #[.slice a0 n c0] 26)).cell? ⟨w.heap.size, 0, none⟩ = some (.slice a0 n c0) := by rw [blk_cell (at_newN rfl)]; rfl
  replace hA := Lib.hid hA
  replace hn := Lib.hid hn
  replace h := Lib.hid h
  go_enter Try.func17, Try.ntmps17
  go_upto_region 1 with fail
  generalize (w.alloc (.cells #[.slice a0 n c0] 26)) = wb at hb0 hS ⊢
  replace hb0 := Lib.hid hb0
  go_wp2_with fail
  go_loopw [5, 6] (fun q i wr => ∃ (k : Nat) (m : Int), k ≤ n ∧ i = .int .i64 k ∧ q = .int .i64 m ∧ wr = wb ∧ Hid (lastN (P.take k) s = m)) (fun _ i _ => n - (intOf i).toNat)
  case atStart => exact ⟨0, -1, Nat.zero_le _, rfl, rfl, rfl, Lib.hid rfl⟩
  case round =>
    obtain ⟨k, m, hk, rfl, rfl, rfl, hN⟩ := hrel
    by_cases hlt : k < n
    · have j1 : decide ((k : Int) < (n : Int)) = true := by simpa using hlt
      have j2 : (k : Int) < (n : Int) := by omega
      obtain ⟨x, hx⟩ : ∃ x, P[k]? = some x := ⟨_, List.getElem?_eq_getElem (by rw [hn.out]; exact hlt)⟩
      obtain ⟨g, off, cap, cs, e, hgl, ⟨vp, vb, rfl, hp, hb⟩, -, hcell⟩ := (RdE.below (fun _ _ h => h.below hb0.out) h.out hb0.out).at hx
      simp only [Value.slice.injEq] at e
      obtain ⟨rfl, -, rfl⟩ := e
      obtain ⟨ap, cp, rfl⟩ := hp.shape
      obtain ⟨ab, cb, rfl⟩ := hb.form
      have c0 : wr.cell? ⟨g, off + k * 3, none⟩ = some (.string x.name) := hcell 0 _ rfl
      have c1 := hcell 1 _ rfl
      have c2 := hcell 2 _ rfl
      have hN2 := Lib.hid (lastN_succ (s := s) hx)
      clear hcell hp hb hx
      by_cases em : x.name = s
      · have e1 : (x.name.toList == s.toList) = true := by rw [em]; simp
        rw [if_pos em] at hN2
        clear em
        go_wp2_with fail
        go_round
        case rel => exact ⟨k + 1, x.params.length, by omega, by go_num, rfl, by first | rfl | trivial, hN2⟩
        case measure => simp [intOf]; omega
      · have e1 : (x.name.toList == s.toList) = false := by rw [beq_eq_false_iff_ne]; exact fun e => em (toList_inj e)
        rw [if_neg em] at hN2
        clear em
        go_wp2_with fail
        go_round
        case rel => exact ⟨k + 1, m, by omega, by go_num, rfl, by first | rfl | trivial, Lib.hid (by rw [hN2.out, hN.out])⟩
        case measure => simp [intOf]; omega
    · obtain rfl : k = n := by omega
      have j1 : decide ((k : Int) < (k : Int)) = false := by simp
      have hfin : Hid (m = A) := Lib.hid (by have := hN.out; rw [List.take_of_length_le (by rw [hn.out]; exact Nat.le_refl _), hA.out] at this; exact this.symm)
      obtain rfl := hfin.out
      go_wp2_with fail
      go_ret
      exact ⟨rfl, hb0.out⟩
theorem lblC_succ {l : List Blk} {k : Nat} {x : Blk} {s : ByteArray} (h : l[k]? = some x) : ((l.take (k + 1)).filter (fun x => decide (x.label = s))).length = ((l.take k).filter (fun x => decide (x.label = s))).length + (if x.label = s then 1 else 0) := by
  rw [take_snocS h, List.filter_append, List.length_append]
  by_cases e : x.label = s <;> simp [e]
set_option maxHeartbeats 1000000 in
theorem blocks_any {d : Fun} (hl : d.blocks.length ≤ 1000000) {w : World} {vp v : Value} (h : RdE 2 RdBlk w v d.blocks) (hv : ∃ a n c, vp = .slice a n c) (s : ByteArray) : Calls Try.prog 14 #[.agg #[.string d.name, vp, v], .string s] w fun e w' => e = .returned (.int .i64 (lblC d s)) ∧ Below w.heap.size w w' := by
  obtain ⟨a0, c0, rfl⟩ := h.form
  obtain ⟨av, nv, cv, rfl⟩ := hv
  generalize hA : lblC d s = A
  generalize hn : d.blocks.length = n at h hl ⊢
  have hb0 : Below w.heap.size w (w.alloc (.cells #[.string d.name, .slice av nv cv, .slice a0 n c0] 39)) := (Below.refl _ _).alloc (Nat.le_refl _) _
  have hS : (w.alloc (.cells #[.string d.name, .slice av nv cv, .slice a0 n c0] 39)).cell? ⟨w.heap.size, 2, none⟩ = some (.slice a0 n c0) := by rw [blk_cell (at_newN rfl)]; rfl
  replace hA := Lib.hid hA
  replace hn := Lib.hid hn
  replace h := Lib.hid h
  go_enter Try.func14, Try.ntmps14
  go_upto_region 1 with fail
  generalize (w.alloc (.cells #[.string d.name, .slice av nv cv, .slice a0 n c0] 39)) = wb at hb0 hS ⊢
  replace hb0 := Lib.hid hb0
  go_wp2_with fail
  go_loopw [5, 6] (fun q i wr => ∃ k m : Nat, k ≤ n ∧ m ≤ k ∧ i = .int .i64 k ∧ q = .int .i64 m ∧ wr = wb ∧ Hid (((d.blocks.take k).filter (fun x => decide (x.label = s))).length = m)) (fun _ i _ => n - (intOf i).toNat)
  case atStart => exact ⟨0, 0, Nat.zero_le _, Nat.le_refl _, rfl, rfl, rfl, Lib.hid rfl⟩
  case round =>
    obtain ⟨k, m, hk, hm, rfl, rfl, rfl, hN⟩ := hrel
    by_cases hlt : k < n
    · have j1 : decide ((k : Int) < (n : Int)) = true := by simpa using hlt
      have j2 : (k : Int) < (n : Int) := by omega
      obtain ⟨x, hx⟩ : ∃ x, d.blocks[k]? = some x := ⟨_, List.getElem?_eq_getElem (by rw [hn.out]; exact hlt)⟩
      obtain ⟨g, off, cap, cs, e, hgl, ⟨vc, rfl, hb⟩, -, hcell⟩ := (RdE.below (fun _ _ h => h.below hb0.out) h.out hb0.out).at hx
      simp only [Value.slice.injEq] at e
      obtain ⟨rfl, -, rfl⟩ := e
      obtain ⟨ab, cb, rfl⟩ := hb.form
      have c0 : wr.cell? ⟨g, off + k * 2, none⟩ = some (.string x.label) := hcell 0 _ rfl
      have c1 := hcell 1 _ rfl
      have hN2 := Lib.hid (lblC_succ (s := s) hx)
      clear hcell hb hx
      by_cases em : x.label = s
      · have e1 : (x.label.toList == s.toList) = true := by rw [em]; simp
        rw [if_pos em] at hN2
        clear em
        go_wp2_with fail
        go_round
        case rel => exact ⟨k + 1, m + 1, by omega, by omega, by go_num, by go_num, by first | rfl | trivial, Lib.hid (by rw [hN2.out, hN.out])⟩
        case measure => simp [intOf]; omega
      · have e1 : (x.label.toList == s.toList) = false := by rw [beq_eq_false_iff_ne]; exact fun e => em (toList_inj e)
        rw [if_neg em] at hN2
        clear em
        go_wp2_with fail
        go_round
        case rel => exact ⟨k + 1, m, by omega, by omega, by go_num, rfl, by first | rfl | trivial, Lib.hid (by rw [hN2.out, hN.out, Nat.add_zero])⟩
        case measure => simp [intOf]; omega
    · obtain rfl : k = n := by omega
      have j1 : decide ((k : Int) < (k : Int)) = false := by simp
      have hfin : Hid (m = A) := Lib.hid (by have := hN.out; rw [List.take_of_length_le (by rw [hn.out]; exact Nat.le_refl _)] at this; rw [← hA.out, ← this]; rfl)
      obtain rfl := hfin.out
      go_wp2_with fail
      go_ret
      exact ⟨rfl, hb0.out⟩
end Go.Proofs.YtjblhiekccjdcaaR
namespace Go.Proofs.YtjblhiekccjdcaaR
open Go.RowKit Go.Maps Go.Shelf
attribute [local go_sem] Oper.semAt_some

def cntS (l : List ByteArray) (s : ByteArray) : Nat := (l.filter (fun x => decide (x = s))).length
theorem cntS_app (a b : List ByteArray) (s : ByteArray) : cntS (a ++ b) s = cntS a s + cntS b s := by unfold cntS; rw [List.filter_append, List.length_append]
theorem cntS_succ {l : List ByteArray} {k : Nat} {x s : ByteArray} (h : l[k]? = some x) : cntS (l.take (k + 1)) s = cntS (l.take k) s + (if x = s then 1 else 0) := by
  rw [take_snocS h, cntS_app]
  unfold cntS
  by_cases e : x = s <;> simp [e]
def dstB (l : List Blk) : List ByteArray := l.flatMap (fun x => x.code.map (·.dst))
theorem dstB_succ {l : List Blk} {k : Nat} {x : Blk} (h : l[k]? = some x) : dstB (l.take (k + 1)) = dstB (l.take k) ++ x.code.map (·.dst) := by
  unfold dstB
  rw [take_snocS h, List.flatMap_append, List.flatMap_singleton]
theorem dstC_succ {l : List Ins} {k : Nat} {x : Ins} {s : ByteArray} (h : l[k]? = some x) : cntS ((l.take (k + 1)).map (·.dst)) s = cntS ((l.take k).map (·.dst)) s + (if x.dst = s then 1 else 0) := by
  rw [take_snocS h, List.map_append, cntS_app]
  unfold cntS
  by_cases e : x.dst = s <;> simp [e]
set_option maxRecDepth 20000 in
set_option maxHeartbeats 4000000 in
theorem defs_any {d : Fun} (hd : LightF d) {w : World} {vp vb : Value} (hp : RdS w vp d.params) (h : RdE 2 RdBlk w vb d.blocks) (s : ByteArray) : Calls Try.prog 15 #[.agg #[.string d.name, vp, vb], .string s] w fun e w' => e = .returned (.int .i64 (defN d s)) ∧ Below w.heap.size w w' := by
  obtain ⟨ap, cp, rfl⟩ := hp.shape
  obtain ⟨ab, cb, rfl⟩ := h.form
  obtain ⟨hd1, hd2, hd3⟩ := hd
  obtain ⟨np, hnp⟩ : ∃ n, n = d.params.length := ⟨_, rfl⟩
  obtain ⟨nb, hnb⟩ : ∃ n, n = d.blocks.length := ⟨_, rfl⟩
  rw [← hnp] at hp hd1 ⊢
  rw [← hnb] at h hd2 ⊢
  obtain ⟨A, hA⟩ : ∃ A, A = defN d s := ⟨_, rfl⟩
  rw [← hA]
  have hb0 : Below w.heap.size w (w.alloc (.cells #[.string d.name, .slice ap np cp, .slice ab nb cb] 39)) := (Below.refl _ _).alloc (Nat.le_refl _) _
  have hS1 : (w.alloc (.cells #[.string d.name, .slice ap np cp, .slice ab nb cb] 39)).cell? ⟨w.heap.size, 1, none⟩ = some (.slice ap np cp) := by rw [blk_cell (at_newN rfl)]; rfl
  have hS2 : (w.alloc (.cells #[.string d.name, .slice ap np cp, .slice ab nb cb] 39)).cell? ⟨w.heap.size, 2, none⟩ = some (.slice ab nb cb) := by rw [blk_cell (at_newN rfl)]; rfl
  replace hA := Lib.hid hA
  replace hnp := Lib.hid hnp
  replace hnb := Lib.hid hnb
  replace h := Lib.hid h
  replace hp := Lib.hid hp
  replace hd3 := Lib.hid hd3
  go_enter Try.func15, Try.ntmps15
  go_upto_region 1 with fail
  generalize (w.alloc (.cells #[.string d.name, .slice ap np cp, .slice ab nb cb] 39)) = wb at hb0 hS1 hS2 ⊢
  replace hb0 := Lib.hid hb0
  go_wp2_with fail
  go_loopw [5, 6] (fun q i wr => ∃ k m : Nat, k ≤ np ∧ m ≤ k ∧ i = .int .i64 k ∧ q = .int .i64 m ∧ wr = wb ∧ Hid (cntS (d.params.take k) s = m)) (fun _ i _ => np - (intOf i).toNat)
  case atStart => exact ⟨0, 0, Nat.zero_le _, Nat.le_refl _, rfl, rfl, rfl, Lib.hid rfl⟩
  case round =>
    obtain ⟨k, m, hk, hm, rfl, rfl, rfl, hN⟩ := hrel
    by_cases hlt : k < np
    · have j1 : decide ((k : Int) < (np : Int)) = true := by simpa using hlt
      have j2 : (k : Int) < (np : Int) := by omega
      obtain ⟨x, hx⟩ : ∃ x, d.params[k]? = some x := ⟨_, List.getElem?_eq_getElem (by rw [← hnp.out]; exact hlt)⟩
      obtain ⟨b, off, cap, e, hc⟩ := RdS.cell (Rd.below hp.out hb0.out) hx
      rw [← hnp.out] at e
      simp only [Value.slice.injEq] at e
      obtain ⟨rfl, -, rfl⟩ := e
      have hN2 := Lib.hid (cntS_succ (s := s) hx)
      clear hx
      by_cases em : x = s
      · have e1 : (x.toList == s.toList) = true := by rw [em]; simp
        rw [if_pos em] at hN2
        clear em
        go_wp2_with fail
        go_round
        case rel => exact ⟨k + 1, m + 1, by omega, by omega, by go_num, by go_num, by first | rfl | trivial, Lib.hid (by rw [hN2.out, hN.out])⟩
        case measure => simp [intOf]; omega
      · have e1 : (x.toList == s.toList) = false := by rw [beq_eq_false_iff_ne]; exact fun e => em (toList_inj e)
        rw [if_neg em] at hN2
        clear em
        go_wp2_with fail
        go_round
        case rel => exact ⟨k + 1, m, by omega, by omega, by go_num, rfl, by first | rfl | trivial, Lib.hid (by rw [hN2.out, hN.out, Nat.add_zero])⟩
        case measure => simp [intOf]; omega
    · obtain rfl : k = np := by omega
      have j1 : decide ((k : Int) < (k : Int)) = false := by simp
      have hP : Hid (cntS d.params s = m) := Lib.hid (by have := hN.out; rwa [List.take_of_length_le (by rw [← hnp.out]; exact Nat.le_refl _)] at this)
      have hm20 : m ≤ 20 := by omega
      clear hN hlt hk
      go_wp2_with fail
      clear j1
      go_loopw [5, 7, 8] (fun q i _ wr2 => ∃ k2 m2 : Nat, k2 ≤ nb ∧ m2 ≤ 20 + 200 * k2 ∧ i = .int .i64 k2 ∧ q = .int .i64 m2 ∧ wr2 = wr ∧ Hid (m + cntS (dstB (d.blocks.take k2)) s = m2)) (fun _ i _ _ => nb - (intOf i).toNat)
      case atStart => exact ⟨0, m, Nat.zero_le _, by omega, rfl, rfl, by first | rfl | trivial, Lib.hid rfl⟩
      case round =>
        obtain ⟨k2, m2, hk2, hm2, rfl, rfl, rfl, hN⟩ := hrel
        by_cases hlt : k2 < nb
        · have j1 : decide ((k2 : Int) < (nb : Int)) = true := by simpa using hlt
          have j2 : (k2 : Int) < (nb : Int) := by omega
          obtain ⟨x, hx⟩ : ∃ x, d.blocks[k2]? = some x := ⟨_, List.getElem?_eq_getElem (by rw [← hnb.out]; exact hlt)⟩
          obtain ⟨g, off, cap, cs, e, hgl, ⟨vc, rfl, hb⟩, -, hcell⟩ := (RdE.below (fun _ _ h => h.below hb0.out) h.out hb0.out).at hx
          rw [← hnb.out] at e
          simp only [Value.slice.injEq] at e
          obtain ⟨rfl, -, rfl⟩ := e
          obtain ⟨ac, cc, rfl⟩ := hb.form
          have c0 := hcell 0 _ rfl
          have c1 := hcell 1 _ rfl
          have hlc := hd3.out x (List.mem_of_getElem? hx)
          have hlc1 := hlc.1
          have hN2 := Lib.hid (dstB_succ hx)
          clear hcell hx hlc
          obtain ⟨nc, hnc⟩ : ∃ n, n = x.code.length := ⟨_, rfl⟩
          rw [← hnc] at hlc1 c1 hb
          replace hb := Lib.hid hb
          replace hnc := Lib.hid hnc
          go_wp2_with fail
          go_loopw [5, 8] (fun q i wr3 => ∃ k3 m3 : Nat, k3 ≤ nc ∧ m3 ≤ 20 + 200 * k2 + k3 ∧ i = .int .i64 k3 ∧ q = .int .i64 m3 ∧ wr3 = wr ∧ Hid (m2 + cntS ((x.code.take k3).map (·.dst)) s = m3)) (fun _ i _ => nc - (intOf i).toNat)
          case atStart => exact ⟨0, m2, Nat.zero_le _, by omega, rfl, rfl, by first | rfl | trivial, Lib.hid rfl⟩
          case round =>
            obtain ⟨k3, m3, hk3, hm3, rfl, rfl, rfl, hN3⟩ := hrel
            by_cases hlt3 : k3 < nc
            · have i1 : decide ((k3 : Int) < (nc : Int)) = true := by simpa using hlt3
              have i2 : (k3 : Int) < (nc : Int) := by omega
              obtain ⟨y, hy⟩ : ∃ y, x.code[k3]? = some y := ⟨_, List.getElem?_eq_getElem (by rw [← hnc.out]; exact hlt3)⟩
              obtain ⟨g2, off2, cap2, cs2, e, hgl2, ⟨va, vl, rfl, ra, rl⟩, -, hcell⟩ := hb.out.at hy
              rw [← hnc.out] at e
              simp only [Value.slice.injEq] at e
              obtain ⟨rfl, -, rfl⟩ := e
              have d1 : wr.cell? ⟨g2, off2 + k3 * 8 + 1, none⟩ = some (.string y.dst) := hcell 1 _ rfl
              have hN4 := Lib.hid (dstC_succ (s := s) hy)
              clear hcell hy ra rl
              by_cases em : y.dst = s
              · have e1 : (y.dst.toList == s.toList) = true := by rw [em]; simp
                rw [if_pos em] at hN4
                clear em
                go_wp2_with fail
                go_round
                case rel => exact ⟨k3 + 1, m3 + 1, by omega, by omega, by go_num, by go_num, by first | rfl | trivial, Lib.hid (by have := hN3.out; rw [hN4.out]; omega)⟩
                case measure => simp [intOf]; omega
              · have e1 : (y.dst.toList == s.toList) = false := by rw [beq_eq_false_iff_ne]; exact fun e => em (toList_inj e)
                rw [if_neg em] at hN4
                clear em
                go_wp2_with fail
                go_round
                case rel => exact ⟨k3 + 1, m3, by omega, by omega, by go_num, rfl, by first | rfl | trivial, Lib.hid (by have := hN3.out; rw [hN4.out]; omega)⟩
                case measure => simp [intOf]; omega
            · obtain rfl : k3 = nc := by omega
              have i1 : decide ((k3 : Int) < (k3 : Int)) = false := by simp
              have hfin : Hid (m + cntS (dstB (d.blocks.take (k2 + 1))) s = m3) := Lib.hid (by
                have h1 := hN3.out
                have h2 := hN.out
                rw [List.take_of_length_le (by rw [← hnc.out]; exact Nat.le_refl _)] at h1
                rw [hN2.out, cntS_app]
                omega)
              go_wp2_with fail
              go_round
              case rel => exact ⟨k2 + 1, m3, by omega, by omega, by go_num, rfl, by first | rfl | trivial, hfin⟩
              case measure => simp [intOf]; omega
        · obtain rfl : k2 = nb := by omega
          have j1 : decide ((k2 : Int) < (k2 : Int)) = false := by simp
          have hfin : Hid (m2 = A) := Lib.hid (by
            have h1 := hN.out
            have h2 := hP.out
            rw [List.take_of_length_le (by rw [← hnb.out]; exact Nat.le_refl _)] at h1
            rw [hA.out, ← h1, ← h2]
            rfl)
          obtain rfl := hfin.out
          go_wp2_with fail
          go_ret
          exact ⟨rfl, hb0.out⟩
end Go.Proofs.YtjblhiekccjdcaaR
namespace Go.Proofs.YtjblhiekccjdcaaR
open Go.RowKit Go.Maps Go.Shelf
attribute [local go_sem] Oper.semAt_some

set_option maxHeartbeats 1000000 in
theorem used_ok {d : Fun} (hd : LightF d) {w : World} {vp vb : Value} (hp : RdS w vp d.params) (h : RdE 2 RdBlk w vb d.blocks) {s : ByteArray} (hs : okU d s) : Calls Try.prog 16 #[.agg #[.string d.name, vp, vb], .string s] w fun e w' => e = .returned (.bool true) ∧ Below w.heap.size w w' := by
  obtain ⟨ap, cp, rfl⟩ := hp.shape
  obtain ⟨ab, cb, rfl⟩ := h.form
  obtain ⟨np, hnp⟩ : ∃ n, n = d.params.length := ⟨_, rfl⟩
  obtain ⟨nb, hnb⟩ : ∃ n, n = d.blocks.length := ⟨_, rfl⟩
  rw [← hnp] at hp ⊢
  rw [← hnb] at h ⊢
  have hb0 : Below w.heap.size w (w.alloc (.cells #[.string d.name, .slice ap np cp, .slice ab nb cb] 39)) := (Below.refl _ _).alloc (Nat.le_refl _) _
  have hS0 : (w.alloc (.cells #[.string d.name, .slice ap np cp, .slice ab nb cb] 39)).cell? ⟨w.heap.size, 0, none⟩ = some (.string d.name) := by rw [blk_cell (at_newN rfl)]; rfl
  have hS1 : (w.alloc (.cells #[.string d.name, .slice ap np cp, .slice ab nb cb] 39)).cell? ⟨w.heap.size, 1, none⟩ = some (.slice ap np cp) := by rw [blk_cell (at_newN rfl)]; rfl
  have hS2 : (w.alloc (.cells #[.string d.name, .slice ap np cp, .slice ab nb cb] 39)).cell? ⟨w.heap.size, 2, none⟩ = some (.slice ab nb cb) := by rw [blk_cell (at_newN rfl)]; rfl
  have hdf := Lib.hid (fun w' (hb : Below w.heap.size w w') => by rw [hnp] at hp; rw [hnb] at h; exact defs_any hd (Rd.below hp hb) (RdE.below (fun _ _ h => h.below hb) h hb) s)
  rw [← hnp, ← hnb] at hdf
  replace hnp := Lib.hid hnp
  replace hnb := Lib.hid hnb
  clear h hp hd
  by_cases h1 : s.toList.isEmpty = true
  · go_enter Try.func16, Try.ntmps16
    go_wp2_with fail
    go_ret
    exact ⟨rfl, hb0⟩
  have h1 : s.toList.isEmpty = false := by simpa using h1
  by_cases h2 : isNull s = true
  · have h2 : (s.toList == [110, 117, 108, 108]) = true := h2
    go_enter Try.func16, Try.ntmps16
    go_wp2_with fail
    go_ret
    exact ⟨rfl, hb0⟩
  have h3 : defN d s = 1 := by
    rcases hs with h | h | h
    · rw [h] at h1; cases h1
    · exact absurd h h2
    · exact h
  have h2 : (s.toList == [110, 117, 108, 108]) = false := by simpa [isNull] using h2
  rw [h3] at hdf
  clear hs h3
  go_enter Try.func16, Try.ntmps16
  go_wp2_with (first | (go_at_call 15; refine (hdf.out _ hb0).mono ?_; rintro e w2 ⟨rfl, hb2⟩) | fail)
  go_ret
  exact ⟨rfl, hb0.trans (hb2.mono hb0.size)⟩
end Go.Proofs.YtjblhiekccjdcaaR
