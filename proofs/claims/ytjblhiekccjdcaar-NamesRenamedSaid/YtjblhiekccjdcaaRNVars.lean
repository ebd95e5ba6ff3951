/- names: the variables of a function. -/
import Derived.Test.YtjblhiekccjdcaaRNUsed
namespace Go.Proofs.YtjblhiekccjdcaaR
open Go.RowKit Go.Maps Go.Shelf

def varsP (s : List ByteArray) (l : List ByteArray) : List ByteArray := l.foldl plusS s
def varsC (s : List ByteArray) (l : List Ins) : List ByteArray := l.foldl (fun s c => plusS s c.dst) s
def varsB (s : List ByteArray) (l : List Blk) : List ByteArray := l.foldl (fun s x => varsC s x.code) s
/-- The variables of a function. -/
def varsL (d : Fun) : List ByteArray := varsB (varsP [] d.params) d.blocks
theorem varsP_succ {s l : List ByteArray} {k : Nat} {x : ByteArray} (h : l[k]? = some x) : varsP s (l.take (k + 1)) = plusS (varsP s (l.take k)) x := by
  unfold varsP
  rw [take_snocS h, List.foldl_append]
  rfl
theorem varsC_succ {s : List ByteArray} {l : List Ins} {k : Nat} {x : Ins} (h : l[k]? = some x) : varsC s (l.take (k + 1)) = plusS (varsC s (l.take k)) x.dst := by
  unfold varsC
  rw [take_snocS h, List.foldl_append]
  rfl
theorem varsB_succ {s : List ByteArray} {l : List Blk} {k : Nat} {x : Blk} (h : l[k]? = some x) : varsB s (l.take (k + 1)) = varsC (varsB s (l.take k)) x.code := by
  unfold varsB
  rw [take_snocS h, List.foldl_append]
  rfl
theorem varsP_len : ∀ (l s : List ByteArray), (varsP s l).length ≤ s.length + l.length
  | [], s => by simp [varsP]
  | x :: l, s => by
    have h1 := varsP_len l (plusS s x)
    have h2 := plusS_len s x
    have e : varsP s (x :: l) = varsP (plusS s x) l := rfl
    rw [e]
    simp
    omega
theorem varsC_len : ∀ (l : List Ins) (s : List ByteArray), (varsC s l).length ≤ s.length + l.length
  | [], s => by simp [varsC]
  | x :: l, s => by
    have h1 := varsC_len l (plusS s x.dst)
    have h2 := plusS_len s x.dst
    have e : varsC s (x :: l) = varsC (plusS s x.dst) l := rfl
    rw [e]
    simp
    omega
theorem varsB_len {m : Nat} : ∀ (l : List Blk) (s : List ByteArray), (∀ x ∈ l, x.code.length ≤ m) → (varsB s l).length ≤ s.length + l.length * m
  | [], s, _ => by simp [varsB]
  | x :: l, s, h => by
    have h1 := varsB_len l (varsC s x.code) (fun y hy => h y (List.mem_cons_of_mem _ hy))
    have h2 := varsC_len x.code s
    have h3 := h x (List.mem_cons_self ..)
    have e : varsB s (x :: l) = varsB (varsC s x.code) l := rfl
    rw [e, List.length_cons, Nat.succ_mul]
    omega
set_option maxRecDepth 20000 in
set_option maxHeartbeats 4000000 in
theorem variables_any {w : World} {b o : Nat} {d : Fun} (h : FunAt w b o d) (hf : d.Fits) (hpl : d.params.length ≤ 1000000) (hbl : d.blocks.length ≤ 1000000) (hcl : ∀ x ∈ d.blocks, x.code.length ≤ 1000000) :
    Calls Try.prog 68 #[.pointer (some ⟨b, o, none⟩)] w fun e w' => ∃ bm, e = .returned (.map (some bm)) ∧ w.heap.size ≤ bm ∧ SetS w' bm (varsL d) ∧ Below w.heap.size w w' := by
  obtain ⟨-, vp, vb, hP, hBk, -, c1, c2⟩ := h
  obtain ⟨pa, pc, rfl⟩ := hP.shape
  obtain ⟨ba, bc, rfl⟩ := hBk.form
  have hfp := Lib.hid hf.2.1
  have hfb := Lib.hid hf.2.2.1
  obtain ⟨n, hn⟩ : ∃ n, n = d.params.length := ⟨_, rfl⟩
  obtain ⟨q, hq⟩ : ∃ q, q = d.blocks.length := ⟨_, rfl⟩
  rw [← hn] at hP c1 hpl
  rw [← hq] at hBk c2 hbl
  have hcw := Lib.hid (fun w' (hB : Below w.heap.size w w') => (⟨keepC hB c1, keepC hB c2⟩ : w'.cell? ⟨b, o + 1, none⟩ = some (.slice pa n pc) ∧ w'.cell? ⟨b, o + 2, none⟩ = some (.slice ba q bc)))
  have hmm := @run_makeMap Try.prog
  have hB0 : Below w.heap.size w (w.alloc (.map #[] 0)) := box_below _ _
  have hM0 := SetS.new w
  have hvL := Lib.hid (show varsB (varsP [] d.params) d.blocks = varsL d from rfl)
  have e1 := (hcw.out _ hB0).1
  have hge : w.heap.size ≤ w.heap.size := Nat.le_refl _
  replace hP := Lib.hid hP
  replace hBk := Lib.hid hBk
  replace hn := Lib.hid hn
  replace hq := Lib.hid hq
  replace hcl := Lib.hid hcl
  replace hB0 := Lib.hid hB0
  replace hM0 := Lib.hid hM0
  clear c1 c2 hf
  go_enter Try.func68, Try.ntmps68
  go_wp2_with fail
  generalize (w.alloc (.map #[] 0)) = w0 at hB0 hM0 e1 ⊢
  clear e1
  obtain ⟨bm, hbm⟩ : ∃ bm, bm = w.heap.size := ⟨_, rfl⟩
  rw [← hbm] at hM0 ⊢
  replace hge : w.heap.size ≤ bm := by omega
  replace hbm := Lib.hid hbm
  clear hmm
  go_loopw [5, 16] (fun _ i wr => ∃ k : Nat, k ≤ n ∧ i = .int .i64 k ∧ Hid (SetS wr bm (varsP [] (d.params.take k))) ∧ Hid (Below w.heap.size w wr)) (fun _ i _ => n - (intOf i).toNat)
  case atStart => exact ⟨0, Nat.zero_le _, rfl, hM0, hB0⟩
  case round =>
    clear hM0 hB0
    obtain ⟨k, hk, rfl, hM, hB⟩ := hrel
    by_cases hlt : k < n
    · have j1 : decide ((k : Int) < (n : Int)) = true := by simpa using hlt
      have j2 : (k : Int) < (n : Int) := by omega
      obtain ⟨s, hs⟩ : ∃ s, d.params[k]? = some s := ⟨_, List.getElem?_eq_getElem (by rw [← hn.out]; exact hlt)⟩
      obtain ⟨g, off, cap, e, hc⟩ := RdS.cell (Rd.below hP.out hB.out) hs
      rw [← hn.out] at e
      simp only [Value.slice.injEq] at e
      obtain ⟨rfl, -, rfl⟩ := e
      have hsz := hfp.out s (List.mem_of_getElem? hs)
      have hat := Lib.hid (varsP_succ (s := []) hs)
      have hll : (varsP [] (d.params.take k)).length ≤ n := by have := varsP_len (d.params.take k) []; rw [List.length_take] at this; simp at this; omega
      clear hs
      go_wp2_with (at_mapUpdate; refine wpList_setS_put rfl _ _ _ rfl bm _ hM.out rfl s rfl rfl hsz (by omega) ?_; intro w3 hM3 hT3; go_frame)
      rw [← hat.out] at hM3
      have hB3 := Lib.hid (hB.out.trans (hT3.below hB.out.size (fun k hk e => by omega)))
      replace hM3 := Lib.hid hM3
      clear hT3 hM hB hat
      go_wp2_with fail
      exact ⟨⟨k + 1, by omega, by go_num, hM3, hB3⟩, by simp [intOf]; omega⟩
    · obtain rfl : k = n := by omega
      have j1 : decide ((k : Int) < (k : Int)) = false := by simp
      have hE : d.params.take k = d.params := List.take_of_length_le (by rw [← hn.out]; exact Nat.le_refl _)
      rw [hE] at hM
      have e2 := (hcw.out wr hB.out).2
      have hM5 : Hid (SetS wr bm (varsB (varsP [] d.params) (d.blocks.take 0))) := hM
      have hPl : (varsP [] d.params).length ≤ 1000000 := by have := varsP_len d.params []; rw [← hn.out] at this; simp at this; omega
      replace hvL : Hid (varsB (varsP [] d.params) d.blocks = varsL d) := hvL
      generalize varsP [] d.params = s0 at hM5 hPl hvL
      clear hM hE
      go_wp2_with fail
      clear e2
      go_loopw [7, 9, 29] (fun _ _ i wx => ∃ k : Nat, k ≤ q ∧ i = .int .i64 k ∧ Hid (SetS wx bm (varsB s0 (d.blocks.take k))) ∧ Hid (Below w.heap.size w wx)) (fun _ _ i _ => q - (intOf i).toNat)
      case atStart => exact ⟨0, Nat.zero_le _, rfl, hM5, hB⟩
      case round =>
        clear hM5 hB
        obtain ⟨k2, hk2, rfl, hM, hB⟩ := hrel
        by_cases hlt : k2 < q
        · have j3 : decide ((k2 : Int) < (q : Int)) = true := by simpa using hlt
          have j4 : (k2 : Int) < (q : Int) := by omega
          obtain ⟨x, hx⟩ : ∃ x, d.blocks[k2]? = some x := ⟨_, List.getElem?_eq_getElem (by rw [← hq.out]; exact hlt)⟩
          obtain ⟨g, off, cap, cs, e, hgl, ⟨vc, rfl, rc⟩, -, hc⟩ := RdE.at hBk.out hx
          obtain ⟨ca, cc, rfl⟩ := rc.form
          rw [← hq.out] at e
          simp only [Value.slice.injEq] at e
          obtain ⟨rfl, -, rfl⟩ := e
          have c0 : wr.cell? ⟨g, off + k2 * 2, none⟩ = some (.string x.label) := keepC hB.out (hc 0 _ rfl)
          have c1 := keepC hB.out (hc 1 _ rfl)
          have hxm := List.mem_of_getElem? hx
          have hat := Lib.hid (varsB_succ (s := s0) hx)
          obtain ⟨z, hz⟩ : ∃ z, z = x.code.length := ⟨_, rfl⟩
          have hzl : z ≤ 1000000 := by rw [hz]; exact hcl.out x hxm
          rw [← hz] at rc c1
          have hfx := Lib.hid (hfb.out x hxm)
          have hll : (varsB s0 (d.blocks.take k2)).length ≤ 1000000 + k2 * 1000000 := by
            have h1 := varsB_len (m := 1000000) (d.blocks.take k2) s0 (fun y hy => hcl.out y (List.mem_of_mem_take hy))
            rw [List.length_take] at h1
            have h2 : min k2 d.blocks.length * 1000000 ≤ k2 * 1000000 := Nat.mul_le_mul_right _ (Nat.min_le_left _ _)
            omega
          have hB1 := Lib.hid (hB.out.alloc hB.out.size (.cells #[.string x.label, .slice ca z cc] 43))
          have hM1 : Hid (SetS (wr.alloc (.cells #[.string x.label, .slice ca z cc] 43)) bm (varsC (varsB s0 (d.blocks.take k2)) (x.code.take 0))) := Lib.hid (hM.out.block (Below.heap_alloc _ _ _ hM.out.lt))
          have hRC := Lib.hid rc
          generalize hs1 : varsB s0 (d.blocks.take k2) = s1 at hM1 hll hat
          replace hz := Lib.hid hz
          replace hs1 := Lib.hid hs1
          clear hc rc hxm hx hM hB
          go_wp2_with fail
          clear c0 c1
          generalize (wr.alloc (.cells #[.string x.label, .slice ca z cc] 43)) = w1 at hB1 hM1 ⊢
          go_loopw [9, 36] (fun _ i wx => ∃ k : Nat, k ≤ z ∧ i = .int .i64 k ∧ Hid (SetS wx bm (varsC s1 (x.code.take k))) ∧ Hid (Below w.heap.size w wx) ) (fun _ i _ => z - (intOf i).toNat)
          case atStart => exact ⟨0, Nat.zero_le _, rfl, hM1, hB1⟩
          case round =>
            clear hM1 hB1
            obtain ⟨k3, hk3, rfl, hM, hB⟩ := hrel
            by_cases hlt : k3 < z
            · have j5 : decide ((k3 : Int) < (z : Int)) = true := by simpa using hlt
              have j6 : (k3 : Int) < (z : Int) := by omega
              obtain ⟨y, hy⟩ : ∃ y, x.code[k3]? = some y := ⟨_, List.getElem?_eq_getElem (by rw [← hz.out]; exact hlt)⟩
              obtain ⟨g, off, cap, cs, e, hgl, ⟨va, vl, rfl, ra, rl⟩, -, hc⟩ := RdE.at (RdE.below (fun _ _ h => h.below hB.out) hRC.out hB.out) hy
              obtain ⟨aa, ac, rfl⟩ := ra.shape
              obtain ⟨la, lc, rfl⟩ := rl.shape
              rw [← hz.out] at e
              simp only [Value.slice.injEq] at e
              obtain ⟨rfl, -, rfl⟩ := e
              have d0 : wr.cell? ⟨g, off + k3 * 8, none⟩ = some (.int .u8 y.op) := hc 0 _ rfl
              have d1 := hc 1 _ rfl
              have d2 := hc 2 _ rfl
              have d3 := hc 3 _ rfl
              have d4 := hc 4 _ rfl
              have d5 := hc 5 _ rfl
              have d6 := hc 6 _ rfl
              have d7 := hc 7 _ rfl
              have hsz := (hfx.out.2.1 y (List.mem_of_getElem? hy)).2.2.1
              have hat3 := Lib.hid (varsC_succ (s := s1) hy)
              have hl3 : (varsC s1 (x.code.take k3)).length ≤ s1.length + k3 := by have := varsC_len (x.code.take k3) s1; rw [List.length_take] at this; omega
              obtain ⟨ol, hol⟩ : ∃ ol, ol = y.labels.length := ⟨_, rfl⟩
              obtain ⟨oa, hoa⟩ : ∃ oa, oa = y.args.length := ⟨_, rfl⟩
              rw [← hol] at d7
              rw [← hoa] at d6
              have hB1 := hB.out.alloc hB.out.size (.cells #[.int .u8 y.op, .string y.dst, .string y.a, .string y.b, .int .i64 y.n, .string y.fn, .slice aa oa ac, .slice la ol lc] 47)
              have hM1 := Lib.hid (hM.out.block (Below.heap_alloc _ (.cells #[.int .u8 y.op, .string y.dst, .string y.a, .string y.b, .int .i64 y.n, .string y.fn, .slice aa oa ac, .slice la ol lc] 47) _ hM.out.lt))
              replace hB1 := Lib.hid hB1
              clear hc ra rl hy hM hB hol hoa
              go_wp2_with (at_mapUpdate; refine wpList_setS_put rfl _ _ _ rfl bm _ hM1.out rfl y.dst rfl rfl hsz (by omega) ?_; intro w3 hM3 hT3; go_frame)
              rw [← hat3.out] at hM3
              have hB3 := Lib.hid (hB1.out.trans (hT3.below hB1.out.size (fun k hk e => by omega)))
              replace hM3 := Lib.hid hM3
              clear hT3 hM1 hB1 hat3
              go_wp2_with fail
              exact ⟨⟨k3 + 1, by omega, by go_num, hM3, hB3⟩, by simp [intOf]; omega⟩
            · obtain rfl : k3 = z := by omega
              have j5 : decide ((k3 : Int) < (k3 : Int)) = false := by simp
              have hE : x.code.take k3 = x.code := List.take_of_length_le (by rw [← hz.out]; exact Nat.le_refl _)
              rw [hE, ← hat.out] at hM
              go_wp2_with fail
              exact ⟨⟨k2 + 1, by omega, by go_num, hM, hB⟩, by simp [intOf]; omega⟩
        · obtain rfl : k2 = q := by omega
          have j3 : decide ((k2 : Int) < (k2 : Int)) = false := by simp
          have hE : d.blocks.take k2 = d.blocks := List.take_of_length_le (by rw [← hq.out]; exact Nat.le_refl _)
          rw [hE, hvL.out] at hM
          go_wp2_with fail
          go_ret
          exact ⟨bm, rfl, hge, hM.out, hB.out⟩
end Go.Proofs.YtjblhiekccjdcaaR
