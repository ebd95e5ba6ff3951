/- Queues: what stands below a word. -/
import Derived.Test.YtcimhljnboeobaaDoorQNewW
namespace Go.Proofs.YtcimhljnboeobaaDoor
open Go.RowKit Go.Maps

attribute [local go_sem] Oper.semAt_some
section
variable {W0 : World} {qb lb cap n taken : Nat} {bs l : List Nat} {pv : Value} {ps : List Int}
set_option maxRecDepth 100000 in
set_option maxHeartbeats 4000000 in
theorem below_in (Q : QAt W0 qb lb cap bs n l pv ps taken) (G : Gl W0) {V : Nat → Prop} (hV : ∀ k, QBl qb lb bs pv k → ¬ V k) (hVg : ¬ V 0) (r : Nat) (J : List (Nat × Nat) → World → Prop) (Jx : World → Prop) (all : List (Nat × Nat))
    (hY : ∀ pre x rest W1, all = pre ++ x :: rest → J pre W1 → Touch W0 W1 V → YieldAt Fence.wide 4 Tryd.prog r #[.int .i64 x.1, .int .u64 x.2] W1 fun e W' =>
      (e = .returned (.bool true) ∧ J (pre ++ [x]) W' ∧ Touch W1 W' V) ∨ (e = .returned (.bool false) ∧ Jx W')) :
    ∀ (j k : Nat) (pre post : List (Nat × Nat)) (W : World), j < bs.length → k ≤ 262144 → all = pre ++ (seqW l j k ++ post) → J pre W → Touch W0 W V →
      CallsIn Fence.wide 5 Tryd.prog 22 #[.pointer (some ⟨qb, 0, none⟩), .int .i64 j, .int .i64 k, .func (.yield r) #[] #[]] W fun e W' =>
        (e = .returned (.bool true) ∧ J (pre ++ seqW l j k) W' ∧ Touch W0 W' V) ∨ (e = .returned (.bool false) ∧ Jx W') := by
  have hq1 := Lib.hid (fun (W : World) (hT : Touch W0 W V) => Q.kept hT hV)
  have hg1 := Lib.hid (fun (W : World) (hT : Touch W0 W V) => G.touch hT hVg)
  have hm3 := Q.m3
  obtain ⟨m, hm⟩ : ∃ m, m = bs.length := ⟨_, rfl⟩
  rw [← hm] at hm3
  replace hm := Lib.hid hm
  replace hY := Lib.hid hY
  have hfB : Fence.wide.fn 22 := trivial
  have hfT : Fence.wide.fn 20 := trivial
  intro j
  induction j with
  | zero =>
    intro k pre post W hj hk hall hJ hT
    have hQW := hq1.out W hT
    have c1 : W.cell? ⟨qb, 1, none⟩ = some (.slice (some ⟨lb, 0, none⟩) m cap) := by rw [blk_cell hQW.blk, hm.out]; rfl
    obtain ⟨b, hb0⟩ : ∃ b, bs[0]? = some b := ⟨_, List.getElem?_eq_getElem hj⟩
    have c2 : W.cell? ⟨lb, 0, none⟩ = some (.map (some b)) := hQW.row 0 b hb0
    have hm0 : (0 : Int) < (m : Int) := by have := hm.out; omega
    have hlk := hQW.look hb0 (wordQ_bit (up 0 l) k) (by omega)
    have hsq : Hid (seqW l 0 k = [(k, wordQ (up 0 l) k)]) := Lib.hid rfl
    rw [hsq.out] at hall ⊢
    obtain ⟨fn, tmps, assign, body, hy, hR⟩ := yield_wide (b := 4) (hY.out pre (k, wordQ (up 0 l) k) post W hall hJ hT)
    generalize wordQ (up 0 l) k = c at hlk hy hR ⊢
    replace hT := Lib.hid hT
    replace hall := Lib.hid hall
    clear hQW hJ hsq
    refine callsIn_of_wp Tryd.func22 rfl trivial ?_ rfl
    simp only [Tryd.ntmps22, List.size_toArray, List.length_cons, List.length_nil, Nat.reduceAdd, Nat.reduceSub, Array.replicate_succ, Array.replicate_zero, List.push_toArray, List.append_toArray, List.nil_append, List.cons_append]
    gi_wp2
    refine hR.mono ?_
    rintro e W3 (⟨rfl, hJ3, hk3⟩ | ⟨rfl, hJx⟩)
    · have hT3 := Lib.hid (hT.out.trans hk3)
      replace hJ3 := Lib.hid hJ3
      clear hR hy
      gi_wp2
      go_ret
      exact .inl ⟨rfl, hJ3.out, hT3.out⟩
    · replace hJx := Lib.hid hJx
      clear hR hy
      gi_wp2
      go_ret
      exact .inr ⟨rfl, hJx.out⟩
  | succ j ih =>
    intro k pre post W hj hk hall hJ hT
    have hQW := hq1.out W hT
    have c1 : W.cell? ⟨qb, 1, none⟩ = some (.slice (some ⟨lb, 0, none⟩) m cap) := by rw [blk_cell hQW.blk, hm.out]; rfl
    obtain ⟨b, hb0⟩ : ∃ b, bs[j + 1]? = some b := ⟨_, List.getElem?_eq_getElem hj⟩
    have c2 : W.cell? ⟨lb, j + 1, none⟩ = some (.map (some b)) := hQW.row (j + 1) b hb0
    have hm0 : (j : Int) + 1 < (m : Int) := by have := hm.out; omega
    have hbit := wordQ_bit (up (j + 1) l) k
    have hlk := hQW.look hb0 hbit (by omega)
    have hsq := Lib.hid (show seqW l (j + 1) k = (bitsOf 64 (wordQ (up (j + 1) l) k)).flatMap (fun b => seqW l j (64 * k + b)) from rfl)
    have hmem := Lib.hid (fun b (hb : b ∈ bitsOf 64 (wordQ (up (j + 1) l) k)) => (hbit.2 b (mem_bitsOf.1 hb).1).1 (mem_bitsOf.1 hb).2)
    have hcl := hbit.1
    clear hbit
    generalize wordQ (up (j + 1) l) k = c at hlk hsq hmem hcl
    have hkb : Hid (∀ b, b < 64 → 64 * k + b ∈ up (j + 1) l → 64 * k + b ≤ 262144) := Lib.hid (fun b hb h => by
      obtain ⟨x, hx, e⟩ := mem_up.1 h
      have h1 := Q.lt x hx
      have h2 := Q.nle3
      have h3 : x / 64 ^ (j + 1) ≤ x := Nat.div_le_self _ _
      omega)
    have h0 : Hid (J (pre ++ ([] : List Nat).flatMap (fun b => seqW l j (64 * k + b))) W) := Lib.hid (by simpa using hJ)
    have hd0 : Hid (bitsOf 64 c = [] ++ bitsOf 64 c) := Lib.hid rfl
    replace hT := Lib.hid hT
    replace hall := Lib.hid hall
    replace ih := Lib.hid ih
    have e0 : ((j : Int) + 1 == 0) = false := by rw [beq_eq_false_iff_ne]; omega
    have hji : (j : Int) + 1 - 1 = (j : Int) := by omega
    have hjs : j ≤ 3 := by have := hm.out; omega
    clear hQW hJ hb0
    rw [show ((j + 1 : Nat) : Int) = (j : Int) + 1 from by omega]
    refine callsIn_of_wp Tryd.func22 rfl trivial ?_ rfl
    simp only [Tryd.ntmps22, List.size_toArray, List.length_cons, List.length_nil, Nat.reduceAdd, Nat.reduceSub, Array.replicate_succ, Array.replicate_zero, List.push_toArray, List.append_toArray, List.nil_append, List.cons_append]
    gi_wp2
    clear c1 c2 hlk hm0
    gi_loopw [8, 9] (fun _ v wx => ∃ (c' : Nat) (done : List Nat), v = .int .u64 c' ∧ c' < 18446744073709551616 ∧ Hid (bitsOf 64 c = done ++ bitsOf 64 c') ∧ Hid (J (pre ++ done.flatMap (fun b => seqW l j (64 * k + b))) wx) ∧ Hid (Touch W0 wx V)) (fun _ v _ => (intOf v).toNat)
    case atStart => exact ⟨c, [], rfl, hcl, hd0, h0, hT⟩
    case round =>
      clear h0 hd0 hT
      obtain ⟨c', done, rfl, hc', hd, hJ, hT⟩ := hrel
      by_cases hz : c' = 0
      · have z1 : ((c' : Int) != 0) = false := by simp [hz]
        have z2 : (c' != 0) = false := by simp [hz]
        have hJ4 : Hid (J (pre ++ seqW l (j + 1) k) wr) := Lib.hid (by
          rw [hsq.out, hd.out, (bits_none hc').2 hz, List.append_nil]
          exact hJ.out)
        replace hz := Lib.hid hz
        clear hJ
        gi_wp2
        go_ret
        exact .inl ⟨rfl, hJ4.out, hT.out⟩
      · have z1 : ((c' : Int) != 0) = true := by simp [hz]
        have z2 : (c' != 0) = true := by simp [hz]
        have hcons := bits_cons hz hc'
        have htz := Lib.hid ((callsIn_wide (n := 4)).2 (tz (hg1.out wr hT.out).tab hc'))
        have hbm : Lib.ctz 64 c' ∈ bitsOf 64 c := by rw [hd.out, hcons]; simp
        have ht64 := (mem_bitsOf.1 hbm).1
        have hlim := hkb.out _ ht64 (hmem.out _ hbm)
        have hsp : all = (pre ++ done.flatMap (fun b => seqW l j (64 * k + b))) ++ (seqW l j (64 * k + Lib.ctz 64 c') ++ ((bitsOf 64 (c' &&& (c' - 1))).flatMap (fun b => seqW l j (64 * k + b)) ++ post)) := by
          rw [hall.out, hsq.out, hd.out, hcons]
          simp
        have hrec := Lib.hid ((callsIn_wide (n := 4)).2 (callsIn_wide.1 (ih.out (64 * k + Lib.ctz 64 c') _ _ wr (by omega) hlim hsp hJ.out hT.out)))
        have hd2 : Hid (bitsOf 64 c = (done ++ [Lib.ctz 64 c']) ++ bitsOf 64 (c' &&& (c' - 1))) := Lib.hid (by rw [hd.out, hcons]; simp)
        have hless : c' &&& (c' - 1) < c' := Nat.lt_of_le_of_lt Nat.and_le_right (by omega)
        have hand : bits BinOp.and IntKind.u64 (c' : Int) ((c' : Int) - 1) = ((c' &&& (c' - 1) : Nat) : Int) := by
          rw [show (c' : Int) - 1 = ((c' - 1 : Nat) : Int) by omega]
          exact and_nat hc' (by omega)
        have hchild : ((64 * k + Lib.ctz 64 c' : Nat) : Int) = (k : Int) * 64 + (Lib.ctz 64 c' : Int) := by omega
        rw [hchild] at hrec
        generalize Lib.ctz 64 c' = t at htz hrec hd2 ht64 hlim hsp hbm
        replace hz := Lib.hid hz
        replace hcons := Lib.hid hcons
        replace hsp := Lib.hid hsp
        generalize hc2 : c' &&& (c' - 1) = c2 at hd2 hless hand
        replace hc2 := Lib.hid hc2
        clear hbm hchild hJ
        gi_wp2_with (gi_at_call 20; refine htz.out.mono ?_; rintro e w' ⟨rfl, hw9⟩; obtain rfl := hw9.symm)
        refine hrec.out.mono ?_
        rintro e W3 (⟨rfl, hJ3, hT3⟩ | ⟨rfl, hJx⟩)
        · have hJ4 : Hid (J (pre ++ (done ++ [t]).flatMap (fun b => seqW l j (64 * k + b))) W3) := Lib.hid (by
            rw [List.flatMap_append, List.flatMap_singleton, ← List.append_assoc]
            exact hJ3)
          replace hT3 := Lib.hid hT3
          clear hrec htz hJ3 hT
          gi_wp2
          go_roundw
          case rel => exact ⟨c2, done ++ [t], by first | rfl | go_num, by omega, hd2, hJ4, hT3⟩
          case measure => simp [intOf]; omega
        · replace hJx := Lib.hid hJx
          clear hrec htz hT
          gi_wp2
          go_ret
          exact .inr ⟨rfl, hJx.out⟩
end
end Go.Proofs.YtcimhljnboeobaaDoor
