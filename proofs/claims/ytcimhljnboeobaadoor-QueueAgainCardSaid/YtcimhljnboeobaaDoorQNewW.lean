/- Queues: New, whole. -/
import Derived.Test.YtcimhljnboeobaaDoorQNewL
namespace Go.Proofs.YtcimhljnboeobaaDoor
open Go.RowKit Go.Maps

theorem qnew_fin {w w2 w3 wx : World} {lb cap N : Nat} {bs : List Nat} {pa : Option Addr} {pc : Nat} {P : List Int} (hb2 : Below w.heap.size w w2) (hb3 : Below w2.heap.size w2 w3) (hs3 : w3.heap.size = w2.heap.size + 1) (hp1 : RdQ w2 (.slice pa P.length pc) P) (hpc : P.length ≤ pc) (hp3 : ∀ k, pBlk (.slice pa P.length pc) k → w.heap.size ≤ k ∧ k < w2.heap.size)
    (hq : wx.heap[w2.heap.size]? = some (.cells #[.int .i64 N, .slice (some ⟨lb, 0, none⟩) bs.length cap, .slice pa P.length pc, .int .i64 0, .int .i64 0] 35 (0, 0))) (hlv : Lvs wx w3.heap.size (.slice (some ⟨lb, 0, none⟩) bs.length cap) bs) (hT : Touch w3 wx (fun k => k = w2.heap.size)) (hm1 : 1 ≤ bs.length) (hm3 : bs.length ≤ 3) (hle : N ≤ 64 ^ bs.length) :
    ∃ qb lb cap bs pv, Ending.returned (.pointer (some ⟨w2.heap.size, 0, none⟩)) = Ending.returned (.pointer (some ⟨qb, 0, none⟩)) ∧ QAt wx qb lb cap bs N [] pv P 0 ∧ (∀ k, QBl qb lb bs pv k → w.heap.size ≤ k) ∧ Below w.heap.size w wx := by
  have hlb := hlv.row.lt lb rfl
  have h2 := hb2.size
  have hB : Below w.heap.size w wx := (hb2.trans (hb3.mono h2)).trans (hT.below (by omega) (fun k hk e => by omega))
  refine ⟨w2.heap.size, lb, cap, bs, _, rfl, ⟨by simpa using hq, hlb.2, fun j b hj => ?_, fun j b hj => ?_, hlv.nodup, by omega, List.Pairwise.nil, fun x hx => by simp at hx, hm1, hm3, hle, rd_keptQ (Rd.below hp1 hb3) hT (fun k hk e => by have := (hp3 k hk).2; omega), ⟨pa, pc, rfl, hpc⟩, fun k hk => ⟨by have := (hp3 k hk).2; omega, by have := (hp3 k hk).2; omega, fun hm => by have := (hp3 k hk).2; have := (hlv.maps k hm).1; omega⟩⟩, fun k hk => ?_, hB⟩
  · have := hlv.row.cells (g := lb) rfl j (.map (some b)) (by rw [List.getElem?_map, hj]; rfl)
    rw [add0] at this
    exact this
  · obtain ⟨-, D, h3, h4⟩ := hlv.maps b (List.mem_of_getElem? hj)
    exact ⟨D, h3, h4⟩
  · rcases hk with rfl | rfl | hk | hk
    · exact h2
    · omega
    · have := (hlv.maps k hk).1; omega
    · exact (hp3 k hk).1
set_option maxHeartbeats 2000000 in
theorem qnew_any {w : World} {v : Value} {ps : List Int} {n' : Int} (h : RdQ w v ps) (hcap : ∀ a m c, v = .slice (some a) m c → m ≤ c) (hl : ps.length ≤ 1000000) (hn : n' ≤ 262144) (hn0 : -9223372036854775808 ≤ n') :
    Calls Tryd.prog 11 #[.int .i64 n', v] w fun e w' => ∃ qb lb cap bs pv, e = .returned (.pointer (some ⟨qb, 0, none⟩)) ∧ QAt w' qb lb cap bs n'.toNat [] pv (ps.take 65536) 0 ∧ (∀ k, QBl qb lb bs pv k → w.heap.size ≤ k) ∧ Below w.heap.size w w' := by
  obtain ⟨a, c, e⟩ := Rd.form h
  obtain ⟨m, hm⟩ : ∃ m, m = ps.length := ⟨_, rfl⟩
  have e2 : v = .slice a m c := by rw [hm]; simpa using e
  subst e2
  obtain ⟨k, hk⟩ : ∃ k, k = min m 65536 := ⟨_, rfl⟩
  have hkm : k ≤ m := by omega
  have hR := Lib.hid (rd_takeQ h hkm)
  have hkl : (ps.take k).length = k := by rw [List.length_take]; omega
  have hkt : ps.take k = ps.take 65536 := by
    rw [hk, hm]
    by_cases h6 : ps.length ≤ 65536
    · rw [Nat.min_eq_left h6, List.take_length, List.take_of_length_le h6]
    · rw [Nat.min_eq_right (by omega)]
  have hmin : min (m : Int) 65536 = (k : Int) := by omega
  have hmax : max n' 0 = ((n'.toNat : Nat) : Int) := by omega
  have hkc : a.isSome = true → k ≤ c := by
    intro ha
    obtain ⟨a', rfl⟩ := Option.isSome_iff_exists.1 ha
    have := hcap a' m c rfl
    omega
  rw [hkt] at hR
  generalize hN : n'.toNat = N at hmax ⊢
  have hN2 : N ≤ 262144 := by omega
  generalize hP : ps.take 65536 = P at hR ⊢
  have hPl : P.length = k := by rw [← hP, ← hkt]; exact hkl
  replace hPl := Lib.hid hPl
  clear h e hcap hN hP hkt hkl
  replace hm := Lib.hid hm
  replace hk := Lib.hid hk
  have hR0 : a = none → m = 0 := by
    rintro rfl
    have hk0 : k = 0 := by
      rcases hR.out with ⟨h1, h2 | ⟨a', k', h2⟩⟩ | ⟨b, off, cap, e, hlt, hc⟩
      · cases h2; rfl
      · cases h2
      · cases e
    have := hk.out
    omega
  have hcase : (a = none ∧ m = 0 ∧ k = 0) ∨ (∃ ad, a = some ad) := by
    cases a with
    | none => exact .inl ⟨rfl, hR0 rfl, by have := hk.out; have := hR0 rfl; omega⟩
    | some ad => exact .inr ⟨ad, rfl⟩
  have hmc : (m ≤ 65536 ∧ k = m) ∨ (65536 < m ∧ k = 65536) := by have := hk.out; omega
  have hnc : (0 ≤ n' ∧ n' = (N : Int)) ∨ (n' < 0 ∧ N = 0) := by omega
  have main : ∀ w1 : World, Below w.heap.size w w1 → True := fun _ _ => trivial
  clear hR0
  have hq := fun (w : World) (a : Option Addr) (n c n' c' : Nat) => Lib.run_eql_slice_nil (P := Tryd.prog) w 27 3 a n c n' c' Tryd.underlying27
  clear hmin hmax
  rcases hcase with ⟨rfl, rfl, rfl⟩ | ⟨ad, rfl⟩
  · clear hmc
    rcases hnc with ⟨h0, rfl⟩ | ⟨h0, rfl⟩
    · skip
      clear hkc
      go_enter Tryd.func11, Tryd.ntmps11
      go_upto_region 3 with (go_at_call 16; refine (qclone_any (xs := P) hR.out (by rw [hPl.out]; omega)).mono ?_; rintro e w2 ⟨pv, rfl, hp1, ⟨pa, pc, rfl, hpc⟩, hp3, hb2⟩)
      have hS := hb2.size
      obtain ⟨w3, hw3⟩ : ∃ w3, w2.alloc (.cells #[.int .i64 ((N : Nat)), .slice none 0 0, .slice pa P.length pc, .int .i64 0, .int .i64 0] 35) = w3 := ⟨_, rfl⟩
      have hq3 : w3.heap[w2.heap.size]? = some (.cells #[.int .i64 ((N : Nat)), .slice none 0 0, .slice pa P.length pc, .int .i64 0, .int .i64 0] 35 (0, 0)) := by rw [← hw3]; exact at_newN rfl
      have hb3 : Below w2.heap.size w2 w3 := by rw [← hw3]; exact (Below.refl _ _).alloc (Nat.le_refl _) _
      have hs3 : w3.heap.size = w2.heap.size + 1 := by rw [← hw3]; simp
      rw [hw3]
      clear hw3
      have c0 : w3.cell? ⟨w2.heap.size, 0, none⟩ = some (.int .i64 ((N : Nat))) := by rw [blk_cell hq3]; rfl
      replace hb2 := Lib.hid hb2
      replace hb3 := Lib.hid hb3
      replace hp1 := Lib.hid hp1
      replace hp3 := Lib.hid hp3
      replace hs3 := Lib.hid hs3
      go_upto_block 0 with fail
      refine qnew_loop (by kernel_rfl) (N := N) (qb := w2.heap.size) hq3 (by omega) (Lib.hid ?_)
      intros
      rename_i hx
      obtain ⟨lb, cap, bs, hq5, hlv, hT5, hm1, hm3, hle⟩ := hx
      go_ret
      exact qnew_fin hb2.out hb3.out hs3.out hp1.out hpc hp3.out hq5 hlv hT5 hm1 hm3 hle
    · have h0n : decide (n' < 0) = true := by simpa using h0
      clear hkc
      go_enter Tryd.func11, Tryd.ntmps11
      go_upto_region 3 with (go_at_call 16; refine (qclone_any (xs := P) hR.out (by rw [hPl.out]; omega)).mono ?_; rintro e w2 ⟨pv, rfl, hp1, ⟨pa, pc, rfl, hpc⟩, hp3, hb2⟩)
      have hS := hb2.size
      obtain ⟨w3, hw3⟩ : ∃ w3, w2.alloc (.cells #[.int .i64 (0), .slice none 0 0, .slice pa P.length pc, .int .i64 0, .int .i64 0] 35) = w3 := ⟨_, rfl⟩
      have hq3 : w3.heap[w2.heap.size]? = some (.cells #[.int .i64 (0), .slice none 0 0, .slice pa P.length pc, .int .i64 0, .int .i64 0] 35 (0, 0)) := by rw [← hw3]; exact at_newN rfl
      have hb3 : Below w2.heap.size w2 w3 := by rw [← hw3]; exact (Below.refl _ _).alloc (Nat.le_refl _) _
      have hs3 : w3.heap.size = w2.heap.size + 1 := by rw [← hw3]; simp
      rw [hw3]
      clear hw3
      have c0 : w3.cell? ⟨w2.heap.size, 0, none⟩ = some (.int .i64 (0)) := by rw [blk_cell hq3]; rfl
      replace hb2 := Lib.hid hb2
      replace hb3 := Lib.hid hb3
      replace hp1 := Lib.hid hp1
      replace hp3 := Lib.hid hp3
      replace hs3 := Lib.hid hs3
      go_upto_block 0 with fail
      refine qnew_loop (by kernel_rfl) (N := 0) (qb := w2.heap.size) hq3 (by omega) (Lib.hid ?_)
      intros
      rename_i hx
      obtain ⟨lb, cap, bs, hq5, hlv, hT5, hm1, hm3, hle⟩ := hx
      go_ret
      exact qnew_fin hb2.out hb3.out hs3.out hp1.out hpc hp3.out hq5 hlv hT5 hm1 hm3 hle
  · have hkc := hkc rfl
    have i1 : (k : Int) ≤ (c : Int) := by omega
    rcases hmc with ⟨h6, rfl⟩ | ⟨h6, rfl⟩
    · have i6 : (k : Int) ≤ 65536 := by omega
      rcases hnc with ⟨h0, rfl⟩ | ⟨h0, rfl⟩
      · skip
        clear hkc
        go_enter Tryd.func11, Tryd.ntmps11
        go_upto_region 3 with (go_at_call 16; refine (qclone_any (xs := P) hR.out (by rw [hPl.out]; omega)).mono ?_; rintro e w2 ⟨pv, rfl, hp1, ⟨pa, pc, rfl, hpc⟩, hp3, hb2⟩)
        have hS := hb2.size
        obtain ⟨w3, hw3⟩ : ∃ w3, w2.alloc (.cells #[.int .i64 ((N : Nat)), .slice none 0 0, .slice pa P.length pc, .int .i64 0, .int .i64 0] 35) = w3 := ⟨_, rfl⟩
        have hq3 : w3.heap[w2.heap.size]? = some (.cells #[.int .i64 ((N : Nat)), .slice none 0 0, .slice pa P.length pc, .int .i64 0, .int .i64 0] 35 (0, 0)) := by rw [← hw3]; exact at_newN rfl
        have hb3 : Below w2.heap.size w2 w3 := by rw [← hw3]; exact (Below.refl _ _).alloc (Nat.le_refl _) _
        have hs3 : w3.heap.size = w2.heap.size + 1 := by rw [← hw3]; simp
        rw [hw3]
        clear hw3
        have c0 : w3.cell? ⟨w2.heap.size, 0, none⟩ = some (.int .i64 ((N : Nat))) := by rw [blk_cell hq3]; rfl
        replace hb2 := Lib.hid hb2
        replace hb3 := Lib.hid hb3
        replace hp1 := Lib.hid hp1
        replace hp3 := Lib.hid hp3
        replace hs3 := Lib.hid hs3
        go_upto_block 0 with fail
        refine qnew_loop (by kernel_rfl) (N := N) (qb := w2.heap.size) hq3 (by omega) (Lib.hid ?_)
        intros
        rename_i hx
        obtain ⟨lb, cap, bs, hq5, hlv, hT5, hm1, hm3, hle⟩ := hx
        go_ret
        exact qnew_fin hb2.out hb3.out hs3.out hp1.out hpc hp3.out hq5 hlv hT5 hm1 hm3 hle
      · skip
        clear hkc
        go_enter Tryd.func11, Tryd.ntmps11
        go_upto_region 3 with (go_at_call 16; refine (qclone_any (xs := P) hR.out (by rw [hPl.out]; omega)).mono ?_; rintro e w2 ⟨pv, rfl, hp1, ⟨pa, pc, rfl, hpc⟩, hp3, hb2⟩)
        have hS := hb2.size
        obtain ⟨w3, hw3⟩ : ∃ w3, w2.alloc (.cells #[.int .i64 (0), .slice none 0 0, .slice pa P.length pc, .int .i64 0, .int .i64 0] 35) = w3 := ⟨_, rfl⟩
        have hq3 : w3.heap[w2.heap.size]? = some (.cells #[.int .i64 (0), .slice none 0 0, .slice pa P.length pc, .int .i64 0, .int .i64 0] 35 (0, 0)) := by rw [← hw3]; exact at_newN rfl
        have hb3 : Below w2.heap.size w2 w3 := by rw [← hw3]; exact (Below.refl _ _).alloc (Nat.le_refl _) _
        have hs3 : w3.heap.size = w2.heap.size + 1 := by rw [← hw3]; simp
        rw [hw3]
        clear hw3
        have c0 : w3.cell? ⟨w2.heap.size, 0, none⟩ = some (.int .i64 (0)) := by rw [blk_cell hq3]; rfl
        replace hb2 := Lib.hid hb2
        replace hb3 := Lib.hid hb3
        replace hp1 := Lib.hid hp1
        replace hp3 := Lib.hid hp3
        replace hs3 := Lib.hid hs3
        go_upto_block 0 with fail
        refine qnew_loop (by kernel_rfl) (N := 0) (qb := w2.heap.size) hq3 (by omega) (Lib.hid ?_)
        intros
        rename_i hx
        obtain ⟨lb, cap, bs, hq5, hlv, hT5, hm1, hm3, hle⟩ := hx
        go_ret
        exact qnew_fin hb2.out hb3.out hs3.out hp1.out hpc hp3.out hq5 hlv hT5 hm1 hm3 hle
    · have i6 : ¬ (m : Int) ≤ 65536 := by omega
      rcases hnc with ⟨h0, rfl⟩ | ⟨h0, rfl⟩
      · skip
        clear hkc
        go_enter Tryd.func11, Tryd.ntmps11
        go_upto_region 3 with (go_at_call 16; refine (qclone_any (xs := P) hR.out (by rw [hPl.out]; omega)).mono ?_; rintro e w2 ⟨pv, rfl, hp1, ⟨pa, pc, rfl, hpc⟩, hp3, hb2⟩)
        have hS := hb2.size
        obtain ⟨w3, hw3⟩ : ∃ w3, w2.alloc (.cells #[.int .i64 ((N : Nat)), .slice none 0 0, .slice pa P.length pc, .int .i64 0, .int .i64 0] 35) = w3 := ⟨_, rfl⟩
        have hq3 : w3.heap[w2.heap.size]? = some (.cells #[.int .i64 ((N : Nat)), .slice none 0 0, .slice pa P.length pc, .int .i64 0, .int .i64 0] 35 (0, 0)) := by rw [← hw3]; exact at_newN rfl
        have hb3 : Below w2.heap.size w2 w3 := by rw [← hw3]; exact (Below.refl _ _).alloc (Nat.le_refl _) _
        have hs3 : w3.heap.size = w2.heap.size + 1 := by rw [← hw3]; simp
        rw [hw3]
        clear hw3
        have c0 : w3.cell? ⟨w2.heap.size, 0, none⟩ = some (.int .i64 ((N : Nat))) := by rw [blk_cell hq3]; rfl
        replace hb2 := Lib.hid hb2
        replace hb3 := Lib.hid hb3
        replace hp1 := Lib.hid hp1
        replace hp3 := Lib.hid hp3
        replace hs3 := Lib.hid hs3
        go_upto_block 0 with fail
        refine qnew_loop (by kernel_rfl) (N := N) (qb := w2.heap.size) hq3 (by omega) (Lib.hid ?_)
        intros
        rename_i hx
        obtain ⟨lb, cap, bs, hq5, hlv, hT5, hm1, hm3, hle⟩ := hx
        go_ret
        exact qnew_fin hb2.out hb3.out hs3.out hp1.out hpc hp3.out hq5 hlv hT5 hm1 hm3 hle
      · skip
        clear hkc
        go_enter Tryd.func11, Tryd.ntmps11
        go_upto_region 3 with (go_at_call 16; refine (qclone_any (xs := P) hR.out (by rw [hPl.out]; omega)).mono ?_; rintro e w2 ⟨pv, rfl, hp1, ⟨pa, pc, rfl, hpc⟩, hp3, hb2⟩)
        have hS := hb2.size
        obtain ⟨w3, hw3⟩ : ∃ w3, w2.alloc (.cells #[.int .i64 (0), .slice none 0 0, .slice pa P.length pc, .int .i64 0, .int .i64 0] 35) = w3 := ⟨_, rfl⟩
        have hq3 : w3.heap[w2.heap.size]? = some (.cells #[.int .i64 (0), .slice none 0 0, .slice pa P.length pc, .int .i64 0, .int .i64 0] 35 (0, 0)) := by rw [← hw3]; exact at_newN rfl
        have hb3 : Below w2.heap.size w2 w3 := by rw [← hw3]; exact (Below.refl _ _).alloc (Nat.le_refl _) _
        have hs3 : w3.heap.size = w2.heap.size + 1 := by rw [← hw3]; simp
        rw [hw3]
        clear hw3
        have c0 : w3.cell? ⟨w2.heap.size, 0, none⟩ = some (.int .i64 (0)) := by rw [blk_cell hq3]; rfl
        replace hb2 := Lib.hid hb2
        replace hb3 := Lib.hid hb3
        replace hp1 := Lib.hid hp1
        replace hp3 := Lib.hid hp3
        replace hs3 := Lib.hid hs3
        go_upto_block 0 with fail
        refine qnew_loop (by kernel_rfl) (N := 0) (qb := w2.heap.size) hq3 (by omega) (Lib.hid ?_)
        intros
        rename_i hx
        obtain ⟨lb, cap, bs, hq5, hlv, hT5, hm1, hm3, hle⟩ := hx
        go_ret
        exact qnew_fin hb2.out hb3.out hs3.out hp1.out hpc hp3.out hq5 hlv hT5 hm1 hm3 hle
end Go.Proofs.YtcimhljnboeobaaDoor
