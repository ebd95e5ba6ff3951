/- The law CfgOwn, walked. -/
import Derived.Test.YtedleliddhhacaaCOwn
import Derived.Test.YtedleliddhhacaaCUsesW
namespace Go.Proofs.Ytedleliddhhacaa
open Go.RowKit Go.Maps

theorem cells3 {w : World} {B : Nat} {t : TypeId} {fr : Nat × Nat} {x0 x1 x2 : Value} (h : w.heap[B]? = some (.cells #[x0, x1, x2] t fr)) :
    w.cell? ⟨B, 0, none⟩ = some x0 ∧ w.cell? ⟨B, 1, none⟩ = some x1 ∧ w.cell? ⟨B, 2, none⟩ = some x2 := by
  simp only [blk_cell h]
  exact ⟨rfl, rfl, rfl⟩
theorem cells2 {w : World} {B : Nat} {t : TypeId} {fr : Nat × Nat} {x0 x1 : Value} (h : w.heap[B]? = some (.cells #[x0, x1] t fr)) :
    w.cell? ⟨B, 0, none⟩ = some x0 ∧ w.cell? ⟨B, 1, none⟩ = some x1 := by
  simp only [blk_cell h]
  exact ⟨rfl, rfl⟩
theorem Touch.trans' {a b c : World} {S U : Nat → Prop} (h : Touch a b S) (g : Touch b c U) (hs : ∀ k, k < a.heap.size → U k → S k) : Touch a c S :=
  ⟨g.os.trans h.os, g.tape.trans h.tape, g.output.trans h.output, Nat.le_trans h.size g.size, fun k hk hn => (g.block k (Nat.lt_of_lt_of_le hk h.size) (fun u => hn (hs k hk u))).trans (h.block k hk hn)⟩
theorem succ_low {d : Fun} (h : LightF d) : ∀ r ∈ succL d, r.length ≤ 10000 := by
  intro r hr
  unfold succL at hr
  split at hr
  · exact rows_low h.small r hr
  · cases hr
theorem pred_low {d : Fun} (h : LightF d) : ∀ r ∈ predL d, r.length ≤ 10000 := by
  intro r hr
  unfold predL at hr
  split at hr
  · have hn : ∀ r ∈ normL (rowsF d), r.length ≤ 20 := by
      intro r hr
      obtain ⟨s, hs, rfl⟩ := List.mem_map.1 hr
      refine Nat.le_trans (rowL_len _ _) ?_
      obtain ⟨x, hx, rfl⟩ := List.mem_map.1 hs
      rw [rowB, List.length_map]
      exact waysL_len (fun y hy => ((h.2 x hx).2.2 y hy).1)
    have h1 := Low.back hn (rowsF d).length r hr
    rw [rowsF_len] at h1
    have h2 := Nat.mul_le_mul_right 20 h.1
    omega
  · cases hr
theorem succ_len (d : Fun) : (succL d).length ≤ d.blocks.length := by
  unfold succL
  split
  · rw [normL_len, rowsF_len]; exact Nat.le_refl _
  · simp
theorem pred_len (d : Fun) : (predL d).length ≤ d.blocks.length := by
  unfold predL
  split
  · rw [backL_len, rowsF_len]; exact Nat.le_refl _
  · simp

set_option maxRecDepth 20000 in
set_option maxHeartbeats 8000000 in
theorem cfgOwn_any {w : World} {cs ct : List Value} {d : Fun} {x : Ins} (h : RdFun w cs d) (hfit : d.Fits) (hx : RdIns w ct x) (hfx : x.Fits) :
    Calls Try.prog 6 #[.agg cs.toArray, .agg ct.toArray] w fun e w' => e = .returned (.bool true) ∧ Below w.heap.size w w' := by
  obtain ⟨vp, vb, rfl, hp, hb⟩ := h
  obtain ⟨va, vl, rfl, ha, hl⟩ := hx
  obtain ⟨ap, cp, rfl⟩ := hp.form
  obtain ⟨ab, cb, rfl⟩ := hb.form
  obtain ⟨aa, ca, rfl⟩ := ha.form
  obtain ⟨al, cl, rfl⟩ := hl.form
  unfold insV
  simp only [List.length_map] at hp ha hl ⊢
  obtain ⟨n, hn⟩ : ∃ n, n = d.blocks.length := ⟨_, rfl⟩
  obtain ⟨na, hna⟩ : ∃ n, n = x.args.length := ⟨_, rfl⟩
  have hFw : Hid (RdFun w [.string d.name, .slice ap d.params.length cp, .slice ab n cb] d) := Lib.hid ⟨_, _, rfl, hp, by rw [hn]; exact hb⟩
  have hXw : Hid (RdIns w [.int .u8 x.op, .string x.dst, .string x.a, .string x.b, .int .i64 x.n, .string x.fn, .slice aa na ca, .slice al x.labels.length cl] x) := Lib.hid ⟨_, _, rfl, by rw [hna]; exact ha, hl⟩
  rw [← hn, ← hna]
  replace hn := Lib.hid hn
  replace hna := Lib.hid hna
  have hfit' := Lib.hid hfit
  have hnal : na ≤ 9223372036854775807 := by rw [hna.out]; exact hfx.2.2.2.2.2.2.2.2.2.1
  clear hp hb ha hl hfit hfx
  have hbe0 : Below w.heap.size w ((w.alloc (.cells #[.string d.name, .slice ap d.params.length cp, .slice ab n cb] 32)).alloc (.cells #[.int .u8 x.op, .string x.dst, .string x.a, .string x.b, .int .i64 x.n, .string x.fn, .slice aa na ca, .slice al x.labels.length cl] 25)) := ((Below.refl _ _).alloc (Nat.le_refl _) _).alloc (by simp) _
  have hS0 : ((w.alloc (.cells #[.string d.name, .slice ap d.params.length cp, .slice ab n cb] 32)).alloc (.cells #[.int .u8 x.op, .string x.dst, .string x.a, .string x.b, .int .i64 x.n, .string x.fn, .slice aa na ca, .slice al x.labels.length cl] 25)).heap[w.heap.size]? = some (.cells #[.string d.name, .slice ap d.params.length cp, .slice ab n cb] 32 (0, 0)) := at_oldC (at_newC rfl)
  have hX0 : ((w.alloc (.cells #[.string d.name, .slice ap d.params.length cp, .slice ab n cb] 32)).alloc (.cells #[.int .u8 x.op, .string x.dst, .string x.a, .string x.b, .int .i64 x.n, .string x.fn, .slice aa na ca, .slice al x.labels.length cl] 25)).heap[w.heap.size + 1]? = some (.cells #[.int .u8 x.op, .string x.dst, .string x.a, .string x.b, .int .i64 x.n, .string x.fn, .slice aa na ca, .slice al x.labels.length cl] 25 (0, 0)) := at_newC (by simp)
  go_enter Try.func6, Try.ntmps6
  go_wp2_with fail
  generalize ((w.alloc (.cells #[.string d.name, .slice ap d.params.length cp, .slice ab n cb] 32)).alloc (.cells #[.int .u8 x.op, .string x.dst, .string x.a, .string x.b, .int .i64 x.n, .string x.fn, .slice aa na ca, .slice al x.labels.length cl] 25)) = w0 at hbe0 hS0 hX0 ⊢
  obtain ⟨S, hS⟩ : ∃ S, S = w.heap.size := ⟨_, rfl⟩
  rw [← hS] at hS0 hX0 ⊢
  have hSw : w.heap.size ≤ S := by omega
  have hlt0 := (Array.getElem?_eq_some_iff.1 hX0).1
  replace hS := Lib.hid hS
  refine (heavy_any (hFw.out.below hbe0) hfit'.out).mono ?_
  rintro e w1 ⟨q, rfl, hb1, hq⟩
  have hB1 := hbe0.trans (hb1.mono hbe0.size)
  replace hS0 := (hb1.block S (by omega)).trans hS0
  replace hX0 := (hb1.block (S + 1) hlt0).trans hX0
  replace hlt0 : S + 1 < w1.heap.size := Nat.lt_of_lt_of_le hlt0 hb1.size
  clear hbe0 hb1
  rcases q with _ | _
  · have hlight := hq rfl
    clear hq
    obtain ⟨k0, k1, k2⟩ := cells3 hS0
    obtain ⟨x0, x1, x2, x3, x4, x5, x6, x7⟩ := cells8 hX0
    by_cases h100 : na ≤ 100
    · have d1 : decide ((na : Int) > 100) = false := by simp; omega
      have hO1 := Lib.hid (of_two (hFw.out.below hB1) hlight.small)
      have hslen := succ_len d
      have hplen := pred_len d
      have hn40 := hlight.1
      replace hlight := Lib.hid hlight
      clear hfit'
      go_wp2_with fail
      refine hO1.out.mono ?_
      rintro e w2 ⟨s1, s2, rfl, hTw, hb2⟩
      obtain ⟨L1, hL1⟩ : ∃ L, Hid (L = succL d) := ⟨_, Lib.hid rfl⟩
      obtain ⟨L2, hL2⟩ : ∃ L, Hid (L = predL d) := ⟨_, Lib.hid rfl⟩
      obtain ⟨er, her⟩ : ∃ e, e = errOf d := ⟨_, rfl⟩
      rw [← hL1.out, ← hL2.out] at hTw
      rw [← her]
      have hl1 : L1.length ≤ 40 := by rw [hL1.out]; omega
      have hl2 : L2.length ≤ 40 := by rw [hL2.out]; omega
      obtain ⟨m, hm1, hm2, hR1, hR2⟩ := hTw
      obtain ⟨p1, hp1⟩ : ∃ p, p = L1.length := ⟨_, rfl⟩
      obtain ⟨p2, hp2⟩ : ∃ p, p = L2.length := ⟨_, rfl⟩
      obtain ⟨a1, c1, rfl⟩ := hR1.form
      obtain ⟨a2, c2, rfl⟩ := hR2.form
      rw [← hp1] at hR1 hl1 ⊢
      rw [← hp2] at hR2 hl2 ⊢
      replace hp1 := Lib.hid hp1
      replace hp2 := Lib.hid hp2
      -- the first outcome's block, the second Of
      have hB2 := hB1.trans (hb2.mono hB1.size)
      replace hS0 := (hb2.block S (by omega)).trans hS0
      replace hX0 := (hb2.block (S + 1) hlt0).trans hX0
      have hlt1 := hlt0
      replace hlt0 : S + 1 < w2.heap.size := Nat.lt_of_lt_of_le hlt0 hb2.size
      have hbeA : ∀ a : Array Value, Below w2.heap.size w2 (w2.alloc (.cells a 36)) := fun a => (Below.refl _ _).alloc (Nat.le_refl _) _
      have hO2 := Lib.hid (fun a => of_two (hFw.out.below (hB2.trans ((hbeA a).mono hB2.size))) hlight.out.small)
      obtain ⟨lo, hlo⟩ : ∃ l, l = w1.heap.size := ⟨_, rfl⟩
      rw [← hlo] at hm1 hR1
      have hlow : w.heap.size ≤ lo ∧ S + 1 < lo := by have := hB1.size; omega
      replace hlo := Lib.hid hlo
      replace hR1 := Lib.hid hR1
      replace hR2 := Lib.hid hR2
      clear k0 k1 k2 x0 x1 x2 x3 x4 x5 x6 x7 hO1 hB1 hb2 hslen hplen hn40
      obtain ⟨k0, k1, k2⟩ := cells3 hS0
      have hltS : S < w2.heap.size := by omega
      go_wp2_with fail
      refine (hO2.out _).mono ?_
      rintro e w3 ⟨t1, t2, rfl, hTw, hb3⟩
      rw [← hL1.out, ← hL2.out] at hTw
      rw [← her]
      obtain ⟨m', hm1', hm2', hQ1, hQ2⟩ := hTw
      obtain ⟨b1, e1, rfl⟩ := hQ1.form
      obtain ⟨b2, e2, rfl⟩ := hQ2.form
      rw [← hp1.out] at hQ1 ⊢
      rw [← hp2.out] at hQ2 ⊢
      replace her := Lib.hid her
      go_wp2_with fail
      -- the second outcome's block
      have hbe3 : Below w3.heap.size w3 (w3.alloc (.cells #[.slice b1 p1 e1, .slice b2 p2 e2] 36)) := (Below.refl _ _).alloc (Nat.le_refl _) _
      have hbA := (hbeA #[.slice a1 p1 c1, .slice a2 p2 c2]).trans (hb3.mono (by simp))
      have hbAB := hbA.trans (hbe3.mono hbA.size)
      have hszA : w2.heap.size + 1 ≤ w3.heap.size := by have := hb3.size; simpa using this
      have hFA : w3.heap[w2.heap.size]? = some (.cells #[.slice a1 p1 c1, .slice a2 p2 c2] 36 (0, 0)) := (hb3.block _ (by simp)).trans (at_newC rfl)
      replace hFA := (hbe3.block _ (by omega)).trans hFA
      have hFB : (w3.alloc (.cells #[.slice b1 p1 e1, .slice b2 p2 e2] 36)).heap[w3.heap.size]? = some (.cells #[.slice b1 p1 e1, .slice b2 p2 e2] 36 (0, 0)) := at_newC rfl
      have hS3 := (hbAB.block S (by omega)).trans hS0
      have hX3 := (hbAB.block (S + 1) hlt0).trans hX0
      have hR1' := Lib.hid (hR1.out.below hbAB)
      have hR2' := Lib.hid (hR2.out.below hbAB)
      have hQ1' := Lib.hid (hQ1.below hbe3)
      have hQ2' := Lib.hid (hQ2.below hbe3)
      have hB3 := hB2.trans (hbAB.mono hB2.size)
      have hlen1 : Hid (∀ r ∈ L1, r.length ≤ 10000) := Lib.hid (by rw [hL1.out]; exact succ_low hlight.out)
      have hlen2 : Hid (∀ r ∈ L2, r.length ≤ 10000) := Lib.hid (by rw [hL2.out]; exact pred_low hlight.out)
      rw [World.size_alloc] at hQ1'
      clear hR1 hR2 hQ1 hQ2 hbe3 hbA hbAB hO2 hbeA k0 k1 k2 hS0 hX0 hb3
      obtain ⟨FA, hFAe⟩ : ∃ f, f = w2.heap.size := ⟨_, rfl⟩
      obtain ⟨FB, hFBe⟩ : ∃ f, f = w3.heap.size := ⟨_, rfl⟩
      have hszB : (w3.alloc (.cells #[.slice b1 p1 e1, .slice b2 p2 e2] 36)).heap.size = FB + 1 := by rw [World.size_alloc, hFBe]
      rw [← hFAe] at hFA hR2' hQ1' hm2 hlt0 hltS hszA ⊢
      rw [← hFBe] at hFB hQ2' hm2' hszA ⊢
      generalize (w3.alloc (.cells #[.slice b1 p1 e1, .slice b2 p2 e2] 36)) = wB at *
      replace hFAe := Lib.hid hFAe
      replace hFBe := Lib.hid hFBe
      replace hFA := Lib.hid hFA
      replace hFB := Lib.hid hFB
      replace hS3 := Lib.hid hS3
      replace hX3 := Lib.hid hX3
      rw [World.size_alloc, ← hFAe.out] at hm1'
      clear hB2 hltS
      have hZ1 : ∀ b, ((lo ≤ b ∧ b < m) ∨ FB + 1 ≤ b) → lo ≤ b := fun b h => by omega
      go_loopw [9, 10] (fun i _ wr => ∃ (k : Nat) (A : List (List Int)), k ≤ p1 ∧ i = .int .i64 k ∧ A.length = p1 ∧ Hid (RowsM (fun b => (lo ≤ b ∧ b < m) ∨ FB + 1 ≤ b) lo wr (.slice a1 p1 c1) A) ∧ (∀ i r, k ≤ i → A[i]? = some r → r.length ≤ 10000) ∧ Touch wB wr (fun b => lo ≤ b ∧ b < m)) (fun i _ _ => p1 - (intOf i).toNat)
      case atStart => exact ⟨0, L1, Nat.zero_le _, rfl, hp1.out.symm, Lib.hid (hR1'.out.mono (fun b h => .inl h)), (fun i r _ h => hlen1.out r (List.mem_of_getElem? h)), Touch.refl _ _⟩
      case round =>
        obtain ⟨k, A, hk, rfl, hA, hRA, hAl, hT⟩ := hrel
        have hFA1 := (hT.block FA (by omega) (by omega)).trans hFA.out
        obtain ⟨f0, f1⟩ := cells2 hFA1
        by_cases hlt : k < p1
        · obtain ⟨r, hrk⟩ : ∃ r, A[k]? = some r := ⟨_, List.getElem?_eq_getElem (by omega)⟩
          have hrl := hAl k r (Nat.le_refl _) hrk
          obtain ⟨q1, hq1⟩ : ∃ q, q = r.length := ⟨_, rfl⟩
          rw [← hq1] at hrl
          have i1 : (k : Int) < (p1 : Int) := by omega
          have hszr := hT.size
          replace hAl := Lib.hid hAl
          go_wp2_with fail
          go_loopw [10] (fun j wr => ∃ (q : Nat) (A' : List (List Int)) (r' : List Int), q ≤ q1 ∧ j = .int .i64 q ∧ A'.length = p1 ∧ A'[k]? = some r' ∧ r'.length = q1 ∧ Hid (RowsM (fun b => (lo ≤ b ∧ b < m) ∨ FB + 1 ≤ b) lo wr (.slice a1 p1 c1) A') ∧ Hid (∀ i, i ≠ k → A'[i]? = A[i]?) ∧ Touch wB wr (fun b => lo ≤ b ∧ b < m)) (fun j _ => q1 - (intOf j).toNat)
          case atStart => exact ⟨0, A, r, Nat.zero_le _, rfl, hA, hrk, hq1.symm, hRA, Lib.hid (fun _ _ => rfl), hT⟩
          case round =>
            clear hT hRA hrk hq1 f0 f1 hFA1 hszr
            obtain ⟨q, A', r', hq, rfl, hA', hrk, hrl', hRA, hsame, hT⟩ := hrel
            have hFA1 := (hT.block FA (by omega) (by omega)).trans hFA.out
            obtain ⟨f0, f1⟩ := cells2 hFA1
            have hszr := hT.size
            by_cases hltq : q < q1
            · obtain ⟨G, g, cg, y, rfl, g0, g1, g2, hzg, hlg, hRA2⟩ := hRA.out.write hrk (j := q) (by omega) (-7)
              rw [hrl'] at g0
              have i2 : (q : Int) < (q1 : Int) := by omega
              have hT2 : Touch wB (wr.setCell ⟨g, q, none⟩ (.int .i64 (-7))) (fun b => lo ≤ b ∧ b < m) := hT.setCell (a := ⟨g, q, none⟩) (fun h => ⟨hlg, by have h1 : g < wB.heap.size := h; have h2 : (lo ≤ g ∧ g < m) ∨ FB + 1 ≤ g := hzg; show g < m; omega⟩) _
              have hrk2 : (A'.set k (r'.set q (-7)))[k]? = some (r'.set q (-7)) := List.getElem?_set_self (List.getElem?_eq_some_iff.1 hrk).1
              have hsame2 : Hid (∀ i, i ≠ k → (A'.set k (r'.set q (-7)))[i]? = A[i]?) := Lib.hid (fun i hi => by rw [List.getElem?_set_ne (fun e => hi e.symm)]; exact hsame.out i hi)
              replace hRA2 := Lib.hid hRA2
              replace hT := Lib.hid hT
              replace hrk := Lib.hid hrk
              replace hrl' := Lib.hid hrl'
              replace hA' := Lib.hid hA'
              replace hrk2 := Lib.hid hrk2
              replace hT2 := Lib.hid hT2
              go_wp2_with fail
              exact ⟨⟨q + 1, _, _, by omega, by go_num, by rw [List.length_set]; exact hA'.out, hrk2.out, by rw [List.length_set]; exact hrl'.out, hRA2, hsame2, hT2.out⟩, by simp [intOf]; omega⟩
            · obtain rfl : q = q1 := by omega
              have i2 : decide ((q : Int) < (q : Int)) = false := by simp
              obtain ⟨G, u, rfl, g0, g1, hrow, hne, hlg, hzg, hGl, hzu, hnext⟩ := hRA.out.append (x := 5) (o := .cells #[.int .i64 5] 3) hrk (fun b hb => .inr (by omega))
              have hzg' : (lo ≤ G ∧ G < m) ∨ FB + 1 ≤ G := hzg
              have hzu' : ∀ b, u.ownBlock = some b → (lo ≤ b ∧ b < m) ∨ FB + 1 ≤ b := hzu
              have hlu : ∀ b, u.ownBlock = some b → lo ≤ b := fun b hb => (hrow.lt b hb).1
              have hneF : u.ownBlock ≠ some FA := fun e => by have := hzu' FA e; omega
              obtain ⟨i0, hi0, hz0, hz1, hz2⟩ := info_parts infoI1
              obtain ⟨au, cu, rfl⟩ := own_form hrow
              rw [hrl'] at hrow g0 hne hnext hneF hzu' hlu
              have hFAl := (Array.getElem?_eq_some_iff.1 hFA1).1
              have hk1 : ∀ o, (wr.alloc o).drew.cell? ⟨FA, 0, none⟩ = some (.slice (some ⟨G, 0, none⟩) p1 c1) := fun o => (World.cell?_alloc_past _ _ _ hFAl).trans f0
              have hk3 : ∀ o, (wr.alloc o).drew.cell? ⟨G, k, none⟩ = some (.slice au q cu) := fun o => (World.cell?_alloc_past _ _ _ hGl).trans g0
              have hfz : ∀ o, (wr.alloc o).drew.frozen? ⟨G, k, none⟩ = false := fun o => (World.frozen?_alloc_past _ _ _ hGl).trans g1
              have hAll := Lib.hid (show ∀ x : List Int, ∀ i r, k + 1 ≤ i → (A'.set k x)[i]? = some r → r.length ≤ 10000 from fun x i r hi h => by
                rw [List.getElem?_set_ne (by omega), hsame.out i (by omega)] at h
                exact hAl.out i r (by omega) h)
              have hfin0 : Hid (∀ (gg cap' : Nat) (w3 : World), w3.ownsRow lo 3 1 (.slice (some ⟨gg, 0, none⟩) (q + 1) cap') (q + 1) (r'.map encI ++ [.int .i64 5]) → (wr.alloc (.cells #[.int .i64 5] 3)).grownBy w3 (Value.slice au q cu).ownBlock →
                  ((Value.slice au q cu).ownBlock = some gg ∨ gg = wr.heap.size + 1) →
                  (RowsM (fun b => (lo ≤ b ∧ b < m) ∨ FB + 1 ≤ b) lo (w3.setCell ⟨G, k, none⟩ (.slice (some ⟨gg, 0, none⟩) (q + 1) cap')) (.slice (some ⟨G, 0, none⟩) p1 c1) (A'.set k (r' ++ [5])) ∧ Touch wB (w3.setCell ⟨G, k, none⟩ (.slice (some ⟨gg, 0, none⟩) (q + 1) cap')) (fun b => lo ≤ b ∧ b < m))) := Lib.hid (fun gg cap' w3 h1 h2 h3 => by
                obtain ⟨h4, h5⟩ := hnext _ _ h1 h2 (by rcases h3 with e | e; exact .inl e.symm; exact .inr (by rw [e]; rfl))
                refine ⟨h4, hT.trans' h5 (fun b hb hd => ?_)⟩
                rcases hd with h | h
                · have := hzu' b h; exact ⟨hlu b h, by omega⟩
                · subst h; exact ⟨hlg, by omega⟩)
              have hA2 : Hid (∀ x : List Int, (A'.set k x).length = p1) := Lib.hid (fun x => by rw [List.length_set]; exact hA')
              replace hRA := Lib.hid hRA
              replace hT := Lib.hid hT
              replace hA' := Lib.hid hA'
              replace hrk := Lib.hid hrk
              clear hnext hzu hzg
              have hne' : (Value.slice au q cu).ownBlock ≠ some G := hne
              go_wp2_with fail
              go_region_law
                (refine step_append_lies _ (by rfl) _ _ _ (by rfl) lo 3 i0 _ 1 8 Try.underlying45 hi0 hz0 hz1 hz2 rfl (by omega) (.slice au q cu) q _ (by rfl) ((hrow.alloc _).drew) ⟨wr.heap.size, 0, none⟩ 1 1 [.int .i64 5] (by rfl) (by rfl) (World.news_of_block (cs := #[.int .i64 5]) (t := 3) (fr := (0, 0)) (heap_alloc_new wr _)) (by simp [Value.oneCell']) (by omega) (by unfold maxLen; omega) (by omega) (by simp; omega) (wr.heap.size + 1) (by simp) ?_
                 intro gg cap' w3 hown2 hgrow hat hlt2
                 have v4 : w3.frozen? ⟨G, k, none⟩ = false := (hgrow.frozen_far ⟨G, k, none⟩ (by simp; omega) (Ne.symm hne')).trans (hfz _)
                 have v1 : w3.cell? ⟨FA, 0, none⟩ = some (.slice (some ⟨G, 0, none⟩) p1 c1) := (hgrow.cell_far ⟨FA, 0, none⟩ (by simp; omega) (Ne.symm hneF)).trans (hk1 _)
                 have v3 : w3.cell? ⟨G, k, none⟩ = some (.slice au q cu) := (hgrow.cell_far ⟨G, k, none⟩ (by simp; omega) (Ne.symm hne')).trans (hk3 _)
                 have hg' : (wr.alloc (.cells #[.int .i64 5] 3)).grownBy w3 (Value.slice au q cu).ownBlock := ⟨hgrow.os, hgrow.tape, hgrow.output, hgrow.size, hgrow.block⟩
                 have hfin := Lib.hid (hfin0.out gg cap' w3 hown2 hg' hat))
              all_goals
                go_wp2_with fail
                exact ⟨⟨k + 1, _, by omega, by go_num, hA2.out _, Lib.hid hfin.out.1, hAll.out _, hfin.out.2⟩, by simp [intOf]; omega⟩
        · obtain rfl : k = p1 := by omega
          have i1 : decide ((k : Int) < (k : Int)) = false := by simp
          have hR2w := Lib.hid (hR2'.out.kept hT (fun b hb hu => by have h1 : m ≤ b ∧ b < FA := hb; have h2 : lo ≤ b ∧ b < m := hu; omega))
          have hTA := hT.mono (S' := fun b => lo ≤ b ∧ b < FA) (fun b _ h => ⟨h.1, by have := h.2; omega⟩)
          clear hRA hAl hT
          go_wp2_with fail
          go_loopw [11, 12] (fun i _ wr => ∃ (k : Nat) (A : List (List Int)), k ≤ p2 ∧ i = .int .i64 k ∧ A.length = p2 ∧ Hid (RowsM (fun b => m ≤ b ∧ b < FA) m wr (.slice a2 p2 c2) A) ∧ (∀ i r, k ≤ i → A[i]? = some r → r.length ≤ 10000) ∧ Touch wB wr (fun b => lo ≤ b ∧ b < FA)) (fun i _ _ => p2 - (intOf i).toNat)
          case atStart => exact ⟨0, L2, Nat.zero_le _, rfl, hp2.out.symm, hR2w, (fun i r _ h => hlen2.out r (List.mem_of_getElem? h)), hTA⟩
          case round =>
            clear hR2w hTA f0 f1 hFA1
            obtain ⟨k2, A, hk2, rfl, hA, hRA, hAl, hT⟩ := hrel
            have hFA1 := (hT.block FA (by omega) (by omega)).trans hFA.out
            obtain ⟨f0, f1⟩ := cells2 hFA1
            by_cases hlt2 : k2 < p2
            · obtain ⟨r, hrk⟩ : ∃ r, A[k2]? = some r := ⟨_, List.getElem?_eq_getElem (by omega)⟩
              have hrl := hAl k2 r (Nat.le_refl _) hrk
              obtain ⟨q1, hq1⟩ : ∃ q, q = r.length := ⟨_, rfl⟩
              rw [← hq1] at hrl
              have i1 : (k2 : Int) < (p2 : Int) := by omega
              have hszr := hT.size
              replace hAl := Lib.hid hAl
              go_wp2_with fail
              go_loopw [12] (fun j wr => ∃ (q : Nat) (A' : List (List Int)) (r' : List Int), q ≤ q1 ∧ j = .int .i64 q ∧ A'.length = p2 ∧ A'[k2]? = some r' ∧ r'.length = q1 ∧ Hid (RowsM (fun b => m ≤ b ∧ b < FA) m wr (.slice a2 p2 c2) A') ∧ Hid (∀ i, i ≠ k2 → A'[i]? = A[i]?) ∧ Touch wB wr (fun b => lo ≤ b ∧ b < FA)) (fun j _ => q1 - (intOf j).toNat)
              case atStart => exact ⟨0, A, r, Nat.zero_le _, rfl, hA, hrk, hq1.symm, hRA, Lib.hid (fun _ _ => rfl), hT⟩
              case round =>
                clear hT hRA hrk hq1 f0 f1 hFA1 hszr
                obtain ⟨q, A', r', hq, rfl, hA', hrk, hrl', hRA, hsame, hT⟩ := hrel
                have hFA1 := (hT.block FA (by omega) (by omega)).trans hFA.out
                obtain ⟨f0, f1⟩ := cells2 hFA1
                by_cases hltq : q < q1
                · obtain ⟨G, g, cg, y, rfl, g0, g1, g2, hzg, hlg, hRA2⟩ := hRA.out.write hrk (j := q) (by omega) (-7)
                  rw [hrl'] at g0
                  have i2 : (q : Int) < (q1 : Int) := by omega
                  have hT2 : Touch wB (wr.setCell ⟨g, q, none⟩ (.int .i64 (-7))) (fun b => lo ≤ b ∧ b < FA) := hT.setCell (a := ⟨g, q, none⟩) (fun h => ⟨by show lo ≤ g; omega, hzg.2⟩) _
                  have hrk2 : (A'.set k2 (r'.set q (-7)))[k2]? = some (r'.set q (-7)) := List.getElem?_set_self (List.getElem?_eq_some_iff.1 hrk).1
                  have hsame2 : Hid (∀ i, i ≠ k2 → (A'.set k2 (r'.set q (-7)))[i]? = A[i]?) := Lib.hid (fun i hi => by rw [List.getElem?_set_ne (fun e => hi e.symm)]; exact hsame.out i hi)
                  replace hRA2 := Lib.hid hRA2
                  replace hT := Lib.hid hT
                  replace hrk := Lib.hid hrk
                  replace hrl' := Lib.hid hrl'
                  replace hA' := Lib.hid hA'
                  replace hrk2 := Lib.hid hrk2
                  replace hT2 := Lib.hid hT2
                  go_wp2_with fail
                  exact ⟨⟨q + 1, _, _, by omega, by go_num, by rw [List.length_set]; exact hA'.out, hrk2.out, by rw [List.length_set]; exact hrl'.out, hRA2, hsame2, hT2.out⟩, by simp [intOf]; omega⟩
                · obtain rfl : q = q1 := by omega
                  have i2 : decide ((q : Int) < (q : Int)) = false := by simp
                  obtain ⟨G, u, rfl, g0, hrow⟩ := hRA.out.row hrk
                  obtain ⟨au, cu, rfl⟩ := own_form hrow
                  rw [hrl'] at g0
                  have hAll : Hid (∀ i r, k2 + 1 ≤ i → A'[i]? = some r → r.length ≤ 10000) := Lib.hid (fun i r hi h => by
                    rw [hsame.out i (by omega)] at h
                    exact hAl.out i r (by omega) h)
                  replace hrk := Lib.hid hrk
                  replace hrl' := Lib.hid hrl'
                  replace hA' := Lib.hid hA'
                  replace hT := Lib.hid hT
                  clear hrow
                  go_wp2_with fail
                  exact ⟨⟨k2 + 1, A', by omega, by go_num, hA'.out, hRA, hAll.out, hT.out⟩, by simp [intOf]; omega⟩
            · obtain rfl : k2 = p2 := by omega
              have i1 : decide ((k2 : Int) < (k2 : Int)) = false := by simp
              have hBr := hB3.trans (hT.below hB3.size (fun b hb e => by omega))
              have hXr := (hT.block (S + 1) (by omega) (by omega)).trans hX3.out
              have hszr := hT.size
              obtain ⟨x0, x1, x2, x3, x4, x5, x6, x7⟩ := cells8 hXr
              have hU1 := Lib.hid (uses_any (hXw.out.below hBr) (by rw [← hna.out]; omega))
              clear hRA hAl hA hR1' hR2' hlen1 hlen2
              replace hT := Lib.hid hT
              go_wp2_with fail
              refine hU1.out.mono ?_
              rintro e wu ⟨u, rfl, hOu, hbu⟩
              have hTu := hT.out.trans (Touch.of_below hbu _)
              have hBu := hBr.trans (hbu.mono hBr.size)
              have hXu := (hbu.block (S + 1) (by omega)).trans hXr
              have hszu := hbu.size
              clear x0 x1 x2 x3 x4 x5 x6 x7 hU1 f0 f1 hFA1
              obtain ⟨x0, x1, x2, x3, x4, x5, x6, x7⟩ := cells8 hXu
              have hU2 := Lib.hid (uses_any (hXw.out.below hBu) (by rw [← hna.out]; omega))
              obtain ⟨q, hq⟩ : ∃ q, q = (usesL x).length := ⟨_, rfl⟩
              have hql : q ≤ 102 := by
                rw [hq]
                refine Nat.le_trans (List.length_filter_le _ _) ?_
                simp [← hna.out]
                omega
              unfold OwnS at hOu
              rw [← hq] at hOu
              obtain ⟨au, cu, rfl⟩ := own_form hOu
              replace hq := Lib.hid hq
              go_wp2_with fail
              refine hU2.out.mono ?_
              rintro e wv ⟨v, rfl, hOv, hbv⟩
              have hTv := hTu.trans (Touch.of_below hbv _)
              have hBv := hBu.trans (hbv.mono hBu.size)
              have hXv := (hbv.block (S + 1) (by omega)).trans hXu
              have hszv := hbv.size
              unfold OwnS at hOv
              rw [← hq.out] at hOv
              have hOu2 := ownsRow_touch hOu (Touch.of_below hbv (fun _ => False)) (fun _ _ h => h)
              have hltu : ∀ b, (Value.slice au q cu).ownBlock = some b → wr.heap.size ≤ b ∧ b < wu.heap.size := fun b hb => hOu.lt b hb
              have hltv : ∀ b, v.ownBlock = some b → wu.heap.size ≤ b := fun b hb => (hOv.lt b hb).1
              have hRv : RdS wv v (usesL x) := rds_own hOv
              obtain ⟨av, cv, rfl⟩ := own_form hOv
              clear x0 x1 x2 x3 x4 x5 x6 x7 hU2 hXu hXr hT hTu hBu hBr hOu hbu hbv hOv
              replace hRv := Lib.hid hRv
              go_wp2_with fail
              go_loopw [15] (fun i wx => ∃ (j : Nat) (xs : List Value), j ≤ q ∧ i = .int .i64 j ∧ wx.ownsRow wr.heap.size 9 1 (.slice au q cu) q xs ∧ Touch wv wx (fun b => (Value.slice au q cu).ownBlock = some b)) (fun i _ => q - (intOf i).toNat)
              case atStart => exact ⟨0, _, Nat.zero_le _, rfl, hOu2, Touch.refl _ _⟩
              case round =>
                clear hOu2
                obtain ⟨j, xs, hj, rfl, hown, hTx⟩ := hrel
                by_cases hltj : j < q
                · obtain ⟨g, cg, e⟩ := row_form hown (by omega)
                  simp only [Value.slice.injEq] at e
                  obtain ⟨rfl, -, rfl⟩ := e
                  have hxl : xs.length = q := by have := hown.1; simpa using this
                  obtain ⟨y, hy⟩ : ∃ y, xs[j]? = some y := ⟨_, List.getElem?_eq_getElem (by omega)⟩
                  obtain ⟨hc, hf⟩ := row_cellsC hown hy
                  have i1 : (j : Int) < (q : Int) := by omega
                  have hown2 := Lib.hid (row_setC hown hltj (x := .string ⟨#[115, 112, 111, 105, 108, 116]⟩) rfl)
                  have hTx2 := Lib.hid (hTx.setCell (a := ⟨g, j, none⟩) (fun _ => rfl) (.string ⟨#[115, 112, 111, 105, 108, 116]⟩))
                  replace hTx := Lib.hid hTx
                  clear hown hy hxl
                  go_wp2_with fail
                  exact ⟨⟨j + 1, _, by omega, by go_num, hown2.out, hTx2.out⟩, by simp [intOf]; omega⟩
                · obtain rfl : j = q := by omega
                  have i1 : decide ((j : Int) < (j : Int)) = false := by simp
                  have hT := hTv.trans' hTx (fun b hb he => absurd (hltu b he).1 (by omega))
                  have hXr := (hT.block (S + 1) (by omega) (by omega)).trans hX3.out
                  have hBr := hB3.trans (hT.below hB3.size (fun b hb e => by omega))
                  have hRv2 : RdS wr (.slice av j cv) (usesL x) := Rd.touch hRv.out hTx (fun b hb hu => by have h1 := hltv b hb; have h2 := (hltu b hu).2; omega)
                  have hszx := hT.size
                  obtain ⟨x0, x1, x2, x3, x4, x5, x6, x7⟩ := cells8 hXr
                  have hU3 := Lib.hid (uses_any (hXw.out.below hBr) (by rw [← hna.out]; omega))
                  replace hRv2 := Lib.hid hRv2
                  clear hown hTx hTv hRv
                  go_wp2_with fail
                  refine hU3.out.mono ?_
                  rintro e ww ⟨vw, rfl, hOw, hbw⟩
                  have hTw := hT.trans (Touch.of_below hbw _)
                  have hBw := hBr.trans (hbw.mono hBr.size)
                  have hRw : RdS ww vw (usesL x) := rds_own hOw
                  have hRv3 := Lib.hid (Rd.below hRv2.out hbw)
                  unfold OwnS at hOw
                  rw [← hq.out] at hOw
                  obtain ⟨aw, cw, rfl⟩ := own_form hOw
                  replace hRw := Lib.hid hRw
                  clear x0 x1 x2 x3 x4 x5 x6 x7 hU3 hXr hT hBr hOw hbw hRv2
                  go_wp2_with fail
                  go_loopw [17] (fun i wx => ∃ z m : Nat, z ≤ j ∧ i = .int .i64 z ∧ wx = ww.drewN m) (fun i _ => j - (intOf i).toNat)
                  case atStart => exact ⟨0, 0, Nat.zero_le _, rfl, rfl⟩
                  case round =>
                    obtain ⟨z, mm, hz, rfl, rfl⟩ := hrel
                    by_cases hltz : z < j
                    · obtain ⟨s, hs⟩ : ∃ s, (usesL x)[z]? = some s := ⟨_, List.getElem?_eq_getElem (by rw [← hq.out]; exact hltz)⟩
                      obtain ⟨b, off, cap, e, hbl, hc⟩ := Rd.at hRv3.out (i := z) (u := .string s) (by simp [hs])
                      obtain ⟨b', off', cap', e', hbl', hc'⟩ := Rd.at hRw.out (i := z) (u := .string s) (by simp [hs])
                      simp only [Value.slice.injEq] at e e'
                      obtain ⟨rfl, -, rfl⟩ := e
                      obtain ⟨rfl, -, rfl⟩ := e'
                      have i1 : (z : Int) < (j : Int) := by omega
                      have hss : (s.toList == s.toList) = true := by simp
                      clear hs
                      go_wp2_with fail
                      go_quiet (fail)
                      go_wp2_with fail
                      exact ⟨⟨z + 1, mm + nq, by omega, by go_num, by first | rfl | exact World.drewN_drewN _ _ _⟩, by simp [intOf]; omega⟩
                    · obtain rfl : z = j := by omega
                      have i1 : decide ((z : Int) < (z : Int)) = false := by simp
                      have hTd : Touch wB (ww.drewN mm) (fun b => lo ≤ b ∧ b < FA) := hTw.trans (Touch.drewN ww mm _)
                      have hBd := below_drawn hBw mm
                      have hSd := (hTd.block S (by omega) (by omega)).trans hS3.out
                      have hFBd := (hTd.block FB (by omega) (by omega)).trans hFB.out
                      have hQ1d := hQ1'.out.kept hTd (fun b hb hu => by have h1 : FA + 1 ≤ b ∧ b < m' := hb; have h2 : lo ≤ b ∧ b < FA := hu; omega)
                      have hQ2d := hQ2'.out.kept hTd (fun b hb hu => by have h1 : m' ≤ b ∧ b < FB := hb; have h2 : lo ≤ b ∧ b < FA := hu; have h3 := hm1'; omega)
                      have hszd := hTd.size
                      obtain ⟨wd, hwd⟩ : ∃ wd, wd = ww.drewN mm := ⟨_, rfl⟩
                      rw [← hwd] at hTd hBd hSd hFBd hQ1d hQ2d hszd ⊢
                      have hO3 := Lib.hid (of_two (hFw.out.below hBd) hlight.out.small)
                      obtain ⟨k0, k1, k2⟩ := cells3 hSd
                      have hg1 := Lib.hid hQ1d.rd
                      have hg2 := Lib.hid hQ2d.rd
                      clear hwd hTw hBw hTd hQ1d hQ2d hRw hRv3
                      go_wp2_with fail
                      refine hO3.out.mono ?_
                      rintro e we ⟨y1, y2, rfl, hTw, hbe⟩
                      rw [← hL1.out, ← hL2.out] at hTw
                      rw [← her.out]
                      obtain ⟨mc, -, -, hC1, hC2⟩ := hTw
                      have hgc1 := hC1.rd
                      have hgc2 := hC2.rd
                      obtain ⟨ya, yc, rfl⟩ := hC1.form
                      obtain ⟨yd, yf, rfl⟩ := hC2.form
                      rw [← hp1.out] at hgc1 ⊢
                      rw [← hp2.out] at hgc2 ⊢
                      have hBe := hBd.trans (hbe.mono hBd.size)
                      have hFBe2 := (hbe.block FB (by omega)).trans hFBd
                      have hsze := hbe.size
                      obtain ⟨f0, f1⟩ := cells2 hFBe2
                      have hFBl : FB < we.heap.size := by omega
                      have hbf : ∀ a : Array Value, Below we.heap.size we (we.alloc (.cells a 36)) := fun a => (Below.refl _ _).alloc (Nat.le_refl _) _
                      have hA1 := Lib.hid (fun a => (hg1.out.below hbe).below (hbf a))
                      have hA2 := Lib.hid (fun a => (hg2.out.below hbe).below (hbf a))
                      have hB1 := Lib.hid (fun a => hgc1.below (hbf a))
                      have hB2 := Lib.hid (fun a => hgc2.below (hbf a))
                      have hr1 : Hid (∀ r ∈ L1, r.length ≤ 1000000) := Lib.hid (fun r hr => Nat.le_trans (by rw [hL1.out] at hr; exact succ_low hlight.out r hr) (by omega))
                      have hr2 : Hid (∀ r ∈ L2, r.length ≤ 1000000) := Lib.hid (fun r hr => Nat.le_trans (by rw [hL2.out] at hr; exact pred_low hlight.out r hr) (by omega))
                      clear k0 k1 k2 hO3 hg1 hg2 hC1 hC2 hgc1 hgc2 hbe hSd hFBd
                      go_wp2_with fail
                      refine (rows_yes (hA1.out _) (hB1.out _) (by rw [← hp1.out]; omega) hr1.out).mono ?_
                      rintro e w7 ⟨rfl, n7, rfl⟩
                      go_wp2_with fail
                      have hd7 : ∀ a : Array Value, Below (we.alloc (.cells a 36)).heap.size (we.alloc (.cells a 36)) ((we.alloc (.cells a 36)).drewN n7) := fun a => below_drawn (Below.refl _ _) n7
                      refine (rows_yes ((hA2.out _).below (hd7 _)) ((hB2.out _).below (hd7 _)) (by rw [← hp2.out]; omega) hr2.out).mono ?_
                      rintro e w8 ⟨rfl, n8, rfl⟩
                      have hB9 : ∀ a : Array Value, Below w.heap.size w ((we.alloc (.cells a 36)).drewN (n7 + n8)) := fun a => below_drawn (hBe.trans ((hbf a).mono hBe.size)) (n7 + n8)
                      go_wp2_with fail
                      refine (tells_any).mono ?_
                      rintro e w9 ⟨rfl, hb9⟩
                      go_wp2_with fail
                      go_ret
                      exact ⟨rfl, (hB9 _).trans (hb9.mono (hB9 _).size)⟩
    · have d1 : decide ((na : Int) > 100) = true := by simp; omega
      clear hlight
      go_wp2_with fail
      go_ret
      exact ⟨rfl, hB1⟩
  · clear hq hX0 hS0
    go_wp2_with fail
    go_ret
    exact ⟨rfl, hB1⟩
end Go.Proofs.Ytedleliddhhacaa
