/- The law CfgWays, walked. -/
import Derived.Test.YtedleliddhhacaaCW2
import Derived.Test.YtedleliddhhacaaCW6
import Derived.Test.YtedleliddhhacaaCW8
import Derived.Test.YtedleliddhhacaaCW12
import Derived.Test.YtedleliddhhacaaCOwnW
namespace Go.Proofs.Ytedleliddhhacaa
open Go.RowKit Go.Maps

theorem cell_kept {w w' : World} {p : Addr} {v : Value} (h : w.cell? p = some v) (hb : Below w.heap.size w w') : w'.cell? p = some v := by
  obtain ⟨b, o, s⟩ := p
  obtain rfl : s = none := spot_none h
  have hp : b < w.heap.size := by
    have h0 := h
    unfold World.cell? at h0
    split at h0
    · rename_i h4
      exact (Array.getElem?_eq_some_iff.1 h4).1
    · cases h0
  exact (hb.cell hp).trans h
theorem WW.below {w w' : World} {S F G1 G2 n : Nat} {ab : Option Addr} {cb : Nat} {d : Fun} {N B : List (List Int)} (K : WW w S F G1 G2 n ab cb d N B) (hb : Below w.heap.size w w') : WW w' S F G1 G2 n ab cb d N B :=
  ⟨cell_kept K.func hb, cell_kept K.f0 hb, cell_kept K.f1 hb, RdE.below (fun _ _ h => RdBlk.below h hb) K.blk hb, K.gN.below hb, K.gB.below hb, K.hd, K.hN, K.hB, K.hn, K.formN, K.formB, K.back⟩

set_option maxRecDepth 20000 in
set_option maxHeartbeats 8000000 in
theorem cfgWays_any {w : World} {cs : List Value} {d : Fun} (h : RdFun w cs d) (hfit : d.Fits) :
    Calls Try.prog 4 #[.agg cs.toArray] w fun e w' => e = .returned (.bool true) ∧ Below w.heap.size w w' := by
  obtain ⟨vp, vb, rfl, hp, hb⟩ := h
  obtain ⟨ap, cp, rfl⟩ := hp.form
  obtain ⟨ab, cb, rfl⟩ := hb.form
  simp only [List.length_map] at hp ⊢
  obtain ⟨n, hn⟩ : ∃ n, n = d.blocks.length := ⟨_, rfl⟩
  have hFw : Hid (RdFun w [.string d.name, .slice ap d.params.length cp, .slice ab n cb] d) := Lib.hid ⟨_, _, rfl, hp, by rw [hn]; exact hb⟩
  rw [← hn] at hb ⊢
  replace hb := Lib.hid hb
  replace hn := Lib.hid hn
  have hfit' := Lib.hid hfit
  clear hp hfit
  have hbe0 : Below w.heap.size w (w.alloc (.cells #[.string d.name, .slice ap d.params.length cp, .slice ab n cb] 32)) := (Below.refl _ _).alloc (Nat.le_refl _) _
  have hS0 : (w.alloc (.cells #[.string d.name, .slice ap d.params.length cp, .slice ab n cb] 32)).heap[w.heap.size]? = some (.cells #[.string d.name, .slice ap d.params.length cp, .slice ab n cb] 32 (0, 0)) := at_newC rfl
  go_enter Try.func4, Try.ntmps4
  go_wp2_with fail
  generalize (w.alloc (.cells #[.string d.name, .slice ap d.params.length cp, .slice ab n cb] 32)) = w0 at hbe0 hS0 ⊢
  obtain ⟨S, hS⟩ : ∃ S, S = w.heap.size := ⟨_, rfl⟩
  rw [← hS] at hS0 ⊢
  have hSw : w.heap.size ≤ S := by omega
  replace hS := Lib.hid hS
  refine (heavy_any (hFw.out.below hbe0) hfit'.out).mono ?_
  rintro e w1 ⟨q, rfl, hb1, hq⟩
  have hB1 := hbe0.trans (hb1.mono hbe0.size)
  have hlt0 := (Array.getElem?_eq_some_iff.1 hS0).1
  replace hS0 := (hb1.block S hlt0).trans hS0
  replace hlt0 : S < w1.heap.size := Nat.lt_of_lt_of_le hlt0 hb1.size
  clear hbe0 hb1
  rcases q with _ | _
  · have hlight := hq rfl
    have hn40 : n ≤ 40 := by rw [hn.out]; exact hlight.1
    have hfx := Lib.hid (show ∀ x ∈ d.blocks, x.Fits from hfit'.out.2.2.1)
    clear hq
    obtain ⟨k0, k1, k2⟩ := cells3 hS0
    have hO := Lib.hid (of_any (hFw.out.below hB1) hlight.small)
    replace hlight := Lib.hid hlight
    clear hfit'
    go_wp2_with fail
    refine hO.out.mono ?_
    rintro e w2 ⟨hyes, hno, hb2⟩
    have hB2 := hB1.trans (hb2.mono hB1.size)
    replace hS0 := (hb2.block S hlt0).trans hS0
    replace hlt0 : S < w2.heap.size := Nat.lt_of_lt_of_le hlt0 hb2.size
    have hbeF : ∀ a : Array Value, Below w2.heap.size w2 (w2.alloc (.cells a 36)) := fun a => (Below.refl _ _).alloc (Nat.le_refl _) _
    have hL := Lib.hid (fun a => loops_any (hFw.out.below (hB2.trans ((hbeF a).mono hB2.size))) hlight.out.small)
    rw [← hn.out] at hyes
    clear k0 k1 k2 hO hB1 hb2
    obtain ⟨k0, k1, k2⟩ := cells3 hS0
    rcases hok : ofOk d with _ | _
    · obtain rfl := hno hok
      clear hyes hno
      replace hok := Lib.hid hok
      go_wp2_with fail
      refine (hL.out _).mono ?_
      rintro e w3 ⟨-, hno2, hb3⟩
      obtain rfl := hno2 hok.out
      have hFA : w3.heap[w2.heap.size]? = some (.cells #[.slice none 0 0, .slice none 0 0] 36 (0, 0)) := (hb3.block _ (by simp)).trans (at_newC rfl)
      obtain ⟨f0, f1⟩ := cells2 hFA
      have hB3 := hB2.trans (((hbeF _).trans (hb3.mono (hbeF _).size)).mono hB2.size)
      clear hno2 hL k0 k1 k2
      go_wp2_with fail
      refine (tells_any).mono ?_
      rintro e w4 ⟨rfl, hb4⟩
      go_wp2_with fail
      go_ret
      exact ⟨rfl, hB3.trans (hb4.mono hB3.size)⟩
    · obtain ⟨m, G1, vs1, G2, vs2, rfl, M1, M2, -, -, -⟩ := hyes hok
      clear hyes hno
      replace hok := Lib.hid hok
      replace M1 := Lib.hid M1
      replace M2 := Lib.hid M2
      go_wp2_with fail
      refine (hL.out _).mono ?_
      rintro e w3 ⟨hyes2, -, hb3⟩
      obtain ⟨O, rfl, hO, -⟩ := hyes2 hok.out
      have hFA : w3.heap[w2.heap.size]? = some (.cells #[.slice (some ⟨G1, 0, none⟩) n n, .slice (some ⟨G2, 0, none⟩) n n] 36 (0, 0)) := (hb3.block _ (by simp)).trans (at_newC rfl)
      obtain ⟨f0, f1⟩ := cells2 hFA
      have hb23 := (hbeF #[.slice (some ⟨G1, 0, none⟩) n n, .slice (some ⟨G2, 0, none⟩) n n]).trans (hb3.mono (hbeF _).size)
      have hB3 := hB2.trans (hb23.mono hB2.size)
      have hS3 := (hb23.block S hlt0).trans hS0
      rw [← hn.out] at hO ⊢
      have hl1 : (normL (rowsF d)).length = n := by rw [normL_len, rowsF_len, hn.out]
      have hl2 : (backL (rowsF d)).length = n := by rw [backL_len, rowsF_len, hn.out]
      obtain ⟨N, hN⟩ : ∃ N, N = normL (rowsF d) := ⟨_, rfl⟩
      obtain ⟨Bk, hBk⟩ : ∃ N, N = backL (rowsF d) := ⟨_, rfl⟩
      have hfN := norm_form (rowsF d)
      have hfB := back_form (rowsF d)
      rw [← hN] at hO hl1 hfN
      rw [← hBk] at hl2 hfB
      have M1' := M1.out.below hb23
      have M2' := M2.out.below hb23
      rw [← hN] at M1'
      rw [← hBk] at M2'
      obtain ⟨x0, x1, k2'⟩ := cells3 hS3
      have K : WW w3 S w2.heap.size G1 G2 n ab cb d N Bk := ⟨k2', f0, f1, RdE.below (fun _ _ h => RdBlk.below h hB3) hb.out hB3, M1'.rd hl1.symm, M2'.rd hl2.symm, hn.out, hl1, hl2, hn40, (by rw [← hl1]; exact hfN), (by rw [← hl2]; exact hfB), fun a b => by rw [hN, hBk, edge_back, edge_norm]⟩
      have hFl : w2.heap.size < w3.heap.size := (Array.getElem?_eq_some_iff.1 hFA).1
      obtain ⟨F, hF⟩ : ∃ F, F = w2.heap.size := ⟨_, rfl⟩
      rw [← hF] at K f0 f1 hFA hFl
      have hOl := (Array.getElem?_eq_some_iff.1 hO).1
      have hSl : S < w3.heap.size := (Array.getElem?_eq_some_iff.1 hS3).1
      have hne : ((n : Int) != (n : Int)) = false := by simp
      rw [← hF]
      replace hF := Lib.hid hF
      replace hN := Lib.hid hN
      replace hBk := Lib.hid hBk
      replace K := Lib.hid K
      replace hO := Lib.hid hO
      clear M1 M2 M1' M2' hyes2 hL k0 k1 k2 x0 x1 hl1 hl2 hfN hfB hb3 hb23 hbeF hB2 hS0 hlt0 hFA
      go_wp2_with fail
      go_loopw [7, 8, 9, 10, 11, 12, 13, 14, 15, 16, 17, 18, 19, 20] (fun i _ _ _ _ _ _ _ _ _ _ _ _ _ wr => ∃ k : Nat, k ≤ n ∧ i = .int .i64 k ∧ Below w3.heap.size w3 wr) (fun i _ _ _ _ _ _ _ _ _ _ _ _ _ _ => n - (intOf i).toNat)
      case atStart => exact ⟨0, Nat.zero_le _, rfl, Below.refl _ _⟩
      case round =>
        obtain ⟨i, hi, rfl, hbr⟩ := hrel
        have hBr := hB3.trans (hbr.mono hB3.size)
        by_cases hlt : i < n
        · have i1 : (i : Int) < (n : Int) := by omega
          have s2 := cell_kept k2' hbr
          obtain ⟨x, hx⟩ : ∃ x, d.blocks[i]? = some x := ⟨_, List.getElem?_eq_getElem (by rw [← hn.out]; exact hlt)⟩
          obtain ⟨y, hlast, hwx, hinl, hop0⟩ := ok_block hok.out hx
          obtain ⟨b, off, cap, cs, e, hbl, ⟨vc, rfl, hcode⟩, -, hcell⟩ := hb.out.at hx
          rw [← hn.out] at e
          simp only [Value.slice.injEq] at e
          obtain ⟨rfl, -, rfl⟩ := e
          obtain ⟨ac, cc, rfl⟩ := hcode.form
          have c1 := (hBr.cell (p := ⟨b, off + i * 2 + 1, none⟩) hbl).trans (hcell 1 _ rfl)
          obtain ⟨m, hm⟩ : ∃ m, m = x.code.length := ⟨_, rfl⟩
          rw [← hm] at c1 hcode
          have hm0 : 0 < m := by
            rw [hm]
            rcases hxc : x.code with _ | ⟨a, t⟩
            · rw [hxc] at hlast; cases hlast
            · simp
          have hlx := hlight.out.2 x (List.mem_of_getElem? hx)
          have hm100 : m ≤ 100 := by rw [hm]; exact hlx.2.1
          obtain ⟨l, hl⟩ : ∃ l, m = l + 1 := ⟨m - 1, by omega⟩
          have hy : x.code[l]? = some y := by
            rw [List.getLast?_eq_getElem?, ← hm, hl] at hlast
            simpa using hlast
          obtain ⟨b1, off1, cap1, cs1, e1, hbl1, ⟨va, vl, rfl, ha, hlab⟩, -, hcell1⟩ := hcode.at hy
          rw [← hm] at e1
          simp only [Value.slice.injEq] at e1
          obtain ⟨rfl, -, rfl⟩ := e1
          obtain ⟨a6, k6, rfl⟩ := ha.form
          obtain ⟨a7, k7, rfl⟩ := hlab.form
          rw [List.length_map] at hlab
          obtain ⟨p, hp⟩ : ∃ p, p = y.labels.length := ⟨_, rfl⟩
          simp only [List.length_map] at hcell1
          rw [← hp] at hlab hcell1
          have hp20 : p ≤ 20 := by rw [hp]; exact (hlx.2.2 y hlast).1
          have e0 : wr.cell? ⟨b1, off1 + l * 8, none⟩ = some (.int .u8 y.op) := (hBr.cell (p := ⟨b1, off1 + l * 8, none⟩) hbl1).trans (hcell1 0 _ rfl)
          have e1 : wr.cell? ⟨b1, off1 + l * 8 + 1, none⟩ = some (.string y.dst) := (hBr.cell (p := ⟨b1, off1 + l * 8 + 1, none⟩) hbl1).trans (hcell1 1 _ rfl)
          have e2 : wr.cell? ⟨b1, off1 + l * 8 + 2, none⟩ = some (.string y.a) := (hBr.cell (p := ⟨b1, off1 + l * 8 + 2, none⟩) hbl1).trans (hcell1 2 _ rfl)
          have e3 : wr.cell? ⟨b1, off1 + l * 8 + 3, none⟩ = some (.string y.b) := (hBr.cell (p := ⟨b1, off1 + l * 8 + 3, none⟩) hbl1).trans (hcell1 3 _ rfl)
          have e4 : wr.cell? ⟨b1, off1 + l * 8 + 4, none⟩ = some (.int .i64 y.n) := (hBr.cell (p := ⟨b1, off1 + l * 8 + 4, none⟩) hbl1).trans (hcell1 4 _ rfl)
          have e5 : wr.cell? ⟨b1, off1 + l * 8 + 5, none⟩ = some (.string y.fn) := (hBr.cell (p := ⟨b1, off1 + l * 8 + 5, none⟩) hbl1).trans (hcell1 5 _ rfl)
          have e6 : wr.cell? ⟨b1, off1 + l * 8 + 6, none⟩ = some (.slice a6 y.args.length k6) := (hBr.cell (p := ⟨b1, off1 + l * 8 + 6, none⟩) hbl1).trans (hcell1 6 _ rfl)
          have e7 : wr.cell? ⟨b1, off1 + l * 8 + 7, none⟩ = some (.slice a7 p k7) := (hBr.cell (p := ⟨b1, off1 + l * 8 + 7, none⟩) hbl1).trans (hcell1 7 _ rfl)
          have hml : (m : Int) - 1 = (l : Int) := by omega
          have hlm : (l : Int) < (m : Int) := by omega
          have hbl1' : b1 < wr.heap.size := Nat.lt_of_lt_of_le hbl1 hBr.size
          have hbe2 : ∀ a : Array Value, Below wr.heap.size wr (wr.alloc (.cells a 25)) := fun a => (Below.refl _ _).alloc (Nat.le_refl _) _
          -- rows, there and back
          obtain ⟨r, hr⟩ : ∃ r, N[i]? = some r := ⟨_, List.getElem?_eq_getElem (by rw [K.out.hN]; exact hlt)⟩
          obtain ⟨r2, hr2⟩ : ∃ r, Bk[i]? = some r := ⟨_, List.getElem?_eq_getElem (by rw [K.out.hB]; exact hlt)⟩
          have hed : ∀ t : Nat, (t : Int) ∈ r ↔ Edge (rowsF d) i t := fun t => by
            rw [← edge_norm, ← hN.out]
            refine ⟨fun h => ⟨?_, r, hr, h⟩, fun ⟨_, r', h1, h2⟩ => ?_⟩
            · rw [K.out.hN]
              have := (K.out.formN r (List.mem_of_getElem? hr)).2 _ h
              omega
            · rw [hr] at h1
              rw [Option.some.inj h1]
              exact h2
          have hin : ∀ t : Nat, (t : Int) ∈ r → ∃ (q : Nat) (s : ByteArray), y.labels[q]? = some s ∧ d.labels[t]? = some s := fun t ht => by
            obtain ⟨s, hs, hd⟩ := edge_label hok.out hx ((hed t).1 ht)
            rcases hop0 with ⟨-, h0⟩ | ⟨-, h0⟩
            · rw [h0] at hs; cases hs
            · rw [h0] at hs
              obtain ⟨q, hq⟩ := List.mem_iff_getElem?.1 hs
              exact ⟨q, s, hq, hd⟩
          have hout : y.op ≠ 14 → ∀ (q : Nat) (s : ByteArray), y.labels[q]? = some s → ∃ (k : Nat) (t : Nat), r[k]? = some (t : Int) ∧ d.labels[t]? = some s := fun h14 q s hq => by
            have h0 : waysL x = y.labels := by
              rcases hop0 with ⟨h1, -⟩ | ⟨-, h0⟩
              · exact absurd h1 h14
              · exact h0
            obtain ⟨t, ht, hd⟩ := label_edge hok.out hx (s := s) (by rw [h0]; exact List.mem_of_getElem? hq)
            obtain ⟨k, hk⟩ := List.mem_iff_getElem?.1 ((hed t).2 ht)
            exact ⟨k, t, hk, hd⟩
          have hop : r ≠ [] → y.op ≠ 14 := fun hne h14 => by
            rcases r with _ | ⟨z, r'⟩
            · exact hne rfl
            · have hz := (K.out.formN _ (List.mem_of_getElem? hr)).2 z List.mem_cons_self
              obtain ⟨q, s, hq, -⟩ := hin z.toNat (by rw [Int.toNat_of_nonneg hz.1]; exact List.mem_cons_self)
              have hs := edge_label hok.out hx ((hed z.toNat).1 (by rw [Int.toNat_of_nonneg hz.1]; exact List.mem_cons_self))
              obtain ⟨s', hs', -⟩ := hs
              rcases hop0 with ⟨-, h0⟩ | ⟨h1, -⟩
              · rw [h0] at hs'; cases hs'
              · exact h1 h14
          replace hin := Lib.hid hin
          replace hout := Lib.hid hout
          replace hop := Lib.hid hop
          replace hr := Lib.hid hr
          replace hr2 := Lib.hid hr2
          replace hp := Lib.hid hp
          replace hlab := Lib.hid hlab
          replace hl := Lib.hid hl
          replace hm := Lib.hid hm
          clear hcell hcell1 hx hy hlast hwx hinl hop0 hcode ha hlx hed hm0
          go_upto_block 2 with fail
          have hw4 := hbe2 #[.int .u8 y.op, .string y.dst, .string y.a, .string y.b, .int .i64 y.n, .string y.fn, .slice a6 y.args.length k6, .slice a7 p k7]
          have hI4 : (wr.alloc (.cells #[.int .u8 y.op, .string y.dst, .string y.a, .string y.b, .int .i64 y.n, .string y.fn, .slice a6 y.args.length k6, .slice a7 p k7] 25)).heap[wr.heap.size]? = some (.cells #[.int .u8 y.op, .string y.dst, .string y.a, .string y.b, .int .i64 y.n, .string y.fn, .slice a6 y.args.length k6, .slice a7 p k7] 25 (0, 0)) := at_newC rfl
          clear e0 e1 e2 e3 e4 e5 e6 e7 c1 s2
          generalize (wr.alloc (.cells #[.int .u8 y.op, .string y.dst, .string y.a, .string y.b, .int .i64 y.n, .string y.fn, .slice a6 y.args.length k6, .slice a7 p k7] 25)) = w4 at hw4 hI4 ⊢
          obtain ⟨g0, -, -, -, -, -, -, g7⟩ := cells8 hI4
          have hbr4 := hbr.trans (hw4.mono hbr.size)
          have hBr4 := hBr.trans (hw4.mono hBr.size)
          have K4 := Lib.hid (K.out.below hbr4)
          have hlab4 := Lib.hid (Rd.below hlab.out hBr4)
          clear hbe2 hI4 hw4
          refine cw2 (by kernel_rfl) (w := w4) K4.out hlt g0 g7 hlab4.out hp.out hp20 hr.out hr2.out hin.out hout.out hop.out (Lib.hid ?_)
          intros
          rename_i hx
          obtain ⟨m2, rfl⟩ := hx
          go_upto_block 6 with fail
          refine cw6 (by kernel_rfl) (w := w4.drewN m2) (K4.out.drewN m2) hlt g0 g7 (Rd.below hlab4.out (below_drawn (Below.refl _ _) m2)) hp.out hp20 hr.out hr2.out hin.out hout.out hop.out (Lib.hid ?_)
          intros
          rename_i hx
          obtain ⟨m3, rfl⟩ := hx
          rw [World.drewN_drewN]
          go_upto_block 8 with fail
          refine cw8 (by kernel_rfl) (w := w4.drewN (m2 + m3)) (K4.out.drewN _) hlt g0 g7 (Rd.below hlab4.out (below_drawn (Below.refl _ _) _)) hp.out hp20 hr.out hr2.out hin.out hout.out hop.out (Lib.hid ?_)
          intros
          rename_i hx
          obtain ⟨m4, rfl⟩ := hx
          rw [World.drewN_drewN]
          have hbr5 := below_drawn hbr4 (m2 + m3 + m4)
          have hBr5 := below_drawn hBr4 (m2 + m3 + m4)
          have K5 := K4.out.drewN (m2 + m3 + m4)
          clear hbr4 hBr4 K4 hlab4 g0 g7
          generalize (w4.drewN (m2 + m3 + m4)) = w5 at hbr5 hBr5 K5 ⊢
          have hmk := make_bools n (by omega) w5
          have hbeZ : Below w5.heap.size w5 (w5.alloc (.cells (seenA n []) 4)) := (Below.refl _ _).alloc (Nat.le_refl _) _
          have hZ0 : (w5.alloc (.cells (seenA n []) 4)).heap[w5.heap.size]? = some (.cells (seenA n []) 4 (0, 0)) := at_newC rfl
          have hszZ : (w5.alloc (.cells (seenA n []) 4)).heap.size = w5.heap.size + 1 := by simp
          obtain ⟨Z, hZe⟩ : ∃ Z, Z = w5.heap.size := ⟨_, rfl⟩
          have hbr6 := hbr5.trans (hbeZ.mono hbr5.size)
          have hBr6 := hBr5.trans (hbeZ.mono hBr5.size)
          have K6 := K5.below hbeZ
          have hZw : w3.heap.size ≤ Z := by rw [hZe]; exact hbr5.size
          rw [← hZe] at hmk hZ0 hszZ
          replace hZe := Lib.hid hZe
          clear hbr5 hBr5 K5 hbeZ
          generalize (w5.alloc (.cells (seenA n []) 4)) = w6 at hmk hZ0 hszZ hbr6 hBr6 K6 ⊢
          obtain ⟨hfunc, hf0, hf1, hblk, hgN, hgB, hd, hNl, hBl, -, hformN, hformB, hback⟩ := K6
          obtain ⟨bN, oN, cN, uN, eN, hbN, hcN, hrN⟩ := hgN.at hr.out
          rw [hNl] at eN
          simp only [Value.slice.injEq, Option.some.injEq, Addr.mk.injEq] at eN
          obtain ⟨⟨rfl, rfl, -⟩, -, rfl⟩ := eN
          rw [Nat.zero_add] at hcN
          obtain ⟨aN, kN, rfl⟩ := hrN.shape
          have hfr := hformN r (List.mem_of_getElem? hr.out)
          have hrl : r.length ≤ n := rise_lenN hfr.1 hfr.2
          have hbeE : Below w6.heap.size w6 (w6.alloc (.cells #[] 3)) := (Below.refl _ _).alloc (Nat.le_refl _) _
          have hrE := Lib.hid (Rd.below hrN hbeE)
          have hownE : (w6.alloc (.cells #[] 3)).ownsRow (Z + 1) 3 1 (.slice (some ⟨w6.heap.size, 0, none⟩) 0 0) 0 [] := World.ownsRow_lit (base := Z + 1) (e := 3) (size := 1) w6 #[] 0 (by omega) (by decide) rfl
          rw [hszZ] at hownE
          have hF6 : F < Z + 1 := by omega
          have hG6 : G1 < Z + 1 := by omega
          obtain ⟨i0, hi0, hz0, hz1, hz2⟩ := info_parts infoI1
          have hform' := Lib.hid hformN
          replace hfr := Lib.hid hfr
          have hgN' := Lib.hid K.out.gN
          have hNl' := Lib.hid hNl
          clear hgN hgB hblk hback hformN hformB hd hBl hrN hNl hfunc hf1 hlab hin hout hop
          go_wp2_with (at_builtin; refine wpList_append_rd _ rfl _ _ 45 rfl (Z + 1) 3 i0 (.int .i64 0) 8 Try.underlying45 hi0 hz0 hz1 hz2 rfl _ 0 [] rfl hownE _ (r.map encI) rfl hrE.out (oneCells _) (by simp; unfold maxLen; omega) (by simp; omega) (by simp; omega) ?_)
          intro v' w7 hown7 hgrow hat
          have hown8 : w7.ownsRow (Z + 1) 3 1 v' r.length (r.map encI) := by simpa using hown7
          have hZ7 : w7.heap[Z]? = some (.cells (seenA n []) 4 (0, 0)) := (hgrow.block Z (by simp; omega) (fun e => by simp [Value.ownBlock] at e <;> omega)).trans ((hbeE.block Z (by omega)).trans hZ0)
          have hbr7 : Below w3.heap.size w3 w7 := (hbr6.trans (hbeE.mono hbr6.size)).grown hgrow (by have := hbr6.size; simp; omega) (fun b e => by have := hbr6.size; simp [Value.ownBlock] at e <;> omega)
          obtain ⟨av, cv, rfl⟩ := own_form hown8
          clear hown7 hgrow hat hmk hZ0 hbr6 hBr6 hcN hf0 hbeE hownE hrE hszZ
          replace hZ7 := Lib.hid hZ7
          replace hown8 := Lib.hid hown8
          go_upto_block 12 with fail
          refine cw12 (by kernel_rfl) (wc := w3) (w := w7) f0 hFl hgN'.out hNl'.out hn40 hform'.out hZ7.out hZw hbr7 hown8.out rfl hr.out (Lib.hid ?_)
          intros
          rename_i hx
          obtain ⟨s, hZs, hs, hbr8⟩ := hx
          have hO8 := (hbr8.block O hOl).trans hO.out
          obtain ⟨bv, hbv⟩ : ∃ bv, bv = cycB N i := ⟨_, rfl⟩
          have hsb : decide (i ∈ s) = bv := by
            rw [hbv, Bool.eq_iff_iff, decide_eq_true_eq, cycB_iff, cycP_iff]
            exact hs i
          have c5 := blk_cell hZs i
          rw [seenA_at hlt, hsb] at c5
          have c6 := blk_cell hO8 i
          rw [boolA_at hlt, ← hbv] at c6
          have hbb : (bv != bv) = false := by simp
          clear hs hsb hbv hZs hO8 hbr7
          go_wp2_with fail
          go_quiet (fail)
          go_wp2_with fail
          exact ⟨⟨i + 1, by omega, by go_num, below_drawn hbr8 _⟩, by simp [intOf]; omega⟩
        · obtain rfl : i = n := by omega
          have i1 : decide ((i : Int) < (i : Int)) = false := by simp
          go_wp2_with fail
          refine (tells_any).mono ?_
          rintro e w4 ⟨rfl, hb4⟩
          go_wp2_with fail
          go_ret
          exact ⟨rfl, hBr.trans (hb4.mono hBr.size)⟩
  · clear hq
    go_wp2_with fail
    go_ret
    exact ⟨rfl, hB1⟩
end Go.Proofs.Ytedleliddhhacaa
