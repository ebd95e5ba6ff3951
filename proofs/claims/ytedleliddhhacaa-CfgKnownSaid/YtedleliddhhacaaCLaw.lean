/- The laws' own words of layer 10: rows. -/
import Derived.Test.YtedleliddhhacaaCOf
namespace Go.Proofs.Ytedleliddhhacaa
open Go.RowKit Go.Maps

set_option maxRecDepth 20000 in
set_option maxHeartbeats 1000000 in
/-- The same rows: it says so. -/
theorem rows_yes {w : World} {va vb : Value} {L : List (List Int)} (ha : RdG w va L) (hb : RdG w vb L) (hl : L.length ≤ 1000000) (hr : ∀ r ∈ L, r.length ≤ 1000000) :
    Calls Try.prog 17 #[va, vb] w fun e w' => e = .returned (.bool true) ∧ ∃ n, w' = w.drewN n := by
  obtain ⟨aa, ca, rfl⟩ := ha.form
  obtain ⟨ab, cb, rfl⟩ := hb.form
  obtain ⟨n, hn⟩ : ∃ n, n = L.length := ⟨_, rfl⟩
  rw [← hn] at ha hb hl ⊢
  replace hn := Lib.hid hn
  replace ha := Lib.hid ha
  replace hb := Lib.hid hb
  replace hr := Lib.hid hr
  have hne : ((n : Int) != (n : Int)) = false := by simp
  go_enter Try.func17, Try.ntmps17
  go_wp2_with fail
  go_loopw [5, 6] (fun i _ wr => ∃ k m : Nat, k ≤ n ∧ i = .int .i64 k ∧ wr = w.drewN m) (fun i _ _ => n - (intOf i).toNat)
  case atStart => exact ⟨0, 0, Nat.zero_le _, rfl, rfl⟩
  case round =>
    obtain ⟨k, m, hk, rfl, rfl⟩ := hrel
    by_cases hlt : k < n
    · obtain ⟨r, hrk⟩ : ∃ r, L[k]? = some r := ⟨_, List.getElem?_eq_getElem (by rw [← hn.out]; exact hlt)⟩
      obtain ⟨b, off, cap, u, e, hbl, hcell, hrd⟩ := ha.out.at hrk
      obtain ⟨b', off', cap', u', e', hbl', hcell', hrd'⟩ := hb.out.at hrk
      rw [← hn.out] at e e'
      simp only [Value.slice.injEq] at e e'
      obtain ⟨rfl, -, rfl⟩ := e
      obtain ⟨rfl, -, rfl⟩ := e'
      obtain ⟨ar, cr, rfl⟩ := hrd.shape
      obtain ⟨ar', cr', rfl⟩ := hrd'.shape
      have i1 : (k : Int) < (n : Int) := by omega
      have hrl := hr.out r (List.mem_of_getElem? hrk)
      have hne2 : ((r.length : Int) != (r.length : Int)) = false := by simp
      obtain ⟨p, hp⟩ : ∃ p, p = r.length := ⟨_, rfl⟩
      rw [← hp] at hrd hrd' hcell hcell' hrl hne2
      replace hp := Lib.hid hp
      replace hrd := Lib.hid hrd
      replace hrd' := Lib.hid hrd'
      clear hrk
      go_wp2_with fail
      go_quiet (fail)
      go_wp2_with fail
      go_loopw [6] (fun j wr => ∃ q m : Nat, q ≤ p ∧ j = .int .i64 q ∧ wr = w.drewN m) (fun j _ => p - (intOf j).toNat)
      case atStart => exact ⟨0, m + nq, Nat.zero_le _, rfl, World.drewN_drewN _ _ _⟩
      case round =>
        obtain ⟨q, m, hq, rfl, rfl⟩ := hrel
        by_cases hltq : q < p
        · obtain ⟨x, hx⟩ : ∃ x, r[q]? = some x := ⟨_, List.getElem?_eq_getElem (by rw [← hp.out]; exact hltq)⟩
          obtain ⟨b3, off3, cap3, e3, hc3⟩ := RdI.cell hrd.out hx
          obtain ⟨b4, off4, cap4, e4, hc4⟩ := RdI.cell hrd'.out hx
          rw [← hp.out] at e3 e4
          simp only [Value.slice.injEq] at e3 e4
          obtain ⟨rfl, -, rfl⟩ := e3
          obtain ⟨rfl, -, rfl⟩ := e4
          have i2 : (q : Int) < (p : Int) := by omega
          have hne3 : (x != x) = false := by simp
          clear hx
          go_wp2_with fail
          go_quiet (fail)
          go_wp2_with fail
          exact ⟨⟨q + 1, m + nq, by omega, by go_num, by first | rfl | exact World.drewN_drewN _ _ _⟩, by simp [intOf]; omega⟩
        · obtain rfl : q = p := by omega
          have i2 : decide ((q : Int) < (q : Int)) = false := by simp
          go_wp2_with fail
          exact ⟨⟨k + 1, m, by omega, by go_num, by first | rfl | exact World.drewN_drewN _ _ _⟩, by simp [intOf]; omega⟩
    · obtain rfl : k = n := by omega
      have i1 : decide ((k : Int) < (k : Int)) = false := by simp
      go_wp2_with fail
      go_ret
      exact ⟨rfl, m, rfl⟩

/-- Rows of a slice of slices whose blocks are known. -/
theorem rdg_ofC {w : World} {B : Nat} {vs : List Value} {L : List (List Int)} {t : TypeId} {n : Nat} (hn : n = L.length) (hb : w.heap[B]? = some (.cells vs.toArray t (0, 0))) (hl : vs.length = L.length) (h : ∀ (i : Nat) (u : Value) (l : List Int), vs[i]? = some u → L[i]? = some l → RdI w u l) : RdG w (.slice (some ⟨B, 0, none⟩) n n) L := by
  subst hn
  refine ⟨vs, .inr ⟨B, 0, L.length, by rw [hl], (Array.getElem?_eq_some_iff.1 hb).1, fun i u hu => ?_⟩, hl, h⟩
  rw [blk_cell hb, Nat.zero_add]
  simpa using hu
theorem rd_ofC {α : Type} {f : α → Value} {w : World} {B : Nat} {l : List α} {t : TypeId} {n : Nat} (hn : n = l.length) (hb : w.heap[B]? = some (.cells (l.map f).toArray t (0, 0))) : Rd w (.slice (some ⟨B, 0, none⟩) n n) (l.map f) := by
  subst hn
  refine .inr ⟨B, 0, l.length, by simp, (Array.getElem?_eq_some_iff.1 hb).1, fun i u hu => ?_⟩
  rw [blk_cell hb, Nat.zero_add]
  simpa using hu
theorem at_newC {w : World} {o : Obj} {b : Nat} (h : b = w.heap.size) : (w.alloc o).heap[b]? = some o := by
  subst h
  exact heap_alloc_new _ _
theorem at_oldC {w : World} {o : Obj} {b : Nat} {x : Obj} (h : w.heap[b]? = some x) : (w.alloc o).heap[b]? = some x := by
  have hb := (Array.getElem?_eq_some_iff.1 h).1
  simp only [World.alloc]
  rw [Array.getElem?_push, if_neg (by omega)]
  exact h
theorem rde_oneC {α : Type} {c : Nat} {R : World → List Value → α → Prop} {w : World} {B : Nat} {cs : List Value} {t : TypeId} {d : α} (hb : w.heap[B]? = some (.cells cs.toArray t (0, 0))) (hR : R w cs d) (hc : cs.length = c) : RdE c R w (.slice (some ⟨B, 0, none⟩) 1 1) [d] := by
  refine .inr ⟨B, 0, 1, rfl, (Array.getElem?_eq_some_iff.1 hb).1, fun i x hx => ?_⟩
  obtain rfl : i = 0 := by have := (List.getElem?_eq_some_iff.1 hx).1; simpa using this
  obtain rfl : d = x := by simpa using hx
  refine ⟨cs, hR, hc, fun j u hu => ?_⟩
  rw [blk_cell hb]
  simpa using hu
theorem rde_twoC {α : Type} {c : Nat} {R : World → List Value → α → Prop} {w : World} {B : Nat} {cs ct : List Value} {t : TypeId} {d e : α} (hb : w.heap[B]? = some (.cells (cs ++ ct).toArray t (0, 0))) (hR : R w cs d) (hR2 : R w ct e) (hc : cs.length = c) (hc2 : ct.length = c) : RdE c R w (.slice (some ⟨B, 0, none⟩) 2 2) [d, e] := by
  refine .inr ⟨B, 0, 2, rfl, (Array.getElem?_eq_some_iff.1 hb).1, fun i x hx => ?_⟩
  have hi : i < 2 := by have := (List.getElem?_eq_some_iff.1 hx).1; simpa using this
  rcases (by omega : i = 0 ∨ i = 1) with rfl | rfl
  · obtain rfl : d = x := by simpa using hx
    refine ⟨cs, hR, hc, fun j u hu => ?_⟩
    rw [blk_cell hb]
    have := (List.getElem?_eq_some_iff.1 hu).1
    simp [List.getElem?_append_left this, hu]
  · obtain rfl : e = x := by simpa using hx
    refine ⟨ct, hR2, hc2, fun j u hu => ?_⟩
    rw [blk_cell hb]
    simp only [Nat.zero_add, Nat.one_mul, List.getElem?_toArray]
    rw [List.getElem?_append_right (by omega), show c + j - cs.length = j from by omega]
    exact hu

def bA : ByteArray := ⟨#[97]⟩
def bB : ByteArray := ⟨#[98]⟩
def b0 : ByteArray := ⟨#[]⟩
def insBr (l : List ByteArray) : Ins := ⟨12, b0, b0, b0, 0, b0, [], l⟩
def insGoto (l : List ByteArray) : Ins := ⟨13, b0, b0, b0, 0, b0, [], l⟩
def insRet : Ins := ⟨14, b0, b0, b0, 0, b0, [], []⟩
def tellsF : Fun := ⟨b0, [], [⟨bA, [insBr [bB, bB]]⟩, ⟨bB, [insGoto [bA]]⟩]⟩
theorem tells_ok : ofOk tellsF = true := by decide +kernel
theorem tells_rows : rowsF tellsF = [[1, 1], [0]] := by decide +kernel
theorem tells_norm : normL (rowsF tellsF) = [[1], [0]] := by decide +kernel
theorem tells_back : backL (rowsF tellsF) = [[1], [0]] := by decide +kernel
theorem tells_small : SmallF tellsF := by
  refine ⟨by decide, fun b hb => ?_⟩
  simp only [tellsF, List.mem_cons, List.not_mem_nil, or_false] at hb
  rcases hb with rfl | rfl
  · exact ⟨by decide, by decide, by decide, by decide⟩
  · exact ⟨by decide, by decide, by decide, by decide⟩
theorem litR {W : World} {b : Nat} (hb : b = W.heap.size) : RdG (((W.alloc (.cells #[.int .i64 1] 3)).alloc (.cells #[.int .i64 0] 3)).alloc (.cells #[.slice (some ⟨b, 0, none⟩) 1 1, .slice (some ⟨b + 1, 0, none⟩) 1 1] 45)) (.slice (some ⟨b + 1 + 1, 0, none⟩) 2 2) [[1], [0]] := by
  refine rdg_ofC (vs := [.slice (some ⟨b, 0, none⟩) 1 1, .slice (some ⟨b + 1, 0, none⟩) 1 1]) (t := 45) rfl (at_newC (by simp [hb])) rfl ?_
  intro i u l hu hl
  match i, hu, hl with
  | 0, hu, hl =>
    simp at hu hl
    subst hu hl
    exact rd_ofC (f := encI) (t := 3) rfl (at_oldC (at_oldC (at_newC hb)))
  | 1, hu, hl =>
    simp at hu hl
    subst hu hl
    exact rd_ofC (f := encI) (t := 3) rfl (at_oldC (at_newC (by simp [hb])))
  | (k + 2), hu, hl => simp at hu
theorem litR_below {W : World} {b : Nat} : Below W.heap.size W (((W.alloc (.cells #[.int .i64 1] 3)).alloc (.cells #[.int .i64 0] 3)).alloc (.cells #[.slice (some ⟨b, 0, none⟩) 1 1, .slice (some ⟨b + 1, 0, none⟩) 1 1] 45)) :=
  (((Below.refl _ _).alloc (Nat.le_refl _) _).alloc (by simp) _).alloc (by simp; omega) _
set_option maxRecDepth 20000 in
theorem tells_any {w : World} : Calls Try.prog 11 #[] w fun e w' => e = .returned (.bool true) ∧ Below w.heap.size w w' := by
  go_enter Try.func11, Try.ntmps11
  go_wp2_with fail
  refine (of_any (d := tellsF) (cs := [.string b0, .slice none 0 0, .slice (some ⟨w.heap.size + 1 + 1 + 1 + 1, 0, none⟩) 2 2]) ?_ tells_small).mono ?_
  · refine ⟨_, _, rfl, rd_none _, rde_twoC (t := 44) (cs := [.string bA, .slice (some ⟨w.heap.size + 1, 0, none⟩) 1 1]) (ct := [.string bB, .slice (some ⟨w.heap.size + 1 + 1 + 1, 0, none⟩) 1 1]) (at_newC (by simp)) ⟨_, rfl, ?_⟩ ⟨_, rfl, ?_⟩ rfl rfl⟩
    · exact rde_oneC (cs := insV (insBr [bB, bB]) (.slice none 0 0) (.slice (some ⟨w.heap.size, 0, none⟩) 2 2)) (t := 25) (at_oldC (at_oldC (at_oldC (at_newC (by simp))))) ⟨_, _, rfl, rd_none _, rd_ofC (t := 9) rfl (at_oldC (at_oldC (at_oldC (at_oldC (at_newC rfl)))))⟩ rfl
    · exact rde_oneC (cs := insV (insGoto [bA]) (.slice none 0 0) (.slice (some ⟨w.heap.size + 1 + 1, 0, none⟩) 1 1)) (t := 25) (at_oldC (at_newC (by simp))) ⟨_, _, rfl, rd_none _, rd_ofC (t := 9) rfl (at_oldC (at_oldC (at_newC (by simp))))⟩ rfl
  rintro e w2 ⟨hyes, -, hbe⟩
  obtain ⟨m, G1, vs1, G2, vs2, rfl, M1, M2, -, -, -⟩ := hyes tells_ok
  rw [tells_norm] at M1
  rw [tells_back] at M2
  have hB : Below w.heap.size w w2 := ((((((Below.refl _ _).alloc (Nat.le_refl _) _).alloc (by simp) _).alloc (by simp; omega) _).alloc (by simp; omega) _).alloc (by simp; omega) _).trans (hbe.mono (by simp; omega))
  have hR1 : Hid (RdG w2 (.slice (some ⟨G1, 0, none⟩) 2 2) [[1], [0]]) := Lib.hid (M1.rd rfl)
  have hR2 : Hid (RdG w2 (.slice (some ⟨G2, 0, none⟩) 2 2) [[1], [0]]) := Lib.hid (M2.rd rfl)
  clear M1 M2 hbe hyes
  rw [show tellsF.blocks.length = 2 from rfl]
  have hbe1 : ∀ a : Array Value, Below w2.heap.size w2 (w2.alloc (.cells a 36)) := fun a => (Below.refl _ _).alloc (Nat.le_refl _) _
  have hlen : ∀ r ∈ ([[1], [0]] : List (List Int)), r.length ≤ 1000000 := by decide
  replace hlen := Lib.hid hlen
  go_wp2_with fail
  refine (rows_yes (RdG.below (hR1.out.below (hbe1 _)) litR_below) (litR (by simp)) (by decide) hlen.out).mono ?_
  rintro e w3 ⟨rfl, n, rfl⟩
  have hB3 : ∀ a : Array Value, Below w2.heap.size w2 (((((w2.alloc (.cells a 36)).alloc (.cells #[.int .i64 1] 3)).alloc (.cells #[.int .i64 0] 3)).alloc (.cells #[.slice (some ⟨w2.heap.size + 1, 0, none⟩) 1 1, .slice (some ⟨w2.heap.size + 1 + 1, 0, none⟩) 1 1] 45)).drewN n) := fun a => below_drawn ((hbe1 a).trans (litR_below.mono (by simp))) n
  go_wp2_with fail
  refine (rows_yes (RdG.below (hR2.out.below (hB3 _)) litR_below) (litR (by simp [World.drewN])) (by decide) hlen.out).mono ?_
  rintro e w3 ⟨rfl, n2, rfl⟩
  go_wp2_with fail
  go_ret
  refine ⟨rfl, ?_⟩
  have h1 := fun a => (hB3 a).trans (below_drawn ((litR_below (b := w2.heap.size + 1 + 1 + 1 + 1)).mono (hB3 a).size) n2)
  exact hB.trans ((h1 _).mono hB.size)
end Go.Proofs.Ytedleliddhhacaa
