/- The law CfgKnown, walked. -/
import Derived.Test.YtedleliddhhacaaCKnownU
import Derived.Test.YtedleliddhhacaaCLaw
namespace Go.Proofs.Ytedleliddhhacaa
open Go.RowKit Go.Maps

theorem fk_bad : ∀ d ∈ [f1K, f2K, f3K, f4K], ofOk d = false := by decide +kernel
theorem fk_small : ∀ d ∈ [f1K, f2K, f3K, f4K], SmallF d := by
  intro d hd
  simp only [List.mem_cons, List.not_mem_nil, or_false] at hd
  rcases hd with rfl | rfl | rfl | rfl <;> refine ⟨by decide, fun b hb => ?_⟩ <;> simp only [f1K, f2K, f3K, f4K, List.mem_cons, List.not_mem_nil, or_false] at hb
  · subst hb; exact ⟨by decide, by decide, by decide, by decide⟩
  · subst hb; exact ⟨by decide, by decide, by decide, by decide⟩
  · rcases hb with rfl | rfl <;> exact ⟨by decide, by decide, by decide, by decide⟩
  · subst hb; exact ⟨by decide, by decide, by decide, by decide⟩

def bP : ByteArray := ⟨#[112]⟩
def bQ : ByteArray := ⟨#[113]⟩
def bY : ByteArray := ⟨#[121]⟩
def bX : ByteArray := ⟨#[120]⟩
def bNull : ByteArray := ⟨#[110, 117, 108, 108]⟩
def insU : Ins := ⟨0, bX, bP, b0, 0, b0, [bNull, bQ, b0, bP], []⟩
def insV2 : Ins := ⟨9, b0, bNull, bY, 0, ⟨#[102]⟩, [], [⟨#[108]⟩]⟩
theorem insU_uses : usesL insU = [bP, bQ, bP] := by decide +kernel
theorem insV2_uses : usesL insV2 = [bY] := by decide +kernel
def fNone : Fun := ⟨b0, [], []⟩
theorem fNone_ok : ofOk fNone = true := by decide +kernel
theorem fNone_small : SmallF fNone := ⟨by decide, fun b hb => by cases hb⟩
/-- The rows that the law lays beside what was told. -/
theorem litSu {W : World} {b : Nat} (hb : b = W.heap.size) : RdG (((W.alloc (.cells #[.int .i64 1, .int .i64 2] 3)).alloc (.cells #[.int .i64 2] 3)).alloc (.cells #[.slice (some ⟨b, 0, none⟩) 2 2, .slice (some ⟨b + 1, 0, none⟩) 1 1, .slice none 0 0, .slice none 0 0] 45)) (.slice (some ⟨b + 1 + 1, 0, none⟩) 4 4) succK := by
  refine rdg_ofC (vs := [.slice (some ⟨b, 0, none⟩) 2 2, .slice (some ⟨b + 1, 0, none⟩) 1 1, .slice none 0 0, .slice none 0 0]) (t := 45) rfl (at_newC (by simp [hb])) rfl ?_
  intro i u l hu hl
  match i, hu, hl with
  | 0, hu, hl =>
    simp [succK] at hu hl
    subst hu hl
    exact rd_ofC (f := encI) (t := 3) (l := [1, 2]) rfl (at_oldC (at_oldC (at_newC hb)))
  | 1, hu, hl =>
    simp [succK] at hu hl
    subst hu hl
    exact rd_ofC (f := encI) (t := 3) (l := [2]) rfl (at_oldC (at_newC (by simp [hb])))
  | 2, hu, hl =>
    simp [succK] at hu hl
    subst hu hl
    exact rd_none _
  | 3, hu, hl =>
    simp [succK] at hu hl
    subst hu hl
    exact rd_none _
  | (k + 4), hu, hl => simp at hu
theorem litPr {W : World} {b : Nat} (hb : b = W.heap.size) : RdG (((W.alloc (.cells #[.int .i64 0] 3)).alloc (.cells #[.int .i64 0, .int .i64 1] 3)).alloc (.cells #[.slice none 0 0, .slice (some ⟨b, 0, none⟩) 1 1, .slice (some ⟨b + 1, 0, none⟩) 2 2, .slice none 0 0] 45)) (.slice (some ⟨b + 1 + 1, 0, none⟩) 4 4) predK := by
  refine rdg_ofC (vs := [.slice none 0 0, .slice (some ⟨b, 0, none⟩) 1 1, .slice (some ⟨b + 1, 0, none⟩) 2 2, .slice none 0 0]) (t := 45) rfl (at_newC (by simp [hb])) rfl ?_
  intro i u l hu hl
  match i, hu, hl with
  | 0, hu, hl =>
    simp [predK] at hu hl
    subst hu hl
    exact rd_none _
  | 1, hu, hl =>
    simp [predK] at hu hl
    subst hu hl
    exact rd_ofC (f := encI) (t := 3) (l := [0]) rfl (at_oldC (at_oldC (at_newC hb)))
  | 2, hu, hl =>
    simp [predK] at hu hl
    subst hu hl
    exact rd_ofC (f := encI) (t := 3) (l := [0, 1]) rfl (at_oldC (at_newC (by simp [hb])))
  | 3, hu, hl =>
    simp [predK] at hu hl
    subst hu hl
    exact rd_none _
  | (k + 4), hu, hl => simp at hu
theorem litK_below {W : World} {x y z : Obj} : Below W.heap.size W (((W.alloc x).alloc y).alloc z) :=
  (((Below.refl _ _).alloc (Nat.le_refl _) _).alloc (by simp) _).alloc (by simp; omega) _

set_option maxRecDepth 20000 in
set_option maxHeartbeats 8000000 in
theorem cfgKnown_any {w : World} : Calls Try.prog 7 #[] w fun e w' => e = .returned (.bool true) ∧ Below w.heap.size w w' := by
  go_enter Try.func7, Try.ntmps7
  go_upto_region 3 with fail
  refine region3_any (by kernel_rfl) rfl rfl (R := w.heap.size) (by simp) (at_newC rfl) rfl ?_
  intro u w1 hb1 hr1
  obtain ⟨a3, k3, e3⟩ := hr1.form
  have hR1 := (hb1.block w.heap.size (by simp)).trans (at_newC rfl)
  have hB1 : Below w.heap.size w w1 := ((Below.refl _ _).alloc (Nat.le_refl _) _).trans (hb1.mono (by simp))
  have hRl : w.heap.size < w1.heap.size := (Array.getElem?_eq_some_iff.1 hR1).1
  clear hb1
  rw [e3] at hr1
  simp only [setAll, dsts3, List.foldl, List.length_cons, List.length_nil, Nat.zero_add, Nat.reduceAdd] at e3 hr1 ⊢
  go_simp
  obtain ⟨R, hRe⟩ : ∃ R, R = w.heap.size := ⟨_, rfl⟩
  rw [← hRe] at hRl hR1 ⊢
  replace hRe := Lib.hid hRe
  replace hr1 := Lib.hid hr1
  replace hR1 := Lib.hid hR1
  go_wp2_with fail
  go_loopw [4] (fun i wr => ∃ j : Nat, j ≤ 4 ∧ i = .int .i64 j ∧ Below w1.heap.size w1 wr) (fun i _ => 4 - (intOf i).toNat)
  case atStart => exact ⟨0, by omega, rfl, Below.refl _ _⟩
  case round =>
    obtain ⟨j, hj, rfl, hb⟩ := hrel
    by_cases hlt : j < 4
    · obtain ⟨d, hd⟩ : ∃ d, [f1K, f2K, f3K, f4K][j]? = some d := ⟨_, List.getElem?_eq_getElem (by simpa using hlt)⟩
      have hdm := List.mem_of_getElem? hd
      have hbad := fk_bad d hdm
      have hsm := Lib.hid (fk_small d hdm)
      obtain ⟨b, off, cap, cs, e, hbl, hF, hcl, hcell⟩ := hr1.out.at hd
      simp only [List.length_cons, List.length_nil, Nat.zero_add, Nat.reduceAdd, Value.slice.injEq] at e
      obtain ⟨rfl, -, rfl⟩ := e
      have hF' := Lib.hid (hF.below hb)
      obtain ⟨vp, vb, rfl, hp, hbv⟩ := hF
      obtain ⟨ap, cp, rfl⟩ := hp.form
      obtain ⟨ab, cb, rfl⟩ := hbv.form
      have c0 := (hb.cell (p := ⟨b, off + j * 3, none⟩) hbl).trans (hcell 0 _ rfl)
      have c1 := (hb.cell (p := ⟨b, off + j * 3 + 1, none⟩) hbl).trans (hcell 1 _ rfl)
      have c2 := (hb.cell (p := ⟨b, off + j * 3 + 2, none⟩) hbl).trans (hcell 2 _ rfl)
      have i1 : (j : Int) < 4 := by omega
      clear hd hdm hcl
      go_wp2_with fail
      have hF2 := hF'.out
      rw [List.length_map] at hF2
      refine (of_any hF2 hsm.out).mono ?_
      rintro e w2 ⟨-, hno, hb2⟩
      obtain rfl := hno hbad
      have hB2 : Below w1.heap.size w1 w2 := hb.trans (hb2.mono hb.size)
      have hbl0 : b < wr.heap.size := Nat.lt_of_lt_of_le hbl hb.size
      have hbl2 : b < w2.heap.size := Nat.lt_of_lt_of_le hbl hB2.size
      replace c0 := (hb2.cell (p := ⟨b, off + j * 3, none⟩) hbl0).trans c0
      replace c1 := (hb2.cell (p := ⟨b, off + j * 3 + 1, none⟩) hbl0).trans c1
      replace c2 := (hb2.cell (p := ⟨b, off + j * 3 + 2, none⟩) hbl0).trans c2
      have hF3 := Lib.hid (hF2.below hb2)
      clear hno hF' hF2 hcell hp hbv hb2 hb hbl0 hB1 hRl
      replace hB2 := Lib.hid hB2
      replace hbad := Lib.hid hbad
      have hbeF : ∀ a : Array Value, Below w2.heap.size w2 (w2.alloc (.cells a 36)) := fun a => (Below.refl _ _).alloc (Nat.le_refl _) _
      go_wp2_with fail
      refine (loops_any (hF3.out.below (hbeF _)) hsm.out).mono ?_
      rintro e w3 ⟨-, hno, hb3⟩
      obtain rfl := hno hbad.out
      have hB3 := hB2.out.trans (((hbeF _).trans (hb3.mono (by simp))).mono hB2.out.size)
      clear hno
      go_wp2_with fail
      exact ⟨⟨j + 1, by omega, by go_num, hB3⟩, by simp [intOf]; omega⟩
    · obtain rfl : j = 4 := by omega
      clear hlt
      go_upto_region 10 with fail
      refine region10_any (by kernel_rfl) rfl rfl (R := R) (Nat.lt_of_lt_of_le hRl hb.size) ((hb.block R hRl).trans hR1.out) rfl ?_
      intro u' w4 f s1 s2 hb4 hm e7 hf
      have hB4 := hB1.trans ((hb.trans (hb4.mono hb.size)).mono hB1.size)
      obtain ⟨G1, vs1, b1, G2, vs2, b2, rfl, rfl, M1, M2⟩ := hm
      have hG1 : Hid (RdG w4 (.slice (some ⟨G1, 0, none⟩) 4 4) succK) := Lib.hid (M1.rd rfl)
      have hG2 : Hid (RdG w4 (.slice (some ⟨G2, 0, none⟩) 4 4) predK) := Lib.hid (M2.rd rfl)
      rw [show succK.length = 4 from rfl, show predK.length = 4 from rfl] at hf
      clear M1 M2 hb hb4
      obtain ⟨f0, f1⟩ := cells2 hf
      have hfl : f < w4.heap.size := (Array.getElem?_eq_some_iff.1 hf).1
      replace hB4 := Lib.hid hB4
      simp only [setAll, dsts10, List.foldl] at e7 ⊢
      go_simp
      go_wp2_with fail
      refine (rows_yes (RdG.below hG1.out litK_below) (litSu rfl) (by decide) (by decide)).mono ?_
      rintro e w5 ⟨rfl, n5, rfl⟩
      have hX : ∀ x y z : Obj, Below w4.heap.size w4 ((((w4.alloc x).alloc y).alloc z).drewN n5) := fun x y z => below_drawn litK_below n5
      have f1' := fun x y z => ((hX x y z).cell (p := ⟨f, 1, none⟩) hfl).trans f1
      replace hX := Lib.hid hX
      go_wp2_with fail
      refine (rows_yes (RdG.below (hG2.out.below (hX.out _ _ _)) litK_below) (litPr (by simp [World.drewN])) (by decide) (by decide)).mono ?_
      rintro e w6 ⟨rfl, hw6⟩
      have hB6 : Below w.heap.size w w6 := by
        obtain ⟨n6, rfl⟩ := hw6
        exact hB4.out.trans (((hX.out _ _ _).trans ((below_drawn litK_below n6).mono (hX.out _ _ _).size)).mono hB4.out.size)
      clear hw6 f1' f0 f1 hG1 hG2 hX hB4 hfl hf e7
      replace hB6 := Lib.hid hB6
      go_wp2_with fail
      refine (uses_any (d := insU) (cs := insV insU (.slice (some ⟨w6.heap.size, 0, none⟩) 4 4) (.slice none 0 0)) ⟨_, _, rfl, rd_ofC (t := 9) rfl (at_newC rfl), rd_none _⟩ (by decide)).mono ?_
      rintro e w7 ⟨v7, rfl, hO7, hb7⟩
      have hB7 : Hid (Below w6.heap.size w6 w7) := Lib.hid (((Below.refl w6.heap.size w6).alloc (Nat.le_refl _) _).trans (hb7.mono (by simp)))
      have hR7 := rds_own hO7
      clear hb7
      rw [insU_uses] at hR7 hO7
      obtain ⟨a7, c7, rfl⟩ := own_form hO7
      clear hO7
      replace hR7 := Lib.hid hR7
      go_wp2_with fail
      have hC7 : ∀ x : Obj, Below w7.heap.size w7 (w7.alloc x) := fun x => (Below.refl _ _).alloc (Nat.le_refl _) _
      refine (uses_any (d := insV2) (cs := insV insV2 (.slice none 0 0) (.slice (some ⟨w7.heap.size, 0, none⟩) 1 1)) ⟨_, _, rfl, rd_none _, rd_ofC (t := 9) rfl (at_newC rfl)⟩ (by decide)).mono ?_
      rintro e w8 ⟨v8, rfl, hO8, hb8⟩
      have hB8 : Hid (Below w7.heap.size w7 w8) := Lib.hid ((hC7 _).trans (hb8.mono (by simp)))
      have hR8 := rds_own hO8
      clear hb8 hC7
      rw [insV2_uses] at hR8 hO8
      obtain ⟨a8, c8, rfl⟩ := own_form hO8
      clear hO8
      replace hR8 := Lib.hid hR8
      go_wp2_with fail
      refine (of_any (d := fNone) (cs := [.string b0, .slice none 0 0, .slice none 0 0]) ⟨_, _, rfl, rd_none _, .inl ⟨rfl, .inl rfl⟩⟩ fNone_small).mono ?_
      rintro e w9 ⟨hyes, -, hb9⟩
      obtain ⟨m, G1, vs1, G2, vs2, rfl, -, -, -, -, -⟩ := hyes fNone_ok
      clear hyes
      have hB9 : Below w7.heap.size w7 w9 := hB8.out.trans (((Below.refl w8.heap.size w8).trans (hb9.mono (Nat.le_refl _))).mono hB8.out.size)
      have hC9 : ∀ x : Obj, Below w9.heap.size w9 (w9.alloc x) := fun x => (Below.refl _ _).alloc (Nat.le_refl _) _
      rcases hR7.out with ⟨e, -⟩ | ⟨p7, o7, cc7, e, hl7, hc7⟩
      · cases e
      rcases hR8.out with ⟨e', -⟩ | ⟨p8, o8, cc8, e', hl8, hc8⟩
      · cases e'
      simp only [List.length_map, List.length_cons, List.length_nil, Nat.zero_add, Nat.reduceAdd, Value.slice.injEq] at e e'
      obtain ⟨rfl, -, rfl⟩ := e
      obtain ⟨rfl, -, rfl⟩ := e'
      have hl79 : p7 < w9.heap.size := Nat.lt_of_lt_of_le hl7 hB9.size
      have hl89 : p8 < w9.heap.size := Nat.lt_of_lt_of_le hl8 hb9.size
      have q0 : ∀ x : Obj, (w9.alloc x).cell? ⟨p7, o7, none⟩ = some (.string bP) := fun x => ((hC9 x).cell (p := ⟨p7, o7, none⟩) hl79).trans ((hB9.cell (p := ⟨p7, o7, none⟩) hl7).trans (hc7 0 _ rfl))
      have q1 : ∀ x : Obj, (w9.alloc x).cell? ⟨p7, o7 + 1, none⟩ = some (.string bQ) := fun x => ((hC9 x).cell (p := ⟨p7, o7 + 1, none⟩) hl79).trans ((hB9.cell (p := ⟨p7, o7 + 1, none⟩) hl7).trans (hc7 1 _ rfl))
      have q2 : ∀ x : Obj, (w9.alloc x).cell? ⟨p7, o7 + 2, none⟩ = some (.string bP) := fun x => ((hC9 x).cell (p := ⟨p7, o7 + 2, none⟩) hl79).trans ((hB9.cell (p := ⟨p7, o7 + 2, none⟩) hl7).trans (hc7 2 _ rfl))
      have q3 : ∀ x : Obj, (w9.alloc x).cell? ⟨p8, o8, none⟩ = some (.string bY) := fun x => ((hC9 x).cell (p := ⟨p8, o8, none⟩) hl89).trans ((hb9.cell (p := ⟨p8, o8, none⟩) hl8).trans (hc8 0 _ rfl))
      have hBall : Below w.heap.size w w9 := by
        have h1 := hB7.out.trans (hB9.mono hB7.out.size)
        exact hB6.out.trans (h1.mono hB6.out.size)
      replace hBall := Lib.hid hBall
      rw [show fNone.blocks.length = 0 from rfl]
      clear hR7 hR8 hc7 hc8 hl79 hl89 hl7 hl8 hb9 hB9 hB8 hB7 hB6
      unfold bP bQ bY at *
      go_wp2_with fail
      refine tells_any.mono ?_
      rintro e wz ⟨rfl, hbz⟩
      have hfin : Hid (Below w.heap.size w wz) := Lib.hid (hBall.out.trans (((hC9 _).trans (hbz.mono (by simp))).mono hBall.out.size))
      clear hbz hC9
      go_wp2_with fail
      go_ret
      exact ⟨rfl, hfin.out⟩
end Go.Proofs.Ytedleliddhhacaa
