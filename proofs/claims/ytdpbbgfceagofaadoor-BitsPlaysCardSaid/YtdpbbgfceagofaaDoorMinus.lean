/- Minus, Both, Copy. -/
import Derived.Test.YtdpbbgfceagofaaDoorPick
namespace Go.Proofs.YtdpbbgfceagofaaDoor
open Go.RowKit Go.Maps

section
variable {w w' : World} {sb bm so bo : Nat} {D Do : DataW Unit} {l l' o : List Nat}

theorem minusC (ov : Value) (h : ASet w ov o) (B : Nat) (hB : w.cell? ⟨B, 0, none⟩ = some ov) {k d c : Nat} (hk : k < 144115188075855872) (hd : d < 18446744073709551616) (hc : Bit c k o) :
    Calls Tryd.prog 35 (#[.int .i64 k, .int .u64 d] ++ #[.pointer (some ⟨B, 0, none⟩)]) w fun e w' => e = .returned (.int .u64 ((d &&& (18446744073709551615 - c) : Nat) : Int)) ∧ w' = w := by
  have hw := Lib.hid (word_a h hc (by omega))
  have hq : bits BinOp.andNot IntKind.u64 (d : Int) (c : Int) = ((d &&& (18446744073709551615 - c) : Nat) : Int) := u64_andNot_nat d c hd hc.1
  generalize d &&& (18446744073709551615 - c) = z at hq ⊢
  have hf := h.form
  clear h
  change Calls Tryd.prog 35 #[.int .i64 k, .int .u64 d, .pointer (some ⟨B, 0, none⟩)] w _
  rcases hf with rfl | ⟨a, rfl⟩
  · go_enter Tryd.func35, Tryd.ntmps35
    go_wp2_with (go_at_call 36; refine hw.out.mono ?_; rintro e w' ⟨rfl, rfl⟩)
    go_ret
    exact ⟨rfl, rfl⟩
  · go_enter Tryd.func35, Tryd.ntmps35
    go_wp2_with (go_at_call 36; refine hw.out.mono ?_; rintro e w' ⟨rfl, rfl⟩)
    go_ret
    exact ⟨rfl, rfl⟩

theorem bothC (ov : Value) (h : ASet w ov o) (B : Nat) (hB : w.cell? ⟨B, 0, none⟩ = some ov) {k d c : Nat} (hk : k < 144115188075855872) (hd : d < 18446744073709551616) (hc : Bit c k o) :
    Calls Tryd.prog 37 (#[.int .i64 k, .int .u64 d] ++ #[.pointer (some ⟨B, 0, none⟩)]) w fun e w' => e = .returned (.int .u64 ((d &&& c : Nat) : Int)) ∧ w' = w := by
  have hw := Lib.hid (word_a h hc (by omega))
  have hq : bits BinOp.and IntKind.u64 (d : Int) (c : Int) = ((d &&& c : Nat) : Int) := u64_and_nat d c hd hc.1
  generalize d &&& c = z at hq ⊢
  have hf := h.form
  clear h
  change Calls Tryd.prog 37 #[.int .i64 k, .int .u64 d, .pointer (some ⟨B, 0, none⟩)] w _
  rcases hf with rfl | ⟨a, rfl⟩
  · go_enter Tryd.func37, Tryd.ntmps37
    go_wp2_with (go_at_call 36; refine hw.out.mono ?_; rintro e w' ⟨rfl, rfl⟩)
    go_ret
    exact ⟨rfl, rfl⟩
  · go_enter Tryd.func37, Tryd.ntmps37
    go_wp2_with (go_at_call 36; refine hw.out.mono ?_; rintro e w' ⟨rfl, rfl⟩)
    go_ret
    exact ⟨rfl, rfl⟩

theorem cell_new0 (w : World) (ov : Value) : (w.alloc (.cells #[ov] 24)).cell? ⟨w.heap.size, 0, none⟩ = some ov := by
  have := cell_one_new w ov 24 0 ov rfl
  rwa [add0] at this

/-- A set in new blocks. -/
def NewSet (w w' : World) (e : Ending) (l : List Nat) : Prop := ∃ sb bm D, e = .returned (.pointer (some ⟨sb, 0, none⟩)) ∧ w.heap.size ≤ sb ∧ w.heap.size ≤ bm ∧ SetAt w' sb bm D l ∧ Below w.heap.size w w'

def less (l o : List Nat) : List Nat := l.filter (fun n => !decide (n ∈ o))
def both (l o : List Nat) : List Nat := l.filter (fun n => decide (n ∈ o))

theorem testBit_eq {c k : Nat} {l : List Nat} (h : Bit c k l) {j : Nat} (hj : j < 64) : c.testBit j = decide (64 * k + j ∈ l) := by
  rw [Bool.eq_iff_iff, decide_eq_true_iff]
  exact h.2 j hj

theorem minus_any (S : SetAt w sb bm D l) (hlen : l.length ≤ 1000000) {ov : Value} (T : ASet w ov o) :
    Calls Tryd.prog 19 #[.pointer (some ⟨sb, 0, none⟩), ov] w fun e w' => NewSet w w' e (less l o) := by
  have S1 := S.alloc (.cells #[ov] 24)
  have hb1 : Below w.heap.size w (w.alloc (.cells #[ov] 24)) := (Below.refl _ _).alloc (Nat.le_refl _) _
  have hp := pick_any S1 hlen (fun n => !decide (n ∈ o)) 35 (enters_of Tryd.func35 (by kernel_rfl) rfl) #[.pointer (some ⟨w.heap.size, 0, none⟩)] (fun w1 h1 k d hk hd => by
    have T1 : ASet w1 ov o := T.below (hb1.trans (h1.mono (by simp)))
    obtain ⟨c, hc⟩ := T1.bit k
    exact ⟨_, less_lt hd.1, fun j hj => by rw [tb_less hc.1 hj, testBit_eq hc hj], minusC ov T1 _ ((h1.cell (p := ⟨w.heap.size, 0, none⟩) (by simp)).trans (cell_new0 w ov)) hk hd.1 hc⟩)
  replace hp := Lib.hid hp
  have hf := T.form
  clear S1 S T
  rcases hf with rfl | ⟨a, rfl⟩
  · go_enter Tryd.func19, Tryd.ntmps19
    go_wp2_with (go_at_call 34; refine hp.out.mono ?_; rintro e w' ⟨rfl, ⟨D', hS⟩, hb⟩)
    rw [World.size_alloc] at hS
    go_ret
    exact ⟨_, _, D', rfl, by omega, by omega, hS, hb1.trans (hb.mono (by simp))⟩
  · go_enter Tryd.func19, Tryd.ntmps19
    go_wp2_with (go_at_call 34; refine hp.out.mono ?_; rintro e w' ⟨rfl, ⟨D', hS⟩, hb⟩)
    rw [World.size_alloc] at hS
    go_ret
    exact ⟨_, _, D', rfl, by omega, by omega, hS, hb1.trans (hb.mono (by simp))⟩

theorem both_any (S : SetAt w sb bm D l) (hlen : l.length ≤ 1000000) {ov : Value} (T : ASet w ov o) :
    Calls Tryd.prog 20 #[.pointer (some ⟨sb, 0, none⟩), ov] w fun e w' => NewSet w w' e (both l o) := by
  have S1 := S.alloc (.cells #[ov] 24)
  have hb1 : Below w.heap.size w (w.alloc (.cells #[ov] 24)) := (Below.refl _ _).alloc (Nat.le_refl _) _
  have hp := pick_any S1 hlen (fun n => decide (n ∈ o)) 37 (enters_of Tryd.func37 (by kernel_rfl) rfl) #[.pointer (some ⟨w.heap.size, 0, none⟩)] (fun w1 h1 k d hk hd => by
    have T1 : ASet w1 ov o := T.below (hb1.trans (h1.mono (by simp)))
    obtain ⟨c, hc⟩ := T1.bit k
    exact ⟨_, less_lt hd.1, fun j hj => by rw [Nat.testBit_and, testBit_eq hc hj], bothC ov T1 _ ((h1.cell (p := ⟨w.heap.size, 0, none⟩) (by simp)).trans (cell_new0 w ov)) hk hd.1 hc⟩)
  replace hp := Lib.hid hp
  have hf := T.form
  clear S1 S T
  rcases hf with rfl | ⟨a, rfl⟩
  · go_enter Tryd.func20, Tryd.ntmps20
    go_wp2_with (go_at_call 34; refine hp.out.mono ?_; rintro e w' ⟨rfl, ⟨D', hS⟩, hb⟩)
    rw [World.size_alloc] at hS
    go_ret
    exact ⟨_, _, D', rfl, by omega, by omega, hS, hb1.trans (hb.mono (by simp))⟩
  · go_enter Tryd.func20, Tryd.ntmps20
    go_wp2_with (go_at_call 34; refine hp.out.mono ?_; rintro e w' ⟨rfl, ⟨D', hS⟩, hb⟩)
    rw [World.size_alloc] at hS
    go_ret
    exact ⟨_, _, D', rfl, by omega, by omega, hS, hb1.trans (hb.mono (by simp))⟩

theorem minus_nil {ov : Value} (h : ov = .pointer none ∨ ∃ a, ov = .pointer (some a)) (w : World) : Calls Tryd.prog 19 #[.pointer none, ov] w fun e w' => NewSet w w' e [] := by
  have hb1 : Below w.heap.size w (w.alloc (.cells #[ov] 24)) := (Below.refl _ _).alloc (Nat.le_refl _) _
  have hp := fun f => Lib.hid (pick_nil f (w.alloc (.cells #[ov] 24)))
  rcases h with rfl | ⟨a, rfl⟩
  · go_enter Tryd.func19, Tryd.ntmps19
    go_wp2_with (go_at_call 34; refine (hp _).out.mono ?_; rintro e w' ⟨rfl, ⟨D', hS⟩, hb⟩)
    rw [World.size_alloc] at hS
    go_ret
    exact ⟨_, _, D', rfl, by omega, by omega, hS, hb1.trans (hb.mono (by simp))⟩
  · go_enter Tryd.func19, Tryd.ntmps19
    go_wp2_with (go_at_call 34; refine (hp _).out.mono ?_; rintro e w' ⟨rfl, ⟨D', hS⟩, hb⟩)
    rw [World.size_alloc] at hS
    go_ret
    exact ⟨_, _, D', rfl, by omega, by omega, hS, hb1.trans (hb.mono (by simp))⟩

theorem both_nil {ov : Value} (h : ov = .pointer none ∨ ∃ a, ov = .pointer (some a)) (w : World) : Calls Tryd.prog 20 #[.pointer none, ov] w fun e w' => NewSet w w' e [] := by
  have hb1 : Below w.heap.size w (w.alloc (.cells #[ov] 24)) := (Below.refl _ _).alloc (Nat.le_refl _) _
  have hp := fun f => Lib.hid (pick_nil f (w.alloc (.cells #[ov] 24)))
  rcases h with rfl | ⟨a, rfl⟩
  · go_enter Tryd.func20, Tryd.ntmps20
    go_wp2_with (go_at_call 34; refine (hp _).out.mono ?_; rintro e w' ⟨rfl, ⟨D', hS⟩, hb⟩)
    rw [World.size_alloc] at hS
    go_ret
    exact ⟨_, _, D', rfl, by omega, by omega, hS, hb1.trans (hb.mono (by simp))⟩
  · go_enter Tryd.func20, Tryd.ntmps20
    go_wp2_with (go_at_call 34; refine (hp _).out.mono ?_; rintro e w' ⟨rfl, ⟨D', hS⟩, hb⟩)
    rw [World.size_alloc] at hS
    go_ret
    exact ⟨_, _, D', rfl, by omega, by omega, hS, hb1.trans (hb.mono (by simp))⟩

theorem copy_nil (w : World) : Calls Tryd.prog 21 #[.pointer none] w fun e w' => e = .returned (.pointer none) ∧ w' = w := by
  go_enter Tryd.func21, Tryd.ntmps21
  go_wp2
  go_ret
  exact ⟨rfl, rfl⟩

theorem copy_any (S : SetAt w sb bm D l) (hlen : l.length ≤ 1000000) : Calls Tryd.prog 21 #[.pointer (some ⟨sb, 0, none⟩)] w fun e w' => NewSet w w' e l := by
  have ho := Lib.hid (of_none w)
  have hs := S.lts
  have hm := S.ltm
  go_enter Tryd.func21, Tryd.ntmps21
  go_wp2_with (first
    | (go_at_call 11; refine ho.out.mono ?_; rintro e w0 ⟨rfl, ⟨D0, N0⟩, hb0⟩; have hU := Lib.hid (union_any N0 (S.below hb0) (by omega) (by omega) (by simpa using hlen)); clear N0)
    | (go_at_call 18; refine hU.out.mono ?_; rintro e w1 ⟨rfl, ⟨D1, N1⟩, ht1⟩))
  have N2 : SetAt w1 (w.heap.size + 1) w.heap.size D1 l := N1.congr S.nodup (fun n => by rw [mem_uni]; simp)
  go_ret
  exact ⟨_, _, D1, rfl, by omega, Nat.le_refl _, N2, hb0.trans (ht1.below hb0.size (fun k hk h => by rcases h with h | h <;> omega))⟩
end
end Go.Proofs.YtdpbbgfceagofaaDoor
