/- The walks of a table keyed by values of several cells. -/
import Derived.Test.YtdeoclapamknfaaTab
import Derived.ProofKit
import Derived.Outline
import Derived.WalkSpells
import Derived.Deep.QuietTactic
import Derived.BigQuiet
import Derived.StillTailTactics
import Derived.Deep.RegionLaw
import Derived.Deep.AppendLies
namespace Go.Proofs.Ytdeoclapamknfaa
open Go.RowKit Go.Maps Go.WideMaps

theorem wp_tail {P : Program} {id : Nat} {Q : Exit → Act → World → Prop} {a : Act} {w : World} {l : List Oper} (n : Nat) (hm : P.follows .mixedOrders = true) (hB : Region.lexTailB .any l.toArray n = true)
    (h : wpStill P l.toArray w.drew (fun a' => wpList P l.toArray Q (l.drop n) a' w.drew) (l.take n) a) : (Code.region id l.toArray true).wp P Q a w :=
  wp_region_still_tail n hm hB h

namespace Arr
def flat (k : (Int × Int)) : List Value := (#[.int .u8 k.1, .int .u8 k.2] : Array Value).toList
def lit (k : (Int × Int)) : Lit := .string (keyBytes [.int .u8 k.1, .int .u8 k.2])
def ok (k : (Int × Int)) : Prop := (Lit.int .u8 k.1).wf = true ∧ (Lit.int .u8 k.2).wf = true
abbrev TS := Tab Try.prog 60 3 79 2 flat lit

theorem laid : laidOutB Try.prog = true := by kernel_rfl
theorem rowK : 60 < Try.prog.types.size := of_decide_eq_true (by kernel_rfl)
theorem wideK : (match Try.prog.underlying 60 with | some (.array _ _) | some (.struct _) => true | _ => false) = true := by kernel_rfl
theorem lawK : KeyLaw Try.prog 60 := deep_law_laid laid (m := 3) (by omega) rowK (by kernel_rfl) wideK
theorem law : Keyed Try.prog 60 := Keyed.of_law lawK
theorem zero (w : World) : (zeroValue 3).run Try.prog w = .ok (.int .i64 0) w := by kernel_rfl
theorem keys (ks : List (Int × Int)) : ∀ x ∈ ks.map lit, WideAt.IsKeyLit x := by
  intro x hx
  obtain ⟨s, _, rfl⟩ := List.mem_map.1 hx
  trivial
theorem cellsK : Try.prog.cellsOf 60 = 2 := by kernel_rfl
theorem cellsI : Try.prog.cellsOf 5 = 1 := by kernel_rfl
theorem lits_mk {k : (Int × Int)} (h : ok k) (d : Nat) : Try.prog.keyLits (d + 2) 60 (Value.agg #[.int .u8 k.1, .int .u8 k.2]).cells.toList = some [.int .u8 k.1, .int .u8 k.2] := by
  unfold ok at h
  simp [Program.keyLits, Try.underlying60, Try.underlying5, cellsK, cellsI, Value.cells, h, List.range_succ]
theorem keyOf_mk {k : (Int × Int)} (h : ok k) : keyOf Try.prog 60 (.agg #[.int .u8 k.1, .int .u8 k.2]) = some (lit k) := by
  have h2 : Try.prog.keyType 60 = true := by kernel_rfl
  obtain ⟨m, hm⟩ : ∃ m, Try.prog.types.size = m + 1 := ⟨Try.prog.types.size - 1, by kernel_rfl⟩
  have h1 : (Value.agg #[.int .u8 k.1, .int .u8 k.2]).formed Try.prog 60 = true := by simp [Value.formed, Try.underlying60, cellsK]
  have h3 := lits_mk h m
  unfold keyOf
  rw [Try.underlying60, hm]
  simp only [h1, h2, h3, Bool.and_self, if_true, Option.map_some]
  rfl
theorem lit_inj {a b : (Int × Int)} (ha : ok a) (hb : ok b) (h : lit a = lit b) : a = b := by
  have h1 := lawK.inj (keyOf_mk ha) (h ▸ keyOf_mk hb)
  obtain ⟨a1, a2⟩ := a; obtain ⟨b1, b2⟩ := b; simp at h1; simp [h1]
theorem mem_lit {k : (Int × Int)} {ks : List (Int × Int)} (hk : ok k) (hks : ∀ x ∈ ks, ok x) : lit k ∈ ks.map lit ↔ k ∈ ks :=
  ⟨fun h => by obtain ⟨a, ha, e⟩ := List.mem_map.1 h; rw [← lit_inj (hks a ha) hk e]; exact ha, fun h => List.mem_map.2 ⟨k, h, rfl⟩⟩
theorem infoK : (Try.prog.info? 60).map (fun i => (i.zero, i.size, i.bytes)) = some (some (.agg #[.int .u8 0, .int .u8 0]), 2, 2) := by kernel_rfl

theorem catch_find (w : World) :
    CallsD Try.prog 43 #[] .returning w fun e u' w' => e = .returned (.tuple #[]) ∧ u' = .returning ∧ w' = w := by
  refine callsD_of_wpS Try.func43 rfl fun c₀ cs hu => ?_
  apply wpS_region
  simp [wpOpsS, go_sem, recoverD, hu, Try.ntmps43, bodyPostS, results, Try.results43]
  cases c₀
  simp_all
theorem catch_note (w : World) :
    CallsD Try.prog 44 #[] .returning w fun e u' w' => e = .returned (.tuple #[]) ∧ u' = .returning ∧ w' = w := by
  refine callsD_of_wpS Try.func44 rfl fun c₀ cs hu => ?_
  apply wpS_region
  simp [wpOpsS, go_sem, recoverD, hu, Try.ntmps44, bodyPostS, results, Try.results44]
  cases c₀
  simp_all

/-- A look-up in a table's map: the key's place, and whether it is there. -/
theorem look_hit {A B sb bm : Nat} {v : Value} {ks : List (Int × Int)} {w : World} (T : TS A B w sb bm v ks) {k : (Int × Int)} (hk : ok k) {i : Nat} (hi : ks[i]? = some k) :
    (Instr.lookup 77 (.map (some bm)) (.agg #[.int .u8 k.1, .int .u8 k.2]) true).run Try.prog w = .ok (.tuple #[.int .i64 i, .bool true]) w := by
  have hl : (ks.map lit)[i]? = some (lit k) := by simp [hi]
  have hhas := has_tabD_in (H := Unit) (keys ks) (List.mem_of_getElem? hl)
  have hat := at_tabD (H := Unit) (ks.map lit) (keys ks) T.nodup _ (.lit (.int .i64 0)) i hl
  obtain ⟨v1, ps, hrun, hv⟩ := T.map.look_ok law Try.underlying77 (zero w) (plainElem_int Try.underlying3 (by decide)) (keyOf_mk hk)
  obtain ⟨c, rfl, hc, _⟩ := plainElem_int_inv Try.underlying3 hv
  have hci : c = i := by
    have := congrArg Prod.fst hc
    rw [hat] at this
    simpa [num] using this.symm
  rw [hrun, hhas, hci]
theorem look_miss {A B sb bm : Nat} {v : Value} {ks : List (Int × Int)} {w : World} (T : TS A B w sb bm v ks) {k : (Int × Int)} (hk : ok k) (hks : ∀ x ∈ ks, ok x) (hi : k ∉ ks) :
    (Instr.lookup 77 (.map (some bm)) (.agg #[.int .u8 k.1, .int .u8 k.2]) true).run Try.prog w = .ok (.tuple #[.int .i64 0, .bool false]) w := by
  have h1 : has (tabD (H := Unit) (ks.map lit)) (lit k) = false := has_tabD_out (keys ks) (fun h => hi ((mem_lit hk hks).1 h))
  have hat := atKey_of_not_has h1 (.lit (.int .i64 0))
  obtain ⟨v1, ps, hrun, hv⟩ := T.map.look_ok law Try.underlying77 (zero w) (plainElem_int Try.underlying3 (by decide)) (keyOf_mk hk)
  obtain ⟨c, rfl, hc, _⟩ := plainElem_int_inv Try.underlying3 hv
  have hci : c = 0 := by
    have := congrArg Prod.fst hc
    rw [hat] at this
    simpa using this.symm
  rw [hrun, h1, hci]

theorem find_hit {A B sb bm : Nat} {v : Value} {ks : List (Int × Int)} {w : World} (T : TS A B w sb bm v ks) {k : (Int × Int)} (hk : ok k) {i : Nat} (hi : ks[i]? = some k) :
    Calls Try.prog 37 #[.pointer (some ⟨sb, 0, none⟩), .agg #[.int .u8 k.1, .int .u8 k.2]] w fun e w' => e = .returned (.tuple #[.int .i64 i, .bool true]) ∧ Below w.heap.size w w' := by
  have T' : TS A B (w.alloc (.cells #[.int .u8 k.1, .int .u8 k.2] 60)) sb bm v ks := T.kept (Touch.of_below ((Below.refl _ _).alloc (Nat.le_refl _) _) (fun _ => False)) (fun _ _ h => h)
  have hlk := fun n => look_hit (T'.drewN n) hk hi
  have c0 : (w.alloc (.cells #[.int .u8 k.1, .int .u8 k.2] 60)).cell? ⟨sb, 0, none⟩ = some (.map (some bm)) := T'.c0
  clear T T' hi
  go_enter_defers Try.func37, Try.ntmps37
  go_wp2_with fail
  go_quiet (fail)
  go_wp2_with fail
  refine leaves_cons (f := 43) (args := #[]) (by simp) (by simp [go_sem]) ?_
  refine (catch_find _).mono ?_
  rintro e u' w'' ⟨rfl, rfl, rfl⟩
  exact ⟨_, by simp [results, Try.results37, go_sem], rfl, below_drawn ((Below.refl _ _).alloc (Nat.le_refl _) _) _⟩

theorem find_miss {A B sb bm : Nat} {v : Value} {ks : List (Int × Int)} {w : World} (T : TS A B w sb bm v ks) {k : (Int × Int)} (hk : ok k) (hks : ∀ x ∈ ks, ok x) (hi : k ∉ ks) :
    Calls Try.prog 37 #[.pointer (some ⟨sb, 0, none⟩), .agg #[.int .u8 k.1, .int .u8 k.2]] w fun e w' => e = .returned (.tuple #[.int .i64 0, .bool false]) ∧ Below w.heap.size w w' := by
  have T' : TS A B (w.alloc (.cells #[.int .u8 k.1, .int .u8 k.2] 60)) sb bm v ks := T.kept (Touch.of_below ((Below.refl _ _).alloc (Nat.le_refl _) _) (fun _ => False)) (fun _ _ h => h)
  have hlk := fun n => look_miss (T'.drewN n) hk hks hi
  have c0 : (w.alloc (.cells #[.int .u8 k.1, .int .u8 k.2] 60)).cell? ⟨sb, 0, none⟩ = some (.map (some bm)) := T'.c0
  clear T T' hi
  go_enter_defers Try.func37, Try.ntmps37
  go_wp2_with fail
  go_quiet (fail)
  go_wp2_with fail
  refine leaves_cons (f := 43) (args := #[]) (by simp) (by simp [go_sem]) ?_
  refine (catch_find _).mono ?_
  rintro e u' w'' ⟨rfl, rfl, rfl⟩
  exact ⟨_, by simp [results, Try.results37, go_sem], rfl, below_drawn ((Below.refl _ _).alloc (Nat.le_refl _) _) _⟩

theorem note_any {sb bm n i : Nat} {D : DataW Unit} {w : World} (c0 : w.cell? ⟨sb, 0, none⟩ = some (.map (some bm))) (hown : w.ownsMap Try.prog 60 (plainElem Try.prog 3) bm n D) (hn : n < maxLen) (hi : i < 4611686018427387904)
    {k : (Int × Int)} (hk : ok k) :
    Calls Try.prog 38 #[.pointer (some ⟨sb, 0, none⟩), .agg #[.int .u8 k.1, .int .u8 k.2], .int .i64 i] w fun e w' => e = .returned (.tuple #[]) ∧ w'.ownsMap Try.prog 60 (plainElem Try.prog 3) bm (n + 1) (D.put (lit k) (num i)) ∧ Touch w w' (fun b => b = bm) := by
  have hkey := keyOf_mk hk
  have hwf : (Lit.int .i64 (i : Int)).wf = true := WalkArith.wf_i64 (by omega)
  have heq := fun (w : World) (r : Option Nat) => run_eql_map_nil (P := Try.prog) w 77 60 3 r Try.underlying77
  have hsb : sb < w.heap.size := by
    unfold World.cell? at c0
    split at c0
    · rename_i h2; exact (Array.getElem?_eq_some_iff.1 h2).1
    · cases c0
  have c1 : (w.alloc (.cells #[.int .u8 k.1, .int .u8 k.2] 60)).cell? ⟨sb, 0, none⟩ = some (.map (some bm)) := (World.cell?_alloc_lt _ _ _ hsb).trans c0
  have hown1 := hown.alloc (.cells #[.int .u8 k.1, .int .u8 k.2] 60)
  go_enter_defers Try.func38, Try.ntmps38
  go_wp2_with fail
  refine wp_tail 6 (by kernel_rfl) (by kernel_rfl) ?_
  simp only [List.take_succ_cons, List.take_zero, List.drop_succ_cons, List.drop_zero]
  repeat still_step
  refine wpStill_nil ?_
  go_wp2_with (at_mapUpdate; refine wpList_mapUpdate_own _ rfl _ _ _ 77 rfl 60 3 law Try.underlying77 _ bm n D rfl hown1.drew hn _ _ _ rfl rfl hkey _ [] (plainElem_int Try.underlying3 hwf) ?_; intro w1 hown2 hgrow1)
  refine leaves_cons (f := 44) (args := #[]) (by simp) (by simp [go_sem]) ?_
  refine (catch_note _).mono ?_
  rintro e u' w'' ⟨rfl, rfl, rfl⟩
  exact ⟨_, by simp [results, Try.results38, go_sem], rfl, hown2, (((Touch.refl w _).alloc _).drew).trans (Touch.of_grown hgrow1 (fun b e => by simpa using e.symm))⟩

theorem id_hit {A B sb bm : Nat} {v : Value} {ks : List (Int × Int)} {w : World} (T : TS A B w sb bm v ks) {k : (Int × Int)} (hk : ok k) {i : Nat} (hi : ks[i]? = some k) :
    Calls Try.prog 27 #[.pointer (some ⟨sb, 0, none⟩), .agg #[.int .u8 k.1, .int .u8 k.2]] w fun e w' => e = .returned (.int .i64 i) ∧ Below w.heap.size w w' := by
  have hb0 : Below w.heap.size w (w.alloc (.cells #[.int .u8 k.1, .int .u8 k.2] 60)) := (Below.refl _ _).alloc (Nat.le_refl _) _
  have T' : TS A B (w.alloc (.cells #[.int .u8 k.1, .int .u8 k.2] 60)) sb bm v ks := T.kept (Touch.of_below hb0 (fun _ => False)) (fun _ _ h => h)
  have hf := Lib.hid (find_hit T' hk hi)
  clear T T' hi
  go_enter Try.func27, Try.ntmps27
  go_wp2_with (go_at_call 37; refine hf.out.mono ?_; rintro e w2 ⟨rfl, hb2⟩)
  go_ret
  exact ⟨rfl, hb0.trans (hb2.mono (by simp))⟩

/-- What a key that is new leaves. -/
def Grown1 (A B : Nat) (w w' : World) (sb bm : Nat) (v : Value) (ks : List (Int × Int)) : Prop :=
  ∃ v', TS A B w' sb bm v' ks ∧ Touch w w' (Own sb bm v) ∧ ∀ b, v'.ownBlock = some b → v.ownBlock = some b ∨ w.heap.size ≤ b

theorem flat_cells (k : (Int × Int)) (w : World) (t : TypeId) : ∀ j u, (flat k)[j]? = some u → (w.alloc (.cells #[.int .u8 k.1, .int .u8 k.2] t)).cell? ((⟨w.heap.size, 0, none⟩ : Addr).add j) = some u := by
  intro j u h
  rw [add0, World.cell?_alloc_new]
  unfold flat at h
  rwa [Array.getElem?_toList] at h

set_option maxHeartbeats 400000 in
theorem id_new {A B sb bm : Nat} {v : Value} {ks : List (Int × Int)} {w : World} (T : TS A B w sb bm v ks) {k : (Int × Int)} (hk : ok k) (hks : ∀ x ∈ ks, ok x) (hi : k ∉ ks) (hlen : ks.length ≤ 1000000) :
    Calls Try.prog 27 #[.pointer (some ⟨sb, 0, none⟩), .agg #[.int .u8 k.1, .int .u8 k.2]] w fun e w' => e = .returned (.int .i64 ks.length) ∧ Grown1 A B w w' sb bm v (ks ++ [k]) := by
  obtain ⟨i0, hi0, hz0, hz1, hz2⟩ := info_parts infoK
  obtain ⟨a, cap, rfl⟩ := T.form
  have hb0 : Below w.heap.size w (w.alloc (.cells #[.int .u8 k.1, .int .u8 k.2] 60)) := (Below.refl _ _).alloc (Nat.le_refl _) _
  have T' : TS A B (w.alloc (.cells #[.int .u8 k.1, .int .u8 k.2] 60)) sb bm (.slice a ks.length cap) ks := T.kept (Touch.of_below hb0 (fun _ => False)) (fun _ _ h => h)
  have hf := Lib.hid (find_miss T' hk hks hi)
  go_enter Try.func27, Try.ntmps27
  go_wp2_with fail
  refine hf.out.mono ?_
  rintro e w2 ⟨rfl, hb2⟩
  have T2 : TS A B w2 sb bm (.slice a ks.length cap) ks := T'.kept (Touch.of_below hb2 (fun _ => False)) (fun _ _ h => h)
  have hz2' : w.heap.size + 1 ≤ w2.heap.size := by have := hb2.size; simpa using this
  have hbox : ∀ i, w2.cell? ⟨w.heap.size, i, none⟩ = (#[.int .u8 k.1, .int .u8 k.2] : Array Value)[i]? := fun i => (hb2.cell (p := ⟨w.heap.size, i, none⟩) (by simp)).trans (World.cell?_alloc_new _ _ _ _)
  have b0 := hbox 0
  have b1 := hbox 1

  have c1 := T2.c1
  have f1 := T2.f0 1
  have hrow := T2.row
  clear hf T'
  have hbase : B ≤ w2.heap.size := T2.top
  have hne1 : Value.ownBlock (.slice a ks.length cap) ≠ some sb := fun e => by have := (T2.row.lt sb e).1; have := T2.sbB; omega
  have hne3 : Value.ownBlock (.slice a ks.length cap) ≠ some w.heap.size := fun e => by have := (T.row.lt _ e).2; omega
  have hsb : sb < w2.heap.size := T2.lt sb (Or.inl rfl)
  have hcz : ∀ o, (w2.alloc o).drew.cell? ⟨sb, 1, none⟩ = some (.slice a ks.length cap) := fun o => (World.cell?_alloc_past _ _ _ hsb).trans c1
  have hfz : ∀ o, (w2.alloc o).drew.frozen? ⟨sb, 1, none⟩ = false := fun o => (World.frozen?_alloc_past _ _ _ hsb).trans f1
  go_wp2_with fail
  go_region_law ((refine step_append_lies _ (by rfl) _ _ _ (by rfl) B 60 i0 _ 2 2 Try.underlying76 hi0 hz0 hz1 hz2 rfl (by omega) (.slice a ks.length cap) ks.length _ (by rfl) ((hrow.alloc _).drew) ⟨w2.heap.size, 0, none⟩ 1 1 (flat k) (by rfl) (by rfl) (World.news_of_block (cs := #[.int .u8 k.1, .int .u8 k.2]) (t := 60) (fr := (0, 0)) (heap_alloc_new w2 _)) (by simp [flat, Value.oneCell']) (by decide) (by unfold maxLen; omega) (by omega) (by simp; omega) (w2.heap.size + 1) (by simp) ?_; intro gg cap' w1 hown1 hgrow hat hlt; have c12 : w1.cell? ⟨sb, 1, none⟩ = some (.slice a ks.length cap) := (hgrow.cell_far ⟨sb, 1, none⟩ (by simp; omega) (Ne.symm hne1)).trans (hcz _); have f12 : w1.frozen? ⟨sb, 1, none⟩ = false := (hgrow.frozen_far ⟨sb, 1, none⟩ (by simp; omega) (Ne.symm hne1)).trans (hfz _)))
  all_goals
    have hbm : bm < w2.heap.size := T2.lt bm (Or.inr (Or.inl rfl))
    have hne2 : some bm ≠ Value.ownBlock (.slice a ks.length cap) := fun e => by have := (T2.row.lt bm e.symm).1; have := T2.bmB; omega
    have hb1 : w1.heap[sb]? = some (.cells #[.map (some bm), .slice a ks.length cap] 79 (0, 0)) := by
      rw [hgrow.block sb (by simp; omega) (Ne.symm hne1)]
      exact (Below.heap_alloc w2 _ sb hsb).trans T2.blk
    have hm1 := (T2.map.alloc (.cells #[.int .u8 k.1, .int .u8 k.2] 60)).drew.kept hgrow hne2
    have hm2 := hm1.setCell (a := ⟨sb, 1, none⟩) (fun e => T2.ne e.symm) (.slice (some ⟨gg, 0, none⟩) (ks.length + 1) cap')
    have hb2s := blk_set (i := 1) (.slice (some ⟨gg, 0, none⟩) (ks.length + 1) cap') hb1
    have c02 : (w1.setCell ⟨sb, 1, none⟩ (.slice (some ⟨gg, 0, none⟩) (ks.length + 1) cap')).cell? ⟨sb, 0, none⟩ = some (.map (some bm)) := blk_cell hb2s 0
    have hs1 : w2.heap.size + 1 ≤ w1.heap.size := by have := hgrow.size; simpa using this
    have hown'' := ownsRow_setCell_below hown1 (a := ⟨sb, 1, none⟩) T2.sbB (.slice (some ⟨gg, 0, none⟩) (ks.length + 1) cap')
    have hbx : ∀ i, (w1.setCell ⟨sb, 1, none⟩ (.slice (some ⟨gg, 0, none⟩) (ks.length + 1) cap')).cell? ⟨w.heap.size, i, none⟩ = (#[.int .u8 k.1, .int .u8 k.2] : Array Value)[i]? := fun i => by
      have h1 : (w1.setCell ⟨sb, 1, none⟩ (.slice (some ⟨gg, 0, none⟩) (ks.length + 1) cap')).heap[w.heap.size]? = w1.heap[w.heap.size]? := Below.heap_setCell _ _ _ _ (fun e => by have := T.lt sb (Or.inl rfl); simp at e; omega)
      rw [World.cell?_of_block (a := ⟨w.heap.size, i, none⟩) h1, hgrow.cell_far ⟨w.heap.size, i, none⟩ (by simp; omega) (Ne.symm hne3)]
      exact (World.cell?_alloc_past _ _ _ (by omega)).trans (hbox i)
    have bx0 := hbx 0
    have bx1 := hbx 1

    have hnote := Lib.hid (note_any (i := ks.length) c02 hm2 (by unfold maxLen; omega) (by omega) hk)
    clear hbx hbox b0 b1 hcz hfz
    go_wp2_with fail
    refine hnote.out.mono ?_
    rintro e w3 ⟨rfl, hm3, hg3⟩
    go_wp2_with fail
    go_ret
    refine ⟨rfl, .slice (some ⟨gg, 0, none⟩) (ks.length + 1) cap', T.more (fun h => hi ((mem_lit hk hks).1 h)) ?_ hm3 ?_ ?_, ?_, ?_⟩
    · rw [hg3.block sb (by simp; omega) (fun e => T.ne e), hb2s]; rfl
    · have := (ownsRow_touch hown'' hg3 (fun b e h => by have := (hown1.lt b e).1; have := T2.bmB; omega))
      exact this
    · have := hg3.size; simp at this; omega
    · refine ((Touch.of_below (hb0.trans (hb2.mono (by simp))) _).trans (((Touch.refl w2 _).alloc _).drew.trans (Touch.of_grown hgrow (fun b e => Or.inr (Or.inr e))))).trans (((Touch.refl w1 _).setCell (fun _ => Or.inl rfl) _).trans (hg3.mono (fun b _ e => Or.inr (Or.inl e))))
    · intro b e
      simp [Value.ownBlock] at e
      subst e
      rcases hat with h | h
      · exact Or.inl h
      · right; omega
end Arr
end Go.Proofs.Ytdeoclapamknfaa
