/- The walks of a table keyed by bytes. -/
import Derived.Test.YtdeoclapamknfaaTab
import Derived.ProofKit
import Derived.Outline
import Derived.WalkSpells
namespace Go.Proofs.Ytdeoclapamknfaa
open Go.RowKit Go.Maps Go.WideMaps

namespace U8
def flat (s : Int) : List Value := [.int .u8 s]
def lit (s : Int) : Lit := .int .u8 s
abbrev TS := Tab Try.prog 5 3 75 1 flat lit

theorem law : Keyed Try.prog 5 := int_keyed Try.underlying5
theorem zero (w : World) : (zeroValue 3).run Try.prog w = .ok (.int .i64 0) w := by kernel_rfl
theorem keys (ks : List Int) : ∀ x ∈ ks.map lit, WideAt.IsKeyLit x := by
  intro x hx
  obtain ⟨s, _, rfl⟩ := List.mem_map.1 hx
  trivial
theorem lit_inj {a b : Int} (h : lit a = lit b) : a = b := by
  unfold lit at h
  simpa using h
theorem mem_lit {k : Int} {ks : List Int} : lit k ∈ ks.map lit ↔ k ∈ ks :=
  ⟨fun h => by obtain ⟨a, ha, e⟩ := List.mem_map.1 h; rw [← lit_inj e]; exact ha, fun h => List.mem_map.2 ⟨k, h, rfl⟩⟩
theorem infoK : (Try.prog.info? 5).map (fun i => (i.zero, i.size, i.bytes)) = some (some (.int .u8 0), 1, 1) := by kernel_rfl

theorem catch_find (w : World) :
    CallsD Try.prog 41 #[] .returning w fun e u' w' => e = .returned (.tuple #[]) ∧ u' = .returning ∧ w' = w := by
  refine callsD_of_wpS Try.func41 rfl fun c₀ cs hu => ?_
  apply wpS_region
  simp [wpOpsS, go_sem, recoverD, hu, Try.ntmps41, bodyPostS, results, Try.results41]
  cases c₀
  simp_all
theorem catch_note (w : World) :
    CallsD Try.prog 42 #[] .returning w fun e u' w' => e = .returned (.tuple #[]) ∧ u' = .returning ∧ w' = w := by
  refine callsD_of_wpS Try.func42 rfl fun c₀ cs hu => ?_
  apply wpS_region
  simp [wpOpsS, go_sem, recoverD, hu, Try.ntmps42, bodyPostS, results, Try.results42]
  cases c₀
  simp_all

theorem find_nil (k : Int) (w : World) :
    Calls Try.prog 35 #[.pointer none, .int .u8 k] w fun e w' => e = .returned (.tuple #[.int .i64 0, .bool false]) ∧ w = w' := by
  go_enter Try.func35, Try.ntmps35
  go_wp2
  go_ret2
  exact ⟨rfl, rfl⟩

theorem find_hit {A B sb bm : Nat} {v : Value} {ks : List Int} {w : World} (T : TS A B w sb bm v ks) {k : Int} (hk : (Lit.int .u8 k).wf = true) {i : Nat} (hi : ks[i]? = some k) :
    Calls Try.prog 35 #[.pointer (some ⟨sb, 0, none⟩), .int .u8 k] w fun e w' => e = .returned (.tuple #[.int .i64 i, .bool true]) ∧ w = w' := by
  have hkey := keyOf_int_mk Try.underlying5 hk
  have hown := T.map
  have c0 := T.c0
  have hl : (ks.map lit)[i]? = some (.int .u8 k) := by simp [hi, lit]
  have hhas := Lib.hid (has_tabD_in (H := Unit) (keys ks) (List.mem_of_getElem? hl))
  have hat := Lib.hid (at_tabD (H := Unit) (ks.map lit) (keys ks) T.nodup _ (.lit (.int .i64 0)) i hl)
  clear hl hi hk T
  go_enter_defers Try.func35, Try.ntmps35
  go_wp2_with (first
    | (at_lookup; refine wpList_lookup_own_ok_int _ rfl _ _ 73 rfl 5 3 .i64 law Try.underlying73 Try.underlying3 (zero _) bm _ _ rfl hown _ _ rfl hkey ?_; intro c hc hwc)
    | go_in)
  have hci : c = i := by have := hat.out; rw [hc] at this; simpa [num] using this
  refine leaves_cons (f := 41) (args := #[]) (by simp) (by simp [go_sem]) ?_
  refine (catch_find _).mono ?_
  rintro e u' w'' ⟨rfl, rfl, rfl⟩
  simp [Leaves, settle, results, Try.results35, go_sem, hhas.out, hci]

theorem find_miss {A B sb bm : Nat} {v : Value} {ks : List Int} {w : World} (T : TS A B w sb bm v ks) {k : Int} (hk : (Lit.int .u8 k).wf = true) (hi : k ∉ ks) :
    Calls Try.prog 35 #[.pointer (some ⟨sb, 0, none⟩), .int .u8 k] w fun e w' => e = .returned (.tuple #[.int .i64 0, .bool false]) ∧ w = w' := by
  have hkey := keyOf_int_mk Try.underlying5 hk
  have hown := T.map
  have c0 := T.c0
  have h1 : has (tabD (H := Unit) (ks.map lit)) (.int .u8 k) = false := has_tabD_out (keys ks) (fun h => hi (mem_lit.1 h))
  have hat := Lib.hid (atKey_of_not_has h1 (.lit (.int .i64 0)))
  have hhas := Lib.hid h1
  clear h1 hi hk T
  go_enter_defers Try.func35, Try.ntmps35
  go_wp2_with (first
    | (at_lookup; refine wpList_lookup_own_ok_int _ rfl _ _ 73 rfl 5 3 .i64 law Try.underlying73 Try.underlying3 (zero _) bm _ _ rfl hown _ _ rfl hkey ?_; intro c hc hwc)
    | go_in)
  have hci : c = 0 := by
    have h2 := hat.out
    rw [hc] at h2
    simpa using h2
  refine leaves_cons (f := 41) (args := #[]) (by simp) (by simp [go_sem]) ?_
  refine (catch_find _).mono ?_
  rintro e u' w'' ⟨rfl, rfl, rfl⟩
  simp [Leaves, settle, results, Try.results35, go_sem, hhas.out, hci]

theorem note_any {sb bm n i : Nat} {D : DataW Unit} {w : World} (c0 : w.cell? ⟨sb, 0, none⟩ = some (.map (some bm))) (hown : w.ownsMap Try.prog 5 (plainElem Try.prog 3) bm n D) (hn : n < maxLen) (hi : i < 4611686018427387904)
    {k : Int} (hk : (Lit.int .u8 k).wf = true) :
    Calls Try.prog 36 #[.pointer (some ⟨sb, 0, none⟩), .int .u8 k, .int .i64 i] w fun e w' => e = .returned (.tuple #[]) ∧ w'.ownsMap Try.prog 5 (plainElem Try.prog 3) bm (n + 1) (D.put (lit k) (num i)) ∧ w.grownBy w' (some bm) := by
  have hkey := keyOf_int_mk Try.underlying5 hk
  have hwf : (Lit.int .i64 (i : Int)).wf = true := WalkArith.wf_i64 (by omega)
  have heq := fun (w : World) (r : Option Nat) => run_eql_map_nil (P := Try.prog) w 73 5 3 r Try.underlying73
  go_enter_defers Try.func36, Try.ntmps36
  go_wp2_with (first
    | (at_mapUpdate; refine wpList_mapUpdate_own _ rfl _ _ _ 73 rfl 5 3 law Try.underlying73 _ bm n D rfl hown hn _ _ _ rfl rfl hkey _ [] (plainElem_int Try.underlying3 hwf) ?_; intro w1 hown1 hgrow1)
    | go_in)
  refine leaves_cons (f := 42) (args := #[]) (by simp) (by simp [go_sem]) ?_
  refine (catch_note _).mono ?_
  rintro e u' w'' ⟨rfl, rfl, rfl⟩
  exact ⟨_, by simp [results, Try.results36, go_sem], rfl, hown1, hgrow1⟩

theorem id_nil (k : Int) (w : World) :
    Calls Try.prog 26 #[.pointer none, .int .u8 k] w fun e w' => e = .returned (.int .i64 0) ∧ w = w' := by
  go_enter Try.func26, Try.ntmps26
  go_wp2
  go_ret
  exact ⟨rfl, rfl⟩

theorem id_hit {A B sb bm : Nat} {v : Value} {ks : List Int} {w : World} (T : TS A B w sb bm v ks) {k : Int} (hk : (Lit.int .u8 k).wf = true) {i : Nat} (hi : ks[i]? = some k) :
    Calls Try.prog 26 #[.pointer (some ⟨sb, 0, none⟩), .int .u8 k] w fun e w' => e = .returned (.int .i64 i) ∧ w = w' := by
  go_enter Try.func26, Try.ntmps26
  go_wp2_with (go_at_call 35; refine (find_hit T hk hi).mono ?_; rintro e w' ⟨rfl, rfl⟩)
  go_ret
  exact ⟨rfl, rfl⟩

/-- What a key that is new leaves. -/
def Grown1 (A B : Nat) (w w' : World) (sb bm : Nat) (v : Value) (ks : List Int) : Prop :=
  ∃ v', TS A B w' sb bm v' ks ∧ Touch w w' (Own sb bm v) ∧ ∀ b, v'.ownBlock = some b → v.ownBlock = some b ∨ w.heap.size ≤ b

theorem id_new {A B sb bm : Nat} {v : Value} {ks : List Int} {w : World} (T : TS A B w sb bm v ks) {k : Int} (hk : (Lit.int .u8 k).wf = true) (hi : k ∉ ks) (hlen : ks.length ≤ 1000000) :
    Calls Try.prog 26 #[.pointer (some ⟨sb, 0, none⟩), .int .u8 k] w fun e w' => e = .returned (.int .i64 ks.length) ∧ Grown1 A B w w' sb bm v (ks ++ [k]) := by
  obtain ⟨i0, hi0, hz0, hz1, hz2⟩ := info_parts infoK
  obtain ⟨a, cap, rfl⟩ := T.form
  have c0 := T.c0
  have c1 := T.c1
  have f1 := T.f0 1
  have hrow := T.row
  go_enter Try.func26, Try.ntmps26
  go_wp2_with (first | (go_at_call 35; refine (find_miss T hk hi).mono ?_; rintro e w' ⟨rfl, rfl⟩) | (at_builtin; refine wpList_append_own_at _ rfl _ _ 55 rfl B 5 i0 (.int .u8 0) 1 1 Try.underlying55 hi0 hz0 hz1 hz2 rfl (by decide) _ _ _ rfl (hrow.alloc _) ⟨w.heap.size, 0, none⟩ 1 1 [.int .u8 k] rfl rfl ?c1 ?c2 ?c3 ?c4 ?c5 ?_))
  case c1 => exact cell_one_new _ _ _
  case c2 => intro u hu; simp at hu; subst hu; rfl
  case c3 => unfold maxLen; omega
  case c4 => omega
  case c5 => have := T.top; simp; omega
  intro v' w1 hown' hgrow _ hloc
  obtain ⟨g', cap', hv'⟩ := row_form hown' (Nat.succ_pos _)
  subst hv'
  have hsb : sb < w.heap.size := T.lt sb (Or.inl rfl)
  have hbm : bm < w.heap.size := T.lt bm (Or.inr (Or.inl rfl))
  have hne1 : some sb ≠ Value.ownBlock (.slice a ks.length cap) := fun e => by have := (T.row.lt sb e.symm).1; have := T.sbB; omega
  have hne2 : some bm ≠ Value.ownBlock (.slice a ks.length cap) := fun e => by have := (T.row.lt bm e.symm).1; have := T.bmB; omega
  have hb1 : w1.heap[sb]? = some (.cells #[.map (some bm), .slice a ks.length cap] 75 (0, 0)) := by
    rw [hgrow.block sb (by simp; omega) hne1, Below.heap_alloc _ _ _ hsb]; exact T.blk
  have hm1 := (T.map.alloc (.cells #[.int .u8 k] 5)).kept hgrow hne2
  have hm2 := hm1.setCell (a := ⟨sb, 1, none⟩) (fun e => T.ne e.symm) (.slice (some ⟨g', 0, none⟩) (ks.length + 1) cap')
  have hb2 := blk_set (i := 1) (.slice (some ⟨g', 0, none⟩) (ks.length + 1) cap') hb1
  have c02 : (w1.setCell ⟨sb, 1, none⟩ (.slice (some ⟨g', 0, none⟩) (ks.length + 1) cap')).cell? ⟨sb, 0, none⟩ = some (.map (some bm)) := blk_cell hb2 0
  have c12 : w1.cell? ⟨sb, 1, none⟩ = some (.slice a ks.length cap) := blk_cell hb1 1
  have f12 : w1.frozen? ⟨sb, 1, none⟩ = false := by simp [World.frozen?, hb1]
  have hs1 : w.heap.size + 1 ≤ w1.heap.size := by have := hgrow.size; simpa using this
  have hown'' := ownsRow_setCell_below hown' (a := ⟨sb, 1, none⟩) T.sbB (.slice (some ⟨g', 0, none⟩) (ks.length + 1) cap')
  clear hm1
  go_wp2_with fail
  refine (note_any (i := ks.length) c02 hm2 (by unfold maxLen; omega) (by omega) hk).mono ?_
  rintro e w2 ⟨rfl, hm3, hg3⟩
  go_wp2_with fail
  go_ret
  refine ⟨rfl, .slice (some ⟨g', 0, none⟩) (ks.length + 1) cap', T.more (fun h => hi (mem_lit.1 h)) ?_ hm3 ?_ ?_, ?_, ?_⟩
  · rw [hg3.block sb (by simp; omega) (fun e => T.ne (by simpa using e)), hb2]; rfl
  · exact hown''.kept hg3 (Or.inr (fun e => by have := (hown'.lt bm e).1; have := T.bmB; omega))
  · have := hg3.size; simp at this; omega
  · refine (((Touch.refl w _).alloc _).trans (Touch.of_grown hgrow (fun b e => Or.inr (Or.inr e)))).trans (((Touch.refl w1 _).setCell (fun _ => Or.inl rfl) _).trans (Touch.of_grown hg3 (fun b e => Or.inr (Or.inl (by simpa using e.symm)))))
  · intro b e
    rcases hloc with h | h
    · exact Or.inl (h ▸ e)
    · right
      rw [h] at e
      simp at e
      omega
end U8
end Go.Proofs.Ytdeoclapamknfaa
