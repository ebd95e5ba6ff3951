/- The walks of a table keyed by strings. -/
import Derived.Test.YtdeoclapamknfaaTab
import Derived.ProofKit
import Derived.Outline
import Derived.WalkSpells
namespace Go.Proofs.Ytdeoclapamknfaa
open Go.RowKit Go.Maps Go.WideMaps

namespace Str
def flat (s : ByteArray) : List Value := [.string s]
def lit (s : ByteArray) : Lit := .string s.data.toList
abbrev TS := Tab Try.prog 9 3 66 1 flat lit

theorem law : Keyed Try.prog 9 := string_keyed Try.underlying9
theorem zero (w : World) : (zeroValue 3).run Try.prog w = .ok (.int .i64 0) w := by kernel_rfl
theorem keys (ks : List ByteArray) : ∀ x ∈ ks.map lit, WideAt.IsKeyLit x := by
  intro x hx
  obtain ⟨s, _, rfl⟩ := List.mem_map.1 hx
  trivial
theorem lit_inj {a b : ByteArray} (h : lit a = lit b) : a = b := by
  unfold lit at h
  simp only [Lit.string.injEq] at h
  exact ByteArray.ext (Array.toList_inj.1 h)
theorem mem_lit {k : ByteArray} {ks : List ByteArray} : lit k ∈ ks.map lit ↔ k ∈ ks :=
  ⟨fun h => by obtain ⟨a, ha, e⟩ := List.mem_map.1 h; rw [← lit_inj e]; exact ha, fun h => List.mem_map.2 ⟨k, h, rfl⟩⟩
theorem infoK : (Try.prog.info? 9).map (fun i => (i.zero, i.size, i.bytes)) = some (some (.string ⟨#[]⟩), 1, 16) := by kernel_rfl

theorem catch_find (w : World) :
    CallsD Try.prog 31 #[] .returning w fun e u' w' => e = .returned (.tuple #[]) ∧ u' = .returning ∧ w' = w := by
  refine callsD_of_wpS Try.func31 rfl fun c₀ cs hu => ?_
  apply wpS_region
  simp [wpOpsS, go_sem, recoverD, hu, Try.ntmps31, bodyPostS, results, Try.results31]
  cases c₀
  simp_all
theorem catch_note (w : World) :
    CallsD Try.prog 39 #[] .returning w fun e u' w' => e = .returned (.tuple #[]) ∧ u' = .returning ∧ w' = w := by
  refine callsD_of_wpS Try.func39 rfl fun c₀ cs hu => ?_
  apply wpS_region
  simp [wpOpsS, go_sem, recoverD, hu, Try.ntmps39, bodyPostS, results, Try.results39]
  cases c₀
  simp_all

theorem find_nil (k : ByteArray) (w : World) :
    Calls Try.prog 12 #[.pointer none, .string k] w fun e w' => e = .returned (.tuple #[.int .i64 0, .bool false]) ∧ w = w' := by
  go_enter Try.func12, Try.ntmps12
  go_wp2
  go_ret2
  exact ⟨rfl, rfl⟩

theorem find_hit {A B sb bm : Nat} {v : Value} {ks : List ByteArray} {w : World} (T : TS A B w sb bm v ks) {k : ByteArray} (hk : k.size ≤ maxLen) {i : Nat} (hi : ks[i]? = some k) :
    Calls Try.prog 12 #[.pointer (some ⟨sb, 0, none⟩), .string k] w fun e w' => e = .returned (.tuple #[.int .i64 i, .bool true]) ∧ w = w' := by
  have hkey := keyOf_string_mk Try.underlying9 hk
  have hown := T.map
  have c0 := T.c0
  have hl : (ks.map lit)[i]? = some (.string k.data.toList) := by simp [hi, lit]
  have hhas := Lib.hid (has_tabD_in (H := Unit) (keys ks) (List.mem_of_getElem? hl))
  have hat := Lib.hid (at_tabD (H := Unit) (ks.map lit) (keys ks) T.nodup _ (.lit (.int .i64 0)) i hl)
  clear hl hi hk T
  go_enter_defers Try.func12, Try.ntmps12
  go_wp2_with (first
    | (at_lookup; refine wpList_lookup_own_ok_int _ rfl _ _ 64 rfl 9 3 .i64 law Try.underlying64 Try.underlying3 (zero _) bm _ _ rfl hown _ _ rfl hkey ?_; intro c hc hwc)
    | go_in)
  have hci : c = i := by have := hat.out; rw [hc] at this; simpa [num] using this
  refine leaves_cons (f := 31) (args := #[]) (by simp) (by simp [go_sem]) ?_
  refine (catch_find _).mono ?_
  rintro e u' w'' ⟨rfl, rfl, rfl⟩
  simp [Leaves, settle, results, Try.results12, go_sem, hhas.out, hci]

theorem find_miss {A B sb bm : Nat} {v : Value} {ks : List ByteArray} {w : World} (T : TS A B w sb bm v ks) {k : ByteArray} (hk : k.size ≤ maxLen) (hi : k ∉ ks) :
    Calls Try.prog 12 #[.pointer (some ⟨sb, 0, none⟩), .string k] w fun e w' => e = .returned (.tuple #[.int .i64 0, .bool false]) ∧ w = w' := by
  have hkey := keyOf_string_mk Try.underlying9 hk
  have hown := T.map
  have c0 := T.c0
  have h1 : has (tabD (H := Unit) (ks.map lit)) (.string k.data.toList) = false := has_tabD_out (keys ks) (fun h => hi (mem_lit.1 h))
  have hat := Lib.hid (atKey_of_not_has h1 (.lit (.int .i64 0)))
  have hhas := Lib.hid h1
  clear h1 hi hk T
  go_enter_defers Try.func12, Try.ntmps12
  go_wp2_with (first
    | (at_lookup; refine wpList_lookup_own_ok_int _ rfl _ _ 64 rfl 9 3 .i64 law Try.underlying64 Try.underlying3 (zero _) bm _ _ rfl hown _ _ rfl hkey ?_; intro c hc hwc)
    | go_in)
  have hci : c = 0 := by
    have h2 := hat.out
    rw [hc] at h2
    simpa using h2
  refine leaves_cons (f := 31) (args := #[]) (by simp) (by simp [go_sem]) ?_
  refine (catch_find _).mono ?_
  rintro e u' w'' ⟨rfl, rfl, rfl⟩
  simp [Leaves, settle, results, Try.results12, go_sem, hhas.out, hci]

theorem note_any {sb bm n i : Nat} {D : DataW Unit} {w : World} (c0 : w.cell? ⟨sb, 0, none⟩ = some (.map (some bm))) (hown : w.ownsMap Try.prog 9 (plainElem Try.prog 3) bm n D) (hn : n < maxLen) (hi : i < 4611686018427387904)
    {k : ByteArray} (hk : k.size ≤ maxLen) :
    Calls Try.prog 30 #[.pointer (some ⟨sb, 0, none⟩), .string k, .int .i64 i] w fun e w' => e = .returned (.tuple #[]) ∧ w'.ownsMap Try.prog 9 (plainElem Try.prog 3) bm (n + 1) (D.put (lit k) (num i)) ∧ w.grownBy w' (some bm) := by
  have hkey := keyOf_string_mk Try.underlying9 hk
  have hwf : (Lit.int .i64 (i : Int)).wf = true := WalkArith.wf_i64 (by omega)
  have heq := fun (w : World) (r : Option Nat) => run_eql_map_nil (P := Try.prog) w 64 9 3 r Try.underlying64
  go_enter_defers Try.func30, Try.ntmps30
  go_wp2_with (first
    | (at_mapUpdate; refine wpList_mapUpdate_own _ rfl _ _ _ 64 rfl 9 3 law Try.underlying64 _ bm n D rfl hown hn _ _ _ rfl rfl hkey _ [] (plainElem_int Try.underlying3 hwf) ?_; intro w1 hown1 hgrow1)
    | go_in)
  refine leaves_cons (f := 39) (args := #[]) (by simp) (by simp [go_sem]) ?_
  refine (catch_note _).mono ?_
  rintro e u' w'' ⟨rfl, rfl, rfl⟩
  exact ⟨_, by simp [results, Try.results30, go_sem], rfl, hown1, hgrow1⟩

theorem id_nil (k : ByteArray) (w : World) :
    Calls Try.prog 11 #[.pointer none, .string k] w fun e w' => e = .returned (.int .i64 0) ∧ w = w' := by
  go_enter Try.func11, Try.ntmps11
  go_wp2
  go_ret
  exact ⟨rfl, rfl⟩

theorem id_hit {A B sb bm : Nat} {v : Value} {ks : List ByteArray} {w : World} (T : TS A B w sb bm v ks) {k : ByteArray} (hk : k.size ≤ maxLen) {i : Nat} (hi : ks[i]? = some k) :
    Calls Try.prog 11 #[.pointer (some ⟨sb, 0, none⟩), .string k] w fun e w' => e = .returned (.int .i64 i) ∧ w = w' := by
  go_enter Try.func11, Try.ntmps11
  go_wp2_with (go_at_call 12; refine (find_hit T hk hi).mono ?_; rintro e w' ⟨rfl, rfl⟩)
  go_ret
  exact ⟨rfl, rfl⟩

/-- What a key that is new leaves. -/
def Grown1 (A B : Nat) (w w' : World) (sb bm : Nat) (v : Value) (ks : List ByteArray) : Prop :=
  ∃ v', TS A B w' sb bm v' ks ∧ Touch w w' (Own sb bm v) ∧ ∀ b, v'.ownBlock = some b → v.ownBlock = some b ∨ w.heap.size ≤ b

theorem id_new {A B sb bm : Nat} {v : Value} {ks : List ByteArray} {w : World} (T : TS A B w sb bm v ks) {k : ByteArray} (hk : k.size ≤ maxLen) (hi : k ∉ ks) (hlen : ks.length ≤ 1000000) :
    Calls Try.prog 11 #[.pointer (some ⟨sb, 0, none⟩), .string k] w fun e w' => e = .returned (.int .i64 ks.length) ∧ Grown1 A B w w' sb bm v (ks ++ [k]) := by
  obtain ⟨i0, hi0, hz0, hz1, hz2⟩ := info_parts infoK
  obtain ⟨a, cap, rfl⟩ := T.form
  have c0 := T.c0
  have c1 := T.c1
  have f1 := T.f0 1
  have hrow := T.row
  go_enter Try.func11, Try.ntmps11
  go_wp2_with (first | (go_at_call 12; refine (find_miss T hk hi).mono ?_; rintro e w' ⟨rfl, rfl⟩) | (at_builtin; refine wpList_append_own_at _ rfl _ _ 22 rfl B 9 i0 (.string ⟨#[]⟩) 1 16 Try.underlying22 hi0 hz0 hz1 hz2 rfl (by decide) _ _ _ rfl (hrow.alloc _) ⟨w.heap.size, 0, none⟩ 1 1 [.string k] rfl rfl ?c1 ?c2 ?c3 ?c4 ?c5 ?_))
  case c1 => exact cell_one_new _ _ _
  case c2 => intro u hu; simp at hu; subst hu; rfl
  case c3 => unfold maxLen; omega
  case c4 => omega
  case c5 => have := T.top; simp; omega
  intro v' w1 hown' hgrow _ hloc
  obtain ⟨g', cap', hv'⟩ := row_form hown' (Nat.succ_pos _)
  subst hv'
  have hsb : sb < w.heap.size := T.lt sb (Or.inl rfl)
  have hbm : bm < w.heap.size := T.lt bm (Or.inr (Or.inl rfl))
  have hne1 : some sb ≠ Value.ownBlock (.slice a ks.length cap) := fun e => by have := (T.row.lt sb e.symm).1; have := T.sbB; omega
  have hne2 : some bm ≠ Value.ownBlock (.slice a ks.length cap) := fun e => by have := (T.row.lt bm e.symm).1; have := T.bmB; omega
  have hb1 : w1.heap[sb]? = some (.cells #[.map (some bm), .slice a ks.length cap] 66 (0, 0)) := by
    rw [hgrow.block sb (by simp; omega) hne1, Below.heap_alloc _ _ _ hsb]; exact T.blk
  have hm1 := (T.map.alloc (.cells #[.string k] 9)).kept hgrow hne2
  have hm2 := hm1.setCell (a := ⟨sb, 1, none⟩) (fun e => T.ne e.symm) (.slice (some ⟨g', 0, none⟩) (ks.length + 1) cap')
  have hb2 := blk_set (i := 1) (.slice (some ⟨g', 0, none⟩) (ks.length + 1) cap') hb1
  have c02 : (w1.setCell ⟨sb, 1, none⟩ (.slice (some ⟨g', 0, none⟩) (ks.length + 1) cap')).cell? ⟨sb, 0, none⟩ = some (.map (some bm)) := blk_cell hb2 0
  have c12 : w1.cell? ⟨sb, 1, none⟩ = some (.slice a ks.length cap) := blk_cell hb1 1
  have f12 : w1.frozen? ⟨sb, 1, none⟩ = false := by simp [World.frozen?, hb1]
  have hs1 : w.heap.size + 1 ≤ w1.heap.size := by have := hgrow.size; simpa using this
  have hown'' := ownsRow_setCell_below hown' (a := ⟨sb, 1, none⟩) T.sbB (.slice (some ⟨g', 0, none⟩) (ks.length + 1) cap')
  clear hm1
  go_wp2_with fail
  refine (note_any (i := ks.length) c02 hm2 (by unfold maxLen; omega) (by omega) hk).mono ?_
  rintro e w2 ⟨rfl, hm3, hg3⟩
  go_wp2_with fail
  go_ret
  refine ⟨rfl, .slice (some ⟨g', 0, none⟩) (ks.length + 1) cap', T.more (fun h => hi (mem_lit.1 h)) ?_ hm3 ?_ ?_, ?_, ?_⟩
  · rw [hg3.block sb (by simp; omega) (fun e => T.ne (by simpa using e)), hb2]; rfl
  · exact hown''.kept hg3 (Or.inr (fun e => by have := (hown'.lt bm e).1; have := T.bmB; omega))
  · have := hg3.size; simp at this; omega
  · refine (((Touch.refl w _).alloc _).trans (Touch.of_grown hgrow (fun b e => Or.inr (Or.inr e)))).trans (((Touch.refl w1 _).setCell (fun _ => Or.inl rfl) _).trans (Touch.of_grown hg3 (fun b e => Or.inr (Or.inl (by simpa using e.symm)))))
  · intro b e
    rcases hloc with h | h
    · exact Or.inl (h ▸ e)
    · right
      rw [h] at e
      simp at e
      omega
end Str
end Go.Proofs.Ytdeoclapamknfaa
