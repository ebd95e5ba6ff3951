/- graph.Post. -/
import Derived.Test.YteipncggndefmaaGReach
import Derived.Deep.Cut
import Derived.Deep.CutRange
namespace Go.Proofs.Yteipncggndefmaa
open Go.RowKit Go.Maps Go.Shelf

theorem own_mono {w : World} {b1 b2 : Nat} {e : TypeId} {size n : Nat} {v : Value} {us : List Value} (h : w.ownsRow b1 e size v n us) (hb : b2 ≤ b1) : w.ownsRow b2 e size v n us := by
  refine ⟨h.1, h.2.imp id ?_⟩
  rintro ⟨g, cap, cur, e1, h1, h2⟩
  exact ⟨g, cap, cur, e1, Nat.le_trans hb h1, h2⟩
/-- What has been left, in a box: a list, the first one first. -/
def PostLv (lb base : Nat) (w : World) (own : Nat → Prop) (o : List Nat) : Prop :=
  ∃ lv, w.heap[lb]? = some (.cells #[lv] 25 (0, 0)) ∧ w.ownsRow base 3 1 lv o.length (o.reverse.map fun x : Nat => encI x) ∧ lb < base ∧ base ≤ w.heap.size ∧ ∀ b, own b ↔ (b = lb ∨ lv.ownBlock = some b)

theorem postleaves (lb base : Nat) : Leaves (PostLv lb base) 38 #[.pointer (some ⟨lb, 0, none⟩)] where
  enters := enters_of Try.func38 (by kernel_rfl) rfl
  lt := fun {w own o} h b hb => by
    obtain ⟨lv, h1, h2, h3, h4, h5⟩ := h
    rcases (h5 b).1 hb with e | e
    · omega
    · exact (h2.lt b e).2
  kept := fun {w w' own U o} h ht hU => by
    obtain ⟨lv, h1, h2, h3, h4, h5⟩ := h
    exact ⟨lv, (ht.block lb (Array.getElem?_eq_some_iff.1 h1).1 (hU lb ((h5 lb).2 (.inl rfl)))).trans h1, ownsRow_touch h2 ht (fun b hb => hU b ((h5 b).2 (.inr hb))), h3, Nat.le_trans h4 ht.size, h5⟩
  call := fun {w own o x} h hol => by
    obtain ⟨lv, h1, h2, h3, h4, h5⟩ := h
    show Calls Try.prog 38 #[.int .i64 x, .pointer (some ⟨lb, 0, none⟩)] w _
    obtain ⟨i0, hi0, hz0, hz1, hz2⟩ := info_parts infoI1
    have c0 : w.cell? ⟨lb, 0, none⟩ = some lv := by rw [blk_cell h1]; rfl
    obtain ⟨al, cl, rfl⟩ := own_form h2
    replace h5 := Lib.hid h5
    go_enter Try.func38, Try.ntmps38
    go_wp2_with (at_builtin; refine wpList_append_own_at _ rfl _ _ 25 rfl base 3 i0 _ 1 8 Try.underlying25 hi0 hz0 hz1 hz2 rfl (by decide) _ _ _ rfl (h2.alloc _) ⟨w.heap.size, 0, none⟩ 1 1 [.int .i64 x] rfl rfl (World.news_of_block (cs := #[.int .i64 x]) (t := 3) (fr := (0, 0)) (heap_alloc_new w _)) (by simp [Value.oneCell']) (by unfold maxLen; omega) (by omega) (by simp; omega) ?_)
    intro v' w2 hown2 hgrow hnil hat
    have hlb := (Array.getElem?_eq_some_iff.1 h1).1
    have T : Touch w w2 (fun b => (Value.slice al o.length cl).ownBlock = some b) := Touch.trans ((Touch.refl w (fun b => (Value.slice al o.length cl).ownBlock = some b)).alloc (.cells #[.int .i64 x] 3)) (Touch.of_grown hgrow (fun k hk => hk))
    have hb2 := (T.block lb hlb (fun e => by have := (h2.lt lb e).1; omega)).trans h1
    have c2 : w2.cell? ⟨lb, 0, none⟩ = some (.slice al o.length cl) := by rw [blk_cell hb2]; rfl
    have f2 : w2.frozen? ⟨lb, 0, none⟩ = false := by simp [World.frozen?, hb2]
    obtain ⟨a2, c2', rfl⟩ := own_form hown2
    have T2 : Touch w2 (w2.setCell ⟨lb, 0, none⟩ (.slice a2 (o.length + 1) c2')) (fun b => b = lb) := (Touch.refl w2 (fun b => b = lb)).setCell (a := ⟨lb, 0, none⟩) (fun _ => rfl) _
    have hn : ∀ b, (Value.slice a2 (o.length + 1) c2').ownBlock = some b → (Value.slice al o.length cl).ownBlock = some b ∨ w.heap.size ≤ b := fun b hb => by
      rcases hat with e | e
      · exact .inl (e ▸ hb)
      · rw [e] at hb
        exact .inr (by injection hb with hb; omega)
    have hfin : Hid (∃ own', PostLv lb base (w2.setCell ⟨lb, 0, none⟩ (.slice a2 (o.length + 1) c2')) own' (x :: o) ∧ Touch w (w2.setCell ⟨lb, 0, none⟩ (.slice a2 (o.length + 1) c2')) own ∧ ∀ b, own' b → own b ∨ w.heap.size ≤ b) := by
      refine Lib.hid ⟨fun b => b = lb ∨ (Value.slice a2 (o.length + 1) c2').ownBlock = some b, ⟨_, by rw [blk_set _ hb2]; rfl, ?_, h3, ?_, fun b => Iff.rfl⟩, ?_, fun b hb => ?_⟩
      · have h6 := ownsRow_touch hown2 T2 (fun b hb e => by
          rcases hn b hb with h | h
          · have := (h2.lt b h).1; omega
          · omega)
        simpa [encI] using h6
      · have := T.size; have := T2.size; omega
      · exact Touch.join (Touch.mono T (fun b _ e => (h5.out b).2 (.inr e))) T2 (fun b _ e => (h5.out b).2 (.inl e))
      · rcases hb with e | e
        · exact .inl ((h5.out b).2 (.inl e))
        · rcases hn b e with h | h
          · exact .inl ((h5.out b).2 (.inr h))
          · exact .inr h
    clear hown2 hgrow hnil hat T hb2 T2 hn
    go_wp2_with fail
    go_end0
    exact ⟨rfl, hfin.out⟩

def PostMid (w wx : World) (o : List Nat) : Prop :=
  ∃ lv, wx.heap[w.heap.size]? = some (.cells #[lv] 25 (0, 0)) ∧ wx.ownsRow w.heap.size 3 1 lv o.length (o.reverse.map fun x : Nat => encI x) ∧ lv.ownBlock ≠ some w.heap.size ∧ Below w.heap.size w wx
/-- How a walk of a graph in form goes from one node. -/
def PostOf (L : List (List Int)) (from' : Int) (o : List Nat) : Prop := ∃ s, Kids (normL L) [from'] [] [] s o

/-- What stands ready for the walk, made in any order: the graph in form, what is seen, where to begin. -/
structure Prep (w w3 : World) (L : List (List Int)) (y : Int) (oN oS oF : Option Nat) : Prop where
  old : Below w.heap.size w w3
  lt : w.heap.size < w3.heap.size
  box : w3.heap[w.heap.size]? = some (.cells #[.slice none 0 0] 25 (0, 0))
  seen : ∀ S, oS = some S → w3.heap[S]? = some (.cells (seenA L.length []) 4 (0, 0)) ∧ w.heap.size < S ∧ S < w3.heap.size
  frm : ∀ F, oF = some F → w3.heap[F]? = some (.cells #[.int .i64 y] 3 (0, 0)) ∧ w.heap.size < F ∧ F < w3.heap.size
  apart : ∀ S F, oS = some S → oF = some F → S ≠ F
  nrm : ∀ G, oN = some G → RdX (fun b => b = w.heap.size ∨ oS = some b) w3 (.slice (some ⟨G, 0, none⟩) L.length L.length) (normL L)
section
variable {w w3 : World} {L : List (List Int)} {y : Int} {oN oS oF : Option Nat}
theorem Prep.start (w : World) : Prep w (w.alloc (.cells #[.slice none 0 0] 25)) L y none none none :=
  ⟨(Below.refl _ _).alloc (Nat.le_refl _) _, by simp, heap_alloc_new w _, fun _ h => (by cases h), fun _ h => (by cases h), fun _ _ h => (by cases h), fun _ h => (by cases h)⟩
theorem RdX.below {U : Nat → Prop} {w w' : World} {v : Value} {L : List (List Int)} (h : RdX U w v L) (hb : Below w.heap.size w w') : RdX U w' v L := by
  obtain ⟨vs, a1, a2, a3, a4⟩ := h
  exact ⟨vs, a1.below hb, a2, a3, fun i u l hu hl => ⟨Rd.below (a4 i u l hu hl).1 hb, (a4 i u l hu hl).2⟩⟩
theorem Prep.below {w4 : World} (p : Prep w w3 L y oN oS oF) (hb : Below w3.heap.size w3 w4) : Prep w w4 L y oN oS oF := by
  have hle := hb.size
  refine ⟨p.old.trans (hb.mono p.old.size), Nat.lt_of_lt_of_le p.lt hle, (hb.block _ p.lt).trans p.box, fun S hS => ?_, fun F hF => ?_, p.apart, fun G hG => (p.nrm G hG).below hb⟩
  · obtain ⟨h1, h2, h3⟩ := p.seen S hS
    exact ⟨(hb.block S h3).trans h1, h2, by omega⟩
  · obtain ⟨h1, h2, h3⟩ := p.frm F hF
    exact ⟨(hb.block F h3).trans h1, h2, by omega⟩
theorem Prep.drew (p : Prep w w3 L y oN oS oF) : Prep w w3.drew L y oN oS oF := p.below (Below.refl _ _).drew
theorem Prep.see (p : Prep w w3 L y oN none oF) {S : Nat} (hS : S = w3.heap.size) : Prep w (w3.alloc (.cells (seenA L.length []) 4)) L y oN (some S) oF := by
  subst hS
  have hb : Below w3.heap.size w3 (w3.alloc (.cells (seenA L.length []) 4)) := (Below.refl _ _).alloc (Nat.le_refl _) _
  have q := p.below hb
  have hlt : w3.heap.size < (w3.alloc (.cells (seenA L.length []) 4)).heap.size := by simp
  refine ⟨q.old, q.lt, q.box, fun S h => ?_, q.frm, fun S F h1 h2 => ?_, fun G hG => ?_⟩
  · obtain rfl := Option.some.inj h
    exact ⟨heap_alloc_new _ _, p.lt, hlt⟩
  · obtain rfl := Option.some.inj h1
    have := (p.frm F h2).2.2
    omega
  · refine RdX.mono ((p.nrm G hG).plus.below hb) (fun b e => ?_)
    rcases e with e | e
    · exact .inl (.inl e)
    · obtain rfl := Option.some.inj e
      exact .inr (Nat.le_refl _)
theorem Prep.from (p : Prep w w3 L y oN oS none) {F : Nat} (hF : F = w3.heap.size) : Prep w (w3.alloc (.cells #[.int .i64 y] 3)) L y oN oS (some F) := by
  subst hF
  have hb : Below w3.heap.size w3 (w3.alloc (.cells #[.int .i64 y] 3)) := (Below.refl _ _).alloc (Nat.le_refl _) _
  have q := p.below hb
  have hlt : w3.heap.size < (w3.alloc (.cells #[.int .i64 y] 3)).heap.size := by simp
  refine ⟨q.old, q.lt, q.box, q.seen, fun F h => ?_, fun S F h1 h2 => ?_, q.nrm⟩
  · obtain rfl := Option.some.inj h
    exact ⟨heap_alloc_new _ _, p.lt, hlt⟩
  · obtain rfl := Option.some.inj h2
    have := (p.seen S h1).2.2
    omega
theorem Prep.norm (p : Prep w w3 L y none oS oF) {G : Nat} {vs : List Value} {w4 : World} (hb : Below w3.heap.size w3 w4) (M : Mat w4 w3.heap.size G vs (normL L)) : Prep w w4 L y (some G) oS oF := by
  have q := p.below hb
  refine ⟨q.old, q.lt, q.box, q.seen, q.frm, q.apart, fun G' h => ?_⟩
  obtain rfl := Option.some.inj h
  refine M.off (fun b e => ?_) (normL_len L).symm
  rcases e with e | e
  · have := p.lt; omega
  · exact (p.seen b e).2.2
/-- The walk, begun when all stands ready. -/
theorem Prep.walk {G S F : Nat} (p : Prep w w3 L y (some G) (some S) (some F)) (hL : L.length ≤ 100000) (hr : ∀ r ∈ L, r.length ≤ 100000) {s o : List Nat} (hk : Kids (normL L) [y] [] [] s o) :
    Calls Try.prog 34 #[.slice (some ⟨G, 0, none⟩) L.length L.length, .slice (some ⟨S, 0, none⟩) L.length L.length, .slice (some ⟨F, 0, none⟩) 1 1, .func (.func 38) #[] #[.pointer (some ⟨w.heap.size, 0, none⟩)]] w3 fun e w' =>
      e = .returned (.tuple #[]) ∧ ∃ lv, w'.heap[w.heap.size]? = some (.cells #[lv] 25 (0, 0)) ∧ w'.ownsRow w.heap.size 3 1 lv o.length (o.reverse.map fun x : Nat => encI x) ∧ lv.ownBlock ≠ some w.heap.size ∧ Below w.heap.size w w' := by
  obtain ⟨hs, hs1, hs2⟩ := p.seen S rfl
  obtain ⟨hf, hf1, hf2⟩ := p.frm F rfl
  have hX : RdX (fun b => b = S ∨ b = w.heap.size) w3 (.slice (some ⟨G, 0, none⟩) L.length L.length) (normL L) := (p.nrm G rfl).mono (fun b e => by
    rcases e with e | e
    · exact .inr (by rw [e])
    · exact .inl e)
  have hlens : ∀ r ∈ normL L, r.length ≤ 100000 := by
    intro r hr'
    obtain ⟨q, hq, rfl⟩ := List.mem_map.1 hr'
    exact Nat.le_trans (rowL_len _ _) (hr q hq)
  have hfd : RdI w3 (.slice (some ⟨F, 0, none⟩) 1 1) [y] := by
    refine Or.inr ⟨F, 0, 1, rfl, hf2, fun i u hu => ?_⟩
    rw [blk_cell hf, Nat.zero_add]
    cases i with
    | zero => exact hu
    | succ i => simp at hu
  have hlv : PostLv w.heap.size (w.heap.size + 1) w3 (fun b => b = w.heap.size) [] :=
    ⟨_, p.box, World.ownsRow_nil _ _ _ _, Nat.lt_succ_self _, p.lt, fun b => ⟨fun h => .inl h, fun h => by rcases h with h | h; exact h; cases h⟩⟩
  refine (walk_any (postleaves w.heap.size (w.heap.size + 1)) (own0 := fun b => b = w.heap.size) hX (normL_len L) hL hlens hfd (fun _ b e hb => ?_) (by simp) hs hlv (by omega) (by simpa using unseen_all L.length []) hk).mono ?_
  · obtain rfl : F = b := Option.some.inj e
    rcases hb with hb | hb
    · exact p.apart S F rfl rfl hb.symm
    · omega
  · rintro e w' ⟨rfl, -, ⟨own', ⟨lv, h1, h2, h3, h4, h5⟩, h6, h7⟩, hT⟩
    refine ⟨rfl, lv, h1, own_mono h2 (Nat.le_succ _), fun e => ?_, p.old.trans (hT.below p.old.size (fun b hb e => by rcases e with e | e <;> omega))⟩
    have := (h2.lt _ e).1
    omega
end

set_option maxRecDepth 20000 in
set_option maxHeartbeats 4000000 in
theorem post_any {w : World} {v : Value} {L : List (List Int)} {y : Int} (h : RdG w v L) (hL : L.length ≤ 100000) (hr : ∀ r ∈ L, r.length ≤ 100000) :
    Calls Try.prog 24 #[v, .int .i64 y] w fun e w' => ∃ lv o, e = .returned lv ∧ w'.ownsRow w.heap.size 3 1 lv o.length (o.map fun x : Nat => encI x) ∧ PostOf L y o ∧ Below w.heap.size w w' := by
  obtain ⟨av, c0, rfl⟩ := h.form
  obtain ⟨sF, oF, hk⟩ := Kids.total (normL L) [y] [] []
  have hmk := fun w' => make_bools L.length hL w'
  have hN := Lib.hid (fun (w3 : World) (oS oF : Option Nat) (p : Prep w w3 L y none oS oF) => (norm_any (h.below p.old) hL hr).mono (R' := fun e w2 => ∃ G, e = .returned (.slice (some ⟨G, 0, none⟩) L.length L.length) ∧ Prep w w2 L y (some G) oS oF) (fun e w2 ⟨G, vs, he, M, hb⟩ => ⟨G, he, p.norm hb M⟩))
  have P0 := Prep.start (L := L) (y := y) w
  have hWk := Lib.hid (fun (w3 : World) (G S F : Nat) (p : Prep w w3 L y (some G) (some S) (some F)) => p.walk hL hr hk)
  replace P0 := Lib.hid P0
  replace hk := Lib.hid hk
  go_enter Try.func24, Try.ntmps24
  go_wp2_with fail
  go_upto_region 2 with fail
  go_cut [6] from 7 to 14 (fun _ wx => PostMid w wx oF)
  case first =>
    go_region_with (first
      | (go_at_call 22; refine Calls.mono (hN.out _ _ _ (by first | exact P0.out.drew | exact (P0.out.see (S := w.heap.size + 1) (by simp)).drew | exact (P0.out.from (F := w.heap.size + 1) (by simp)).drew | exact ((P0.out.see (S := w.heap.size + 1) (by simp)).from (F := w.heap.size + 1 + 1) (by simp)).drew | exact ((P0.out.from (F := w.heap.size + 1) (by simp)).see (S := w.heap.size + 1 + 1) (by simp)).drew)) ?_; rintro e w2 ⟨G, rfl, p⟩)
      | (go_at_call 34; refine Calls.mono (hWk.out _ _ _ _ (by first | exact p | exact p.see rfl | exact p.from rfl | exact (p.see rfl).from (by simp) | exact (p.from rfl).see (by simp))) ?_; rintro e w4 ⟨rfl, lv, hbx, hown, hne, hb4⟩))
    all_goals
      go_wp2_with fail
      go_meet
      exact ⟨lv, hbx, hown, hne, hb4⟩
  case rest =>
    obtain ⟨lv, hbx, hown, hne, hb4⟩ := hcut
    obtain ⟨l, hl⟩ : ∃ l : List Int, l = oF.reverse.map (fun x : Nat => (x : Int)) := ⟨_, rfl⟩
    have hll : l.length = oF.length := by rw [hl]; simp
    have hown1 : wc.ownsRow w.heap.size 3 1 lv l.length (l.map encI) := by
      rw [hll, hl, List.map_map]
      exact hown
    have hR := Lib.hid (reverse_own hown1)
    have cb : wc.cell? ⟨w.heap.size, 0, none⟩ = some lv := by rw [blk_cell hbx]; rfl
    have hlt : w.heap.size < wc.heap.size := (Array.getElem?_eq_some_iff.1 hbx).1
    obtain ⟨al, cl, rfl⟩ := own_form hown
    go_wp2_with fail
    refine hR.out.mono ?_
    rintro e w5 ⟨rfl, hown5, hT5⟩
    have hbx5 := (hT5.block _ hlt (fun e => hne e)).trans hbx
    have cb5 : w5.cell? ⟨w.heap.size, 0, none⟩ = some (.slice al oF.length cl) := by rw [blk_cell hbx5]; rfl
    have hb5 : Below w.heap.size w w5 := hb4.trans (hT5.below hb4.size (fun b hb e => by have := (hown1.lt b e).1; omega))
    have hfin : Hid (w5.ownsRow w.heap.size 3 1 (.slice al oF.length cl) oF.length (oF.map fun x : Nat => encI x)) := by
      have e : (oF.reverse.map fun x : Nat => (x : Int)).reverse = oF.map fun x : Nat => (x : Int) := by rw [← List.map_reverse, List.reverse_reverse]
      rw [hll, hl, e, List.map_map] at hown5
      exact Lib.hid hown5
    clear hown hown1 hown5 hT5 hbx hbx5 cb hl
    go_wp2_with fail
    go_ret
    exact ⟨_, oF, rfl, hfin.out, ⟨sF, hk.out⟩, hb5⟩
end Go.Proofs.Yteipncggndefmaa
