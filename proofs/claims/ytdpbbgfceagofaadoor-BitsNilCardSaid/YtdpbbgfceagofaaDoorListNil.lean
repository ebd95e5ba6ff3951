/- List of no set. -/
import Derived.Test.YtdpbbgfceagofaaDoorList
namespace Go.Proofs.YtdpbbgfceagofaaDoor
open Go.RowKit Go.Maps Go.Sort Go.Shelf

attribute [local go_sem] Oper.semAt_some

theorem rising_nil_stops {w : World} {Bs Bo n1 : Nat} (n : Nat) (hb : w.heap[Bs]? = some (.cells #[.pointer none] 24 (0, 0))) :
    SeqStopsK Fence.wide n Tryd.prog 42 #[.pointer (some ⟨Bs, 0, none⟩)] encP (Kp Bo n1) (fun xs => xs = []) (fun _ => True) 0 w := fun r J Jx W hW hJ _ hY h0 => by
  have hlt := (Array.getElem?_eq_some_iff.1 hb).1
  have b0 : W.cell? ⟨Bs, 0, none⟩ = some (.pointer none) := blk_cell ((hW.block Bs hlt).trans hb) 0
  clear hY hJ
  change CallsIn Fence.wide n Tryd.prog 42 #[.func (.yield r) #[] #[], .pointer (some ⟨Bs, 0, none⟩)] W _
  refine callsIn_of_wp Tryd.func42 rfl trivial ?_ rfl
  simp only [Tryd.ntmps42, List.size_toArray, List.length_cons, List.length_nil, Nat.reduceAdd, Nat.reduceSub, Array.replicate_succ, Array.replicate_zero, List.push_toArray, List.append_toArray, List.nil_append, List.cons_append]
  gi_wp2
  refine bodyPost_ret (results_none rfl _ _ _) rfl ?_
  exact ⟨⟨_, rfl⟩, .inl ⟨[], rfl, h0⟩⟩

set_option maxRecDepth 100000 in
set_option maxHeartbeats 4000000 in
theorem list_nil (w : World) : Calls Tryd.prog 30 #[.pointer none] w fun e w' => (∃ a c, e = .returned (.slice a 0 c)) ∧ Below w.heap.size w w' := by
  refine (callsIn_wide (n := 6)).1 ?_
  obtain ⟨i0, hi0, hz0, hz1, hz2⟩ := info_parts infoI
  have hl := Lib.hid (callsIn_wide (n := 5).2 (len_nil w))
  obtain ⟨w1, hmk0, hown1, hg1⟩ := run_make_own (P := Tryd.prog) w w.heap.size 31 3 i0 _ 1 Tryd.underlying31 hi0 hz0 hz1 .i64 .i64 0 (by rw [hz2]; omega) (by unfold maxLen; omega) (Nat.le_refl _)
  have hmk : (Instr.makeSlice 31 (.int .i64 0) (.int .i64 0)).run Tryd.prog w = .ok (.slice (some ⟨w.heap.size, 0, none⟩) 0 0) w1 := hmk0
  have hr := fun w => Lib.hid (callsIn_wide (n := 5).2 (rising_nil w))
  have hfL : Fence.wide.fn 29 := trivial
  have hfR : Fence.wide.fn 39 := trivial
  clear hmk0
  refine callsIn_of_wp_marks Tryd.func30 rfl trivial ?_ rfl
  simp only [Tryd.ntmps30, List.size_toArray, List.length_cons, List.length_nil, Nat.reduceAdd, Nat.reduceSub, Array.replicate_succ, Array.replicate_zero, List.push_toArray, List.append_toArray, List.nil_append, List.cons_append]
  gi_wp2_with (first
    | (gi_at_call 29; refine hl.out.mono ?_; rintro e w' ⟨rfl, hw⟩; obtain rfl := hw.symm)
    | (gi_at_call 39; refine (hr _).out.mono ?_; rintro e w' ⟨rfl, rfl⟩))
  have hsz1 : w.heap.size < w1.heap.size := (hown1.lt _ rfl).2
  have hb1 : Below w.heap.size w w1 := (Below.refl _ w).grown hg1 (Nat.le_refl _) (fun k e => by cases e)
  have hbo := Boxed.new w1 31 (.slice (some ⟨w.heap.size, 0, none⟩) 0 0)
  have hbx := (hbo.alloc (.cells #[.pointer none] 24))
  have hbs := heap_alloc_new (w1.alloc (.cells #[.slice (some ⟨w.heap.size, 0, none⟩) 0 0] 31)) (.cells #[.pointer none] 24)
  rw [World.size_alloc] at hbs
  have hb0 : Below w.heap.size w ((w1.alloc (.cells #[.slice (some ⟨w.heap.size, 0, none⟩) 0 0] 31)).alloc (.cells #[.pointer none] 24)) := (hb1.alloc (by omega) _).alloc (by simp; omega) _
  have hs0 : ((w1.alloc (.cells #[.slice (some ⟨w.heap.size, 0, none⟩) 0 0] 31)).alloc (.cells #[.pointer none] 24)).heap.size = w1.heap.size + 2 := by simp
  generalize (w1.alloc (.cells #[.slice (some ⟨w.heap.size, 0, none⟩) 0 0] 31)).alloc (.cells #[.pointer none] 24) = W0 at hbx hbs hb0 hs0 ⊢
  have hseq := rising_nil_stops (Bo := w1.heap.size) (n1 := W0.heap.size) 5 hbs
  clear hl hmk hr hown1 hg1 hbo
  refine wpIn_rangeFunc_ownG rfl (by omega) (gf := 42) (lb := #[.pointer (some ⟨w1.heap.size + 1, 0, none⟩)]) rfl trivial (enters_of Tryd.func42 (by kernel_rfl) rfl)
    hseq (fun h k => h.trans k) (fun W l o o' h1 h2 h3 h4 => Kp.put (by omega) W l o o' h1 h2 h3 h4) (Below.refl _ _) (fun _ => rfl)
    (fun _ W => (∃ v, Boxed W w1.heap.size 31 v ∧ v = .slice (some ⟨w.heap.size, 0, none⟩) 0 0) ∧ Below w.heap.size w W)
    (fun _ _ _ => False)
    (OwnFrom.and (Own.from (fun s A B row hs hg hr => by
      obtain ⟨v, hv, e⟩ := hs
      exact ⟨v, hv.kept hg (fun e2 => by
        obtain ⟨o, ho, hc⟩ := hr _ e2.symm
        rw [hv] at ho
        cases ho
        cases hc), e⟩) _) (ownFrom_below (Nat.le_refl _) (by omega)))
    (fun _ _ _ _ _ hs _ _ => hs)
    ⟨⟨_, hbx, rfl⟩, hb0⟩
    (fun x => { tmps := #[.pointer none, undef, .slice none 0 0, .pointer (some ⟨w1.heap.size, 0, none⟩), .int .i64 ((x.1 % 144115188075855872 : Nat) : Int), .int .u64 ((x.2 % 18446744073709551616 : Nat) : Int), .pointer none, .int .i64 0, .slice (some ⟨w.heap.size, 0, none⟩) 0 0, .pointer none, .func (.func 42) #[] #[.pointer (some ⟨w1.heap.size + 1, 0, none⟩)], .int .i64 ((x.1 % 144115188075855872 : Nat) : Int), .int .u64 ((x.2 % 18446744073709551616 : Nat) : Int), undef, undef, undef, undef, undef, undef, undef, undef, undef, undef, undef, undef, undef, undef, undef], defers := [] }) ?assign ?body ?done ?stop
  case assign =>
    intro r x W K hK
    simp only [encP]
    gi_wp2
    exact hK
  case stop =>
    rintro DD c pre W _ _ h _
    exact h.elim
  case body =>
    intro r pre x W _ hpl
    exact absurd hpl (Nat.not_lt_zero _)
  case done =>
    rintro DD xs W hDD rfl ⟨⟨v, hv, rfl⟩, hbW⟩ hK
    have hvc := hv.cell
    gi_wp2
    refine ⟨by simp, .inl ⟨_, _, rfl, run_takeDeferred hK, ?_⟩⟩
    exact ⟨_, results_tmp rfl _ _ _, ⟨_, _, rfl⟩, hbW.trans (belowK_b (w := w) (Nat.le_refl _) W DD _ _ (by omega) hK rfl rfl)⟩
end Go.Proofs.YtdpbbgfceagofaaDoor
