/- Make. -/
import Derived.Test.YtaidjamcjinooaaLoad
import Derived.Deep.RegionLaw
import Derived.Deep.AppendLies
import Derived.Laws.MakeOwn
namespace Go.Proofs.Ytaidjamcjinooaa
open Go.RowKit

theorem infoV : (Try.prog.info? 24).map (fun i => (i.zero, i.size, i.bytes)) = some (some (.agg #[.int .u8 0, .int .i64 0, .int .i64 0]), 3, 24) := by kernel_rfl
theorem infoO : (Try.prog.info? 46).map (fun i => (i.zero, i.size, i.bytes)) = some (some (.agg #[.slice none 0 0, .int .i64 0]), 2, 32) := by kernel_rfl

def zeros (n : Nat) : Array Value := madeCells (Value.agg #[.int .u8 0, .int .i64 0, .int .i64 0]).cells (n * 3)

theorem zeros_list (n : Nat) : (zeros n).toList = (List.replicate n ((0, 0, 0) : V3)).flatMap vcells := by
  have hc : (Value.agg #[.int .u8 0, .int .i64 0, .int .i64 0]).cells = #[.int .u8 0, .int .i64 0, .int .i64 0] := by kernel_rfl
  apply List.ext_getElem?
  intro k
  unfold zeros madeCells
  rw [hc]
  simp only [Array.toList_map, Array.toList_range, List.getElem?_map]
  by_cases hk : k < n * 3
  · have e : k = k / 3 * 3 + k % 3 := by omega
    have hq : k / 3 < n := by omega
    have h3 : k % 3 < 3 := by omega
    rw [List.getElem?_range hk]
    have := flat_at vcells 3 (fun _ => rfl) (List.replicate n ((0, 0, 0) : V3)) (k / 3) (k % 3) (0, 0, 0) (by rw [List.getElem?_replicate]; simp [hq]) h3
    rw [← e] at this
    rw [this]
    rcases (show k % 3 = 0 ∨ k % 3 = 1 ∨ k % 3 = 2 by omega) with e | e | e <;> simp [e, vcells]
  · rw [List.getElem?_eq_none (by simp; omega), List.getElem?_eq_none (by rw [flat_len vcells 3 (fun _ => rfl)]; simp; omega)]
    rfl

theorem make_row (n : Nat) (hn : n ≤ 1000) (w : World) : (Instr.makeSlice 44 (.int .i64 (n : Int)) (.int .i64 (n : Int))).run Try.prog w = .ok (.slice (some ⟨w.heap.size, 0, none⟩) n n) (w.alloc (.cells (zeros n) 24)) := by
  obtain ⟨i0, hi0, hz0, hz1, hz2⟩ := info_parts infoV
  have hb : (i0.bytes : Int) * (n : Int) ≤ 281474976710656 := by rw [hz2]; omega
  have hr := run_make (P := Try.prog) w 44 24 i0 _ Try.underlying44 hi0 hz0 .i64 .i64 n n (by omega) (by omega) hb (by omega)
  simp only [Int.toNat_natCast, hz1] at hr
  exact hr

section
variable {A B : Nat} {w : World} {hb : Nat} {v : Value} {os : List Ob} {room : Int}

theorem make_full (h : Hp A B w hb v os room) (hr0 : room ≤ 16384) (hr1 : (many os : Int) ≤ room) (base n : Int) (hn : n < 1 ∨ 64 < n ∨ room - many os < n) :
    Calls Try.prog 7 #[.pointer (some ⟨hb, 0, none⟩), .int .i64 base, .int .i64 n] w fun e w' => e = .returned (.tuple #[.agg #[.int .u8 0, .int .i64 0, .int .i64 0], .int .u8 6]) ∧ Below w.heap.size w w' := by
  have hb0 : Below w.heap.size w (w.alloc (.cells #[.int .u8 0, .int .i64 0, .int .i64 0] 24)) := (Below.refl _ _).alloc (Nat.le_refl _) _
  have c1 := h.c1
  have c2 := h.c2
  have hlt : hb < w.heap.size := (h.lt hb (Or.inl rfl)).2
  clear h
  by_cases h1 : n < 1
  · have d1 : decide (n < 1) = true := by simpa using h1
    go_enter Try.func7, Try.ntmps7
    go_wp2_with fail
    go_quiet (fail)
    go_wp2_with fail
    refine bodyPost_ret (v := .tuple #[.agg #[.int .u8 0, .int .i64 0, .int .i64 0], .int .u8 6]) ?_ rfl ⟨rfl, ?_⟩
    · simp [results, Try.results7, go_sem]
    · exact (((below_drawn hb0 _).setCell (Nat.le_refl _) _).setCell (Nat.le_refl _) _).setCell (Nat.le_refl _) _
  · have d1 : decide (n < 1) = false := by simpa using h1
    by_cases h2 : 64 < n
    · have d2 : decide (64 < n) = true := by simpa using h2
      go_enter Try.func7, Try.ntmps7
      go_wp2_with fail
      go_quiet (fail)
      go_wp2_with fail
      refine bodyPost_ret (v := .tuple #[.agg #[.int .u8 0, .int .i64 0, .int .i64 0], .int .u8 6]) ?_ rfl ⟨rfl, ?_⟩
      · simp [results, Try.results7, go_sem]
      · exact (((below_drawn hb0 _).setCell (Nat.le_refl _) _).setCell (Nat.le_refl _) _).setCell (Nat.le_refl _) _
    · have d2 : decide (64 < n) = false := by simpa using h2
      have d3 : decide (room - many os < n) = true := by simp; omega
      go_enter Try.func7, Try.ntmps7
      go_wp2_with fail
      go_quiet (fail)
      go_wp2_with fail
      refine bodyPost_ret (v := .tuple #[.agg #[.int .u8 0, .int .i64 0, .int .i64 0], .int .u8 6]) ?_ rfl ⟨rfl, ?_⟩
      · simp [results, Try.results7, go_sem]
      · exact (((below_drawn hb0 _).setCell (Nat.le_refl _) _).setCell (Nat.le_refl _) _).setCell (Nat.le_refl _) _

/-- What a new object leaves. -/
def Makes (A B : Nat) (w w' : World) (hb : Nat) (v : Value) (os : List Ob) (base : Int) (n : Nat) (room : Int) : Prop :=
  ∃ v' k, Hp A B w' hb v' (os ++ [⟨k, base, List.replicate n (0, 0, 0)⟩]) room ∧ Touch w w' (HOwn hb v os)

theorem heap_new2 (w : World) (o o' : Obj) : ((w.alloc o).alloc o').heap[w.heap.size + 1]? = some o' := by
  have h := heap_alloc_new (w.alloc o) o'
  rwa [show (w.alloc o).heap.size = w.heap.size + 1 by simp] at h

theorem many_snoc (os : List Ob) (o : Ob) : many (os ++ [o]) = many os + o.vals.length := by simp [many]

theorem made_of {w1 w3 w' : World} {a : Option Addr} {cap gg cap' n x : Nat} {base : Int} (h : Hp A B w3 hb (.slice a os.length cap) os room)
    (hgrow : ((w3.alloc (.cells (zeros n) 24)).alloc (.cells #[.slice (some ⟨w3.heap.size, 0, none⟩) n n, .int .i64 base] 46)).drew.grownBy w1 (Value.ownBlock (.slice a os.length cap)))
    (hown : w1.ownsRow B 46 2 (.slice (some ⟨gg, 0, none⟩) (os.length + 1) cap') (os.length + 1) (os.flatMap oflat ++ [.slice (some ⟨w3.heap.size, 0, none⟩) n n, .int .i64 base]))
    (hat : Value.ownBlock (.slice a os.length cap) = some gg ∨ gg = w3.heap.size + 2)
    (hblk : w'.heap[hb]? = some (.cells #[.slice (some ⟨gg, 0, none⟩) (os.length + 1) cap', .int .i64 ((many os : Int) + n), .int .i64 room] 43 (0, 0)))
    (ht : Touch w1 w' (fun k => k = hb ∨ k = x)) (hx : x < w3.heap.size) (hxo : ∀ k, HOwn hb (.slice a os.length cap) os k → k ≠ x) :
    Hp A B w' hb (.slice (some ⟨gg, 0, none⟩) (os.length + 1) cap') (os ++ [⟨w3.heap.size, base, List.replicate n (0, 0, 0)⟩]) room ∧ Touch w3 w' (fun k => HOwn hb (.slice a os.length cap) os k ∨ k = x) := by
  have htop := h.top
  have hlow := h.low
  have hbB := h.hbB
  have hs1 : w3.heap.size + 2 ≤ w1.heap.size := by have := hgrow.size; simpa using this
  have hs2 := ht.size
  have tg : Touch w3 w1 (HOwn hb (.slice a os.length cap) os) := (((Touch.refl w3 _).alloc _).alloc _).drew.trans (Touch.of_grown hgrow (fun k e => Or.inr (Or.inl e)))
  have tall : Touch w3 w' (fun k => HOwn hb (.slice a os.length cap) os k ∨ k = x) :=
    (tg.mono (fun _ _ e => Or.inl e)).trans (ht.mono (fun k _ e => or_map e (fun e => Or.inl e) (fun e => e)))
  refine ⟨⟨?_, ?_, ?_, hlow, hbB, by omega, ?_, ?_, ?_⟩, tall⟩
  · rw [many_snoc]
    simp only [List.length_replicate, Int.natCast_add]
    exact hblk
  · rw [List.length_append, List.length_singleton, List.flatMap_append, List.flatMap_singleton, show oflat ⟨w3.heap.size, base, List.replicate n (0, 0, 0)⟩ = [.slice (some ⟨w3.heap.size, 0, none⟩) n n, .int .i64 base] by simp [oflat]]
    exact ownsRow_touch hown ht (fun b e hq => by
      have hBb := (hown.lt b e).1
      simp [Value.ownBlock] at e
      subst e
      rcases hq with rfl | rfl
      · omega
      · rcases hat with hat | rfl
        · exact hxo _ (Or.inr (Or.inl hat)) rfl
        · omega)
  · intro o ho
    rcases List.mem_append.1 ho with ho | ho
    · obtain ⟨cs, h1, h2⟩ := h.obs o ho
      have hol := (Array.getElem?_eq_some_iff.1 h1).1
      have hob := h.obl o ho
      refine ⟨cs, ?_, h2⟩
      rw [ht.block o.blk (by omega) (fun e => e.elim (fun e => by omega) (fun e => hxo _ (Or.inr (Or.inr ⟨o, ho, rfl⟩)) e))]
      rw [hgrow.block o.blk (by simp; omega) (fun e => h.off o ho e.symm)]
      exact (alloc_blk (alloc_blk h1 _) _)
    · rw [List.mem_singleton] at ho
      subst ho
      refine ⟨zeros n, ?_, zeros_list n⟩
      rw [ht.block w3.heap.size (by omega) (fun e => by rcases e with e | e <;> omega)]
      rw [hgrow.block w3.heap.size (by simp; omega) (fun e => by have := (h.lt _ (Or.inr (Or.inl e.symm))).2; omega)]
      exact alloc_blk (heap_alloc_new w3 _) _
  · intro o ho
    rcases List.mem_append.1 ho with ho | ho
    · exact h.obl o ho
    · rw [List.mem_singleton] at ho
      subst ho
      exact htop
  · rw [List.map_append, List.nodup_append]
    refine ⟨h.dist, by simp, ?_⟩
    intro b hb' c hc e
    obtain ⟨o, ho, rfl⟩ := List.mem_map.1 hb'
    simp at hc
    have := (h.lt _ (Or.inr (Or.inr ⟨o, ho, rfl⟩))).2
    omega
  · intro o ho e
    simp [Value.ownBlock] at e
    rcases List.mem_append.1 ho with ho | ho
    · rcases hat with hat | hat
      · exact h.off o ho (by rw [hat, e])
      · have := (h.lt _ (Or.inr (Or.inr ⟨o, ho, rfl⟩))).2
        omega
    · rw [List.mem_singleton] at ho
      subst ho
      simp at e
      rcases hat with hat | hat
      · have := (h.lt _ (Or.inr (Or.inl hat))).2
        omega
      · omega

theorem make_new (h : Hp A B w hb v os room) (hlen : os.length ≤ 1000) (hr0 : room ≤ 16384) (hr1 : (many os : Int) ≤ room) (base : Int) {n : Nat} (h1 : 1 ≤ n) (h64 : n ≤ 64) (hr : (n : Int) ≤ room - many os) :
    Calls Try.prog 7 #[.pointer (some ⟨hb, 0, none⟩), .int .i64 base, .int .i64 n] w fun e w' => e = .returned (.tuple #[.agg #[.int .u8 1, .int .i64 os.length, .int .i64 0], .int .u8 0]) ∧ Makes A B w w' hb v os base n room := by
  obtain ⟨i0, hi0, hz0, hz1, hz2⟩ := info_parts infoO
  obtain ⟨a, cap, rfl⟩ := h.form
  have hb0 : Below w.heap.size w (w.alloc (.cells #[.int .u8 0, .int .i64 0, .int .i64 0] 24)) := (Below.refl _ _).alloc (Nat.le_refl _) _
  have hm := h.more hb0
  have hmk := make_row n (by omega)
  have c0 := hm.c0
  have c1 := h.c1
  have c2 := h.c2
  have hlt : hb < w.heap.size := (h.lt hb (Or.inl rfl)).2
  have d1 : decide ((n : Int) < 1) = false := by simp; omega
  have d2 : decide ((64 : Int) < n) = false := by simp; omega
  have d3 : decide (room - many os < n) = false := by simp; omega
  go_enter Try.func7, Try.ntmps7
  go_wp2_with fail
  go_quiet (fail)
  generalize hw3 : (w.alloc (.cells #[.int .u8 0, .int .i64 0, .int .i64 0] 24)).drewN nq = w3
  have hb3 : Below w.heap.size w w3 := hw3 ▸ below_drawn hb0 nq
  have h3 : Hp A B w3 hb (.slice a os.length cap) os room := h.more hb3
  have hbx : box w3 w.heap.size (0, 0, 0) := by rw [← hw3]; exact box_new w (0, 0, 0)
  have hz3 : w.heap.size + 1 ≤ w3.heap.size := by rw [← hw3]; simp
  clear hw3 hb0 hm c0 c1 c2 d1 d2 d3
  have c0 := h3.c0
  have f0 := h3.f 0
  have hrow := h3.row
  have hlt3 : hb < w3.heap.size := by omega
  have hne1 : Value.ownBlock (.slice a os.length cap) ≠ some hb := fun e => by have := (h.row.lt hb e).1; have := h.hbB; omega
  have htop := h3.top
  have hcz : ∀ o o', ((w3.alloc o).alloc o').drew.cell? ⟨hb, 0, none⟩ = some (.slice a os.length cap) := fun o o' => (World.cell?_alloc_past _ _ _ (by simp; omega)).trans ((World.cell?_alloc_past _ _ _ hlt3).trans c0)
  have hfz : ∀ o o', ((w3.alloc o).alloc o').drew.frozen? ⟨hb, 0, none⟩ = false := fun o o' => (World.frozen?_alloc_past _ _ _ (by simp; omega)).trans ((World.frozen?_alloc_past _ _ _ hlt3).trans f0)
  go_wp2_with fail
  go_region_law ((refine step_append_lies _ (by rfl) _ _ _ (by rfl) B 46 i0 _ 2 32 Try.underlying41 hi0 hz0 hz1 hz2 rfl (by omega) (.slice a os.length cap) os.length _ (by rfl) (((hrow.alloc _).alloc _).drew) ⟨w3.heap.size + 1, 0, none⟩ 1 1 [.slice (some ⟨w3.heap.size, 0, none⟩) n n, .int .i64 base] (by rfl) (by rfl) (World.news_of_block (cs := #[.slice (some ⟨w3.heap.size, 0, none⟩) n n, .int .i64 base]) (t := 46) (fr := (0, 0)) (heap_new2 w3 _ _)) (by simp [Value.oneCell']) (by decide) (by unfold maxLen; omega) (by omega) (by simp; omega) (w3.heap.size + 2) (by simp) ?_; intro gg cap' w1 hown1 hgrow hat hlt1; have c12 : w1.cell? ⟨hb, 0, none⟩ = some (.slice a os.length cap) := (hgrow.cell_far ⟨hb, 0, none⟩ (by simp; omega) (Ne.symm hne1)).trans (hcz _ _); have f12 : w1.frozen? ⟨hb, 0, none⟩ = false := (hgrow.frozen_far ⟨hb, 0, none⟩ (by simp; omega) (Ne.symm hne1)).trans (hfz _ _)))
  all_goals
    have hb1 : w1.heap[hb]? = some (.cells #[.slice a os.length cap, .int .i64 (many os), .int .i64 room] 43 (0, 0)) := by
      rw [hgrow.block hb (by simp; omega) (Ne.symm hne1)]
      exact alloc_blk (alloc_blk h3.blk _) _
    have hx1 : box w1 w.heap.size (0, 0, 0) := by
      unfold box
      rw [hgrow.block w.heap.size (by simp; omega) (fun e => by have := (h.lt _ (Or.inr (Or.inl e.symm))).2; omega)]
      exact alloc_blk (alloc_blk hbx _) _
    have hb2s := blk_set (i := 0) (.slice (some ⟨gg, 0, none⟩) (os.length + 1) cap') hb1
    have hx2 : box (w1.setCell ⟨hb, 0, none⟩ (.slice (some ⟨gg, 0, none⟩) (os.length + 1) cap')) w.heap.size (0, 0, 0) := (Below.heap_setCell _ _ _ _ (fun e => by simp at e; omega)).trans hx1
    have e0 := blk_cell hb2s 0
    have e1 := blk_cell hb2s 1
    have e2 : (w1.setCell ⟨hb, 0, none⟩ (.slice (some ⟨gg, 0, none⟩) (os.length + 1) cap')).frozen? ⟨hb, 1, none⟩ = false := by simp only [World.frozen?, hb2s]; rfl
    obtain ⟨i1, j0, j1, j2, k0, k1, k2⟩ := box_facts hx2
    generalize hw2 : w1.setCell ⟨hb, 0, none⟩ (.slice (some ⟨gg, 0, none⟩) (os.length + 1) cap') = w2 at *
    have hlt2 : hb < w2.heap.size := by rw [← hw2]; simp; have := hgrow.size; simp at this; omega
    have hne2 : hb ≠ w.heap.size := by omega
    simp at e0 e1
    go_wp2_with fail
    refine bodyPost_ret (v := .tuple #[.agg #[.int .u8 1, .int .i64 os.length, .int .i64 0], .int .u8 0]) ?_ rfl ⟨rfl, ?_⟩
    · simp [results, Try.results7, go_sem, *]
    · have hxo : ∀ k, HOwn hb (.slice a os.length cap) os k → k ≠ w.heap.size := fun k hk e => by have := (h.lt k hk).2; omega
      have hst : Touch w1 ((((w2.setCell ⟨hb, 1, none⟩ (.int .i64 ((many os : Int) + n))).setCell ⟨w.heap.size, 0, none⟩ (.int .u8 1)).setCell ⟨w.heap.size, 1, none⟩ (.int .i64 os.length)).setCell ⟨w.heap.size, 2, none⟩ (.int .i64 0)) (fun k => k = hb ∨ k = w.heap.size) := by
        rw [← hw2]
        exact (((((Touch.refl w1 _).setCell (fun _ => Or.inl rfl) _).setCell (fun _ => Or.inl rfl) _).setCell (fun _ => Or.inr rfl) _).setCell (fun _ => Or.inr rfl) _).setCell (fun _ => Or.inr rfl) _
      have hfb := blk_set (i := 1) (.int .i64 ((many os : Int) + n)) hb2s
      obtain ⟨r1, r2⟩ := made_of h3 hgrow hown1 hat (w' := (((w2.setCell ⟨hb, 1, none⟩ (.int .i64 ((many os : Int) + n))).setCell ⟨w.heap.size, 0, none⟩ (.int .u8 1)).setCell ⟨w.heap.size, 1, none⟩ (.int .i64 os.length)).setCell ⟨w.heap.size, 2, none⟩ (.int .i64 0))
        (by
          rw [Below.heap_setCell _ _ _ _ (fun e => hne2 (by simpa using e)), Below.heap_setCell _ _ _ _ (fun e => hne2 (by simpa using e)), Below.heap_setCell _ _ _ _ (fun e => hne2 (by simpa using e)), hfb]
          simp) hst hz3 hxo
      exact ⟨_, _, r1, ((Touch.of_below hb3 _).trans r2).mono (fun k hk e => e.elim (fun e => e) (fun e => absurd e (by omega)))⟩
end
end Go.Proofs.Ytaidjamcjinooaa
