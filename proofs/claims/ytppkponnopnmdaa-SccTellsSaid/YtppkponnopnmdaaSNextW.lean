/- The next component of scc.Order, walked. -/
import Derived.Test.YtppkponnopnmdaaSNext
namespace Go.Proofs.Ytppkponnopnmdaa
open Go.RowKit Go.Maps Go.Shelf
theorem nodup_sub : ∀ (o l : List Int), o.Nodup → (∀ x ∈ o, x ∈ l) → o.length ≤ l.length := by
  intro o
  induction o with
  | nil => intro l _ _; simp
  | cons a o ih =>
    intro l hn hs
    rw [List.nodup_cons] at hn
    have h1 := ih (l.erase a) hn.2 (fun x hx => (List.mem_erase_of_ne (show x ≠ a from fun e => hn.1 (by rw [← e]; exact hx))).2 (hs x (List.Mem.tail _ hx)))
    have h2 := hs a (List.Mem.head _)
    rw [List.length_erase_of_mem h2] at h1
    have h3 := List.length_pos_of_mem h2
    rw [List.length_cons]
    omega
theorem nodup_len {k : List Int} {n : Nat} (hn : k.Nodup) (h : ∀ z ∈ k, 0 ≤ z ∧ z < n) : k.length ≤ n := by
  have := nodup_sub k ((List.range n).map (fun x : Nat => (x : Int))) hn (fun z hz => by
    have := h z hz
    exact List.mem_map.2 ⟨z.toNat, List.mem_range.2 (by omega), by omega⟩)
  simpa using this
section
variable {b0 fb ab X A hb c : Nat} {fv v : Value} {F : List (List Int)} {w : World} {l : List Int} {o : List Nat}
set_option maxRecDepth 20000 in
set_option maxHeartbeats 8000000 in
theorem next_any (O : OB b0 fb ab X A hb c fv F w v (fun y => (indeg F o y : Nat)) l) (hF : FreeH F o l) (hk : OutOk F o) (hs : ∀ a, ¬ Edge F a a) (hfm : FormG F) (hc : c = F.length) (hcn : c ≤ 300) (h0 : 0 < l.length) :
    Calls Try.prog 36 #[.pointer (some ⟨X, 0, none⟩), .pointer (some ⟨fb, 0, none⟩), .pointer (some ⟨ab, 0, none⟩)] w fun e w' => ∃ (x : Nat) (v' : Value) (l' : List Int), e = .returned (.int .i64 x) ∧ Free F o x ∧ (∀ y, y < x → ¬ Free F o y) ∧
      OB b0 fb ab X A hb c fv F w' v' (fun y => (indeg F (o ++ [x]) y : Nat)) l' ∧ FreeH F (o ++ [x]) l' ∧ NTo w w' hb A v v' := by
  have hl : l.length ≤ c := nodup_len hF.1 (fun z hz => by
    obtain ⟨x, rfl, hf⟩ := (hF.2 z).1 hz
    have := hf.1
    omega)
  have x0 : w.cell? ⟨X, 0, none⟩ = some (.pointer (some ⟨hb, 0, none⟩)) := by rw [blk_cell O.x]; rfl
  have hpop := Lib.hid (hpop_any O.H h0 (by omega) O.ord)
  have hta := assert_int
  have hO := Lib.hid O
  replace hc := Lib.hid hc
  clear O h0
  go_enter Try.func36, Try.ntmps36
  go_wp2_with fail
  refine hpop.out.mono ?_
  rintro e w1 ⟨z, v1, l1, rfl, hp, hmin, ho1, H1, T1⟩
  obtain ⟨x, rfl, hfx⟩ := (hF.2 z).1 (hp.mem_iff.1 (List.mem_cons_self ..))
  have hleast : Hid (∀ y, y < x → ¬ Free F o y) := Lib.hid (fun y hy hf => by
    have := hmin (y : Int) ((hF.2 _).2 ⟨y, rfl, hf⟩)
    omega)
  have hmid : Hid (MidH F o x [] l1) := Lib.hid (hF.pop hp)
  have O1 := hO.out.heap H1 ho1 T1
  have hxc : x < c := by rw [hc.out]; exact hfx.1
  obtain ⟨r, hr⟩ : ∃ r, F[x]? = some r := ⟨_, List.getElem?_eq_getElem hfx.1⟩
  obtain ⟨bg, og, cg, u, eg, hbg, _, hcg, hrg, hog⟩ := O1.rows.at hr
  rw [← hc.out] at eg
  obtain ⟨ar, cr, rfl⟩ := hrg.shape
  subst eg
  have f1 : w1.cell? ⟨fb, 0, none⟩ = some (.slice (some ⟨bg, og, none⟩) c cg) := by rw [blk_cell O1.f]; rfl
  have i1 : (x : Int) < (c : Int) := by omega
  have hrf := hfm r (List.mem_of_getElem? hr)
  have hrl : r.length ≤ c := by rw [hc.out]; exact rise_lenN hrf.1 hrf.2
  have hN1 : NTo w w1 hb A v v1 := T1.n
  have hOc : OB b0 fb ab X A hb c (.slice (some ⟨bg, og, none⟩) c cg) F w1 v1 (cntQ F o []) l1 := O1.congr (fun y _ => cntQ_nil.symm)
  have hxe : ∀ y : Nat, (y : Int) ∈ r → Edge F x y := fun y hy => ⟨by have := hrf.2 _ hy; omega, r, hr, hy⟩
  replace hrg := Lib.hid hrg
  replace hog := Lib.hid hog
  replace hOc := Lib.hid hOc
  replace hxe := Lib.hid hxe
  replace hrf := Lib.hid hrf
  replace hp := Lib.hid hp
  replace hN1 := Lib.hid hN1
  clear hpop x0 hmin H1 T1 O1 ho1
  go_wp2_with fail
  clear f1 hcg
  go_loopw [6, 16] (fun _ i wr => ∃ (q : Nat) (v2 : Value) (l2 : List Int), q ≤ r.length ∧ i = .int .i64 q ∧ OB b0 fb ab X A hb c (.slice (some ⟨bg, og, none⟩) c cg) F wr v2 (cntQ F o (r.take q)) l2 ∧ MidH F o x (r.take q) l2 ∧ NTo w wr hb A v v2 ∧ Touch w1 wr (fun b => b0 ≤ b)) (fun _ i _ => r.length - (intOf i).toNat)
  case atStart => exact ⟨0, v1, l1, Nat.zero_le _, rfl, hOc.out, hmid.out, hN1.out, Touch.refl _ _⟩
  case round =>
    clear hOc hmid hN1
    obtain ⟨q, v2, l2, hq, rfl, O2, hm2, hN2, hT2⟩ := hrel
    by_cases hlt : q < r.length
    · obtain ⟨z, hz⟩ : ∃ z, r[q]? = some z := ⟨_, List.getElem?_eq_getElem hlt⟩
      obtain ⟨hz0, hzn⟩ := hrf.out.2 z (List.mem_of_getElem? hz)
      obtain ⟨y, rfl⟩ : ∃ y : Nat, z = y := ⟨z.toNat, by omega⟩
      have hyc : y < c := by rw [hc.out]; omega
      have hedge := hxe.out y (List.mem_of_getElem? hz)
      have ht : r.take (q + 1) = r.take q ++ [(y : Int)] := take_snoc hz
      have hnew : (y : Int) ∉ r.take q := by
        have h1 := hrf.out.1
        intro hm
        rw [← List.take_append_drop (q + 1) r, ht, List.pairwise_append, List.pairwise_append] at h1
        have := h1.1.2.2 _ hm _ (List.mem_singleton.2 rfl)
        omega
      obtain ⟨b2, off2, cap2, e2, hc2⟩ := RdI.cell (Rd.off hrg.out hT2 (by rw [List.length_map]; exact hog.out)) hz
      simp only [Value.slice.injEq] at e2
      obtain ⟨rfl, -, rfl⟩ := e2
      have i2 : (q : Int) < (r.length : Int) := by omega
      have i3 : (y : Int) < (c : Int) := by omega
      have cb : wr.cell? ⟨ab, 0, none⟩ = some (.slice (some ⟨A, 0, none⟩) c c) := by rw [blk_cell O2.b]; rfl
      have ca : wr.cell? ⟨A, y, none⟩ = some (.int .i64 (indeg F o y : Nat)) := by rw [blk_cell O2.a, markA_at hyc, cntQ_here hnew]
      have fa : wr.frozen? ⟨A, y, none⟩ = false := by simp [World.frozen?, O2.a]
      have hio := indeg_out (x := y) hfx.2.1 hfx.1
      rw [if_pos hedge] at hio
      have hil := indeg_le (F := F) (o := o) (x := y)
      rw [← hc.out] at hil
      obtain ⟨s, hse⟩ : ∃ s, s = indeg F (o ++ [x]) y := ⟨_, rfl⟩
      have hfree : Free F (o ++ [x]) y ↔ s = 0 := by rw [hse]; exact free_iff hs hk hfx.2.1 hedge
      rw [hio, ← hse] at ca
      have d1 : (((s + 1 : Nat) : Int)) - 1 = (s : Int) := by omega
      obtain ⟨O3, N3⟩ := O2.store (z := (s : Int)) hyc (cnt' := cntQ F o (r.take q ++ [(y : Int)])) (by rw [cntQ_next hnew, cntQ_here hnew, hio, ← hse]; omega) (fun y' hy' => cntQ_other hy')
      have hN3 := hN2.trans N3
      have hT3 : Touch w1 (wr.setCell ⟨A, y, none⟩ (.int .i64 s)) (fun b => b0 ≤ b) := hT2.trans (Touch.mono N3.T (fun k _ e => by
        have h1 := O2.at0
        rcases e with e | e | e
        · omega
        · omega
        · exact (O2.own k e).1))
      have cb3 : (wr.setCell ⟨A, y, none⟩ (.int .i64 s)).cell? ⟨ab, 0, none⟩ = some (.slice (some ⟨A, 0, none⟩) c c) := by rw [blk_cell O3.b]; rfl
      have ca3 : (wr.setCell ⟨A, y, none⟩ (.int .i64 s)).cell? ⟨A, y, none⟩ = some (.int .i64 s) := by rw [blk_cell O3.a, markA_at hyc, cntQ_next hnew, cntQ_here hnew, hio, ← hse]; congr 2
      have cx3 : (wr.setCell ⟨A, y, none⟩ (.int .i64 s)).cell? ⟨X, 0, none⟩ = some (.pointer (some ⟨hb, 0, none⟩)) := by rw [blk_cell O3.x]; rfl
      have hs1 : (s : Int) + 1 ≤ 300 := by omega
      replace ht := Lib.hid ht
      replace O3 := Lib.hid O3
      replace hN3 := Lib.hid hN3
      replace hT3 := Lib.hid hT3
      replace hio := Lib.hid hio
      replace hse := Lib.hid hse
      have hl2 : l2.length ≤ 90000 := by
        have := nodup_len (n := c) hm2.1 (fun z hz => by
          obtain ⟨x', rfl, g | g⟩ := (hm2.2 z).1 hz
          · have := g.1.1; have := hc.out; omega
          · have := g.2.1; have := hc.out; omega)
        omega
      by_cases hz0 : s = 0
      · have hm3 := Lib.hid (fun (l' : List Int) (hp : l'.Perm ((y : Int) :: l2)) => hm2.push (hfree.2 hz0) hfx.2.1 hedge hnew hp)
        have d2 : ((s : Int) == 0) = true := by simp [hz0]
        have hpu := Lib.hid (hpush_any O3.out.H (y : Int) hl2 O3.out.ord)
        replace hz0 := Lib.hid hz0
        clear hm2 hN2 hT2 O2 N3 hfree hedge hnew
        go_wp2_with fail
        refine hpu.out.mono ?_
        rintro e w4 ⟨rfl, v4, l4, hp4, ho4, H4, T4⟩
        have O4 := Lib.hid (O3.out.heap H4 ho4 T4)
        have hN4 := Lib.hid (hN3.out.trans T4.n)
        have hT4 : Hid (Touch w1 w4 (fun b => b0 ≤ b)) := Lib.hid (hT3.out.trans (Touch.mono T4.T (fun k _ e => by
          have h1 := O3.out.at0
          rcases e with e | e
          · omega
          · exact (O3.out.own k e).1)))
        have hm4 := Lib.hid (hm3.out l4 hp4)
        clear hpu H4 T4 ho4 hp4
        go_wp2_with fail
        go_roundw
        case rel => exact ⟨q + 1, v4, l4, by omega, by go_num, by rw [ht.out]; exact O4.out, by rw [ht.out]; exact hm4.out, hN4.out, hT4.out⟩
        case measure => simp [intOf]; omega
      · have hm3 := Lib.hid (hm2.skip (fun h => hz0 (hfree.1 h)))
        have d2 : ((s : Int) == 0) = false := by simp; omega
        replace hz0 := Lib.hid hz0
        clear hm2 hN2 hT2 O2 N3 hfree hedge hnew
        go_wp2_with fail
        exact ⟨⟨q + 1, v2, l2, by omega, by go_num, by rw [ht.out]; exact O3.out, by rw [ht.out]; exact hm3.out, hN3.out, hT3.out⟩, by simp [intOf]; omega⟩
    · obtain rfl : q = r.length := by omega
      have i2 : decide ((r.length : Int) < (r.length : Int)) = false := by simp
      rw [List.take_length] at O2 hm2
      have O5 := Lib.hid (O2.congr (fun y _ => cntQ_done hfx.2.1 hfx.1 hr hrf.out.2))
      have hF5 := Lib.hid (hm2.done hr)
      replace hN2 := Lib.hid hN2
      clear O2 hm2 hT2
      go_wp2_with fail
      go_ret
      exact ⟨x, _, _, rfl, hfx, hleast.out, O5.out, hF5.out, hN2.out⟩
end
end Go.Proofs.Ytppkponnopnmdaa
