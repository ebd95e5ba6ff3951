/- List. -/
import Derived.Test.YtdpmpppafkefoaaDoorRound
import Derived.Laws.MakeOwn
import Derived.Deep.AppendLies
namespace Go.Proofs.YtdpmpppafkefoaaDoor
open Go.RowKit Go.Maps Go.Sort Go.Shelf

attribute [local go_sem] Oper.semAt_some

def encN (n : Nat) : Value := .int .i64 (n : Int)

theorem rising_call (a : Addr) (w : World) : Calls Tryd.prog 21 #[.pointer (some a)] w fun e w' => e = .returned (.func (.func 27) #[] #[.pointer (some ⟨w.heap.size, 0, none⟩)]) ∧ w' = w.alloc (.cells #[.pointer (some a)] 26) := by
  go_enter Tryd.func21, Tryd.ntmps21
  go_wp2
  go_ret
  exact ⟨rfl, rfl⟩

theorem rising_nil (w : World) : Calls Tryd.prog 21 #[.pointer none] w fun e w' => e = .returned (.func (.func 27) #[] #[.pointer (some ⟨w.heap.size, 0, none⟩)]) ∧ w' = w.alloc (.cells #[.pointer none] 26) := by
  go_enter Tryd.func21, Tryd.ntmps21
  go_wp2
  go_ret
  exact ⟨rfl, rfl⟩

theorem infoI : (Tryd.prog.info? 3).map (fun i => (i.zero, i.size, i.bytes)) = some (some (.int .i64 0), 1, 8) := by kernel_rfl

/-- What has been taken up of the words that came. -/
def took (pre : List (Nat × Nat)) : List Nat := pre.flatMap (fun x => nums (x.1 % 144115188075855872) (x.2 % 18446744073709551616))
theorem flatMap_same {α β : Type} {f g : α → List β} : ∀ {l : List α}, (∀ x ∈ l, f x = g x) → l.flatMap f = l.flatMap g
  | [], _ => rfl
  | x :: r, h => by
    rw [List.flatMap_cons, List.flatMap_cons, h x (by simp), flatMap_same (fun y hy => h y (by simp [hy]))]
theorem took_snoc (pre : List (Nat × Nat)) (x : Nat × Nat) : took (pre ++ [x]) = took pre ++ nums (x.1 % 144115188075855872) (x.2 % 18446744073709551616) := by simp [took]
theorem took_len (pre : List (Nat × Nat)) : (took pre).length ≤ 64 * pre.length := by
  refine snoc_ind (Q := fun pre => (took pre).length ≤ 64 * pre.length) (by simp [took]) (fun l x ih => ?_) pre
  rw [took_snoc, List.length_append, len_nums, List.length_append, List.length_singleton]
  have := cnt_le (x.2 % 18446744073709551616)
  omega

/-- append, as one step of a region that draws. -/
theorem step_append {P : Program} {ops : Array Oper} {o : Oper} {a : Act} {w : World} {K : Act → World → Prop} {Q : Exit → Act → World → Prop} {E : Prop} (hg : o.guard = none) (s x : Operand) (t ty : TypeId)
    (ho : o.op = .call { callee := .builtin .append, args := #[s, x], argTypes := #[t, t] }) (hty : o.type = ty) (u1 u2 : Value) {v : Value} {w' : World} (hs : a.eval s = u1) (hx : a.eval x = u2)
    (hr : (Builtin.append_ #[t, t] ty #[u1, u2]).run P w = .ok v w') (hK : K (a.put o.dst v) w') : if Region.wanted o (yielded ops a.tmps) = true then Oper.wp P o a w K Q else E := by
  have hw : Region.wanted o (yielded ops a.tmps) = true := by simp [Region.wanted, hg]
  rw [if_pos hw]
  subst hty
  unfold Oper.wp execOp
  simp only [ho, resolve, invoke, builtin, Sem.run_bind, Sem.run_pure, Result.andThen_ok, List.map_toArray, List.map_cons, List.map_nil, hs, hx, hr]
  exact hK

theorem kp_appended {Bo n1 g n cap : Nat} {v : Value} {wr w2 : World} {tmp : Obj} (hv : Boxed wr Bo 22 v) (hv2 : Boxed (w2.setCell ⟨Bo, 0, none⟩ (.slice (some ⟨g, 0, none⟩) n cap)) Bo 22 (.slice (some ⟨g, 0, none⟩) n cap)) (hg : (wr.drew.alloc tmp).grownBy w2 v.ownBlock)
    (hloc : v.ownBlock = some g ∨ g = (wr.drew.alloc tmp).heap.size) : Kp Bo n1 wr (w2.setCell ⟨Bo, 0, none⟩ (.slice (some ⟨g, 0, none⟩) n cap)) := by
  have hr : rowOf Bo wr = v.ownBlock := by unfold rowOf; rw [hv.cell]; rfl
  have hs : wr.heap.size + 1 ≤ w2.heap.size := by have := hg.size; rw [World.size_alloc] at this; exact this
  refine ⟨by rw [World.size_setCell]; omega, fun k o hk h1 h2 _ => ?_, fun b hb => ?_⟩
  · have hlt := (Array.getElem?_eq_some_iff.1 hk).1
    rw [Below.heap_setCell _ _ _ _ h1, hg.block k (by rw [World.size_alloc]; show k < wr.heap.size + 1; omega) (fun e => h2 (hr.trans e.symm))]
    exact (Below.heap_alloc wr.drew tmp k hlt).trans hk
  · have h3 : rowOf Bo (w2.setCell ⟨Bo, 0, none⟩ (.slice (some ⟨g, 0, none⟩) n cap)) = some g := by unfold rowOf; rw [hv2.cell]; rfl
    rw [h3] at hb
    cases hb
    rcases hloc with h | h
    · exact Or.inl (hr.trans h)
    · right
      rw [h, World.size_alloc]
      show wr.heap.size ≤ wr.heap.size + 1
      omega

section
variable {w : World} {sb bm : Nat} {D : DataW Unit} {l : List Nat}

set_option maxRecDepth 100000 in
set_option maxHeartbeats 4000000 in
theorem list_any (S : SetAt w sb bm D l) (G : Gl w) (hlen : l.length ≤ 100000) : Calls Tryd.prog 12 #[.pointer (some ⟨sb, 0, none⟩)] w fun e w' => ∃ (v : Value) (rs : List Nat), e = .returned v ∧ rs.Pairwise (· < ·) ∧ (∀ n, n ∈ rs ↔ n ∈ l) ∧
    w'.ownsRow w.heap.size 3 1 v rs.length (rs.map encN) ∧ Below w.heap.size w w' := by
  refine (callsIn_wide (n := 6)).1 ?_
  obtain ⟨i0, hi0, hz0, hz1, hz2⟩ := info_parts infoI
  have hl := Lib.hid (callsIn_wide (n := 5).2 (len_any S))
  obtain ⟨w1, hmk, hown1, hg1⟩ := run_make_own (P := Tryd.prog) w w.heap.size 22 3 i0 _ 1 Tryd.underlying22 hi0 hz0 hz1 .i64 .i64 l.length (by rw [hz2]; omega) (by unfold maxLen; omega) (Nat.le_refl _)
  have hr := fun w => Lib.hid (callsIn_wide (n := 5).2 (rising_call ⟨sb, 0, none⟩ w))
  have hfL : Fence.wide.fn 16 := trivial
  have hfR : Fence.wide.fn 21 := trivial
  refine callsIn_of_wp_marks Tryd.func12 rfl trivial ?_ rfl
  simp only [Tryd.ntmps12, List.size_toArray, List.length_cons, List.length_nil, Nat.reduceAdd, Nat.reduceSub, Array.replicate_succ, Array.replicate_zero, List.push_toArray, List.append_toArray, List.nil_append, List.cons_append]
  gi_wp2_with (first
    | (gi_at_call 16; refine hl.out.mono ?_; rintro e w' ⟨rfl, hw⟩; obtain rfl := hw.symm)
    | (gi_at_call 21; refine (hr _).out.mono ?_; rintro e w' ⟨rfl, rfl⟩))
  have hsz1 : w.heap.size < w1.heap.size := (hown1.lt _ rfl).2
  have hb1 : Below w.heap.size w w1 := (Below.refl _ w).grown hg1 (Nat.le_refl _) (fun k e => by cases e)
  have hbo := Boxed.new w1 22 (.slice (some ⟨w.heap.size, 0, none⟩) 0 l.length)
  have hbx := (hbo.alloc (.cells #[.pointer (some ⟨sb, 0, none⟩)] 26))
  have hbs := heap_alloc_new (w1.alloc (.cells #[.slice (some ⟨w.heap.size, 0, none⟩) 0 l.length] 22)) (.cells #[.pointer (some ⟨sb, 0, none⟩)] 26)
  rw [World.size_alloc] at hbs
  have hrow0 := (hown1.alloc (.cells #[.slice (some ⟨w.heap.size, 0, none⟩) 0 l.length] 22)).alloc (.cells #[.pointer (some ⟨sb, 0, none⟩)] 26)
  have hb0 : Below w.heap.size w ((w1.alloc (.cells #[.slice (some ⟨w.heap.size, 0, none⟩) 0 l.length] 22)).alloc (.cells #[.pointer (some ⟨sb, 0, none⟩)] 26)) := (hb1.alloc (by omega) _).alloc (by simp; omega) _
  have hs0 : ((w1.alloc (.cells #[.slice (some ⟨w.heap.size, 0, none⟩) 0 l.length] 22)).alloc (.cells #[.pointer (some ⟨sb, 0, none⟩)] 26)).heap.size = w1.heap.size + 2 := by simp
  generalize (w1.alloc (.cells #[.slice (some ⟨w.heap.size, 0, none⟩) 0 l.length] 22)).alloc (.cells #[.pointer (some ⟨sb, 0, none⟩)] 26) = W0 at hbx hbs hrow0 hb0 hs0 ⊢
  have S0 := S.below hb0
  have hss := S.lts
  have hsm := S.ltm
  have hro0 : rowOf w1.heap.size W0 = some w.heap.size := by unfold rowOf; rw [hbx.cell]; rfl
  have hseq := rising_stops (w := W0) (Bs := w1.heap.size + 1) (Bo := w1.heap.size) (n1 := W0.heap.size) 5 (by omega) (Nat.le_trans hlen (by omega)) hbs S0 (Nat.le_refl _)
    ⟨by omega, by rw [hro0]; simp; omega⟩ ⟨by omega, by rw [hro0]; simp; omega⟩ ⟨by omega, by rw [hro0]; simp; omega⟩ (by omega) (fun g hg => by rw [hro0] at hg; cases hg; omega)
  clear hl hmk hr hown1 hg1 hbo
  refine wpIn_rangeFunc_ownG rfl (by omega) (gf := 27) (lb := #[.pointer (some ⟨w1.heap.size + 1, 0, none⟩)]) rfl trivial (enters_of Tryd.func27 (by kernel_rfl) rfl)
    hseq (fun h k => h.trans k) (fun W l o o' h1 h2 h3 h4 => Kp.put (by omega) W l o o' h1 h2 h3 h4) (Below.refl _ _) (fun _ => rfl)
    (fun pre W => (∃ v, Boxed W w1.heap.size 22 v ∧ W.ownsRow w.heap.size 3 1 v (took pre).length ((took pre).map encN) ∧ True) ∧ Below w.heap.size w W)
    (fun _ _ _ => False)
    (OwnFrom.and ((holdsRow_own w.heap.size w1.heap.size 22 3 1 (fun pre => (took pre).length) (fun pre => (took pre).map encN) (fun _ _ => True)).from _) (ownFrom_below (Nat.le_refl _) (by omega)))
    (fun _ _ _ _ _ hs _ _ => hs)
    ⟨⟨_, hbx, hrow0, trivial⟩, hb0⟩
    (fun x => { tmps := #[.pointer (some ⟨sb, 0, none⟩), undef, .slice none 0 0, .pointer (some ⟨w1.heap.size, 0, none⟩), .int .i64 ((x.1 % 144115188075855872 : Nat) : Int), .int .u64 ((x.2 % 18446744073709551616 : Nat) : Int), .pointer (some ⟨sb, 0, none⟩), .int .i64 l.length, .slice (some ⟨w.heap.size, 0, none⟩) 0 l.length, .pointer (some ⟨sb, 0, none⟩), .func (.func 27) #[] #[.pointer (some ⟨w1.heap.size + 1, 0, none⟩)], .int .i64 ((x.1 % 144115188075855872 : Nat) : Int), .int .u64 ((x.2 % 18446744073709551616 : Nat) : Int), undef, undef, undef, undef, undef, undef, undef, undef, undef, undef, undef, undef, undef, undef, undef], defers := [] }) ?assign ?body ?done ?stop
  case assign =>
    intro r x W K hK
    simp only [encP]
    gi_wp2
    exact hK
  case stop =>
    rintro DD c pre W _ _ h _
    exact h.elim
  case body =>
    rintro r pre x W ⟨⟨v, hv, hrow, -⟩, hbW⟩ hpl
    have hts := took_snoc pre x
    have htl := took_len pre
    obtain ⟨k0, hk0e⟩ : ∃ k, k = x.1 % 144115188075855872 := ⟨_, rfl⟩
    obtain ⟨c0, hc0e⟩ : ∃ c, c = x.2 % 18446744073709551616 := ⟨_, rfl⟩
    have hk0 : k0 < 144115188075855872 := by omega
    have hc0 : c0 < 18446744073709551616 := by omega
    rw [← hk0e, ← hc0e] at hts ⊢
    replace hts := Lib.hid hts
    clear hk0e hc0e hseq S0 S hbs hbx hrow0
    gi_wp2
    gi_loopw [5] (fun u wr => ∃ (c : Nat) (dn : List Nat), u = .int .u64 c ∧ c < 18446744073709551616 ∧ bitsOf 64 c0 = dn ++ bitsOf 64 c ∧
        (∃ v, Boxed wr w1.heap.size 22 v ∧ wr.ownsRow w.heap.size 3 1 v (took pre ++ dn.map (fun j => 64 * k0 + j)).length ((took pre ++ dn.map (fun j => 64 * k0 + j)).map encN)) ∧
        KeepsFrom W0.heap.size W wr ∧ Kp w1.heap.size W0.heap.size W wr ∧ Below w.heap.size w wr)
      (fun u _ => (bitsOf 64 (intOf u).toNat).length)
    case atStart => exact ⟨c0, [], rfl, hc0, rfl, ⟨v, hv, by simpa using hrow⟩, KeepsFrom.refl _ _, Kp.refl _ _ _, hbW⟩
    case round =>
      obtain ⟨c, dn, rfl, hc, hdn, ⟨v, hv, hrow⟩, hkf, hkp, hbw⟩ := hrel
      by_cases hcz : c = 0
      · subst hcz
        rw [(bits_none (by decide)).2 rfl, List.append_nil] at hdn
        gi_wp2
        refine ⟨hkf, hkp, ⟨v, hv, ?_, trivial⟩, hbw⟩
        rw [hts.out, nums, hdn]
        exact hrow
      · have hne : ((c : Int) != 0) = true := by simp; omega
        have hG : Gl wr := G.below hbw G.lt
        obtain ⟨a, cap0, rfl⟩ := own_form hrow
        have hbc := bits_cons hcz hc
        obtain ⟨t, ht⟩ : ∃ t, t = Lib.ctz 64 c := ⟨_, rfl⟩
        have htz := tz (w := wr.drew) (fun j hj => hG.tab j hj) hc
        rw [← ht] at htz hbc
        have ht64 : t < 64 := (mem_bitsOf (n := 64) (c := c)).1 (by rw [hbc]; simp) |>.1
        replace htz := Lib.hid htz
        clear ht
        have hfT : Fence.wide.fn 22 := trivial
        have hw1 : IntKind.i64.wrap ((k0 : Int) * 64) = (k0 : Int) * 64 := by rw [IntKind.wrap_i64]; omega
        have hw2 : IntKind.i64.wrap ((k0 : Int) * 64 + (t : Int)) = (k0 : Int) * 64 + (t : Int) := by rw [IntKind.wrap_i64]; omega
        have hmix : Tryd.prog.follows .mixedOrders = true := by kernel_rfl
        have hcv := hv.cell
        have hfv := hv.frozen
        have hln : (took pre ++ dn.map (fun j => 64 * k0 + j)).length ≤ 6400064 := by
          have h1 := congrArg List.length hdn
          have h2 := cnt_le c0
          unfold cnt at h2
          rw [List.length_append] at h1
          rw [List.length_append, List.length_map]
          omega
        obtain ⟨ml, hml⟩ : ∃ ml, ml = took pre ++ dn.map (fun j => 64 * k0 + j) := ⟨_, rfl⟩
        rw [← hml] at hrow hv hcv hln
        replace hml := Lib.hid hml
        obtain ⟨g, cap1, w2, hr2, hown2, hgrow2, hloc, hglt⟩ := run_append_lies (P := Tryd.prog) (wr.drew.alloc (.cells #[.int .i64 ((k0 : Int) * 64 + (t : Int))] 3)) 22 22 w.heap.size 3 i0 _ 1 8 Tryd.underlying22 hi0 hz0 hz1 hz2 rfl (by decide) _ _ _ (hrow.drew.alloc _) ⟨wr.heap.size, 0, none⟩ 1 1 [.int .i64 ((k0 : Int) * 64 + (t : Int))] rfl (cell_one_new wr.drew _ _) (by simp [Value.oneCell']) (by decide) (by unfold maxLen; omega) (by omega) (by have := hbw.size; rw [World.size_alloc]; show w.heap.size ≤ wr.heap.size + 1; omega) _ rfl
        gi_wp2
        refine region_round hmix (by kernel_rfl) ?_
        refine wpAny_take (i := 1) (v := .int .i64 (k0 : Int)) rfl (by kernel_rfl) (by kernel_rfl) (by kernel_rfl) (fun _ _ _ h => h) (Or.inl ⟨by rfl, fun w => by go_simp⟩) ?_
        refine wpAny_take (i := 2) (v := .int .i64 ((k0 : Int) * 64)) rfl (by kernel_rfl) (by kernel_rfl) (by kernel_rfl) (fun _ _ _ h => h) (Or.inl ⟨by rfl, fun w => by go_simp⟩) ?_
        refine wpAny_take (i := 3) (v := .int .u64 (c : Int)) rfl (by kernel_rfl) (by kernel_rfl) (by kernel_rfl) (fun _ _ _ h => h) (Or.inl ⟨by rfl, fun w => by go_simp⟩) ?_
        go_frame
        refine wpAny_ready (rs := [0, 4]) (by kernel_rfl) (by simp) ?_
        obtain ⟨hv1, hv2, hrow2, hko, hb2⟩ := Boxed.appended (W := wr.drew) (B := w1.heap.size) hv (by decide) hrow.drew hbw.size (by omega) hown2 hgrow2
        have hkp2 : Kp w1.heap.size W0.heap.size W _ := hkp.trans (kp_appended hv hv2 hgrow2 hloc)
        have hkf2 : KeepsFrom W0.heap.size W _ := hkf.trans (((KeepsOthers.drew wr).trans hko).from _)
        have hbw2 : Below w.heap.size w _ := hbw.trans ((Below.drew (Below.refl w.heap.size wr)).trans hb2)
        have cB2 := hv1.cell
        have cA : ∀ o, (wr.alloc o).cell? ⟨w1.heap.size, 0, none⟩ = some (.slice a ml.length cap0) := fun o => (World.cell?_alloc_past _ _ _ hv.lt).trans hv.cell
        have fB2 := hv1.frozen
        have hrow3 : (w2.setCell ⟨w1.heap.size, 0, none⟩ (.slice (some ⟨g, 0, none⟩) (ml.length + 1) cap1)).ownsRow w.heap.size 3 1 (.slice (some ⟨g, 0, none⟩) (ml.length + 1) cap1) (took pre ++ (dn ++ [t]).map (fun j => 64 * k0 + j)).length ((took pre ++ (dn ++ [t]).map (fun j => 64 * k0 + j)).map encN) := by
          have e1 : took pre ++ (dn ++ [t]).map (fun j => 64 * k0 + j) = ml ++ [64 * k0 + t] := by rw [hml.out, List.map_append, List.append_assoc]; rfl
          have e2 : (ml ++ [64 * k0 + t]).map encN = ml.map encN ++ [.int .i64 ((k0 : Int) * 64 + (t : Int))] := by
            rw [List.map_append, List.map_cons, List.map_nil]
            congr 2
            unfold encN
            congr 1
            omega
          rw [e1, e2, List.length_append]
          exact hrow2
        replace hrow3 := Lib.hid hrow3
        obtain ⟨c1, hc1⟩ : ∃ c1, c1 = c - 1 := ⟨_, rfl⟩
        obtain ⟨c2, hc2⟩ : ∃ c2, c2 = c &&& (c - 1) := ⟨_, rfl⟩
        have hc2l : c2 < 18446744073709551616 := hc2 ▸ less_lt hc
        have hsub : IntKind.u64.wrap ((c : Int) - 1) = (c1 : Int) := by rw [IntKind.wrap_u64]; omega
        have hand : bits BinOp.and IntKind.u64 (c : Int) (c1 : Int) = (c2 : Int) := by rw [hc2, hc1]; exact and_nat hc (by omega)
        rw [← hc2] at hbc
        have hdn2 : Hid (bitsOf 64 c0 = (dn ++ [t]) ++ bitsOf 64 c2) := Lib.hid (by rw [hdn, hbc]; simp)
        replace hbc := Lib.hid hbc
        replace hkp2 := Lib.hid hkp2
        replace hkf2 := Lib.hid hkf2
        replace hbw2 := Lib.hid hbw2
        replace hv2 := Lib.hid hv2
        clear hc1 hc2 hdn hown2 hgrow2 hloc hrow2 hko hb2 hv1 hbw hkp hkf hG hrow hv
        refine AllReady.cons rfl (fun K hK => ?_) (AllReady.cons rfl (fun K hK => ?_) AllReady.nil)
        · go_simp
          refine hK _ _ ?_
          clear hK K
          refine wpAny_ready (rs := [4]) (by kernel_rfl) (by simp) ?_
          refine AllReady.cons rfl (fun K hK => ?_) AllReady.nil
          go_simp
          refine htz.out.mono ?_
          rintro e w' ⟨rfl, hw⟩
          obtain rfl := hw.symm
          refine hK _ _ ?_
          clear hK K
          refine wpAny_take (i := 5) (v := .int .i64 ((k0 : Int) * 64 + (t : Int))) rfl (by kernel_rfl) (by kernel_rfl) (by kernel_rfl) (fun _ _ _ h => h) (Or.inl ⟨by rfl, fun w => by go_simp⟩) ?_
          go_frame
          refine wpAny_ready (rs := [6]) (by kernel_rfl) (by simp) ?_
          refine AllReady.cons rfl (fun K hK => ?_) AllReady.nil
          go_simp
          refine hK _ _ ?_
          clear hK K
          refine wpAny_ready (rs := [7]) (by kernel_rfl) (by simp) ?_
          refine AllReady.cons rfl (fun K hK => step_append rfl (.tmp 19) (.tmp 25) 22 22 rfl rfl (.slice a ml.length cap0) (.slice (some ⟨wr.heap.size, 0, none⟩) 1 1) rfl rfl hr2 (hK _ _ ?_)) AllReady.nil
          clear hK K
          go_frame
          refine wpAny_ready (rs := [8]) (by kernel_rfl) (by simp) ?_
          refine AllReady.cons rfl (fun K hK => ?_) AllReady.nil
          go_simp
          refine hK _ _ ?_
          clear hK K
          refine wpAny_done (by kernel_rfl) ?_ _
          dsimp only [Calm]
          gi_wp2
          go_roundw
          case rel => exact ⟨c2, dn ++ [t], rfl, hc2l, hdn2.out, ⟨_, hv2.out, hrow3.out⟩, hkf2.out, hkp2.out, hbw2.out⟩
          case measure =>
            have hl2 := congrArg List.length hbc.out
            rw [List.length_cons] at hl2
            show (bitsOf 64 (Int.toNat (c2 : Int))).length < (bitsOf 64 (Int.toNat (c : Int))).length
            rw [Int.toNat_natCast, Int.toNat_natCast]
            omega
        · go_simp
          refine htz.out.mono ?_
          rintro e w' ⟨rfl, hw⟩
          obtain rfl := hw.symm
          refine hK _ _ ?_
          clear hK K
          refine wpAny_take (i := 5) (v := .int .i64 ((k0 : Int) * 64 + (t : Int))) rfl (by kernel_rfl) (by kernel_rfl) (by kernel_rfl) (fun _ _ _ h => h) (Or.inl ⟨by rfl, fun w => by go_simp⟩) ?_
          go_frame
          refine wpAny_ready (rs := [0, 6]) (by kernel_rfl) (by simp) ?_
          refine AllReady.cons rfl (fun K hK => ?_) (AllReady.cons rfl (fun K hK => ?_) AllReady.nil)
          · go_simp
            refine hK _ _ ?_
            clear hK K
            refine wpAny_ready (rs := [6]) (by kernel_rfl) (by simp) ?_
            refine AllReady.cons rfl (fun K hK => ?_) AllReady.nil
            go_simp
            refine hK _ _ ?_
            clear hK K
            refine wpAny_ready (rs := [7]) (by kernel_rfl) (by simp) ?_
            refine AllReady.cons rfl (fun K hK => step_append rfl (.tmp 19) (.tmp 25) 22 22 rfl rfl (.slice a ml.length cap0) (.slice (some ⟨wr.heap.size, 0, none⟩) 1 1) rfl rfl hr2 (hK _ _ ?_)) AllReady.nil
            clear hK K
            go_frame
            refine wpAny_ready (rs := [8]) (by kernel_rfl) (by simp) ?_
            refine AllReady.cons rfl (fun K hK => ?_) AllReady.nil
            go_simp
            refine hK _ _ ?_
            clear hK K
            refine wpAny_done (by kernel_rfl) ?_ _
            dsimp only [Calm]
            gi_wp2
            go_roundw
            case rel => exact ⟨c2, dn ++ [t], rfl, hc2l, hdn2.out, ⟨_, hv2.out, hrow3.out⟩, hkf2.out, hkp2.out, hbw2.out⟩
            case measure =>
              have hl2 := congrArg List.length hbc.out
              rw [List.length_cons] at hl2
              show (bitsOf 64 (Int.toNat (c2 : Int))).length < (bitsOf 64 (Int.toNat (c : Int))).length
              rw [Int.toNat_natCast, Int.toNat_natCast]
              omega
          · go_simp
            refine hK _ _ ?_
            clear hK K
            refine wpAny_ready (rs := [0]) (by kernel_rfl) (by simp) ?_
            refine AllReady.cons rfl (fun K hK => ?_) AllReady.nil
            go_simp
            refine hK _ _ ?_
            clear hK K
            refine wpAny_ready (rs := [7]) (by kernel_rfl) (by simp) ?_
            refine AllReady.cons rfl (fun K hK => step_append rfl (.tmp 19) (.tmp 25) 22 22 rfl rfl (.slice a ml.length cap0) (.slice (some ⟨wr.heap.size, 0, none⟩) 1 1) rfl rfl hr2 (hK _ _ ?_)) AllReady.nil
            clear hK K
            go_frame
            refine wpAny_ready (rs := [8]) (by kernel_rfl) (by simp) ?_
            refine AllReady.cons rfl (fun K hK => ?_) AllReady.nil
            go_simp
            refine hK _ _ ?_
            clear hK K
            refine wpAny_done (by kernel_rfl) ?_ _
            dsimp only [Calm]
            gi_wp2
            go_roundw
            case rel => exact ⟨c2, dn ++ [t], rfl, hc2l, hdn2.out, ⟨_, hv2.out, hrow3.out⟩, hkf2.out, hkp2.out, hbw2.out⟩
            case measure =>
              have hl2 := congrArg List.length hbc.out
              rw [List.length_cons] at hl2
              show (bitsOf 64 (Int.toNat (c2 : Int))).length < (bitsOf 64 (Int.toNat (c : Int))).length
              rw [Int.toNat_natCast, Int.toNat_natCast]
              omega
  case done =>
    rintro DD xs W hDD ⟨ks, hk1, hk2, rfl⟩ ⟨⟨v, hv, hrow, -⟩, hbW⟩ hK
    have hvc := hv.cell
    obtain ⟨a, cap0, rfl⟩ := own_form hrow
    gi_wp2
    refine ⟨by simp, .inl ⟨_, _, rfl, run_takeDeferred hK, ?_⟩⟩
    have hkb : ∀ k ∈ ks, k < 144115188075855872 := fun k hk => by
      obtain ⟨c, hbc, h3, _⟩ := S.words.word k
      rw [(hk2 k).1 hk] at h3
      have hc : c ≠ 0 := of_decide_eq_true h3.symm
      have h4 : ¬ ∀ n ∈ l, n / 64 ≠ k := fun e => hc (hbc.zero.2 e)
      obtain ⟨n, hn, he⟩ : ∃ n, n ∈ l ∧ n / 64 = k := by
        apply Classical.byContradiction
        intro hne
        exact h4 (fun n hn e => hne ⟨n, hn, e⟩)
      have := S.small n hn
      omega
    have hrise : took (ks.map (fun k => (k, wordOf l k))) = rise l ks := by
      unfold took rise
      rw [List.flatMap_map]
      refine flatMap_same (fun k hk => ?_)
      show nums (k % 144115188075855872) (wordOf l k % 18446744073709551616) = _
      rw [Nat.mod_eq_of_lt (hkb k hk), Nat.mod_eq_of_lt (wordOf_bit l k).1]
    rw [hrise] at hrow
    refine ⟨_, results_tmp rfl _ _ _, _, rise l ks, ?_, rising_rise l hk1, fun n => ?_, ownsRow_putObj hrow _ hK rfl, hbW.trans (belowK_b (w := w) (Nat.le_refl _) W DD _ _ (by omega) hK rfl rfl)⟩
    · rw [hrise]
      rfl
    · rw [mem_rise]
      exact ⟨And.right, fun hn => ⟨(hk2 _).2 (S.words.has_of_mem hn), hn⟩⟩
end
end Go.Proofs.YtdpmpppafkefoaaDoor
