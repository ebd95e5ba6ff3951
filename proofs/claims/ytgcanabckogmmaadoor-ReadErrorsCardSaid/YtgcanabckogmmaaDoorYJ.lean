/- RdZ2, RdP2, RdP3, RdP4, RdP5. -/
import Derived.Test.YtgcanabckogmmaaDoorYI
import Derived.Laws.EntriesVeiled
namespace Go.Proofs.YtgcanabckogmmaaDoor
set_option linter.unusedVariables false
set_option linter.unusedSimpArgs false
section
open Go.RowKit Go.Maps Go.Shelf
attribute [local go_sem] Oper.semAt_some fld0 fld1 fld2

section
variable {B : Nat} {w w' : World} {pb gw cw : Nat} {T : List Tok} {i ln vb bb b2 b3 b4 : Nat} {acc : List Fun} {vf : Value}
theorem put_at (a : Act) (d : Option Tmp) (v : Value) (j : Nat) (h : d ≠ some j) : (a.put d v).tmps[j]? = a.tmps[j]? := by
  cases d with
  | none => rfl
  | some k => simp only [Act.put]; rw [Array.getElem?_setIfInBounds_ne (fun e => h (by rw [e]))]
theorem infoFunP : (Tryd.prog.info? 43).map (fun i => (i.zero, i.size, i.bytes)) = some (some (.agg #[.string ⟨#[]⟩, .slice none 0 0, .slice none 0 0]), 3, 64) := by kernel_rfl
set_option maxRecDepth 20000 in
set_option maxHeartbeats 4000000 in
theorem prog_blk {c : Code} (hc : Func.blockOf Tryd.f9 0 = some c) {Q : Exit → Act → World → Prop} {ds : List Deferred} {u0 u1 u5 u7 u8 u9 u10 u11 u12 u13 u14 u15 u16 u17 u18 u19 u20 u21 u22 u23 u24 u25 u26 u27 u28 u29 u30 u31 u32 u33 u34 u35 u36 u37 u38 u39 u40 : Value}
    (h : LAt B w b2 pb gw cw T i ln vb bb acc vf) {n : Nat} (hn : (T.drop i).length + 1 ≤ n) {R : Except Flt (List Fun)} (hR : progP n acc (T.drop i) ln = R)
    (hPn : ∀ {x : List PanicEntry} {a a1 : Act} {w : World}, Q (.panic x) a w → a.defers = a1.defers → a.tmps[2]? = a1.tmps[2]? → a.tmps[3]? = a1.tmps[3]? → a.tmps[4]? = a1.tmps[4]? → Q (.panic x) a1 w)
    (hQ : Hid (∀ {wx : World} {v26 v27 v28 v29 v30 v31 v32 v33 v34 v35 v36 v37 v38 : Value}, (Touch w wx (fun k => k = pb ∨ k = b2 ∨ B ≤ k) ∧ ∃ i2 ln2 acc2 vf2, LAt B wx b2 pb gw cw T i2 ln2 vb bb acc2 vf2 ∧ R = .ok acc2) → Q .normal { tmps := #[u0, u1, .pointer (some ⟨b2, 0, none⟩), .pointer (some ⟨b3, 0, none⟩), .pointer (some ⟨b4, 0, none⟩), u5, .pointer (some ⟨pb, 0, none⟩), u7, u8, u9, u10, u11, u12, u13, u14, u15, u16, u17, u18, u19, u20, u21, u22, u23, u24, u25, v26, v27, v28, v29, v30, v31, v32, v33, v34, v35, v36, v37, v38, u39, u40], defers := ds } wx))
    (hE : Hid (∀ {wx : World} {f : Flt} {a : Act}, a.defers = ds → a.tmps[2]? = some (.pointer (some ⟨b2, 0, none⟩)) → a.tmps[3]? = some (.pointer (some ⟨b3, 0, none⟩)) → a.tmps[4]? = some (.pointer (some ⟨b4, 0, none⟩)) → Touch w wx (fun k => k = pb ∨ k = b2 ∨ B ≤ k) → (∃ x, wx.heap[b2]? = some (.cells #[x] 24 (0, 0))) → R = .error f → Q (.panic (chF f)) a wx)) :
    c.wp Tryd.prog Q { tmps := #[u0, u1, .pointer (some ⟨b2, 0, none⟩), .pointer (some ⟨b3, 0, none⟩), .pointer (some ⟨b4, 0, none⟩), u5, .pointer (some ⟨pb, 0, none⟩), u7, u8, u9, u10, u11, u12, u13, u14, u15, u16, u17, u18, u19, u20, u21, u22, u23, u24, u25, u26, u27, u28, u29, u30, u31, u32, u33, u34, u35, u36, u37, u38, u39, u40], defers := ds } w := by
  obtain ⟨i0, hi0, hz0, hz1, hz2⟩ := info_parts infoFunP
  conv at hc => lhs; whnf
  simp only [Option.some.injEq] at hc
  subst hc
  have hG : Hid (R = progP n acc (T.drop i) ln ∧ (T.drop i).length + 1 ≤ n ∧ LAt B w b2 pb gw cw T i ln vb bb acc vf ∧ Touch w w (fun k => k = pb ∨ k = b2 ∨ B ≤ k)) := Lib.hid ⟨hR.symm, hn, h, Touch.refl _ _⟩
  clear h hn hR
  go_wp2_with fail
  go_loopg [] n (fun k wr => ∃ i2 ln2 acc2 vf2, Hid (R = progP k acc2 (T.drop i2) ln2 ∧ (T.drop i2).length + 1 ≤ k ∧ LAt B wr b2 pb gw cw T i2 ln2 vb bb acc2 vf2 ∧ Touch w wr (fun k => k = pb ∨ k = b2 ∨ B ≤ k)))
  case atStart => exact ⟨i, ln, acc, vf, hG⟩
  case round =>
    clear hG
    obtain ⟨i2, ln2, acc2, vf2, hG⟩ := hrel
    obtain ⟨hR, hk, hS, hT⟩ := hG.out
    obtain ⟨t, ht, hd⟩ := hS.p.at
    obtain ⟨q, hq⟩ : ∃ q, (t.kind == 4) = q := ⟨_, rfl⟩
    have hwd := Lib.hid (word_any hS.p ht)
    have g1 : ((t.kind : Int) != 4) = !(t.kind == 4) := by rw [show ((4 : Int)) = ((4 : Nat) : Int) from rfl, bne, kindB]
    have hka : kindAt (T.drop i2) 4 = q := by rw [hd]; exact hq
    rw [hq] at g1
    unfold tokV at hwd
    obtain ⟨m, rfl⟩ : ∃ m, gk = m + 1 := ⟨gk - 1, by omega⟩
    unfold progP at hR
    rw [hka] at hR
    replace hT := Lib.hid hT
    cases q with
    | true =>
      rw [if_pos rfl] at hR
      simp only [Bool.not_true] at g1
      replace hS := Lib.hid hS
      replace hR := Lib.hid hR
      clear hG hk ht hd hq hka
      go_wp2_with (go_at_call 19; refine hwd.out.mono ?_; rintro e w4 ⟨rfl, hb4⟩)
      exact hQ.out ⟨hT.out.trans (Touch.of_below hb4 _), i2, ln2, acc2, vf2, hS.out.on (Touch.of_below hb4 _) (hS.out.p.below hb4) (Nat.le_refl _), hR.out⟩
    | false =>
      rw [if_neg (by simp)] at hR
      simp only [Bool.not_false] at g1
      have hfn := Lib.hid (fun (w' : World) (hP : PAt B w' pb gw cw T i2 ln2 vb bb) => function_any hP)
      obtain ⟨av, cv, hv2⟩ := hS.row.form
      obtain ⟨n2, hn2⟩ : ∃ n2, n2 = acc2.length := ⟨_, rfl⟩
      rw [← hn2] at hv2
      subst hv2
      replace hn2 := Lib.hid hn2
      clear hG ht hd hq hka
      cases hF : funcP (T.drop i2) ln2 with
      | error f =>
        rw [hF] at hR hfn
        dsimp only at hR
        replace hR := Lib.hid hR
        replace hS := Lib.hid hS
        clear hF hk
        go_upto_region 9 with (go_at_call 19; refine hwd.out.mono ?_; rintro e w4 ⟨rfl, hb4⟩)
        have hL4 := hS.out.on (Touch.of_below hb4 _) (hS.out.p.below hb4) (Nat.le_refl _)
        have t4 := Lib.hid (hT.out.trans (Touch.of_below hb4 (fun k => k = pb ∨ k = b2 ∨ B ≤ k)))
        have hPd := Lib.hid (hL4.p.below (Below.refl _ _).drew)
        have hB4 := hL4.blk
        have z4 : w4.drew.cell? ⟨b2, 0, none⟩ = some (.slice av n2 cv) := by
          show w4.cell? _ = _
          rw [blk_cell hB4]
          rfl
        replace hB4 := Lib.hid hB4
        replace hL4 := Lib.hid hL4
        clear hb4 hwd
        refine wp_region_held_drew (S := (fun _ => True)) (by kernel_rfl) trivial (fun hHeld => ?_)
        clear hHeld
        refine wpAnyH_take (i := 0) (oi := (Oper.mk (some 32) (Op.fieldAddr 24 (Operand.tmp 2) 0) 0 "read.go:41" #[] none)) (v := ?_) rfl (by kernel_rfl) (by kernel_rfl) (by kernel_rfl) (fun _ _ _ h => hPn h rfl (put_at _ _ _ _ (by decide)) (put_at _ _ _ _ (by decide)) (put_at _ _ _ _ (by decide))) (Or.inl ⟨by rfl, ?_⟩) trivial ?_
        rotate_left
        · (intro w hSw; (try dsimp only at hSw); go_simp; try with_reducible rfl)
        try simp only [Act.put, List.setIfInBounds_toArray, List.set_cons_zero, List.set_cons_succ]
        refine wpAnyH_take (i := 2) (oi := (Oper.mk (some 34) (Op.move (Operand.tmp 6)) 59 "read.go:41" #[] none)) (v := ?_) rfl (by kernel_rfl) (by kernel_rfl) (by kernel_rfl) (fun _ _ _ h => hPn h rfl (put_at _ _ _ _ (by decide)) (put_at _ _ _ _ (by decide)) (put_at _ _ _ _ (by decide))) (Or.inl ⟨by rfl, ?_⟩) trivial ?_
        rotate_left
        · (intro w hSw; (try dsimp only at hSw); go_simp; try with_reducible rfl)
        try simp only [Act.put, List.setIfInBounds_toArray, List.set_cons_zero, List.set_cons_succ]
        refine wpAnyH_ready (rs := [1, 3]) (by kernel_rfl) (by simp) (AllReadyH.cons (o := (Oper.mk (some 33) (Op.load 22 (Operand.tmp 32)) 22 "read.go:41" #[(Edge.mk 0 Ground.data)] none)) rfl (fun K hK => ?_) (AllReadyH.cons (o := (Oper.mk (some 35) (Op.call (Call.mk (Callee.value (Operand.func 20)) #[(Operand.tmp 34)] #[59])) 43 "read.go:41" #[(Edge.mk 2 Ground.data)] none)) rfl (fun K hK => ?_) AllReadyH.nil))
        · skip
          go_simp
          skip
          refine hK.out _ _ trivial (fun hHeld => ?_)
          clear hK K hHeld
          try simp only [Act.put, List.setIfInBounds_toArray, List.set_cons_zero, List.set_cons_succ]
          refine wpAnyH_ready (rs := [3]) (by kernel_rfl) (by simp) (AllReadyH.cons (o := (Oper.mk (some 35) (Op.call (Call.mk (Callee.value (Operand.func 20)) #[(Operand.tmp 34)] #[59])) 43 "read.go:41" #[(Edge.mk 2 Ground.data)] none)) rfl (fun K hK => ?_) AllReadyH.nil)
          go_simp
          go_at_call 20
          refine (hfn.out _ hPd.out).mono ?_
          rintro e w6 ⟨hT6, he⟩
          obtain rfl := he
          have t6 : Touch w4 w6 (fun k => k = pb) := (Touch.refl w4 _).drew.trans hT6
          exact hE.out rfl rfl rfl rfl (t4.out.trans (t6.mono fun k _ e => .inl e)) ⟨_, (t6.block b2 (Nat.lt_of_lt_of_le hL4.out.lt hL4.out.p.top) hL4.out.neP).trans hB4.out⟩ hR.out
        · skip
          go_simp
          go_at_call 20
          refine (hfn.out _ hPd.out).mono ?_
          rintro e w6 ⟨hT6, he⟩
          obtain rfl := he
          have t6 : Touch w4 w6 (fun k => k = pb) := (Touch.refl w4 _).drew.trans hT6
          exact hE.out rfl rfl rfl rfl (t4.out.trans (t6.mono fun k _ e => .inl e)) ⟨_, (t6.block b2 (Nat.lt_of_lt_of_le hL4.out.lt hL4.out.p.top) hL4.out.neP).trans hB4.out⟩ hR.out
      | ok r =>
        obtain ⟨d3, l3, ln6⟩ := r
        have hlt := Lib.hid (func_lt hF)
        rw [hF] at hR hfn
        dsimp only at hR
        cases hbgv : beginP l3 ln6 with
        | error f =>
          rw [hbgv] at hR
          dsimp only at hR
          have hbg := Lib.hid (fun (w' : World) (i3 : Nat) (e : l3 = T.drop i3) (hP : PAt B w' pb gw cw T i3 ln6 vb bb) => begin_bad hP (e ▸ hbgv))
          replace hR := Lib.hid hR
          replace hS := Lib.hid hS
          clear hF hbgv hk
          go_upto_region 9 with (go_at_call 19; refine hwd.out.mono ?_; rintro e w4 ⟨rfl, hb4⟩)
          have hL4 := hS.out.on (Touch.of_below hb4 _) (hS.out.p.below hb4) (Nat.le_refl _)
          have t4 := Lib.hid (hT.out.trans (Touch.of_below hb4 (fun k => k = pb ∨ k = b2 ∨ B ≤ k)))
          have hPd := Lib.hid (hL4.p.below (Below.refl _ _).drew)
          have hB4 := hL4.blk
          have z4 : w4.drew.cell? ⟨b2, 0, none⟩ = some (.slice av n2 cv) := by
            show w4.cell? _ = _
            rw [blk_cell hB4]
            rfl
          replace hB4 := Lib.hid hB4
          replace hL4 := Lib.hid hL4
          clear hb4 hwd
          refine wp_region_held_drew (S := (fun _ => True)) (by kernel_rfl) trivial (fun hHeld => ?_)
          clear hHeld
          refine wpAnyH_take (i := 0) (oi := (Oper.mk (some 32) (Op.fieldAddr 24 (Operand.tmp 2) 0) 0 "read.go:41" #[] none)) (v := ?_) rfl (by kernel_rfl) (by kernel_rfl) (by kernel_rfl) (fun _ _ _ h => hPn h rfl (put_at _ _ _ _ (by decide)) (put_at _ _ _ _ (by decide)) (put_at _ _ _ _ (by decide))) (Or.inl ⟨by rfl, ?_⟩) trivial ?_
          rotate_left
          · (intro w hSw; (try dsimp only at hSw); go_simp; try with_reducible rfl)
          try simp only [Act.put, List.setIfInBounds_toArray, List.set_cons_zero, List.set_cons_succ]
          refine wpAnyH_take (i := 2) (oi := (Oper.mk (some 34) (Op.move (Operand.tmp 6)) 59 "read.go:41" #[] none)) (v := ?_) rfl (by kernel_rfl) (by kernel_rfl) (by kernel_rfl) (fun _ _ _ h => hPn h rfl (put_at _ _ _ _ (by decide)) (put_at _ _ _ _ (by decide)) (put_at _ _ _ _ (by decide))) (Or.inl ⟨by rfl, ?_⟩) trivial ?_
          rotate_left
          · (intro w hSw; (try dsimp only at hSw); go_simp; try with_reducible rfl)
          try simp only [Act.put, List.setIfInBounds_toArray, List.set_cons_zero, List.set_cons_succ]
          refine wpAnyH_ready (rs := [1, 3]) (by kernel_rfl) (by simp) (AllReadyH.cons (o := (Oper.mk (some 33) (Op.load 22 (Operand.tmp 32)) 22 "read.go:41" #[(Edge.mk 0 Ground.data)] none)) rfl (fun K hK => ?_) (AllReadyH.cons (o := (Oper.mk (some 35) (Op.call (Call.mk (Callee.value (Operand.func 20)) #[(Operand.tmp 34)] #[59])) 43 "read.go:41" #[(Edge.mk 2 Ground.data)] none)) rfl (fun K hK => ?_) AllReadyH.nil))
          · skip
            go_simp
            skip
            refine hK.out _ _ trivial (fun hHeld => ?_)
            clear hK K hHeld
            try simp only [Act.put, List.setIfInBounds_toArray, List.set_cons_zero, List.set_cons_succ]
            refine wpAnyH_ready (rs := [3]) (by kernel_rfl) (by simp) (AllReadyH.cons (o := (Oper.mk (some 35) (Op.call (Call.mk (Callee.value (Operand.func 20)) #[(Operand.tmp 34)] #[59])) 43 "read.go:41" #[(Edge.mk 2 Ground.data)] none)) rfl (fun K hK => ?_) AllReadyH.nil)
            go_simp
            go_at_call 20
            refine (hfn.out _ hPd.out).mono ?_
            rintro e w6 ⟨hT6, hx⟩
            dsimp only at hx
            obtain ⟨a1, c1, a2, c2, i6, rfl, hl6, hP6, hnb6, hrd6⟩ := hx
            have t6 : Touch w4 w6 (fun k => k = pb) := (Touch.refl w4 _).drew.trans hT6
            have hB6 : w6.heap[b2]? = some (.cells #[.slice av n2 cv] 24 (0, 0)) := (t6.block b2 (Nat.lt_of_lt_of_le hL4.out.lt hL4.out.p.top) hL4.out.neP).trans hB4.out
            have z6 : w6.cell? ⟨b2, 0, none⟩ = some (.slice av n2 cv) := by
              rw [blk_cell hB6]
              rfl
            obtain ⟨xs, hx1, hx2⟩ := hL4.out.row
            have hlow6 : B ≤ w6.heap.size := hP6.top
            have h2i := hL4.out.n
            have hi6 : i2 + 1 ≤ i6 := by
              have h7 := hlt.out
              have h8 := hP6.here
              have h9 := hL4.out.p.here
              rw [hl6, List.length_drop, List.length_drop] at h7
              omega
            have hi6T : i6 < T.length := hP6.here
            have hlenT := hP6.ok.len
            have hnB : ∀ g, (Value.slice av n2 cv).ownBlock = some g → B ≤ g := fun g hg => (hx1.lt g hg).1
            have hpbB := hL4.out.p.ltP
            have hb2B := hL4.out.lt
            have hb2l : b2 < w6.heap.size := Nat.lt_of_lt_of_le hb2B hlow6
            rw [← hn2.out] at h2i
            have hO6 := ownsRow_touch hx1 t6 (fun g hg e => by have := hnB g hg; omega)
            rw [← hn2.out] at hO6
            have hown := Lib.hid (ownsRow_touch (S := fun _ => False) hO6 ((Touch.refl w6 _).alloc (.cells #[.string d3.name, .slice a1 d3.params.length c1, .slice a2 d3.blocks.length c2] 43)) (fun _ _ h => h))
            replace hx1 := Lib.hid hx1
            replace hx2 := Lib.hid hx2
            replace t6 := Lib.hid t6
            replace hB6 := Lib.hid hB6
            replace hP6 := Lib.hid hP6
            replace hrd6 := Lib.hid hrd6
            replace hl6 := Lib.hid hl6
            replace hnB := Lib.hid hnB
            clear hT6 hnb6 hO6
            go_simp
            refine hK.out _ _ trivial (fun hHeld => ?_)
            clear hK K hHeld
            try simp only [Act.put, List.setIfInBounds_toArray, List.set_cons_zero, List.set_cons_succ]
            refine wpAnyH_ready (rs := [4]) (by kernel_rfl) (by simp) (AllReadyH.cons (o := (Oper.mk (some 36) (Op.buildSlice 22 1 #[(0, (Operand.tmp 35))]) 22 "read.go:41" #[(Edge.mk 3 Ground.data)] none)) rfl (fun K hK => ?_) AllReadyH.nil)
            go_simp
            skip
            refine hK.out _ _ trivial (fun hHeld => ?_)
            clear hK K hHeld
            try simp only [Act.put, List.setIfInBounds_toArray, List.set_cons_zero, List.set_cons_succ]
            refine wpAnyH_ready (rs := [5]) (by kernel_rfl) (by simp) (AllReadyH.cons (o := (Oper.mk (some 37) (Op.call (Call.mk (Callee.builtin Builtin.append) #[(Operand.tmp 33), (Operand.tmp 36)] #[22, 22])) 22 "read.go:41" #[(Edge.mk 1 Ground.data), (Edge.mk 4 Ground.data), (Edge.mk 3 Ground.chain)] none)) rfl (fun K hK => ?_) AllReadyH.nil)
            refine step_append_lies _ (by rfl) _ _ _ (by rfl) B 43 i0 _ 3 64 Tryd.underlying22 hi0 hz0 hz1 hz2 rfl (by omega) (.slice av n2 cv) n2 xs (by rfl) hown.out ⟨w6.heap.size, 0, none⟩ 1 1 [.string d3.name, .slice a1 d3.params.length c1, .slice a2 d3.blocks.length c2] (by rfl) (by rfl) (World.news_of_block (cs := #[.string d3.name, .slice a1 d3.params.length c1, .slice a2 d3.blocks.length c2]) (t := 43) (fr := (0, 0)) (heap_alloc_new w6 _)) (by simp [Value.oneCell']) (by omega) (by unfold maxLen; omega) (by omega) (by simp; omega) (w6.heap.size + 1) (by simp) ?_
            intro gg cap2 w7 hO7 hg7 hat7 hlt7
            have h88 : LAt B (w7.setCell ⟨b2, 0, none⟩ (.slice (some ⟨gg, 0, none⟩) (n2 + 1) cap2)) b2 pb gw cw T i6 ln6 vb bb (acc2 ++ [d3]) (.slice (some ⟨gg, 0, none⟩) (n2 + 1) cap2) ∧ Touch w4 (w7.setCell ⟨b2, 0, none⟩ (.slice (some ⟨gg, 0, none⟩) (n2 + 1) cap2)) (fun k => k = pb ∨ k = b2 ∨ B ≤ k) := by
              have hO7 := hO7
              have hL := hL4.out
              have hx1 := hx1.out
              have hx2 := hx2.out
              have hgx := hg7
              rw [hn2.out] at hO7 ⊢
              rw [hn2.out] at hL hx1 hx2 hgx hat7
              exact LAt.add hL t6.out hP6.out hi6 hrd6.out hx1 hx2 hO7 hgx hat7
            have hB7 : w7.heap[b2]? = some (.cells #[.slice av n2 cv] 24 (0, 0)) := ((((Touch.refl w6 (fun k => (Value.slice av n2 cv).ownBlock = some k)).alloc (.cells #[.string d3.name, .slice a1 d3.params.length c1, .slice a2 d3.blocks.length c2] 43)).trans (Touch.of_grown hg7 (fun k e => e))).block b2 hb2l (fun e => by have := hnB.out _ e; omega)).trans hB6.out
            have z7 : w7.cell? ⟨b2, 0, none⟩ = some (.slice av n2 cv) := by
              rw [blk_cell hB7]
              rfl
            have y7 := frozB hB7 0
            have h88 := Lib.hid h88
            have hgl : gg < w7.heap.size := hlt7
            clear hO7 hg7 hat7 hown hlt7 z6 hB7
            refine hK.out _ _ trivial (fun hHeld => ?_)
            clear hK K hHeld
            try simp only [Act.put, List.setIfInBounds_toArray, List.set_cons_zero, List.set_cons_succ]
            refine wpAnyH_take (i := 6) (oi := (Oper.mk (some 38) (Op.fieldAddr 24 (Operand.tmp 2) 0) 0 "read.go:41" #[(Edge.mk 0 Ground.phase), (Edge.mk 1 Ground.phase), (Edge.mk 2 Ground.phase), (Edge.mk 3 Ground.phase), (Edge.mk 4 Ground.phase), (Edge.mk 5 Ground.phase)] none)) (v := ?_) rfl (by kernel_rfl) (by kernel_rfl) (by kernel_rfl) (fun _ _ _ h => hPn h rfl (put_at _ _ _ _ (by decide)) (put_at _ _ _ _ (by decide)) (put_at _ _ _ _ (by decide))) (Or.inl ⟨by rfl, ?_⟩) trivial ?_
            rotate_left
            · (intro w hSw; (try dsimp only at hSw); go_simp; try with_reducible rfl)
            try simp only [Act.put, List.setIfInBounds_toArray, List.set_cons_zero, List.set_cons_succ]
            refine wpAnyH_ready (rs := [7]) (by kernel_rfl) (by simp) (AllReadyH.cons (o := (Oper.mk none (Op.store 22 (Operand.tmp 38) (Operand.tmp 37)) 0 "read.go:41" #[(Edge.mk 6 Ground.data), (Edge.mk 5 Ground.data), (Edge.mk 5 Ground.chain), (Edge.mk 0 Ground.phase), (Edge.mk 1 Ground.phase), (Edge.mk 2 Ground.phase), (Edge.mk 3 Ground.phase), (Edge.mk 4 Ground.phase), (Edge.mk 5 Ground.phase)] none)) rfl (fun K hK => ?_) AllReadyH.nil)
            go_simp
            skip
            refine hK.out _ _ trivial (fun hHeld => ?_)
            clear hK K hHeld
            try simp only [Act.put, List.setIfInBounds_toArray, List.set_cons_zero, List.set_cons_succ]
            refine wpAnyH_done (by kernel_rfl) ?_ _
            have hL8 := h88.out.1
            have t8 := Lib.hid (t4.out.trans h88.out.2)
            replace hL8 := Lib.hid hL8
            have hbg2 := Lib.hid (hbg.out _ i6 hl6.out hL8.out.p)
            clear h88
            go_wp2_with (go_at_call 18; refine hbg2.out.mono ?_; rintro e w9 ⟨rfl, hb9⟩)
            exact hE.out rfl rfl rfl rfl (t8.out.trans (Touch.of_below hb9 _)) ⟨_, keepB hb9 hL8.out.blk⟩ hR.out
          · skip
            go_simp
            go_at_call 20
            refine (hfn.out _ hPd.out).mono ?_
            rintro e w6 ⟨hT6, hx⟩
            dsimp only at hx
            obtain ⟨a1, c1, a2, c2, i6, rfl, hl6, hP6, hnb6, hrd6⟩ := hx
            have t6 : Touch w4 w6 (fun k => k = pb) := (Touch.refl w4 _).drew.trans hT6
            have hB6 : w6.heap[b2]? = some (.cells #[.slice av n2 cv] 24 (0, 0)) := (t6.block b2 (Nat.lt_of_lt_of_le hL4.out.lt hL4.out.p.top) hL4.out.neP).trans hB4.out
            have z6 : w6.cell? ⟨b2, 0, none⟩ = some (.slice av n2 cv) := by
              rw [blk_cell hB6]
              rfl
            obtain ⟨xs, hx1, hx2⟩ := hL4.out.row
            have hlow6 : B ≤ w6.heap.size := hP6.top
            have h2i := hL4.out.n
            have hi6 : i2 + 1 ≤ i6 := by
              have h7 := hlt.out
              have h8 := hP6.here
              have h9 := hL4.out.p.here
              rw [hl6, List.length_drop, List.length_drop] at h7
              omega
            have hi6T : i6 < T.length := hP6.here
            have hlenT := hP6.ok.len
            have hnB : ∀ g, (Value.slice av n2 cv).ownBlock = some g → B ≤ g := fun g hg => (hx1.lt g hg).1
            have hpbB := hL4.out.p.ltP
            have hb2B := hL4.out.lt
            have hb2l : b2 < w6.heap.size := Nat.lt_of_lt_of_le hb2B hlow6
            rw [← hn2.out] at h2i
            have hO6 := ownsRow_touch hx1 t6 (fun g hg e => by have := hnB g hg; omega)
            rw [← hn2.out] at hO6
            have hown := Lib.hid (ownsRow_touch (S := fun _ => False) hO6 ((Touch.refl w6 _).alloc (.cells #[.string d3.name, .slice a1 d3.params.length c1, .slice a2 d3.blocks.length c2] 43)) (fun _ _ h => h))
            replace hx1 := Lib.hid hx1
            replace hx2 := Lib.hid hx2
            replace t6 := Lib.hid t6
            replace hB6 := Lib.hid hB6
            replace hP6 := Lib.hid hP6
            replace hrd6 := Lib.hid hrd6
            replace hl6 := Lib.hid hl6
            replace hnB := Lib.hid hnB
            clear hT6 hnb6 hO6
            go_simp
            refine hK.out _ _ trivial (fun hHeld => ?_)
            clear hK K hHeld
            try simp only [Act.put, List.setIfInBounds_toArray, List.set_cons_zero, List.set_cons_succ]
            refine wpAnyH_ready (rs := [1, 4]) (by kernel_rfl) (by simp) (AllReadyH.cons (o := (Oper.mk (some 33) (Op.load 22 (Operand.tmp 32)) 22 "read.go:41" #[(Edge.mk 0 Ground.data)] none)) rfl (fun K hK => ?_) (AllReadyH.cons (o := (Oper.mk (some 36) (Op.buildSlice 22 1 #[(0, (Operand.tmp 35))]) 22 "read.go:41" #[(Edge.mk 3 Ground.data)] none)) rfl (fun K hK => ?_) AllReadyH.nil))
            · skip
              go_simp
              skip
              refine hK.out _ _ trivial (fun hHeld => ?_)
              clear hK K hHeld
              try simp only [Act.put, List.setIfInBounds_toArray, List.set_cons_zero, List.set_cons_succ]
              refine wpAnyH_ready (rs := [4]) (by kernel_rfl) (by simp) (AllReadyH.cons (o := (Oper.mk (some 36) (Op.buildSlice 22 1 #[(0, (Operand.tmp 35))]) 22 "read.go:41" #[(Edge.mk 3 Ground.data)] none)) rfl (fun K hK => ?_) AllReadyH.nil)
              go_simp
              skip
              refine hK.out _ _ trivial (fun hHeld => ?_)
              clear hK K hHeld
              try simp only [Act.put, List.setIfInBounds_toArray, List.set_cons_zero, List.set_cons_succ]
              refine wpAnyH_ready (rs := [5]) (by kernel_rfl) (by simp) (AllReadyH.cons (o := (Oper.mk (some 37) (Op.call (Call.mk (Callee.builtin Builtin.append) #[(Operand.tmp 33), (Operand.tmp 36)] #[22, 22])) 22 "read.go:41" #[(Edge.mk 1 Ground.data), (Edge.mk 4 Ground.data), (Edge.mk 3 Ground.chain)] none)) rfl (fun K hK => ?_) AllReadyH.nil)
              refine step_append_lies _ (by rfl) _ _ _ (by rfl) B 43 i0 _ 3 64 Tryd.underlying22 hi0 hz0 hz1 hz2 rfl (by omega) (.slice av n2 cv) n2 xs (by rfl) hown.out ⟨w6.heap.size, 0, none⟩ 1 1 [.string d3.name, .slice a1 d3.params.length c1, .slice a2 d3.blocks.length c2] (by rfl) (by rfl) (World.news_of_block (cs := #[.string d3.name, .slice a1 d3.params.length c1, .slice a2 d3.blocks.length c2]) (t := 43) (fr := (0, 0)) (heap_alloc_new w6 _)) (by simp [Value.oneCell']) (by omega) (by unfold maxLen; omega) (by omega) (by simp; omega) (w6.heap.size + 1) (by simp) ?_
              intro gg cap2 w7 hO7 hg7 hat7 hlt7
              have h88 : LAt B (w7.setCell ⟨b2, 0, none⟩ (.slice (some ⟨gg, 0, none⟩) (n2 + 1) cap2)) b2 pb gw cw T i6 ln6 vb bb (acc2 ++ [d3]) (.slice (some ⟨gg, 0, none⟩) (n2 + 1) cap2) ∧ Touch w4 (w7.setCell ⟨b2, 0, none⟩ (.slice (some ⟨gg, 0, none⟩) (n2 + 1) cap2)) (fun k => k = pb ∨ k = b2 ∨ B ≤ k) := by
                have hO7 := hO7
                have hL := hL4.out
                have hx1 := hx1.out
                have hx2 := hx2.out
                have hgx := hg7
                rw [hn2.out] at hO7 ⊢
                rw [hn2.out] at hL hx1 hx2 hgx hat7
                exact LAt.add hL t6.out hP6.out hi6 hrd6.out hx1 hx2 hO7 hgx hat7
              have hB7 : w7.heap[b2]? = some (.cells #[.slice av n2 cv] 24 (0, 0)) := ((((Touch.refl w6 (fun k => (Value.slice av n2 cv).ownBlock = some k)).alloc (.cells #[.string d3.name, .slice a1 d3.params.length c1, .slice a2 d3.blocks.length c2] 43)).trans (Touch.of_grown hg7 (fun k e => e))).block b2 hb2l (fun e => by have := hnB.out _ e; omega)).trans hB6.out
              have z7 : w7.cell? ⟨b2, 0, none⟩ = some (.slice av n2 cv) := by
                rw [blk_cell hB7]
                rfl
              have y7 := frozB hB7 0
              have h88 := Lib.hid h88
              have hgl : gg < w7.heap.size := hlt7
              clear hO7 hg7 hat7 hown hlt7 z6 hB7
              refine hK.out _ _ trivial (fun hHeld => ?_)
              clear hK K hHeld
              try simp only [Act.put, List.setIfInBounds_toArray, List.set_cons_zero, List.set_cons_succ]
              refine wpAnyH_take (i := 6) (oi := (Oper.mk (some 38) (Op.fieldAddr 24 (Operand.tmp 2) 0) 0 "read.go:41" #[(Edge.mk 0 Ground.phase), (Edge.mk 1 Ground.phase), (Edge.mk 2 Ground.phase), (Edge.mk 3 Ground.phase), (Edge.mk 4 Ground.phase), (Edge.mk 5 Ground.phase)] none)) (v := ?_) rfl (by kernel_rfl) (by kernel_rfl) (by kernel_rfl) (fun _ _ _ h => hPn h rfl (put_at _ _ _ _ (by decide)) (put_at _ _ _ _ (by decide)) (put_at _ _ _ _ (by decide))) (Or.inl ⟨by rfl, ?_⟩) trivial ?_
              rotate_left
              · (intro w hSw; (try dsimp only at hSw); go_simp; try with_reducible rfl)
              try simp only [Act.put, List.setIfInBounds_toArray, List.set_cons_zero, List.set_cons_succ]
              refine wpAnyH_ready (rs := [7]) (by kernel_rfl) (by simp) (AllReadyH.cons (o := (Oper.mk none (Op.store 22 (Operand.tmp 38) (Operand.tmp 37)) 0 "read.go:41" #[(Edge.mk 6 Ground.data), (Edge.mk 5 Ground.data), (Edge.mk 5 Ground.chain), (Edge.mk 0 Ground.phase), (Edge.mk 1 Ground.phase), (Edge.mk 2 Ground.phase), (Edge.mk 3 Ground.phase), (Edge.mk 4 Ground.phase), (Edge.mk 5 Ground.phase)] none)) rfl (fun K hK => ?_) AllReadyH.nil)
              go_simp
              skip
              refine hK.out _ _ trivial (fun hHeld => ?_)
              clear hK K hHeld
              try simp only [Act.put, List.setIfInBounds_toArray, List.set_cons_zero, List.set_cons_succ]
              refine wpAnyH_done (by kernel_rfl) ?_ _
              have hL8 := h88.out.1
              have t8 := Lib.hid (t4.out.trans h88.out.2)
              replace hL8 := Lib.hid hL8
              have hbg2 := Lib.hid (hbg.out _ i6 hl6.out hL8.out.p)
              clear h88
              go_wp2_with (go_at_call 18; refine hbg2.out.mono ?_; rintro e w9 ⟨rfl, hb9⟩)
              exact hE.out rfl rfl rfl rfl (t8.out.trans (Touch.of_below hb9 _)) ⟨_, keepB hb9 hL8.out.blk⟩ hR.out
            · skip
              go_simp
              skip
              refine hK.out _ _ trivial (fun hHeld => ?_)
              clear hK K hHeld
              try simp only [Act.put, List.setIfInBounds_toArray, List.set_cons_zero, List.set_cons_succ]
              refine wpAnyH_ready (rs := [1]) (by kernel_rfl) (by simp) (AllReadyH.cons (o := (Oper.mk (some 33) (Op.load 22 (Operand.tmp 32)) 22 "read.go:41" #[(Edge.mk 0 Ground.data)] none)) rfl (fun K hK => ?_) AllReadyH.nil)
              go_simp
              skip
              refine hK.out _ _ trivial (fun hHeld => ?_)
              clear hK K hHeld
              try simp only [Act.put, List.setIfInBounds_toArray, List.set_cons_zero, List.set_cons_succ]
              refine wpAnyH_ready (rs := [5]) (by kernel_rfl) (by simp) (AllReadyH.cons (o := (Oper.mk (some 37) (Op.call (Call.mk (Callee.builtin Builtin.append) #[(Operand.tmp 33), (Operand.tmp 36)] #[22, 22])) 22 "read.go:41" #[(Edge.mk 1 Ground.data), (Edge.mk 4 Ground.data), (Edge.mk 3 Ground.chain)] none)) rfl (fun K hK => ?_) AllReadyH.nil)
              refine step_append_lies _ (by rfl) _ _ _ (by rfl) B 43 i0 _ 3 64 Tryd.underlying22 hi0 hz0 hz1 hz2 rfl (by omega) (.slice av n2 cv) n2 xs (by rfl) hown.out ⟨w6.heap.size, 0, none⟩ 1 1 [.string d3.name, .slice a1 d3.params.length c1, .slice a2 d3.blocks.length c2] (by rfl) (by rfl) (World.news_of_block (cs := #[.string d3.name, .slice a1 d3.params.length c1, .slice a2 d3.blocks.length c2]) (t := 43) (fr := (0, 0)) (heap_alloc_new w6 _)) (by simp [Value.oneCell']) (by omega) (by unfold maxLen; omega) (by omega) (by simp; omega) (w6.heap.size + 1) (by simp) ?_
              intro gg cap2 w7 hO7 hg7 hat7 hlt7
              have h88 : LAt B (w7.setCell ⟨b2, 0, none⟩ (.slice (some ⟨gg, 0, none⟩) (n2 + 1) cap2)) b2 pb gw cw T i6 ln6 vb bb (acc2 ++ [d3]) (.slice (some ⟨gg, 0, none⟩) (n2 + 1) cap2) ∧ Touch w4 (w7.setCell ⟨b2, 0, none⟩ (.slice (some ⟨gg, 0, none⟩) (n2 + 1) cap2)) (fun k => k = pb ∨ k = b2 ∨ B ≤ k) := by
                have hO7 := hO7
                have hL := hL4.out
                have hx1 := hx1.out
                have hx2 := hx2.out
                have hgx := hg7
                rw [hn2.out] at hO7 ⊢
                rw [hn2.out] at hL hx1 hx2 hgx hat7
                exact LAt.add hL t6.out hP6.out hi6 hrd6.out hx1 hx2 hO7 hgx hat7
              have hB7 : w7.heap[b2]? = some (.cells #[.slice av n2 cv] 24 (0, 0)) := ((((Touch.refl w6 (fun k => (Value.slice av n2 cv).ownBlock = some k)).alloc (.cells #[.string d3.name, .slice a1 d3.params.length c1, .slice a2 d3.blocks.length c2] 43)).trans (Touch.of_grown hg7 (fun k e => e))).block b2 hb2l (fun e => by have := hnB.out _ e; omega)).trans hB6.out
              have z7 : w7.cell? ⟨b2, 0, none⟩ = some (.slice av n2 cv) := by
                rw [blk_cell hB7]
                rfl
              have y7 := frozB hB7 0
              have h88 := Lib.hid h88
              have hgl : gg < w7.heap.size := hlt7
              clear hO7 hg7 hat7 hown hlt7 z6 hB7
              refine hK.out _ _ trivial (fun hHeld => ?_)
              clear hK K hHeld
              try simp only [Act.put, List.setIfInBounds_toArray, List.set_cons_zero, List.set_cons_succ]
              refine wpAnyH_take (i := 6) (oi := (Oper.mk (some 38) (Op.fieldAddr 24 (Operand.tmp 2) 0) 0 "read.go:41" #[(Edge.mk 0 Ground.phase), (Edge.mk 1 Ground.phase), (Edge.mk 2 Ground.phase), (Edge.mk 3 Ground.phase), (Edge.mk 4 Ground.phase), (Edge.mk 5 Ground.phase)] none)) (v := ?_) rfl (by kernel_rfl) (by kernel_rfl) (by kernel_rfl) (fun _ _ _ h => hPn h rfl (put_at _ _ _ _ (by decide)) (put_at _ _ _ _ (by decide)) (put_at _ _ _ _ (by decide))) (Or.inl ⟨by rfl, ?_⟩) trivial ?_
              rotate_left
              · (intro w hSw; (try dsimp only at hSw); go_simp; try with_reducible rfl)
              try simp only [Act.put, List.setIfInBounds_toArray, List.set_cons_zero, List.set_cons_succ]
              refine wpAnyH_ready (rs := [7]) (by kernel_rfl) (by simp) (AllReadyH.cons (o := (Oper.mk none (Op.store 22 (Operand.tmp 38) (Operand.tmp 37)) 0 "read.go:41" #[(Edge.mk 6 Ground.data), (Edge.mk 5 Ground.data), (Edge.mk 5 Ground.chain), (Edge.mk 0 Ground.phase), (Edge.mk 1 Ground.phase), (Edge.mk 2 Ground.phase), (Edge.mk 3 Ground.phase), (Edge.mk 4 Ground.phase), (Edge.mk 5 Ground.phase)] none)) rfl (fun K hK => ?_) AllReadyH.nil)
              go_simp
              skip
              refine hK.out _ _ trivial (fun hHeld => ?_)
              clear hK K hHeld
              try simp only [Act.put, List.setIfInBounds_toArray, List.set_cons_zero, List.set_cons_succ]
              refine wpAnyH_done (by kernel_rfl) ?_ _
              have hL8 := h88.out.1
              have t8 := Lib.hid (t4.out.trans h88.out.2)
              replace hL8 := Lib.hid hL8
              have hbg2 := Lib.hid (hbg.out _ i6 hl6.out hL8.out.p)
              clear h88
              go_wp2_with (go_at_call 18; refine hbg2.out.mono ?_; rintro e w9 ⟨rfl, hb9⟩)
              exact hE.out rfl rfl rfl rfl (t8.out.trans (Touch.of_below hb9 _)) ⟨_, keepB hb9 hL8.out.blk⟩ hR.out
        | ok ln7 =>
          rw [hbgv] at hR
          dsimp only at hR
          have hbg := Lib.hid (fun (w' : World) (i3 : Nat) (e : l3 = T.drop i3) (hP : PAt B w' pb gw cw T i3 ln6 vb bb) => begin_ok hP (e ▸ hbgv))
          replace hR := Lib.hid hR
          replace hS := Lib.hid hS
          clear hF hbgv
          go_upto_region 9 with (go_at_call 19; refine hwd.out.mono ?_; rintro e w4 ⟨rfl, hb4⟩)
          have hL4 := hS.out.on (Touch.of_below hb4 _) (hS.out.p.below hb4) (Nat.le_refl _)
          have t4 := Lib.hid (hT.out.trans (Touch.of_below hb4 (fun k => k = pb ∨ k = b2 ∨ B ≤ k)))
          have hPd := Lib.hid (hL4.p.below (Below.refl _ _).drew)
          have hB4 := hL4.blk
          have z4 : w4.drew.cell? ⟨b2, 0, none⟩ = some (.slice av n2 cv) := by
            show w4.cell? _ = _
            rw [blk_cell hB4]
            rfl
          replace hB4 := Lib.hid hB4
          replace hL4 := Lib.hid hL4
          clear hb4 hwd
          refine wp_region_held_drew (S := (fun _ => True)) (by kernel_rfl) trivial (fun hHeld => ?_)
          clear hHeld
          refine wpAnyH_take (i := 0) (oi := (Oper.mk (some 32) (Op.fieldAddr 24 (Operand.tmp 2) 0) 0 "read.go:41" #[] none)) (v := ?_) rfl (by kernel_rfl) (by kernel_rfl) (by kernel_rfl) (fun _ _ _ h => hPn h rfl (put_at _ _ _ _ (by decide)) (put_at _ _ _ _ (by decide)) (put_at _ _ _ _ (by decide))) (Or.inl ⟨by rfl, ?_⟩) trivial ?_
          rotate_left
          · (intro w hSw; (try dsimp only at hSw); go_simp; try with_reducible rfl)
          try simp only [Act.put, List.setIfInBounds_toArray, List.set_cons_zero, List.set_cons_succ]
          refine wpAnyH_take (i := 2) (oi := (Oper.mk (some 34) (Op.move (Operand.tmp 6)) 59 "read.go:41" #[] none)) (v := ?_) rfl (by kernel_rfl) (by kernel_rfl) (by kernel_rfl) (fun _ _ _ h => hPn h rfl (put_at _ _ _ _ (by decide)) (put_at _ _ _ _ (by decide)) (put_at _ _ _ _ (by decide))) (Or.inl ⟨by rfl, ?_⟩) trivial ?_
          rotate_left
          · (intro w hSw; (try dsimp only at hSw); go_simp; try with_reducible rfl)
          try simp only [Act.put, List.setIfInBounds_toArray, List.set_cons_zero, List.set_cons_succ]
          refine wpAnyH_ready (rs := [1, 3]) (by kernel_rfl) (by simp) (AllReadyH.cons (o := (Oper.mk (some 33) (Op.load 22 (Operand.tmp 32)) 22 "read.go:41" #[(Edge.mk 0 Ground.data)] none)) rfl (fun K hK => ?_) (AllReadyH.cons (o := (Oper.mk (some 35) (Op.call (Call.mk (Callee.value (Operand.func 20)) #[(Operand.tmp 34)] #[59])) 43 "read.go:41" #[(Edge.mk 2 Ground.data)] none)) rfl (fun K hK => ?_) AllReadyH.nil))
          · skip
            go_simp
            skip
            refine hK.out _ _ trivial (fun hHeld => ?_)
            clear hK K hHeld
            try simp only [Act.put, List.setIfInBounds_toArray, List.set_cons_zero, List.set_cons_succ]
            refine wpAnyH_ready (rs := [3]) (by kernel_rfl) (by simp) (AllReadyH.cons (o := (Oper.mk (some 35) (Op.call (Call.mk (Callee.value (Operand.func 20)) #[(Operand.tmp 34)] #[59])) 43 "read.go:41" #[(Edge.mk 2 Ground.data)] none)) rfl (fun K hK => ?_) AllReadyH.nil)
            go_simp
            go_at_call 20
            refine (hfn.out _ hPd.out).mono ?_
            rintro e w6 ⟨hT6, hx⟩
            dsimp only at hx
            obtain ⟨a1, c1, a2, c2, i6, rfl, hl6, hP6, hnb6, hrd6⟩ := hx
            have t6 : Touch w4 w6 (fun k => k = pb) := (Touch.refl w4 _).drew.trans hT6
            have hB6 : w6.heap[b2]? = some (.cells #[.slice av n2 cv] 24 (0, 0)) := (t6.block b2 (Nat.lt_of_lt_of_le hL4.out.lt hL4.out.p.top) hL4.out.neP).trans hB4.out
            have z6 : w6.cell? ⟨b2, 0, none⟩ = some (.slice av n2 cv) := by
              rw [blk_cell hB6]
              rfl
            obtain ⟨xs, hx1, hx2⟩ := hL4.out.row
            have hlow6 : B ≤ w6.heap.size := hP6.top
            have h2i := hL4.out.n
            have hi6 : i2 + 1 ≤ i6 := by
              have h7 := hlt.out
              have h8 := hP6.here
              have h9 := hL4.out.p.here
              rw [hl6, List.length_drop, List.length_drop] at h7
              omega
            have hi6T : i6 < T.length := hP6.here
            have hlenT := hP6.ok.len
            have hnB : ∀ g, (Value.slice av n2 cv).ownBlock = some g → B ≤ g := fun g hg => (hx1.lt g hg).1
            have hpbB := hL4.out.p.ltP
            have hb2B := hL4.out.lt
            have hb2l : b2 < w6.heap.size := Nat.lt_of_lt_of_le hb2B hlow6
            rw [← hn2.out] at h2i
            have hO6 := ownsRow_touch hx1 t6 (fun g hg e => by have := hnB g hg; omega)
            rw [← hn2.out] at hO6
            have hown := Lib.hid (ownsRow_touch (S := fun _ => False) hO6 ((Touch.refl w6 _).alloc (.cells #[.string d3.name, .slice a1 d3.params.length c1, .slice a2 d3.blocks.length c2] 43)) (fun _ _ h => h))
            replace hx1 := Lib.hid hx1
            replace hx2 := Lib.hid hx2
            replace t6 := Lib.hid t6
            replace hB6 := Lib.hid hB6
            replace hP6 := Lib.hid hP6
            replace hrd6 := Lib.hid hrd6
            replace hl6 := Lib.hid hl6
            replace hnB := Lib.hid hnB
            clear hT6 hnb6 hO6
            go_simp
            refine hK.out _ _ trivial (fun hHeld => ?_)
            clear hK K hHeld
            try simp only [Act.put, List.setIfInBounds_toArray, List.set_cons_zero, List.set_cons_succ]
            refine wpAnyH_ready (rs := [4]) (by kernel_rfl) (by simp) (AllReadyH.cons (o := (Oper.mk (some 36) (Op.buildSlice 22 1 #[(0, (Operand.tmp 35))]) 22 "read.go:41" #[(Edge.mk 3 Ground.data)] none)) rfl (fun K hK => ?_) AllReadyH.nil)
            go_simp
            skip
            refine hK.out _ _ trivial (fun hHeld => ?_)
            clear hK K hHeld
            try simp only [Act.put, List.setIfInBounds_toArray, List.set_cons_zero, List.set_cons_succ]
            refine wpAnyH_ready (rs := [5]) (by kernel_rfl) (by simp) (AllReadyH.cons (o := (Oper.mk (some 37) (Op.call (Call.mk (Callee.builtin Builtin.append) #[(Operand.tmp 33), (Operand.tmp 36)] #[22, 22])) 22 "read.go:41" #[(Edge.mk 1 Ground.data), (Edge.mk 4 Ground.data), (Edge.mk 3 Ground.chain)] none)) rfl (fun K hK => ?_) AllReadyH.nil)
            refine step_append_lies _ (by rfl) _ _ _ (by rfl) B 43 i0 _ 3 64 Tryd.underlying22 hi0 hz0 hz1 hz2 rfl (by omega) (.slice av n2 cv) n2 xs (by rfl) hown.out ⟨w6.heap.size, 0, none⟩ 1 1 [.string d3.name, .slice a1 d3.params.length c1, .slice a2 d3.blocks.length c2] (by rfl) (by rfl) (World.news_of_block (cs := #[.string d3.name, .slice a1 d3.params.length c1, .slice a2 d3.blocks.length c2]) (t := 43) (fr := (0, 0)) (heap_alloc_new w6 _)) (by simp [Value.oneCell']) (by omega) (by unfold maxLen; omega) (by omega) (by simp; omega) (w6.heap.size + 1) (by simp) ?_
            intro gg cap2 w7 hO7 hg7 hat7 hlt7
            have h88 : LAt B (w7.setCell ⟨b2, 0, none⟩ (.slice (some ⟨gg, 0, none⟩) (n2 + 1) cap2)) b2 pb gw cw T i6 ln6 vb bb (acc2 ++ [d3]) (.slice (some ⟨gg, 0, none⟩) (n2 + 1) cap2) ∧ Touch w4 (w7.setCell ⟨b2, 0, none⟩ (.slice (some ⟨gg, 0, none⟩) (n2 + 1) cap2)) (fun k => k = pb ∨ k = b2 ∨ B ≤ k) := by
              have hO7 := hO7
              have hL := hL4.out
              have hx1 := hx1.out
              have hx2 := hx2.out
              have hgx := hg7
              rw [hn2.out] at hO7 ⊢
              rw [hn2.out] at hL hx1 hx2 hgx hat7
              exact LAt.add hL t6.out hP6.out hi6 hrd6.out hx1 hx2 hO7 hgx hat7
            have hB7 : w7.heap[b2]? = some (.cells #[.slice av n2 cv] 24 (0, 0)) := ((((Touch.refl w6 (fun k => (Value.slice av n2 cv).ownBlock = some k)).alloc (.cells #[.string d3.name, .slice a1 d3.params.length c1, .slice a2 d3.blocks.length c2] 43)).trans (Touch.of_grown hg7 (fun k e => e))).block b2 hb2l (fun e => by have := hnB.out _ e; omega)).trans hB6.out
            have z7 : w7.cell? ⟨b2, 0, none⟩ = some (.slice av n2 cv) := by
              rw [blk_cell hB7]
              rfl
            have y7 := frozB hB7 0
            have h88 := Lib.hid h88
            have hgl : gg < w7.heap.size := hlt7
            clear hO7 hg7 hat7 hown hlt7 z6 hB7
            refine hK.out _ _ trivial (fun hHeld => ?_)
            clear hK K hHeld
            try simp only [Act.put, List.setIfInBounds_toArray, List.set_cons_zero, List.set_cons_succ]
            refine wpAnyH_take (i := 6) (oi := (Oper.mk (some 38) (Op.fieldAddr 24 (Operand.tmp 2) 0) 0 "read.go:41" #[(Edge.mk 0 Ground.phase), (Edge.mk 1 Ground.phase), (Edge.mk 2 Ground.phase), (Edge.mk 3 Ground.phase), (Edge.mk 4 Ground.phase), (Edge.mk 5 Ground.phase)] none)) (v := ?_) rfl (by kernel_rfl) (by kernel_rfl) (by kernel_rfl) (fun _ _ _ h => hPn h rfl (put_at _ _ _ _ (by decide)) (put_at _ _ _ _ (by decide)) (put_at _ _ _ _ (by decide))) (Or.inl ⟨by rfl, ?_⟩) trivial ?_
            rotate_left
            · (intro w hSw; (try dsimp only at hSw); go_simp; try with_reducible rfl)
            try simp only [Act.put, List.setIfInBounds_toArray, List.set_cons_zero, List.set_cons_succ]
            refine wpAnyH_ready (rs := [7]) (by kernel_rfl) (by simp) (AllReadyH.cons (o := (Oper.mk none (Op.store 22 (Operand.tmp 38) (Operand.tmp 37)) 0 "read.go:41" #[(Edge.mk 6 Ground.data), (Edge.mk 5 Ground.data), (Edge.mk 5 Ground.chain), (Edge.mk 0 Ground.phase), (Edge.mk 1 Ground.phase), (Edge.mk 2 Ground.phase), (Edge.mk 3 Ground.phase), (Edge.mk 4 Ground.phase), (Edge.mk 5 Ground.phase)] none)) rfl (fun K hK => ?_) AllReadyH.nil)
            go_simp
            skip
            refine hK.out _ _ trivial (fun hHeld => ?_)
            clear hK K hHeld
            try simp only [Act.put, List.setIfInBounds_toArray, List.set_cons_zero, List.set_cons_succ]
            refine wpAnyH_done (by kernel_rfl) ?_ _
            have hL8 := h88.out.1
            have t8 := Lib.hid (t4.out.trans h88.out.2)
            replace hL8 := Lib.hid hL8
            have hbg2 := Lib.hid (hbg.out _ i6 hl6.out hL8.out.p)
            clear h88
            go_wp2_with (go_at_call 18; refine hbg2.out.mono ?_; rintro e w9 ⟨rfl, hP9, hT9⟩)
            have hfin : Hid (R = progP m (acc2 ++ [d3]) (T.drop i6) ln7 ∧ (T.drop i6).length + 1 ≤ m ∧ LAt B w9 b2 pb gw cw T i6 ln7 vb bb (acc2 ++ [d3]) (.slice (some ⟨gg, 0, none⟩) (n2 + 1) cap2) ∧ Touch w w9 (fun k => k = pb ∨ k = b2 ∨ B ≤ k)) := Lib.hid ⟨by rw [hR.out, hl6.out], by have h1 := hlt.out; rw [hl6.out] at h1; omega, hL8.out.on hT9 hP9 (Nat.le_refl _), t8.out.trans (hT9.mono fun k _ e => .inl e)⟩
            clear hP9 hT9 hL8 hl6 t8 hbg2 hR hlt hT hS hx1 hx2 t6 hB6 hP6 hrd6 hnB hB4 hL4 hPd t4
            go_roundg m
            case rel => exact ⟨i6, ln7, acc2 ++ [d3], _, hfin⟩
            case measure => omega
          · skip
            go_simp
            go_at_call 20
            refine (hfn.out _ hPd.out).mono ?_
            rintro e w6 ⟨hT6, hx⟩
            dsimp only at hx
            obtain ⟨a1, c1, a2, c2, i6, rfl, hl6, hP6, hnb6, hrd6⟩ := hx
            have t6 : Touch w4 w6 (fun k => k = pb) := (Touch.refl w4 _).drew.trans hT6
            have hB6 : w6.heap[b2]? = some (.cells #[.slice av n2 cv] 24 (0, 0)) := (t6.block b2 (Nat.lt_of_lt_of_le hL4.out.lt hL4.out.p.top) hL4.out.neP).trans hB4.out
            have z6 : w6.cell? ⟨b2, 0, none⟩ = some (.slice av n2 cv) := by
              rw [blk_cell hB6]
              rfl
            obtain ⟨xs, hx1, hx2⟩ := hL4.out.row
            have hlow6 : B ≤ w6.heap.size := hP6.top
            have h2i := hL4.out.n
            have hi6 : i2 + 1 ≤ i6 := by
              have h7 := hlt.out
              have h8 := hP6.here
              have h9 := hL4.out.p.here
              rw [hl6, List.length_drop, List.length_drop] at h7
              omega
            have hi6T : i6 < T.length := hP6.here
            have hlenT := hP6.ok.len
            have hnB : ∀ g, (Value.slice av n2 cv).ownBlock = some g → B ≤ g := fun g hg => (hx1.lt g hg).1
            have hpbB := hL4.out.p.ltP
            have hb2B := hL4.out.lt
            have hb2l : b2 < w6.heap.size := Nat.lt_of_lt_of_le hb2B hlow6
            rw [← hn2.out] at h2i
            have hO6 := ownsRow_touch hx1 t6 (fun g hg e => by have := hnB g hg; omega)
            rw [← hn2.out] at hO6
            have hown := Lib.hid (ownsRow_touch (S := fun _ => False) hO6 ((Touch.refl w6 _).alloc (.cells #[.string d3.name, .slice a1 d3.params.length c1, .slice a2 d3.blocks.length c2] 43)) (fun _ _ h => h))
            replace hx1 := Lib.hid hx1
            replace hx2 := Lib.hid hx2
            replace t6 := Lib.hid t6
            replace hB6 := Lib.hid hB6
            replace hP6 := Lib.hid hP6
            replace hrd6 := Lib.hid hrd6
            replace hl6 := Lib.hid hl6
            replace hnB := Lib.hid hnB
            clear hT6 hnb6 hO6
            go_simp
            refine hK.out _ _ trivial (fun hHeld => ?_)
            clear hK K hHeld
            try simp only [Act.put, List.setIfInBounds_toArray, List.set_cons_zero, List.set_cons_succ]
            refine wpAnyH_ready (rs := [1, 4]) (by kernel_rfl) (by simp) (AllReadyH.cons (o := (Oper.mk (some 33) (Op.load 22 (Operand.tmp 32)) 22 "read.go:41" #[(Edge.mk 0 Ground.data)] none)) rfl (fun K hK => ?_) (AllReadyH.cons (o := (Oper.mk (some 36) (Op.buildSlice 22 1 #[(0, (Operand.tmp 35))]) 22 "read.go:41" #[(Edge.mk 3 Ground.data)] none)) rfl (fun K hK => ?_) AllReadyH.nil))
            · skip
              go_simp
              skip
              refine hK.out _ _ trivial (fun hHeld => ?_)
              clear hK K hHeld
              try simp only [Act.put, List.setIfInBounds_toArray, List.set_cons_zero, List.set_cons_succ]
              refine wpAnyH_ready (rs := [4]) (by kernel_rfl) (by simp) (AllReadyH.cons (o := (Oper.mk (some 36) (Op.buildSlice 22 1 #[(0, (Operand.tmp 35))]) 22 "read.go:41" #[(Edge.mk 3 Ground.data)] none)) rfl (fun K hK => ?_) AllReadyH.nil)
              go_simp
              skip
              refine hK.out _ _ trivial (fun hHeld => ?_)
              clear hK K hHeld
              try simp only [Act.put, List.setIfInBounds_toArray, List.set_cons_zero, List.set_cons_succ]
              refine wpAnyH_ready (rs := [5]) (by kernel_rfl) (by simp) (AllReadyH.cons (o := (Oper.mk (some 37) (Op.call (Call.mk (Callee.builtin Builtin.append) #[(Operand.tmp 33), (Operand.tmp 36)] #[22, 22])) 22 "read.go:41" #[(Edge.mk 1 Ground.data), (Edge.mk 4 Ground.data), (Edge.mk 3 Ground.chain)] none)) rfl (fun K hK => ?_) AllReadyH.nil)
              refine step_append_lies _ (by rfl) _ _ _ (by rfl) B 43 i0 _ 3 64 Tryd.underlying22 hi0 hz0 hz1 hz2 rfl (by omega) (.slice av n2 cv) n2 xs (by rfl) hown.out ⟨w6.heap.size, 0, none⟩ 1 1 [.string d3.name, .slice a1 d3.params.length c1, .slice a2 d3.blocks.length c2] (by rfl) (by rfl) (World.news_of_block (cs := #[.string d3.name, .slice a1 d3.params.length c1, .slice a2 d3.blocks.length c2]) (t := 43) (fr := (0, 0)) (heap_alloc_new w6 _)) (by simp [Value.oneCell']) (by omega) (by unfold maxLen; omega) (by omega) (by simp; omega) (w6.heap.size + 1) (by simp) ?_
              intro gg cap2 w7 hO7 hg7 hat7 hlt7
              have h88 : LAt B (w7.setCell ⟨b2, 0, none⟩ (.slice (some ⟨gg, 0, none⟩) (n2 + 1) cap2)) b2 pb gw cw T i6 ln6 vb bb (acc2 ++ [d3]) (.slice (some ⟨gg, 0, none⟩) (n2 + 1) cap2) ∧ Touch w4 (w7.setCell ⟨b2, 0, none⟩ (.slice (some ⟨gg, 0, none⟩) (n2 + 1) cap2)) (fun k => k = pb ∨ k = b2 ∨ B ≤ k) := by
                have hO7 := hO7
                have hL := hL4.out
                have hx1 := hx1.out
                have hx2 := hx2.out
                have hgx := hg7
                rw [hn2.out] at hO7 ⊢
                rw [hn2.out] at hL hx1 hx2 hgx hat7
                exact LAt.add hL t6.out hP6.out hi6 hrd6.out hx1 hx2 hO7 hgx hat7
              have hB7 : w7.heap[b2]? = some (.cells #[.slice av n2 cv] 24 (0, 0)) := ((((Touch.refl w6 (fun k => (Value.slice av n2 cv).ownBlock = some k)).alloc (.cells #[.string d3.name, .slice a1 d3.params.length c1, .slice a2 d3.blocks.length c2] 43)).trans (Touch.of_grown hg7 (fun k e => e))).block b2 hb2l (fun e => by have := hnB.out _ e; omega)).trans hB6.out
              have z7 : w7.cell? ⟨b2, 0, none⟩ = some (.slice av n2 cv) := by
                rw [blk_cell hB7]
                rfl
              have y7 := frozB hB7 0
              have h88 := Lib.hid h88
              have hgl : gg < w7.heap.size := hlt7
              clear hO7 hg7 hat7 hown hlt7 z6 hB7
              refine hK.out _ _ trivial (fun hHeld => ?_)
              clear hK K hHeld
              try simp only [Act.put, List.setIfInBounds_toArray, List.set_cons_zero, List.set_cons_succ]
              refine wpAnyH_take (i := 6) (oi := (Oper.mk (some 38) (Op.fieldAddr 24 (Operand.tmp 2) 0) 0 "read.go:41" #[(Edge.mk 0 Ground.phase), (Edge.mk 1 Ground.phase), (Edge.mk 2 Ground.phase), (Edge.mk 3 Ground.phase), (Edge.mk 4 Ground.phase), (Edge.mk 5 Ground.phase)] none)) (v := ?_) rfl (by kernel_rfl) (by kernel_rfl) (by kernel_rfl) (fun _ _ _ h => hPn h rfl (put_at _ _ _ _ (by decide)) (put_at _ _ _ _ (by decide)) (put_at _ _ _ _ (by decide))) (Or.inl ⟨by rfl, ?_⟩) trivial ?_
              rotate_left
              · (intro w hSw; (try dsimp only at hSw); go_simp; try with_reducible rfl)
              try simp only [Act.put, List.setIfInBounds_toArray, List.set_cons_zero, List.set_cons_succ]
              refine wpAnyH_ready (rs := [7]) (by kernel_rfl) (by simp) (AllReadyH.cons (o := (Oper.mk none (Op.store 22 (Operand.tmp 38) (Operand.tmp 37)) 0 "read.go:41" #[(Edge.mk 6 Ground.data), (Edge.mk 5 Ground.data), (Edge.mk 5 Ground.chain), (Edge.mk 0 Ground.phase), (Edge.mk 1 Ground.phase), (Edge.mk 2 Ground.phase), (Edge.mk 3 Ground.phase), (Edge.mk 4 Ground.phase), (Edge.mk 5 Ground.phase)] none)) rfl (fun K hK => ?_) AllReadyH.nil)
              go_simp
              skip
              refine hK.out _ _ trivial (fun hHeld => ?_)
              clear hK K hHeld
              try simp only [Act.put, List.setIfInBounds_toArray, List.set_cons_zero, List.set_cons_succ]
              refine wpAnyH_done (by kernel_rfl) ?_ _
              have hL8 := h88.out.1
              have t8 := Lib.hid (t4.out.trans h88.out.2)
              replace hL8 := Lib.hid hL8
              have hbg2 := Lib.hid (hbg.out _ i6 hl6.out hL8.out.p)
              clear h88
              go_wp2_with (go_at_call 18; refine hbg2.out.mono ?_; rintro e w9 ⟨rfl, hP9, hT9⟩)
              have hfin : Hid (R = progP m (acc2 ++ [d3]) (T.drop i6) ln7 ∧ (T.drop i6).length + 1 ≤ m ∧ LAt B w9 b2 pb gw cw T i6 ln7 vb bb (acc2 ++ [d3]) (.slice (some ⟨gg, 0, none⟩) (n2 + 1) cap2) ∧ Touch w w9 (fun k => k = pb ∨ k = b2 ∨ B ≤ k)) := Lib.hid ⟨by rw [hR.out, hl6.out], by have h1 := hlt.out; rw [hl6.out] at h1; omega, hL8.out.on hT9 hP9 (Nat.le_refl _), t8.out.trans (hT9.mono fun k _ e => .inl e)⟩
              clear hP9 hT9 hL8 hl6 t8 hbg2 hR hlt hT hS hx1 hx2 t6 hB6 hP6 hrd6 hnB hB4 hL4 hPd t4
              go_roundg m
              case rel => exact ⟨i6, ln7, acc2 ++ [d3], _, hfin⟩
              case measure => omega
            · skip
              go_simp
              skip
              refine hK.out _ _ trivial (fun hHeld => ?_)
              clear hK K hHeld
              try simp only [Act.put, List.setIfInBounds_toArray, List.set_cons_zero, List.set_cons_succ]
              refine wpAnyH_ready (rs := [1]) (by kernel_rfl) (by simp) (AllReadyH.cons (o := (Oper.mk (some 33) (Op.load 22 (Operand.tmp 32)) 22 "read.go:41" #[(Edge.mk 0 Ground.data)] none)) rfl (fun K hK => ?_) AllReadyH.nil)
              go_simp
              skip
              refine hK.out _ _ trivial (fun hHeld => ?_)
              clear hK K hHeld
              try simp only [Act.put, List.setIfInBounds_toArray, List.set_cons_zero, List.set_cons_succ]
              refine wpAnyH_ready (rs := [5]) (by kernel_rfl) (by simp) (AllReadyH.cons (o := (Oper.mk (some 37) (Op.call (Call.mk (Callee.builtin Builtin.append) #[(Operand.tmp 33), (Operand.tmp 36)] #[22, 22])) 22 "read.go:41" #[(Edge.mk 1 Ground.data), (Edge.mk 4 Ground.data), (Edge.mk 3 Ground.chain)] none)) rfl (fun K hK => ?_) AllReadyH.nil)
              refine step_append_lies _ (by rfl) _ _ _ (by rfl) B 43 i0 _ 3 64 Tryd.underlying22 hi0 hz0 hz1 hz2 rfl (by omega) (.slice av n2 cv) n2 xs (by rfl) hown.out ⟨w6.heap.size, 0, none⟩ 1 1 [.string d3.name, .slice a1 d3.params.length c1, .slice a2 d3.blocks.length c2] (by rfl) (by rfl) (World.news_of_block (cs := #[.string d3.name, .slice a1 d3.params.length c1, .slice a2 d3.blocks.length c2]) (t := 43) (fr := (0, 0)) (heap_alloc_new w6 _)) (by simp [Value.oneCell']) (by omega) (by unfold maxLen; omega) (by omega) (by simp; omega) (w6.heap.size + 1) (by simp) ?_
              intro gg cap2 w7 hO7 hg7 hat7 hlt7
              have h88 : LAt B (w7.setCell ⟨b2, 0, none⟩ (.slice (some ⟨gg, 0, none⟩) (n2 + 1) cap2)) b2 pb gw cw T i6 ln6 vb bb (acc2 ++ [d3]) (.slice (some ⟨gg, 0, none⟩) (n2 + 1) cap2) ∧ Touch w4 (w7.setCell ⟨b2, 0, none⟩ (.slice (some ⟨gg, 0, none⟩) (n2 + 1) cap2)) (fun k => k = pb ∨ k = b2 ∨ B ≤ k) := by
                have hO7 := hO7
                have hL := hL4.out
                have hx1 := hx1.out
                have hx2 := hx2.out
                have hgx := hg7
                rw [hn2.out] at hO7 ⊢
                rw [hn2.out] at hL hx1 hx2 hgx hat7
                exact LAt.add hL t6.out hP6.out hi6 hrd6.out hx1 hx2 hO7 hgx hat7
              have hB7 : w7.heap[b2]? = some (.cells #[.slice av n2 cv] 24 (0, 0)) := ((((Touch.refl w6 (fun k => (Value.slice av n2 cv).ownBlock = some k)).alloc (.cells #[.string d3.name, .slice a1 d3.params.length c1, .slice a2 d3.blocks.length c2] 43)).trans (Touch.of_grown hg7 (fun k e => e))).block b2 hb2l (fun e => by have := hnB.out _ e; omega)).trans hB6.out
              have z7 : w7.cell? ⟨b2, 0, none⟩ = some (.slice av n2 cv) := by
                rw [blk_cell hB7]
                rfl
              have y7 := frozB hB7 0
              have h88 := Lib.hid h88
              have hgl : gg < w7.heap.size := hlt7
              clear hO7 hg7 hat7 hown hlt7 z6 hB7
              refine hK.out _ _ trivial (fun hHeld => ?_)
              clear hK K hHeld
              try simp only [Act.put, List.setIfInBounds_toArray, List.set_cons_zero, List.set_cons_succ]
              refine wpAnyH_take (i := 6) (oi := (Oper.mk (some 38) (Op.fieldAddr 24 (Operand.tmp 2) 0) 0 "read.go:41" #[(Edge.mk 0 Ground.phase), (Edge.mk 1 Ground.phase), (Edge.mk 2 Ground.phase), (Edge.mk 3 Ground.phase), (Edge.mk 4 Ground.phase), (Edge.mk 5 Ground.phase)] none)) (v := ?_) rfl (by kernel_rfl) (by kernel_rfl) (by kernel_rfl) (fun _ _ _ h => hPn h rfl (put_at _ _ _ _ (by decide)) (put_at _ _ _ _ (by decide)) (put_at _ _ _ _ (by decide))) (Or.inl ⟨by rfl, ?_⟩) trivial ?_
              rotate_left
              · (intro w hSw; (try dsimp only at hSw); go_simp; try with_reducible rfl)
              try simp only [Act.put, List.setIfInBounds_toArray, List.set_cons_zero, List.set_cons_succ]
              refine wpAnyH_ready (rs := [7]) (by kernel_rfl) (by simp) (AllReadyH.cons (o := (Oper.mk none (Op.store 22 (Operand.tmp 38) (Operand.tmp 37)) 0 "read.go:41" #[(Edge.mk 6 Ground.data), (Edge.mk 5 Ground.data), (Edge.mk 5 Ground.chain), (Edge.mk 0 Ground.phase), (Edge.mk 1 Ground.phase), (Edge.mk 2 Ground.phase), (Edge.mk 3 Ground.phase), (Edge.mk 4 Ground.phase), (Edge.mk 5 Ground.phase)] none)) rfl (fun K hK => ?_) AllReadyH.nil)
              go_simp
              skip
              refine hK.out _ _ trivial (fun hHeld => ?_)
              clear hK K hHeld
              try simp only [Act.put, List.setIfInBounds_toArray, List.set_cons_zero, List.set_cons_succ]
              refine wpAnyH_done (by kernel_rfl) ?_ _
              have hL8 := h88.out.1
              have t8 := Lib.hid (t4.out.trans h88.out.2)
              replace hL8 := Lib.hid hL8
              have hbg2 := Lib.hid (hbg.out _ i6 hl6.out hL8.out.p)
              clear h88
              go_wp2_with (go_at_call 18; refine hbg2.out.mono ?_; rintro e w9 ⟨rfl, hP9, hT9⟩)
              have hfin : Hid (R = progP m (acc2 ++ [d3]) (T.drop i6) ln7 ∧ (T.drop i6).length + 1 ≤ m ∧ LAt B w9 b2 pb gw cw T i6 ln7 vb bb (acc2 ++ [d3]) (.slice (some ⟨gg, 0, none⟩) (n2 + 1) cap2) ∧ Touch w w9 (fun k => k = pb ∨ k = b2 ∨ B ≤ k)) := Lib.hid ⟨by rw [hR.out, hl6.out], by have h1 := hlt.out; rw [hl6.out] at h1; omega, hL8.out.on hT9 hP9 (Nat.le_refl _), t8.out.trans (hT9.mono fun k _ e => .inl e)⟩
              clear hP9 hT9 hL8 hl6 t8 hbg2 hR hlt hT hS hx1 hx2 t6 hB6 hP6 hrd6 hnB hB4 hL4 hPd t4
              go_roundg m
              case rel => exact ⟨i6, ln7, acc2 ++ [d3], _, hfin⟩
              case measure => omega
end
end
section
open Go.RowKit Go.Maps Go.Shelf
attribute [local go_sem] Oper.semAt_some fld0 fld1 fld2

theorem lexN_err : ∀ (n : Nat) (l : List UInt8) (ln cl a b er : Nat), l.length ≤ n → lexN n l ln cl = .error (a, b, er) → er ≠ 0
  | n, [], ln, cl, a, b, er, _, h => by rw [lexN.eq_def] at h; cases h
  | 0, c :: r, ln, cl, a, b, er, hn, h => by simp at hn
  | n + 1, c :: r, ln, cl, a, b, er, hn, h => by
    rw [lexN] at h
    cases hs : stepL (c :: r) ln cl with
    | error e =>
      rw [hs] at h
      injection h with h
      subst h
      exact step_err hs
    | ok x =>
      obtain ⟨k, ln', cl', t⟩ := x
      rw [hs] at h
      have hp := step_pos hs
      cases hr : lexN n ((c :: r).drop k) ln' cl' with
      | ok T => have h : add t (lexN n ((c :: r).drop k) ln' cl') = .error (a, b, er) := h; rw [hr] at h; cases h
      | error e =>
        have h : add t (lexN n ((c :: r).drop k) ln' cl') = .error (a, b, er) := h
        rw [hr] at h
        injection h with h
        subst h
        exact lexN_err n _ _ _ _ _ _ (by rw [List.length_drop]; omega) hr
/-- How Parse ends. -/
def ParsePost (w : World) (R : Except Flt (List Fun)) (e : Ending) (w' : World) : Prop :=
  Below w.heap.size w w' ∧ match R with
  | .error (l, c, er) => e = .returned (.tuple #[.agg #[.slice none 0 0], .agg #[.int .i64 l, .int .i64 c], .int .i64 er])
  | .ok P => ∃ v, e = .returned (.tuple #[.agg #[v], .agg #[.int .i64 0, .int .i64 0], .int .i64 0]) ∧ ∀ w'', Touch w' w'' (fun k => k < w.heap.size) → REU 3 RdFunU w'' v P
section
variable {w : World} {s : ByteArray}
/-- The three boxes of the answer. -/
def boxes (w : World) : World := ((w.alloc (.cells #[.slice none 0 0] 24)).alloc (.cells #[.int .i64 0, .int .i64 0] 26)).alloc (.cells #[.int .i64 0] 27)
theorem boxes_facts (w : World) : (boxes w).heap.size = w.heap.size + 3 ∧ (boxes w).heap[w.heap.size]? = some (.cells #[.slice none 0 0] 24 (0, 0)) ∧ (boxes w).heap[w.heap.size + 1]? = some (.cells #[.int .i64 0, .int .i64 0] 26 (0, 0)) ∧ (boxes w).heap[w.heap.size + 2]? = some (.cells #[.int .i64 0] 27 (0, 0)) ∧ Below w.heap.size w (boxes w) := by
  unfold boxes
  refine ⟨by simp, at_oldP (at_oldP (at_newP rfl)), at_oldP (at_newP (by simp)), at_newP (by simp), (((Below.refl _ _).alloc (by simp) _).alloc (by simp) _).alloc (by simp; omega) _⟩
/-- The three boxes, with letters. -/
structure Bxs (w0 w : World) (b2 b3 b4 : Nat) : Prop where
  e2 : b2 = w0.heap.size
  e3 : b3 = b2 + 1
  e4 : b4 = b2 + 2
  top : b2 + 3 ≤ w.heap.size
  bel : Below w0.heap.size w0 w
theorem boxes_all (w : World) : ∃ b2 b3 b4, Bxs w (boxes w) b2 b3 b4 ∧ b2 = w.heap.size ∧ b3 = w.heap.size + 1 ∧ b4 = w.heap.size + 1 + 1 ∧ (boxes w).heap[b2]? = some (.cells #[.slice none 0 0] 24 (0, 0)) ∧ (boxes w).heap[b3]? = some (.cells #[.int .i64 0, .int .i64 0] 26 (0, 0)) ∧ (boxes w).heap[b4]? = some (.cells #[.int .i64 0] 27 (0, 0)) := by
  obtain ⟨h1, h2, h3, h4, h5⟩ := boxes_facts w
  exact ⟨_, _, _, ⟨rfl, rfl, rfl, Nat.le_of_eq h1.symm, h5⟩, rfl, rfl, rfl, h2, h3, h4⟩
set_option maxRecDepth 20000 in
set_option maxHeartbeats 2000000 in
theorem parse_bad {l c er : Nat} (hne : er ≠ 0) (hk : ∀ w', Calls Tryd.prog 13 #[.string s] w' fun e w'' => e = .returned (.tuple #[.slice none 0 0, .agg #[.int .i64 l, .int .i64 c], .int .i64 er]) ∧ Below w'.heap.size w' w'') : Calls Tryd.prog 9 #[.string s] w (ParsePost w (.error (l, c, er))) := by
  obtain ⟨b2, b3, b4, hX, q2, q3, q4, x2, x3, x4⟩ := boxes_all w
  have hk2 := Lib.hid (hk (boxes w))
  have g1 : ((er : Int) != 0) = true := by simpa using hne
  replace hX := Lib.hid hX
  replace x2 := Lib.hid x2
  replace x3 := Lib.hid x3
  replace x4 := Lib.hid x4
  replace q2 := Lib.hid q2
  replace q3 := Lib.hid q3
  replace q4 := Lib.hid q4
  clear hk
  go_enter_defers Tryd.func9, Tryd.ntmps9
  go_upto_region 1 with fail
  rw [← q4.out, ← q3.out, ← q2.out]
  change Code.wp _ _ _ _ (boxes w)
  go_wp2_with fail
  refine hk2.out.mono ?_
  rintro e w2 ⟨rfl, hb2⟩
  have y2 := keepB hb2 x2.out
  have y3 := keepB hb2 x3.out
  have y4 := keepB hb2 x4.out
  have hX := hX.out
  have n23 : b2 ≠ b3 := by have := hX.e3; omega
  have n24 : b2 ≠ b4 := by have := hX.e4; omega
  have n34 : b3 ≠ b4 := by have := hX.e3; have := hX.e4; omega
  have c2 : w2.cell? ⟨b2, 0, none⟩ = some (.slice none 0 0) := by rw [blk_cell y2]; rfl
  obtain ⟨c30, c31⟩ := cells2P y3
  have c4 : w2.cell? ⟨b4, 0, none⟩ = some (.int .i64 0) := by rw [blk_cell y4]; rfl
  have f2 := frozB y2 0
  have f3 := frozB y3 0
  have f31 := frozB y3 1
  have f4 := frozB y4 0
  have hbel := Lib.hid (hX.bel.trans (hb2.mono (by have := hX.top; have := hX.e2; omega)))
  have hX := Lib.hid hX
  have y2 := Lib.hid y2
  have y3 := Lib.hid y3
  have y4 := Lib.hid y4
  clear hb2 hk2
  go_upto_region 3 with fail
  have z2 : (((w2.setCell ⟨b3, 0, none⟩ (.int .i64 l)).setCell ⟨b3, 1, none⟩ (.int .i64 c)).setCell ⟨b4, 0, none⟩ (.int .i64 er)).heap[b2]? = some (.cells #[.slice none 0 0] 24 (0, 0)) := by
    rw [heap_setCell_other _ _ _ _ n24, heap_setCell_other _ _ _ _ n23, heap_setCell_other _ _ _ _ n23]
    exact y2.out
  have z3 : (((w2.setCell ⟨b3, 0, none⟩ (.int .i64 l)).setCell ⟨b3, 1, none⟩ (.int .i64 c)).setCell ⟨b4, 0, none⟩ (.int .i64 er)).heap[b3]? = some (.cells #[.int .i64 l, .int .i64 c] 26 (0, 0)) := by
    rw [heap_setCell_other _ _ _ _ n34, heap_setCell_same _ _ _ _ _ _ (heap_setCell_same _ _ _ _ _ _ y3.out)]
    rfl
  have z4 : (((w2.setCell ⟨b3, 0, none⟩ (.int .i64 l)).setCell ⟨b3, 1, none⟩ (.int .i64 c)).setCell ⟨b4, 0, none⟩ (.int .i64 er)).heap[b4]? = some (.cells #[.int .i64 er] 27 (0, 0)) := by
    rw [heap_setCell_same _ _ _ _ _ _ ((heap_setCell_other _ _ _ _ n34.symm).trans ((heap_setCell_other _ _ _ _ n34.symm).trans y4.out))]
    rfl
  have hx := hX.out
  have hbz : Below w.heap.size w (((w2.setCell ⟨b3, 0, none⟩ (.int .i64 l)).setCell ⟨b3, 1, none⟩ (.int .i64 c)).setCell ⟨b4, 0, none⟩ (.int .i64 er)) := ((hbel.out.setCell (p := ⟨b3, 0, none⟩) (by have := hx.e2; have := hx.e3; show w.heap.size ≤ b3; omega) _).setCell (p := ⟨b3, 1, none⟩) (by have := hx.e2; have := hx.e3; show w.heap.size ≤ b3; omega) _).setCell (p := ⟨b4, 0, none⟩) (by have := hx.e2; have := hx.e4; show w.heap.size ≤ b4; omega) _
  generalize (((w2.setCell ⟨b3, 0, none⟩ (.int .i64 l)).setCell ⟨b3, 1, none⟩ (.int .i64 c)).setCell ⟨b4, 0, none⟩ (.int .i64 er)) = w3 at z2 z3 z4 hbz ⊢
  clear c2 c30 c31 c4 f2 f3 f31 f4 y2 y3 y4 hbel hx
  have c2 : w3.cell? ⟨b2, 0, none⟩ = some (.slice none 0 0) := by rw [blk_cell z2]; rfl
  obtain ⟨c30, c31⟩ := cells2P z3
  have c4 : w3.cell? ⟨b4, 0, none⟩ = some (.int .i64 er) := by rw [blk_cell z4]; rfl
  have f2 := frozB z2 0
  have f3 := frozB z3 0
  have f31 := frozB z3 1
  have f4 := frozB z4 0
  have hS : w3.cell? ⟨b3, 0, none⟩ = some (.int .i64 l) ∧ w3.cell? ⟨b3, 1, none⟩ = some (.int .i64 c) ∧ w3.cell? ⟨b4, 0, none⟩ = some (.int .i64 er) := ⟨c30, c31, c4⟩
  replace z2 := Lib.hid z2
  replace z3 := Lib.hid z3
  replace z4 := Lib.hid z4
  replace hbz := Lib.hid hbz
  refine wp_region_noPanic ?_
  go_region_held3 (fun w' => w'.cell? ⟨b3, 0, none⟩ = some (.int .i64 l) ∧ w'.cell? ⟨b3, 1, none⟩ = some (.int .i64 c) ∧ w'.cell? ⟨b4, 0, none⟩ = some (.int .i64 er)) (simp [go_sem, *]) (go_simp)
  all_goals
    refine NoPanic.normal ?_
    go_wp2_with fail
    refine ⟨.tuple #[.agg #[.slice none 0 0], .agg #[.int .i64 l, .int .i64 c], .int .i64 er], by simp [results, Tryd.results9, go_sem, *], ?_, rfl⟩
    have hx := hX.out
    exact ((((hbz.out.setCell (p := ⟨b2, 0, none⟩) (by have := hx.e2; show w.heap.size ≤ b2; omega) _).setCell (p := ⟨b3, 0, none⟩) (by have := hx.e2; have := hx.e3; show w.heap.size ≤ b3; omega) _).setCell (p := ⟨b3, 1, none⟩) (by have := hx.e2; have := hx.e3; show w.heap.size ≤ b3; omega) _).setCell (p := ⟨b4, 0, none⟩) (by have := hx.e2; have := hx.e4; show w.heap.size ≤ b4; omega) _).drew
end
end
section
open Go.RowKit Go.Maps Go.Shelf
attribute [local go_sem] Oper.semAt_some fld0 fld1 fld2

theorem VMap.ltP {w : World} {k : TypeId} {b n : Nat} {f : Lit → Option Value} (h : VMap w k b n f) : b < w.heap.size := by
  obtain ⟨D, ⟨es, clock, h1, h2⟩, h3⟩ := h
  exact (Array.getElem?_eq_some_iff.1 h1).1
theorem flatT_at : ∀ (out : List Tok) (i : Nat) (t : Tok), out[i]? = some t → ∀ j, j < 5 → (out.flatMap cellsT)[i * 5 + j]? = (cellsT t)[j]?
  | [], i, t, h, j, hj => by simp at h
  | x :: r, 0, t, h, j, hj => by
    simp at h
    subst h
    rw [List.flatMap_cons, List.getElem?_append_left (by simpa [cellsT] using hj), Nat.zero_mul, Nat.zero_add]
  | x :: r, i + 1, t, h, j, hj => by
    rw [List.flatMap_cons, List.getElem?_append_right (by simp [cellsT]; omega)]
    have := flatT_at r i t (by simpa using h) j hj
    rw [← this]
    congr 1
    simp [cellsT]
    omega
/-- The deferred closure. -/
def defP (b2 b3 b4 : Nat) : Deferred := { target := .fn (.func 15) #[.pointer (some ⟨b2, 0, none⟩), .pointer (some ⟨b3, 0, none⟩), .pointer (some ⟨b4, 0, none⟩)], args := #[] }
section
variable {w0 w : World} {b2 b3 b4 : Nat} {tmps : Array Value}
theorem res_any {x : Value} {l c er : Int} (h2 : tmps[2]? = some (.pointer (some ⟨b2, 0, none⟩))) (h3 : tmps[3]? = some (.pointer (some ⟨b3, 0, none⟩))) (h4 : tmps[4]? = some (.pointer (some ⟨b4, 0, none⟩)))
    (k2 : w.heap[b2]? = some (.cells #[x] 24 (0, 0))) (k3 : w.heap[b3]? = some (.cells #[.int .i64 l, .int .i64 c] 26 (0, 0))) (k4 : w.heap[b4]? = some (.cells #[.int .i64 er] 27 (0, 0))) :
    (results Tryd.f9 tmps).run Tryd.prog w = .ok (.tuple #[.agg #[x], .agg #[.int .i64 l, .int .i64 c], .int .i64 er]) w := by
  have c2 : w.cell? ⟨b2, 0, none⟩ = some x := by rw [blk_cell k2]; rfl
  obtain ⟨c30, c31⟩ := cells2P k3
  have c4 : w.cell? ⟨b4, 0, none⟩ = some (.int .i64 er) := by rw [blk_cell k4]; rfl
  have e2 : tmps.getD 2 undef = .pointer (some ⟨b2, 0, none⟩) := by rw [Array.getD_eq_getD_getElem?, h2]; rfl
  have e3 : tmps.getD 3 undef = .pointer (some ⟨b3, 0, none⟩) := by rw [Array.getD_eq_getD_getElem?, h3]; rfl
  have e4 : tmps.getD 4 undef = .pointer (some ⟨b4, 0, none⟩) := by rw [Array.getD_eq_getD_getElem?, h4]; rfl
  simp [results, Tryd.results9, go_sem, *]
theorem leaves_bad {f : Flt} {x y0 y1 z : Value} (h2 : tmps[2]? = some (.pointer (some ⟨b2, 0, none⟩))) (h3 : tmps[3]? = some (.pointer (some ⟨b3, 0, none⟩))) (h4 : tmps[4]? = some (.pointer (some ⟨b4, 0, none⟩)))
    (k2 : w.heap[b2]? = some (.cells #[x] 24 (0, 0))) (k3 : w.heap[b3]? = some (.cells #[y0, y1] 26 (0, 0))) (k4 : w.heap[b4]? = some (.cells #[z] 27 (0, 0)))
    (n23 : b2 ≠ b3) (n24 : b2 ≠ b4) (n34 : b3 ≠ b4) (e2 : w0.heap.size ≤ b2) (e3 : w0.heap.size ≤ b3) (e4 : w0.heap.size ≤ b4) (hb : Below w0.heap.size w0 w) :
    Leaves Tryd.prog Tryd.f9 tmps (ParsePost w0 (.error f)) [defP b2 b3 b4] (.panicking (chF f)) w := by
  refine leaves_cons (f := 15) (args := #[.pointer (some ⟨b2, 0, none⟩), .pointer (some ⟨b3, 0, none⟩), .pointer (some ⟨b4, 0, none⟩)]) (by simp) (by simp [go_sem]) ?_
  refine (catch_yes (older := []) k2 k3 k4 n23 n24 n34).mono ?_
  rintro e u' w' ⟨rfl, rfl, m2, m3, m4, t⟩
  refine ⟨_, res_any h2 h3 h4 m2 m3 m4, hb.trans (t.below hb.size fun k hk e => ?_), rfl⟩
  rcases e with e | e | e <;> omega
theorem leaves_ok {P : List Fun} {x : Value} (h2 : tmps[2]? = some (.pointer (some ⟨b2, 0, none⟩))) (h3 : tmps[3]? = some (.pointer (some ⟨b3, 0, none⟩))) (h4 : tmps[4]? = some (.pointer (some ⟨b4, 0, none⟩)))
    (k2 : w.heap[b2]? = some (.cells #[x] 24 (0, 0))) (k3 : w.heap[b3]? = some (.cells #[.int .i64 0, .int .i64 0] 26 (0, 0))) (k4 : w.heap[b4]? = some (.cells #[.int .i64 0] 27 (0, 0)))
    (hb : Below w0.heap.size w0 w) (hr : ∀ w'', Touch w w'' (fun k => k < w0.heap.size) → REU 3 RdFunU w'' x P) :
    Leaves Tryd.prog Tryd.f9 tmps (ParsePost w0 (.ok P)) [defP b2 b3 b4] .returning w := by
  refine leaves_cons (f := 15) (args := #[.pointer (some ⟨b2, 0, none⟩), .pointer (some ⟨b3, 0, none⟩), .pointer (some ⟨b4, 0, none⟩)]) (by simp) (by simp [go_sem]) ?_
  refine catch_idle.mono ?_
  rintro e u' w' ⟨rfl, rfl, hb'⟩
  refine ⟨_, res_any h2 h3 h4 (keepB hb' k2) (keepB hb' k3) (keepB hb' k4), hb.trans (hb'.mono hb.size), x, rfl, fun w'' t => hr w'' ((Touch.of_below hb' _).trans t)⟩
end
end
section
open Go.RowKit Go.Maps Go.Shelf
attribute [local go_sem] Oper.semAt_some fld0 fld1 fld2

section
variable {w : World} {s : ByteArray} {T : List Tok}
theorem leaves_tmps {P : Program} {fn : Func} {Q : Ending → World → Prop} {A A2 : Array Value} (h : results fn A = results fn A2) : ∀ (ds : List Deferred) (u : FrameMode) (w : World), Leaves P fn A Q ds u w → Leaves P fn A2 Q ds u w
  | [], .returning, w, hx => by
    obtain ⟨v, h1, h2⟩ := hx
    exact ⟨v, h ▸ h1, h2⟩
  | [], .panicking _, w, hx => hx
  | [], .run, _, hx => hx
  | d :: ds, u, w, hx => by
    obtain ⟨hu, fv, cap, f, args, e1, e2, hc⟩ := hx
    refine ⟨hu, fv, cap, f, args, e1, e2, hc.mono fun e u' w' hy => ?_⟩
    cases e with
    | returned v => exact leaves_tmps h ds _ _ hy
    | panicked c => exact leaves_tmps h ds _ _ hy
    | outgrown => exact hy
theorem res_tmps {A A2 : Array Value} (h2 : A[2]? = A2[2]?) (h3 : A[3]? = A2[3]?) (h4 : A[4]? = A2[4]?) : results Tryd.f9 A = results Tryd.f9 A2 := by
  have e2 : A.getD 2 undef = A2.getD 2 undef := by rw [Array.getD_eq_getD_getElem?, Array.getD_eq_getD_getElem?, h2]
  have e3 : A.getD 3 undef = A2.getD 3 undef := by rw [Array.getD_eq_getD_getElem?, Array.getD_eq_getD_getElem?, h3]
  have e4 : A.getD 4 undef = A2.getD 4 undef := by rw [Array.getD_eq_getD_getElem?, Array.getD_eq_getD_getElem?, h4]
  simp [results, Tryd.results9, -Array.getD_eq_getD_getElem?, e2, e3, e4]
set_option maxRecDepth 20000 in
set_option maxHeartbeats 4000000 in
theorem parse_good (hT : TokOk T) (hk : ∀ w', Calls Tryd.prog 13 #[.string s] w' fun e w'' => (∃ v, e = .returned (.tuple #[v, .agg #[.int .i64 0, .int .i64 0], .int .i64 0]) ∧ RowT w' w'' v T) ∧ Below w'.heap.size w' w'') : Calls Tryd.prog 9 #[.string s] w (ParsePost w (parseT T)) := by
  obtain ⟨b2, b3, b4, hX, q2, q3, q4, x2, x3, x4⟩ := boxes_all w
  have hk2 := Lib.hid (hk (boxes w))
  replace hX := Lib.hid hX
  replace x2 := Lib.hid x2
  replace x3 := Lib.hid x3
  replace x4 := Lib.hid x4
  replace q2 := Lib.hid q2
  replace q3 := Lib.hid q3
  replace q4 := Lib.hid q4
  obtain ⟨R, hR⟩ : ∃ R, parseT T = R := ⟨_, rfl⟩
  rw [hR]
  replace hR := Lib.hid hR
  replace hT := Lib.hid hT
  clear hk
  go_enter_defers Tryd.func9, Tryd.ntmps9
  go_upto_region 1 with fail
  rw [← q4.out, ← q3.out, ← q2.out]
  change Code.wp _ _ _ _ (boxes w)
  go_wp2_with fail
  refine hk2.out.mono ?_
  rintro e w2 ⟨⟨vt, rfl, hrow⟩, hb2⟩
  have hTne : 0 < T.length := by
    obtain ⟨l, t, e, -⟩ := hT.out.last
    rw [e]
    simp
  obtain ⟨gw, cw, rfl, hgwB, hgwl⟩ : ∃ gw cw, vt = .slice (some ⟨gw, 0, none⟩) T.length cw ∧ (boxes w).heap.size ≤ gw ∧ gw < w2.heap.size := by
    rcases hrow.2 with ⟨e, h0⟩ | ⟨g, cap, cur, e, -⟩
    · omega
    · have := hrow.lt g (by rw [e]; rfl)
      exact ⟨g, cap, e, this.1, this.2⟩
  have y2 := keepB hb2 x2.out
  have y3 := keepB hb2 x3.out
  have y4 := keepB hb2 x4.out
  have hX := hX.out
  have n23 : b2 ≠ b3 := by have := hX.e3; omega
  have n24 : b2 ≠ b4 := by have := hX.e4; omega
  have n34 : b3 ≠ b4 := by have := hX.e3; have := hX.e4; omega
  have c2 : w2.cell? ⟨b2, 0, none⟩ = some (.slice none 0 0) := by rw [blk_cell y2]; rfl
  obtain ⟨c30, c31⟩ := cells2P y3
  have c4 : w2.cell? ⟨b4, 0, none⟩ = some (.int .i64 0) := by rw [blk_cell y4]; rfl
  have f2 := frozB y2 0
  have f3 := frozB y3 0
  have f31 := frozB y3 1
  have f4 := frozB y4 0
  have hbel := Lib.hid (hX.bel.trans (hb2.mono (by have := hX.top; have := hX.e2; omega)))
  have htopb := Lib.hid hX.top
  have he2 := Lib.hid hX.e2
  have he3 := Lib.hid hX.e3
  have he4 := Lib.hid hX.e4
  have y2 := Lib.hid y2
  have y3 := Lib.hid y3
  have y4 := Lib.hid y4
  replace hrow := Lib.hid hrow
  replace hgwB := Lib.hid hgwB
  replace hgwl := Lib.hid hgwl
  replace hTne := Lib.hid hTne
  clear hb2 hk2 hX x2 x3 x4
  go_upto_region 4 with fail
  have z2 : (((w2.setCell ⟨b3, 0, none⟩ (.int .i64 0)).setCell ⟨b3, 1, none⟩ (.int .i64 0)).setCell ⟨b4, 0, none⟩ (.int .i64 0)).heap[b2]? = some (.cells #[.slice none 0 0] 24 (0, 0)) := by
    rw [heap_setCell_other _ _ _ _ n24, heap_setCell_other _ _ _ _ n23, heap_setCell_other _ _ _ _ n23]
    exact y2.out
  have z3 : (((w2.setCell ⟨b3, 0, none⟩ (.int .i64 0)).setCell ⟨b3, 1, none⟩ (.int .i64 0)).setCell ⟨b4, 0, none⟩ (.int .i64 0)).heap[b3]? = some (.cells #[.int .i64 0, .int .i64 0] 26 (0, 0)) := by
    rw [heap_setCell_other _ _ _ _ n34, heap_setCell_same _ _ _ _ _ _ (heap_setCell_same _ _ _ _ _ _ y3.out)]
    rfl
  have z4 : (((w2.setCell ⟨b3, 0, none⟩ (.int .i64 0)).setCell ⟨b3, 1, none⟩ (.int .i64 0)).setCell ⟨b4, 0, none⟩ (.int .i64 0)).heap[b4]? = some (.cells #[.int .i64 0] 27 (0, 0)) := by
    rw [heap_setCell_same _ _ _ _ _ _ ((heap_setCell_other _ _ _ _ n34.symm).trans ((heap_setCell_other _ _ _ _ n34.symm).trans y4.out))]
    rfl
  have hbz : Below w.heap.size w (((w2.setCell ⟨b3, 0, none⟩ (.int .i64 0)).setCell ⟨b3, 1, none⟩ (.int .i64 0)).setCell ⟨b4, 0, none⟩ (.int .i64 0)) := ((hbel.out.setCell (p := ⟨b3, 0, none⟩) (by have := he2.out; have := he3.out; show w.heap.size ≤ b3; omega) _).setCell (p := ⟨b3, 1, none⟩) (by have := he2.out; have := he3.out; show w.heap.size ≤ b3; omega) _).setCell (p := ⟨b4, 0, none⟩) (by have := he2.out; have := he4.out; show w.heap.size ≤ b4; omega) _
  have hT3 : Touch w2 (((w2.setCell ⟨b3, 0, none⟩ (.int .i64 0)).setCell ⟨b3, 1, none⟩ (.int .i64 0)).setCell ⟨b4, 0, none⟩ (.int .i64 0)) (fun k => k = b3 ∨ k = b4) := (((Touch.refl w2 (fun k => k = b3 ∨ k = b4)).setCell (a := ⟨b3, 0, none⟩) (fun _ => .inl rfl) _).setCell (a := ⟨b3, 1, none⟩) (fun _ => .inl rfl) _).setCell (a := ⟨b4, 0, none⟩) (fun _ => .inr rfl) _
  have hrow3 := ownsRow_touch hrow.out hT3 (fun g hg e => by have hg : gw = g := Option.some.inj hg; have := hgwB.out; have := htopb.out; have := he3.out; have := he4.out; omega)
  have hgw3 : gw < (((w2.setCell ⟨b3, 0, none⟩ (.int .i64 0)).setCell ⟨b3, 1, none⟩ (.int .i64 0)).setCell ⟨b4, 0, none⟩ (.int .i64 0)).heap.size := Nat.lt_of_lt_of_le hgwl.out hT3.size
  have hsz3 : b2 + 3 ≤ (((w2.setCell ⟨b3, 0, none⟩ (.int .i64 0)).setCell ⟨b3, 1, none⟩ (.int .i64 0)).setCell ⟨b4, 0, none⟩ (.int .i64 0)).heap.size := by have := hgwB.out; have := htopb.out; omega
  generalize (((w2.setCell ⟨b3, 0, none⟩ (.int .i64 0)).setCell ⟨b3, 1, none⟩ (.int .i64 0)).setCell ⟨b4, 0, none⟩ (.int .i64 0)) = w3 at z2 z3 z4 hbz hrow3 hgw3 hsz3 ⊢
  have htk : ∀ k t, T[k]? = some t → w3.cell? ⟨gw, k * 5, none⟩ = some (.int .u8 t.kind) ∧ w3.cell? ⟨gw, k * 5 + 1, none⟩ = some (.string (nmT t)) ∧ w3.cell? ⟨gw, k * 5 + 2, none⟩ = some (.int .i64 t.num) ∧ w3.cell? ⟨gw, k * 5 + 3, none⟩ = some (.int .i64 t.line) ∧ w3.cell? ⟨gw, k * 5 + 4, none⟩ = some (.int .i64 t.col) := fun k t ht => by
    have key : ∀ j u, j < 5 → (cellsT t)[j]? = some u → w3.cell? ⟨gw, k * 5 + j, none⟩ = some u := fun j u hj hu => by
      have := hrow3.cells (g := gw) rfl _ u ((flatT_at T k t ht j hj).trans hu)
      rw [add0] at this
      exact this
    exact ⟨key 0 _ (by omega) rfl, key 1 _ (by omega) rfl, key 2 _ (by omega) rfl, key 3 _ (by omega) rfl, key 4 _ (by omega) rfl⟩
  replace htk := Lib.hid htk
  replace z2 := Lib.hid z2
  replace z3 := Lib.hid z3
  replace z4 := Lib.hid z4
  replace hbz := Lib.hid hbz
  replace hgw3 := Lib.hid hgw3
  replace hsz3 := Lib.hid hsz3
  clear c2 c30 c31 c4 f2 f3 f31 f4 y2 y3 y4 hbel hT3 hrow hrow3 hgwl
  have hmf : ∀ (fn : Fn) (first cap : Array Value) (w : World), (Instr.makeFunc fn first cap).run Tryd.prog w = .ok (.func fn first cap) w := fun _ _ _ _ => rfl
  go_wp2_with fail
  refine (values_any _).mono ?_
  rintro e w4 ⟨vb, rfl, hvb, hV, hb4⟩
  replace hV := Lib.hid hV
  replace hb4 := Lib.hid hb4
  replace hvb := Lib.hid hvb
  go_wp2_with fail
  refine (bares_any _).mono ?_
  rintro e w5 ⟨bb, rfl, hbb, hB, hb5⟩
  replace hB := Lib.hid hB
  replace hb5 := Lib.hid hb5
  replace hbb := Lib.hid hbb
  go_upto_region 6 with fail
  have hL : LAt (w5.heap.size + 1) (w5.alloc (.cells #[.slice (some ⟨gw, 0, none⟩) T.length cw, .int .i64 0, .int .i64 0, .map (some vb), .map (some bb)] 63)) b2 w5.heap.size gw cw T 0 0 vb bb [] (.slice none 0 0) := by
    have g3 := hgw3.out
    have s3 := hsz3.out
    have s4 := hb4.out.size
    have s5 := hb5.out.size
    have v1 := hV.out.ltP
    have v2 := hB.out.ltP
    have v3 := hvb.out
    have v4 := hbb.out
    have g2 := hgwB.out
    have h7 := htopb.out
    have b35 : Below w3.heap.size w3 w5 := hb4.out.trans (hb5.out.mono s4)
    have b36 := b35.alloc (Nat.le_trans s4 s5) (.cells #[.slice (some ⟨gw, 0, none⟩) T.length cw, .int .i64 0, .int .i64 0, .map (some vb), .map (some bb)] 63)
    have b56 : Below w5.heap.size w5 (w5.alloc (.cells #[.slice (some ⟨gw, 0, none⟩) T.length cw, .int .i64 0, .int .i64 0, .map (some vb), .map (some bb)] 63)) := (Below.refl _ _).alloc (Nat.le_refl _) _
    have hc : ∀ o u, w3.cell? ⟨gw, o, none⟩ = some u → (w5.alloc (.cells #[.slice (some ⟨gw, 0, none⟩) T.length cw, .int .i64 0, .int .i64 0, .map (some vb), .map (some bb)] 63)).cell? ⟨gw, o, none⟩ = some u := fun o u hu => by
      rw [← hu]
      unfold World.cell?
      rw [b36.block gw g3]
    refine ⟨⟨at_newP rfl, fun k t ht => ?_, hV.out.block ((b56.block vb (by omega)).trans (hb5.out.block vb v1)), hB.out.block (b56.block bb v2), hT.out, hTne.out, Nat.zero_le _, by omega, by omega, by omega, by omega, by omega, by omega, by omega, by simp⟩, (b36.block b2 (by omega)).trans z2.out, OwnE.nil _ _ _, Nat.le_refl _, by omega, by omega, by omega, by omega, by omega⟩
    obtain ⟨h0, h1, h2, h3, h4⟩ := htk.out k t ht
    exact ⟨hc _ _ h0, hc _ _ h1, hc _ _ h2, hc _ _ h3, hc _ _ h4⟩
  have hbz6 : Below w.heap.size w (w5.alloc (.cells #[.slice (some ⟨gw, 0, none⟩) T.length cw, .int .i64 0, .int .i64 0, .map (some vb), .map (some bb)] 63)) := hbz.out.trans (((hb4.out.trans (hb5.out.mono hb4.out.size)).alloc (Nat.le_trans hb4.out.size hb5.out.size) _).mono hbz.out.size)
  have z36 : (w5.alloc (.cells #[.slice (some ⟨gw, 0, none⟩) T.length cw, .int .i64 0, .int .i64 0, .map (some vb), .map (some bb)] 63)).heap[b3]? = some (.cells #[.int .i64 0, .int .i64 0] 26 (0, 0)) := at_oldP (keepB hb5.out (keepB hb4.out z3.out))
  have z46 : (w5.alloc (.cells #[.slice (some ⟨gw, 0, none⟩) T.length cw, .int .i64 0, .int .i64 0, .map (some vb), .map (some bb)] 63)).heap[b4]? = some (.cells #[.int .i64 0] 27 (0, 0)) := at_oldP (keepB hb5.out (keepB hb4.out z4.out))
  have hBl : b2 + 3 ≤ w5.heap.size := by
    have := hsz3.out
    have := hb4.out.size
    have := hb5.out.size
    omega
  generalize (w5.alloc (.cells #[.slice (some ⟨gw, 0, none⟩) T.length cw, .int .i64 0, .int .i64 0, .map (some vb), .map (some bb)] 63)) = w6 at hL hbz6 z36 z46 ⊢
  obtain ⟨pb, hpb⟩ : ∃ pb, pb = w5.heap.size := ⟨_, rfl⟩
  rw [← hpb] at hL hBl ⊢
  replace hL := Lib.hid hL
  replace hbz6 := Lib.hid hbz6
  replace z36 := Lib.hid z36
  replace z46 := Lib.hid z46
  replace hBl := Lib.hid hBl
  clear hpb hV hB hb4 hb5 hvb hbb htk z2 z3 z4 hbz hgw3 hsz3 hgwB htopb hmf
  have hRx := hR.out
  unfold parseT at hRx
  cases hbg : beginP T 0 with
  | error f =>
    rw [hbg] at hRx
    dsimp only at hRx
    have hk7 := Lib.hid (begin_bad hL.out.p (by rw [List.drop_zero]; exact hbg))
    replace hRx := Lib.hid hRx
    clear hbg
    go_wp2_with (go_at_call 18; refine hk7.out.mono ?_; rintro e w7 ⟨rfl, hb7⟩)
    rw [← hRx.out]
    have e2 := he2.out
    have e3 := he3.out
    have e4 := he4.out
    exact leaves_bad rfl rfl rfl (keepB hb7 hL.out.blk) (keepB hb7 z36.out) (keepB hb7 z46.out) n23 n24 n34 (by omega) (by omega) (by omega) (hbz6.out.trans (hb7.mono hbz6.out.size))
  | ok ln =>
    rw [hbg] at hRx
    dsimp only at hRx
    have hk7 := Lib.hid (begin_ok hL.out.p (by rw [List.drop_zero]; exact hbg))
    replace hRx := Lib.hid hRx
    clear hbg
    go_upto_block 0 with (go_at_call 18; refine hk7.out.mono ?_; rintro e w7 ⟨rfl, hP7, hT7⟩)
    have e2 := he2.out
    have e3 := he3.out
    have e4 := he4.out
    have hl := hBl.out
    have hL7 := hL.out.on hT7 hP7 (Nat.le_refl _)
    have l2 : w.heap.size ≤ w6.heap.size := hbz6.out.size
    have hb7 : Below w.heap.size w w7 := hbz6.out.trans (hT7.below l2 fun k hk e => by omega)
    have l6 : pb + 1 ≤ w6.heap.size := hL.out.p.top
    have k37 : w7.heap[b3]? = some (.cells #[.int .i64 0, .int .i64 0] 26 (0, 0)) := (hT7.block b3 (by omega) (by omega)).trans z36.out
    have k47 : w7.heap[b4]? = some (.cells #[.int .i64 0] 27 (0, 0)) := (hT7.block b4 (by omega) (by omega)).trans z46.out
    have hend : ∀ wx, Touch w7 wx (fun k => k = pb ∨ k = b2 ∨ pb + 1 ≤ k) → wx.heap[b3]? = some (.cells #[.int .i64 0, .int .i64 0] 26 (0, 0)) ∧ wx.heap[b4]? = some (.cells #[.int .i64 0] 27 (0, 0)) ∧ Below w.heap.size w wx := fun wx t => by
      have l7 := hT7.size
      exact ⟨(t.block b3 (by omega) (by omega)).trans k37, (t.block b4 (by omega) (by omega)).trans k47, hb7.trans (t.below hb7.size fun k hk e => by omega)⟩
    replace hend := Lib.hid hend
    clear k37 k47 hb7 l2 l6 hP7 hT7 hk7
    refine prog_blk (by kernel_rfl) hL7 (n := T.length + 1) (by rw [List.drop_zero]; exact Nat.le_refl _) (R := R) (by rw [List.drop_zero]; exact hRx.out) (fun {x a a1 wx} hq hd h2 h3 h4 => ?_) (Lib.hid ?_) (Lib.hid ?_)
    · exact leaves_tmps (res_tmps h2 h3 h4) _ _ _ (hd ▸ hq)
    · intros
      rename_i hx8
      rename World => w8
      obtain ⟨hT8, i8, ln8, acc8, vf8, hL8, hR8⟩ := hx8
      obtain ⟨k3, k4, hb8⟩ := hend.out w8 hT8
      obtain ⟨av, cv, rfl⟩ := hL8.row.form
      have c2 : w8.cell? ⟨b2, 0, none⟩ = some (.slice av acc8.length cv) := by rw [blk_cell hL8.blk]; rfl
      obtain ⟨c30, c31⟩ := cells2P k3
      have c4 : w8.cell? ⟨b4, 0, none⟩ = some (.int .i64 0) := by rw [blk_cell k4]; rfl
      have f2 := frozB hL8.blk 0
      have f3 := frozB k3 0
      have f31 := frozB k3 1
      have f4 := frozB k4 0
      replace hL8 := Lib.hid hL8
      replace k3 := Lib.hid k3
      replace k4 := Lib.hid k4
      replace hb8 := Lib.hid hb8
      replace hR8 := Lib.hid hR8
      replace hl := Lib.hid hl
      clear hT8 e2 e3 e4 hL7
      go_wp2_with fail
      have e2 := he2.out
      have e3 := he3.out
      have e4 := he4.out
      have hl := hl.out
      rw [hR8.out]
      have tF : Touch w8 ((((w8.setCell ⟨b2, 0, none⟩ (.slice av acc8.length cv)).setCell ⟨b3, 0, none⟩ (.int .i64 0)).setCell ⟨b3, 1, none⟩ (.int .i64 0)).setCell ⟨b4, 0, none⟩ (.int .i64 0)) (fun k => k = b2 ∨ k = b3 ∨ k = b4) := ((((Touch.refl w8 (fun k => k = b2 ∨ k = b3 ∨ k = b4)).setCell (a := ⟨b2, 0, none⟩) (fun _ => .inl rfl) _).setCell (a := ⟨b3, 0, none⟩) (fun _ => .inr (.inl rfl)) _).setCell (a := ⟨b3, 1, none⟩) (fun _ => .inr (.inl rfl)) _).setCell (a := ⟨b4, 0, none⟩) (fun _ => .inr (.inr rfl)) _
      refine leaves_ok rfl rfl rfl (x := .slice av acc8.length cv) ?_ ?_ ?_ (hb8.out.trans (tF.below hb8.out.size fun k hk e => by omega)) fun w'' t'' => ?_
      · rw [heap_setCell_other _ _ _ _ n24, heap_setCell_other _ _ _ _ n23, heap_setCell_other _ _ _ _ n23, heap_setCell_same _ _ _ _ _ _ hL8.out.blk]
        rfl
      · rw [heap_setCell_other _ _ _ _ n34, heap_setCell_same _ _ _ _ _ _ (heap_setCell_same _ _ _ _ _ _ ((heap_setCell_other _ _ _ _ n23.symm).trans k3.out))]
        rfl
      · rw [heap_setCell_same _ _ _ _ _ _ ((heap_setCell_other _ _ _ _ n34.symm).trans ((heap_setCell_other _ _ _ _ n34.symm).trans ((heap_setCell_other _ _ _ _ n24.symm).trans k4.out)))]
        rfl
      · exact hL8.out.row.toU (No := fun k => k < pb) ((tF.mono fun k _ e => by show k < pb; omega).trans (t''.mono fun k _ e => by show k < pb; omega)) (fun g hg e => by have := (hL8.out.row.lt g hg).1; omega) (fun k _ e => by show k < pb + 1; have e : k < pb := e; omega)
    · intros
      rename_i hd h2 h3 h4 hT8 k2 hR8
      rename World => w8
      obtain ⟨k3, k4, hb8⟩ := hend.out w8 hT8
      have l7 := hL7.p.top
      obtain ⟨x, k2⟩ := k2
      rw [hR8]
      show Leaves _ _ _ _ (Act.defers _) _ _
      rw [hd]
      exact leaves_bad h2 h3 h4 k2 k3 k4 n23 n24 n34 (by omega) (by omega) (by omega) hb8
end
end
section
open Go.RowKit Go.Maps Go.Shelf

theorem parse_any {w : World} {s : ByteArray} (hs : s.size ≤ 1048576) : Calls Tryd.prog 9 #[.string s] w (ParsePost w (parseL s.data.toList)) := by
  unfold parseL
  cases hl : lex s.data.toList 1 1 with
  | error e =>
    obtain ⟨l, c, er⟩ := e
    refine parse_bad (lexN_err _ _ _ _ _ _ _ (Nat.le_refl _) hl) fun w' => ?_
    have := lex_any (w := w') hs
    rw [hl] at this
    exact this
  | ok T =>
    refine parse_good (lex_tok hl (by simpa using hs)) fun w' => ?_
    have := lex_any (w := w') hs
    rw [hl] at this
    exact this
theorem parse_long {w : World} {s : ByteArray} (hs : 1048576 < s.size) (h63 : s.size ≤ maxLen) : Calls Tryd.prog 9 #[.string s] w (ParsePost w (.error (0, 0, 2))) :=
  parse_bad (by decide) fun w' => lex_long hs h63
end
end Go.Proofs.YtgcanabckogmmaaDoor
