/- names: the parts of a program in order; the iterator over them. -/
import Derived.Test.YtjblhiekccjdcaaRNBadN
import Derived.RangeFuncNested
import Derived.RangeFuncBound
import Derived.RangeFuncCalls
import Derived.RangeFuncLeaves
import Derived.OwnWalkIn
import Derived.TacticsInMore
import Derived.LoopNIn
import Derived.LoopIn
namespace Go.Proofs.YtjblhiekccjdcaaR
open Go.RowKit Go.Maps

attribute [local go_sem] Oper.semAt_some

inductive Prt
  | fn (f : Nat) (d : Fun)
  | blk (f b : Nat) (d : Fun) (x : Blk)
  | ins (f b i : Nat) (d : Fun) (x : Blk) (c : Ins)
def cat {α β : Type} (g : Nat → α → List β) (l : List α) : List β := (l.mapIdx g).flatten
def blkL (f b : Nat) (d : Fun) (x : Blk) : List Prt := .blk f b d x :: cat (fun i c => [.ins f b i d x c]) x.code
def funL (f : Nat) (d : Fun) : List Prt := .fn f d :: cat (fun b x => blkL f b d x) d.blocks
def partsL (P : List Fun) : List Prt := cat funL P
section
variable {α β : Type} {g : Nat → α → List β} {l : List α} {k : Nat} {z : α}
theorem cat_nil : cat g [] = [] := rfl
theorem cat_succ (h : l[k]? = some z) : cat g (l.take (k + 1)) = cat g (l.take k) ++ g k z := by
  have hk := (List.getElem?_eq_some_iff.1 h).1
  unfold cat
  rw [take_snocS h, List.mapIdx_append]
  simp [Nat.min_eq_left (Nat.le_of_lt hk)]
theorem cat_split (h : l[k]? = some z) : ∃ r, cat g l = cat g (l.take k) ++ (g k z ++ r) := by
  obtain ⟨hk, rfl⟩ := List.getElem?_eq_some_iff.1 h
  have e : l = l.take k ++ l[k] :: l.drop (k + 1) := by rw [← List.drop_eq_getElem_cons hk, List.take_append_drop]
  refine ⟨((l.drop (k + 1)).mapIdx (fun i => g (i + 1 + k))).flatten, ?_⟩
  unfold cat
  conv => lhs; rw [e]
  rw [List.mapIdx_append]
  simp [Nat.min_eq_left (Nat.le_of_lt hk)]
  rw [List.drop_eq_getElem_cons hk, List.mapIdx_cons]
  simp
theorem cat_all (h : k = l.length) : cat g (l.take k) = cat g l := by rw [List.take_of_length_le (by omega)]
end

/-- A function, a block at an address. -/
def FunAt (w : World) (b o : Nat) (d : Fun) : Prop := b < w.heap.size ∧ ∃ vp vb, RdS w vp d.params ∧ RdE 2 RdBlk w vb d.blocks ∧ w.cell? ⟨b, o, none⟩ = some (.string d.name) ∧ w.cell? ⟨b, o + 1, none⟩ = some vp ∧ w.cell? ⟨b, o + 2, none⟩ = some vb
def BlkAt (w : World) (b o : Nat) (x : Blk) : Prop := b < w.heap.size ∧ ∃ vc, RdE 8 RdIns w vc x.code ∧ w.cell? ⟨b, o, none⟩ = some (.string x.label) ∧ w.cell? ⟨b, o + 1, none⟩ = some vc
theorem FunAt.below {w w' : World} {b o : Nat} {d : Fun} (h : FunAt w b o d) (hb : Below w.heap.size w w') : FunAt w' b o d := by
  obtain ⟨h0, vp, vb, h1, h2, h3, h4, h5⟩ := h
  have k : ∀ {p : Addr} {v : Value}, w.cell? p = some v → w'.cell? p = some v := fun {p} {v} hc => (hb.cell (p := p) (cell_size hc)).trans hc
  exact ⟨Nat.lt_of_lt_of_le h0 hb.size, vp, vb, Rd.below h1 hb, RdE.below (fun _ _ h => h.below hb) h2 hb, k h3, k h4, k h5⟩
theorem BlkAt.below {w w' : World} {b o : Nat} {x : Blk} (h : BlkAt w b o x) (hb : Below w.heap.size w w') : BlkAt w' b o x := by
  obtain ⟨h0, vc, h1, h2, h3⟩ := h
  have k : ∀ {p : Addr} {v : Value}, w.cell? p = some v → w'.cell? p = some v := fun {p} {v} hc => (hb.cell (p := p) (cell_size hc)).trans hc
  exact ⟨Nat.lt_of_lt_of_le h0 hb.size, vc, RdE.below (fun _ _ h => h.below hb) h1 hb, k h2, k h3⟩
/-- What a part is as a value. -/
def PrtV (w : World) : Prt → Array Value → Prop
  | .fn f d, vs => ∃ b o, vs = #[.int .i64 f, .int .i64 0, .int .i64 0, .pointer (some ⟨b, o, none⟩), .pointer none, .pointer none] ∧ FunAt w b o d
  | .blk f k d x, vs => ∃ b o b2 o2, vs = #[.int .i64 f, .int .i64 k, .int .i64 0, .pointer (some ⟨b, o, none⟩), .pointer (some ⟨b2, o2, none⟩), .pointer none] ∧ FunAt w b o d ∧ BlkAt w b2 o2 x
  | .ins f k i d x c, vs => ∃ b o b2 o2 b3 o3, vs = #[.int .i64 f, .int .i64 k, .int .i64 i, .pointer (some ⟨b, o, none⟩), .pointer (some ⟨b2, o2, none⟩), .pointer (some ⟨b3, o3, none⟩)] ∧ FunAt w b o d ∧ BlkAt w b2 o2 x ∧ InsAt w b3 o3 c
/-- What a round keeps. -/
structure KpN (m Bs : Nat) (W W' : World) : Prop where
  below : Below m W W'
  box : W'.heap[Bs]? = W.heap[Bs]?
theorem KpN.refl (m Bs : Nat) (W : World) : KpN m Bs W W := ⟨Below.refl _ _, rfl⟩
theorem KpN.trans {m Bs : Nat} {A B C : World} (h : KpN m Bs A B) (k : KpN m Bs B C) : KpN m Bs A C := ⟨h.below.trans k.below, k.box.trans h.box⟩
/-- Elements of a program where they are. -/
theorem fun_at {w : World} {v : Value} {P : List Fun} (h : RdE 3 RdFun w v P) {f : Nat} {d : Fun} (hf : P[f]? = some d) : ∃ b off cap, v = .slice (some ⟨b, off, none⟩) P.length cap ∧ FunAt w b (off + f * 3) d := by
  obtain ⟨b, off, cap, cs, e, hlt, ⟨vp, vb, rfl, h1, h2⟩, -, hc⟩ := h.at hf
  exact ⟨b, off, cap, e, hlt, vp, vb, h1, h2, hc 0 _ rfl, hc 1 _ rfl, hc 2 _ rfl⟩
theorem blk_at {w : World} {v : Value} {L : List Blk} (h : RdE 2 RdBlk w v L) {k : Nat} {x : Blk} (hk : L[k]? = some x) : ∃ b off cap, v = .slice (some ⟨b, off, none⟩) L.length cap ∧ BlkAt w b (off + k * 2) x := by
  obtain ⟨b, off, cap, cs, e, hlt, ⟨vc, rfl, h1⟩, -, hc⟩ := h.at hk
  exact ⟨b, off, cap, e, hlt, vc, h1, hc 0 _ rfl, hc 1 _ rfl⟩
theorem ins_at {w : World} {v : Value} {L : List Ins} (h : RdE 8 RdIns w v L) {k : Nat} {c : Ins} (hk : L[k]? = some c) : ∃ b off cap, v = .slice (some ⟨b, off, none⟩) L.length cap ∧ InsAt w b (off + k * 8) c := by
  obtain ⟨b, off, cap, cs, e, hlt, ⟨va, vl, rfl, h1, h2⟩, -, hc⟩ := h.at hk
  exact ⟨b, off, cap, e, hlt, va, vl, h1, h2, fun j u hj => hc j u hj⟩
theorem FunAt.blocks {w : World} {b o : Nat} {d : Fun} (h : FunAt w b o d) : ∃ a c, w.cell? ⟨b, o + 2, none⟩ = some (.slice a d.blocks.length c) ∧ RdE 2 RdBlk w (.slice a d.blocks.length c) d.blocks := by
  obtain ⟨-, vp, vb, -, h2, -, -, h5⟩ := h
  obtain ⟨a, c, rfl⟩ := h2.form
  exact ⟨a, c, h5, h2⟩
theorem BlkAt.code {w : World} {b o : Nat} {x : Blk} (h : BlkAt w b o x) : ∃ a c, w.cell? ⟨b, o + 1, none⟩ = some (.slice a x.code.length c) ∧ RdE 8 RdIns w (.slice a x.code.length c) x.code := by
  obtain ⟨-, vc, h2, -, h5⟩ := h
  obtain ⟨a, c, rfl⟩ := h2.form
  exact ⟨a, c, h5, h2⟩

set_option maxRecDepth 100000 in
set_option maxHeartbeats 8000000 in
theorem parts_in (n : Nat) (hn : 1 ≤ n) (r : Nat) (J : List Prt → World → Prop) (Jx : World → Prop) {P : List Fun} {W0 W : World} {v : Value} {m Bs : Nat} (hm : m = W0.heap.size) (hP : RdE 3 RdFun W0 v P) (hb0 : Below m W0 W) (hbox : W.heap[Bs]? = some (.cells #[v] 56 (0, 0)))
    (hl1 : P.length ≤ 1000000) (hl2 : ∀ d ∈ P, d.blocks.length ≤ 1000000) (hl3 : ∀ d ∈ P, ∀ x ∈ d.blocks, x.code.length ≤ 1000000)
    (hY : ∀ pre x rest vs W1, partsL P = pre ++ x :: rest → PrtV W0 x vs → J pre W1 → Below m W0 W1 → YieldAt Fence.wide (n - 1) Try.prog r #[.agg vs] W1 fun e W' =>
      (e = .returned (.bool true) ∧ J (pre ++ [x]) W' ∧ KpN m Bs W1 W') ∨ (e = .returned (.bool false) ∧ Jx W'))
    (h0 : J [] W) :
    CallsIn Fence.wide n Try.prog 77 #[.func (.yield r) #[] #[], .pointer (some ⟨Bs, 0, none⟩)] W fun e W' => (∃ v, e = .returned v) ∧ (J (partsL P) W' ∨ Jx W') := by
  obtain ⟨a0, c0, rfl⟩ := hP.form
  obtain ⟨p, hp⟩ : ∃ p, p = P.length := ⟨_, rfl⟩
  rw [← hp] at hP hl1 hbox
  have hcb := fun (wr : World) (hk : KpN m Bs W wr) => show wr.cell? ⟨Bs, 0, none⟩ = some (.slice a0 p c0) from by rw [blk_cell (hk.box.trans hbox)]; rfl
  have hfa := Lib.hid (fun (f : Nat) (d : Fun) (hf : P[f]? = some d) => fun_at hP hf)
  replace hcb := Lib.hid hcb
  replace hp := Lib.hid hp
  replace hm := Lib.hid hm
  replace hb0 := Lib.hid hb0
  replace hY := Lib.hid hY
  replace hl2 := Lib.hid hl2
  replace hl3 := Lib.hid hl3
  replace h0 := Lib.hid h0
  have c1 := hcb.out W (KpN.refl _ _ _)
  clear hP hbox
  refine callsIn_of_wp Try.func77 rfl trivial ?_ rfl
  simp only [Try.ntmps77, List.size_toArray, List.length_cons, List.length_nil, Nat.reduceAdd, Nat.reduceSub, Array.replicate_succ, Array.replicate_zero, List.push_toArray, List.append_toArray, List.nil_append, List.cons_append]
  gi_wp2
  gi_loopw [3, 4, 5, 6, 7, 12] (fun _ _ _ _ _ i wr => ∃ f : Nat, f ≤ p ∧ i = .int .i64 f ∧ Hid (J (cat funL (P.take f)) wr) ∧ Hid (KpN m Bs W wr)) (fun _ _ _ _ _ i _ => p - (intOf i).toNat)
  case atStart => exact ⟨0, Nat.zero_le _, rfl, h0, Lib.hid (KpN.refl _ _ _)⟩
  case round =>
    clear h0
    obtain ⟨f, hf, rfl, hJ, hK⟩ := hrel
    have c1 := hcb.out wr hK.out
    by_cases hlt : f < p
    · obtain ⟨d, hd⟩ : ∃ d, P[f]? = some d := ⟨_, List.getElem?_eq_getElem (by rw [← hp.out]; exact hlt)⟩
      obtain ⟨b, off, cap, e, hF⟩ := hfa.out f d hd
      rw [← hp.out] at e
      simp only [Value.slice.injEq] at e
      obtain ⟨rfl, -, rfl⟩ := e
      have i1 : (f : Int) < (p : Int) := by omega
      have i2 : decide ((f : Int) < (p : Int)) = true := by simpa using hlt
      have hdm := List.mem_of_getElem? hd
      obtain ⟨rest, hsp⟩ := cat_split (g := funL) hd
      have hsu := Lib.hid (cat_succ (g := funL) hd)
      obtain ⟨ab, cb, hcB, hRB⟩ := hF.blocks
      obtain ⟨q, hq⟩ : ∃ q, q = d.blocks.length := ⟨_, rfl⟩
      rw [← hq] at hcB hRB
      have hql : q ≤ 1000000 := by rw [hq]; exact hl2.out d hdm
      have hFw := Lib.hid (fun (w' : World) (hB : Below m W0 w') => hF.below (by rw [← hm.out]; exact hB))
      have hcBw := Lib.hid (fun (w' : World) (hB : Below m W0 w') => show w'.cell? ⟨b, off + f * 3 + 2, none⟩ = some (.slice ab q cb) from (hB.cell (p := ⟨b, off + f * 3 + 2, none⟩) (by rw [hm.out]; exact hF.1)).trans hcB)
      have hba := Lib.hid (fun (k : Nat) (x : Blk) (hx : d.blocks[k]? = some x) => blk_at hRB hx)
      have hcl := Lib.hid (hl3.out d hdm)
      generalize hpre : cat funL (P.take f) = pre at hsp hsu hJ
      have hspl := Lib.hid (show partsL P = pre ++ (funL f d ++ rest) from hsp)
      obtain ⟨fn, tmps, assign, body, hy, hR⟩ := hY.out pre (.fn f d) (cat (fun b x => blkL f b d x) d.blocks ++ rest) _ wr (by rw [hspl.out]; rfl) ⟨b, off + f * 3, rfl, hFw.out W0 (Below.refl _ _)⟩ hJ.out (hb0.out.trans hK.out.below)
      replace hq := Lib.hid hq
      replace hpre := Lib.hid hpre
      replace hd := Lib.hid hd
      clear hsp hF hcB hRB hfa hdm hJ
      gi_wp2
      refine hR.mono ?_
      rintro e W3 (⟨rfl, hJ3, hk3⟩ | ⟨rfl, hJx⟩)
      case inr =>
        gi_wp2
        refine bodyPost_ret (results_none rfl _ _ _) rfl ?_
        exact ⟨⟨_, rfl⟩, .inr hJx⟩
      have hK3 := Lib.hid (hK.out.trans hk3)
      have hcb3 := hcBw.out W3 (hb0.out.trans hK3.out.below)
      have hJ4 : Hid (J (pre ++ (Prt.fn f d :: cat (fun b x => blkL f b d x) (d.blocks.take 0))) W3) := Lib.hid (by simpa [cat_nil] using hJ3)
      clear hy hR hk3 hJ3 c1 hK
      gi_wp2
      gi_loopw [5, 6, 7, 32] (fun _ _ _ i wx => ∃ k : Nat, k ≤ q ∧ i = .int .i64 k ∧ Hid (J (pre ++ (Prt.fn f d :: cat (fun b x => blkL f b d x) (d.blocks.take k))) wx) ∧ Hid (KpN m Bs W wx)) (fun _ _ _ i _ => q - (intOf i).toNat)
      case atStart => exact ⟨0, Nat.zero_le _, rfl, hJ4, hK3⟩
      case round =>
        clear hJ4 hK3 hcb3
        obtain ⟨k, hk, rfl, hJ, hK⟩ := hrel
        have c1 := hcBw.out wr (hb0.out.trans hK.out.below)
        by_cases hlk : k < q
        · obtain ⟨x, hx⟩ : ∃ x, d.blocks[k]? = some x := ⟨_, List.getElem?_eq_getElem (by rw [← hq.out]; exact hlk)⟩
          obtain ⟨b2, off2, cap2, e2, hB2⟩ := hba.out k x hx
          rw [← hq.out] at e2
          simp only [Value.slice.injEq] at e2
          obtain ⟨rfl, -, rfl⟩ := e2
          have i3 : (k : Int) < (q : Int) := by omega
          have i4 : decide ((k : Int) < (q : Int)) = true := by simpa using hlk
          have hxm := List.mem_of_getElem? hx
          obtain ⟨rest2, hsp⟩ := cat_split (g := fun b x => blkL f b d x) hx
          have hsu2 := Lib.hid (cat_succ (g := fun b x => blkL f b d x) hx)
          obtain ⟨ac, cc, hcC, hRC⟩ := hB2.code
          obtain ⟨z, hz⟩ : ∃ z, z = x.code.length := ⟨_, rfl⟩
          rw [← hz] at hcC hRC
          have hzl : z ≤ 1000000 := by rw [hz]; exact hcl.out x hxm
          have hBw := Lib.hid (fun (w' : World) (hB : Below m W0 w') => hB2.below (by rw [← hm.out]; exact hB))
          have hcCw := Lib.hid (fun (w' : World) (hB : Below m W0 w') => show w'.cell? ⟨b2, off2 + k * 2 + 1, none⟩ = some (.slice ac z cc) from (hB.cell (p := ⟨b2, off2 + k * 2 + 1, none⟩) (by rw [hm.out]; exact hB2.1)).trans hcC)
          have hia := Lib.hid (fun (i : Nat) (y : Ins) (hy : x.code[i]? = some y) => ins_at hRC hy)
          generalize hpre2 : cat (fun b x => blkL f b d x) (d.blocks.take k) = pre2 at hsp hsu2 hJ
          have hspl2 := Lib.hid (show partsL P = (pre ++ (Prt.fn f d :: pre2)) ++ (blkL f k d x ++ (rest2 ++ rest)) from by
            rw [hspl.out]
            unfold funL
            rw [hsp]
            simp)
          obtain ⟨fn, tmps, assign, body, hy, hR⟩ := hY.out (pre ++ (Prt.fn f d :: pre2)) (.blk f k d x) (cat (fun i c => [.ins f k i d x c]) x.code ++ (rest2 ++ rest)) _ wr (by rw [hspl2.out]; rfl) ⟨b, off + f * 3, b2, off2 + k * 2, rfl, hFw.out W0 (Below.refl _ _), hBw.out W0 (Below.refl _ _)⟩ hJ.out (hb0.out.trans hK.out.below)
          replace hz := Lib.hid hz
          replace hpre2 := Lib.hid hpre2
          replace hx := Lib.hid hx
          clear hsp hB2 hcC hRC hxm hJ
          gi_wp2
          refine hR.mono ?_
          rintro e W3 (⟨rfl, hJ3, hk3⟩ | ⟨rfl, hJx⟩)
          case inr =>
            gi_wp2
            refine bodyPost_ret (results_none rfl _ _ _) rfl ?_
            exact ⟨⟨_, rfl⟩, .inr hJx⟩
          have hK3 := Lib.hid (hK.out.trans hk3)
          have hcb3 := hcCw.out W3 (hb0.out.trans hK3.out.below)
          have hJ4 : Hid (J ((pre ++ (Prt.fn f d :: pre2)) ++ (Prt.blk f k d x :: cat (fun i c => [.ins f k i d x c]) (x.code.take 0))) W3) := Lib.hid (by simpa [cat_nil] using hJ3)
          clear hy hR hk3 hJ3 c1 hK
          gi_wp2
          gi_loopw [7, 55] (fun _ i wx => ∃ l : Nat, l ≤ z ∧ i = .int .i64 l ∧ Hid (J ((pre ++ (Prt.fn f d :: pre2)) ++ (Prt.blk f k d x :: cat (fun i c => [.ins f k i d x c]) (x.code.take l))) wx) ∧ Hid (KpN m Bs W wx)) (fun _ i _ => z - (intOf i).toNat)
          case atStart => exact ⟨0, Nat.zero_le _, rfl, hJ4, hK3⟩
          case round =>
            clear hJ4 hK3 hcb3
            obtain ⟨l, hl, rfl, hJ, hK⟩ := hrel
            have c1 := hcCw.out wr (hb0.out.trans hK.out.below)
            by_cases hll : l < z
            · obtain ⟨y, hy0⟩ : ∃ y, x.code[l]? = some y := ⟨_, List.getElem?_eq_getElem (by rw [← hz.out]; exact hll)⟩
              obtain ⟨b3, off3, cap3, e3, hI3⟩ := hia.out l y hy0
              rw [← hz.out] at e3
              simp only [Value.slice.injEq] at e3
              obtain ⟨rfl, -, rfl⟩ := e3
              have i5 : (l : Int) < (z : Int) := by omega
              have i6 : decide ((l : Int) < (z : Int)) = true := by simpa using hll
              obtain ⟨rest3, hsp⟩ := cat_split (g := fun i c => [Prt.ins f k i d x c]) hy0
              have hsu3 := Lib.hid (cat_succ (g := fun i c => [Prt.ins f k i d x c]) hy0)
              generalize hpre3 : cat (fun i c => [Prt.ins f k i d x c]) (x.code.take l) = pre3 at hsp hsu3 hJ
              obtain ⟨fn, tmps, assign, body, hy, hR⟩ := hY.out ((pre ++ (Prt.fn f d :: pre2)) ++ (Prt.blk f k d x :: pre3)) (.ins f k l d x y) (rest3 ++ (rest2 ++ rest)) _ wr (by
                rw [hspl2.out]
                unfold blkL
                rw [hsp]
                simp) ⟨b, off + f * 3, b2, off2 + k * 2, b3, off3 + l * 8, rfl, hFw.out W0 (Below.refl _ _), hBw.out W0 (Below.refl _ _), hI3⟩ hJ.out (hb0.out.trans hK.out.below)
              replace hpre3 := Lib.hid hpre3
              replace hy0 := Lib.hid hy0
              clear hsp hI3 hJ
              gi_wp2
              refine hR.mono ?_
              rintro e W3 (⟨rfl, hJ3, hk3⟩ | ⟨rfl, hJx⟩)
              case inr =>
                gi_wp2
                refine bodyPost_ret (results_none rfl _ _ _) rfl ?_
                exact ⟨⟨_, rfl⟩, .inr hJx⟩
              have hK3 := Lib.hid (hK.out.trans hk3)
              have hJ4 : Hid (J ((pre ++ (Prt.fn f d :: pre2)) ++ (Prt.blk f k d x :: cat (fun i c => [Prt.ins f k i d x c]) (x.code.take (l + 1)))) W3) := Lib.hid (by rw [hsu3.out]; simpa using hJ3)
              clear hy hR hk3 hJ3 c1 hK
              gi_wp2
              go_roundw
              case rel => exact ⟨l + 1, by omega, by go_num, hJ4, hK3⟩
              case measure => simp [intOf]; omega
            · obtain rfl : l = z := by omega
              have i6 : decide ((l : Int) < (l : Int)) = false := by simp
              have hJ4 : Hid (J (pre ++ (Prt.fn f d :: cat (fun b x => blkL f b d x) (d.blocks.take (k + 1)))) wr) := Lib.hid (by
                have := hJ.out
                rw [cat_all hz.out] at this
                rw [hsu2.out]
                simpa [blkL] using this)
              clear hJ c1
              gi_wp2
              go_roundw
              case rel => exact ⟨k + 1, by omega, by go_num, hJ4, hK⟩
              case measure => simp [intOf]; omega
        · obtain rfl : k = q := by omega
          have i4 : decide ((k : Int) < (k : Int)) = false := by simp
          have hJ4 : Hid (J (cat funL (P.take (f + 1))) wr) := Lib.hid (by
            have := hJ.out
            rw [cat_all hq.out] at this
            rw [hsu.out]
            exact this)
          clear hJ c1
          gi_wp2
          go_roundw
          case rel => exact ⟨f + 1, by omega, by go_num, hJ4, hK⟩
          case measure => simp [intOf]; omega
    · obtain rfl : f = p := by omega
      have i2 : decide ((f : Int) < (f : Int)) = false := by simp
      have hJ4 : Hid (J (partsL P) wr) := Lib.hid (by
        have := hJ.out
        rw [cat_all hp.out] at this
        exact this)
      clear hJ hY
      gi_wp2
      go_end0
      exact ⟨⟨_, rfl⟩, .inl hJ4.out⟩
end Go.Proofs.YtjblhiekccjdcaaR
