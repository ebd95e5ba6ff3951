/- The document's Frontier: its inner loop. -/
import Derived.Test.YteipncggndefmaaDRef
namespace Go.Proofs.Yteipncggndefmaa
open Go.RowKit Go.Maps Go.Shelf

theorem own_raise {w : World} {b1 b2 : Nat} {e : TypeId} {size n : Nat} {v : Value} {us : List Value} (h : w.ownsRow b1 e size v n us) (hb : ∀ b, v.ownBlock = some b → b2 ≤ b) : w.ownsRow b2 e size v n us := by
  refine ⟨h.1, h.2.imp id ?_⟩
  rintro ⟨g, cap, cur, rfl, h1, h2⟩
  exact ⟨g, cap, cur, rfl, hb g rfl, h2⟩
theorem fill_more {w1 w w' : World} {base G : Nat} {vs : List Value} {B : List (List Int)} (h : Fill w1 w base G vs B) (hb : Below w.heap.size w w') : Fill w1 w' base G vs B :=
  ⟨h.M.below hb, h.fresh, h.T.trans (Touch.of_below hb _)⟩
theorem fill_turned {w1 w w2 : World} {base G : Nat} {vs : List Value} {B : List (List Int)} (hF : Fill w1 w base G vs B) {i : Nat} {u v' : Value} {F F' : List Int} (hu : vs[i]? = some u) (hl : B[i]? = some F) (hb : Below w.heap.size w w2)
    (hs : Strip w2 v' F') (hnew : v' = u ∨ ∀ b, v'.ownBlock = some b → w.heap.size ≤ b) (hbase : base ≤ w.heap.size) :
    w2.cell? ⟨G, i, none⟩ = some u ∧ w2.frozen? ⟨G, i, none⟩ = false ∧ Fill w1 (w2.setCell ⟨G, i, none⟩ v') base G (vs.set i v') (B.set i F') := by
  have hrow := hF.M.row i u F hu hl
  have hT : Touch w w2 (fun b => u.ownBlock = some b) := Touch.of_below hb _
  have hn : ∀ b, v'.ownBlock = some b → u.ownBlock = some b ∨ w.heap.size ≤ b := fun b hb' => hnew.elim (fun e => .inl (e ▸ hb')) (fun h => .inr (h b hb'))
  have hown : w2.ownsRow base 3 1 v' F'.length (F'.map encI) := own_raise hs (fun b hb' => by
    rcases hn b hb' with h | h
    · exact (hrow.lt b h).1
    · omega)
  have hG := (hb.block G hF.M.lt).trans hF.M.blk
  refine ⟨by rw [blk_cell hG]; simpa using hu, by simp [World.frozen?, hG], hF.M.turn hu hl hT hown hn, fun j y b hy hb' => ?_, ?_⟩
  · by_cases hj : j = i
    · subst hj
      rw [List.getElem?_set_self (List.getElem?_eq_some_iff.1 hu).1] at hy
      obtain rfl := Option.some.inj hy
      rcases hn b hb' with h | h
      · exact hF.fresh j u b hu h
      · exact Nat.le_trans hF.T.size h
    · rw [List.getElem?_set_ne (by omega)] at hy
      exact hF.fresh j y b hy hb'
  · exact Touch.trans (hF.T.trans (Touch.of_below hb _)) ((Touch.refl w2 (fun b => b = G)).setCell (a := ⟨G, i, none⟩) (fun _ => rfl) _)

/-- Frontiers told row by row: those ahead of a whole; of a what the pairs in H give. -/
def RfAt (L : List (List Int)) (y0 a : Nat) (H : Nat → Nat → Prop) (B : List (List Int)) : Prop :=
  B.length = L.length ∧ ∀ (i : Nat) (r : List Int), B[i]? = some r → r.Pairwise (· < ·) ∧ ∀ z : Int, z ∈ r ↔ ∃ y : Nat, z = y ∧ ∃ x, ((i < a ∧ Edge L x y) ∨ (i = a ∧ H x y)) ∧ FrBy L y0 y i x
section
variable {L B : List (List Int)} {y0 a : Nat} {H H' : Nat → Nat → Prop}
theorem RfAt.same (h : RfAt L y0 a H B) (hh : ∀ x y, FrBy L y0 y a x → (H x y ↔ H' x y)) : RfAt L y0 a H' B := by
  refine ⟨h.1, fun i r hr => ?_⟩
  obtain ⟨h1, h2⟩ := h.2 i r hr
  refine ⟨h1, fun z => ?_⟩
  rw [h2]
  constructor
  · rintro ⟨y, e, x, h3 | ⟨rfl, h3⟩, h4⟩
    · exact ⟨y, e, x, .inl h3, h4⟩
    · exact ⟨y, e, x, .inr ⟨rfl, (hh x y h4).1 h3⟩, h4⟩
  · rintro ⟨y, e, x, h3 | ⟨rfl, h3⟩, h4⟩
    · exact ⟨y, e, x, .inl h3, h4⟩
    · exact ⟨y, e, x, .inr ⟨rfl, (hh x y h4).2 h3⟩, h4⟩
theorem RfAt.add (h : RfAt L y0 a H B) {r : List Int} (hr : B[a]? = some r) {x0 yy : Nat} (hb : FrBy L y0 yy a x0) : RfAt L y0 a (fun x y => H x y ∨ (x = x0 ∧ y = yy)) (B.set a (addL r yy)) := by
  refine ⟨by rw [List.length_set]; exact h.1, fun i s hs => ?_⟩
  by_cases e : i = a
  · subst e
    obtain ⟨h1, h2⟩ := h.2 i r hr
    rw [List.getElem?_set_self (List.getElem?_eq_some_iff.1 hr).1] at hs
    obtain rfl := Option.some.inj hs
    refine ⟨rise_addL h1, fun z => ?_⟩
    rw [mem_addL, h2]
    constructor
    · rintro (⟨y, e, x, h3 | ⟨-, h3⟩, h4⟩ | ⟨e, -⟩)
      · exact ⟨y, e, x, .inl h3, h4⟩
      · exact ⟨y, e, x, .inr ⟨rfl, .inl h3⟩, h4⟩
      · exact ⟨yy, e, x0, .inr ⟨rfl, .inr ⟨rfl, rfl⟩⟩, hb⟩
    · rintro ⟨y, e, x, h3 | ⟨-, h3 | ⟨rfl, rfl⟩⟩, h4⟩
      · exact .inl ⟨y, e, x, .inl h3, h4⟩
      · exact .inl ⟨y, e, x, .inr ⟨rfl, h3⟩, h4⟩
      · exact .inr ⟨e, by omega⟩
  · rw [List.getElem?_set_ne (fun e' => e e'.symm)] at hs
    obtain ⟨h1, h2⟩ := h.2 i s hs
    refine ⟨h1, fun z => ?_⟩
    rw [h2]
    simp [e]
theorem RfAt.next (h : RfAt L y0 a (fun x y => Edge L x y) B) : RfAt L y0 (a + 1) (fun _ _ => False) B := by
  refine ⟨h.1, fun i r hr => ?_⟩
  obtain ⟨h1, h2⟩ := h.2 i r hr
  refine ⟨h1, fun z => ?_⟩
  rw [h2]
  constructor
  · rintro ⟨y, e, x, h3, h4⟩
    exact ⟨y, e, x, .inl (by rcases h3 with h3 | h3 <;> exact ⟨by omega, h3.2⟩), h4⟩
  · rintro ⟨y, e, x, h3 | h3, h4⟩
    · by_cases e2 : i = a
      · exact ⟨y, e, x, .inr ⟨e2, h3.2⟩, h4⟩
      · exact ⟨y, e, x, .inl ⟨by omega, h3.2⟩, h4⟩
    · exact h3.2.elim
theorem RfAt.front (h : RfAt L y0 L.length H B) : FrontOf L y0 B := by
  refine ⟨h.1, fun i r hr => ?_⟩
  obtain ⟨h1, h2⟩ := h.2 i r hr
  have hi := (List.getElem?_eq_some_iff.1 hr).1
  rw [h.1] at hi
  refine ⟨h1, fun z => ?_⟩
  rw [h2]
  unfold FrP
  constructor
  · rintro ⟨y, e, x, h3 | h3, h4⟩
    · exact ⟨y, e, x, h3.2, h4⟩
    · omega
  · rintro ⟨y, e, x, h3, h4⟩
    exact ⟨y, e, x, .inl ⟨hi, h3⟩, h4⟩
theorem RfAt.len (h : RfAt L y0 a H B) {i : Nat} {r : List Int} (hr : B[i]? = some r) (hH : ∀ x y, H x y → y < L.length) : r.length ≤ L.length := by
  obtain ⟨h1, h2⟩ := h.2 i r hr
  have h3 : (r.map Int.toNat).Nodup := by
    rw [List.Nodup, List.pairwise_map]
    refine h1.imp_of_mem (fun {a b} ha hb hab => ?_)
    obtain ⟨y, e, -⟩ := (h2 a).1 ha
    obtain ⟨z, e', -⟩ := (h2 b).1 hb
    omega
  have h4 := h3.length_le_of_subset (l₂ := List.range L.length) (fun x hx => by
    obtain ⟨z, hz, rfl⟩ := List.mem_map.1 hx
    obtain ⟨y, e, x, h5 | h5, -⟩ := (h2 z).1 hz
    · have := h5.2.lt.2; exact List.mem_range.2 (by omega)
    · have := hH x y h5.2; exact List.mem_range.2 (by omega))
  simpa using h4
theorem FrontOf.det {A B : List (List Int)} (ha : FrontOf L y0 A) (hb : FrontOf L y0 B) : A = B := by
  apply List.ext_getElem (by rw [ha.1, hb.1])
  intro i h1 h2
  obtain ⟨a1, a2⟩ := ha.2 i _ (List.getElem?_eq_getElem h1)
  obtain ⟨b1, b2⟩ := hb.2 i _ (List.getElem?_eq_getElem h2)
  exact rise_ext a1 b1 (fun z => by rw [a2, b2])
end
/-- The pairs gone through: of nodes ahead of x all edges, of x itself the first k. -/
def HdK (L : List (List Int)) (r : List Int) (x0 k : Nat) (x y : Nat) : Prop := (x < x0 ∧ Edge L x y) ∨ (x = x0 ∧ (y : Int) ∈ r.take k)

set_option maxRecDepth 20000 in
set_option maxHeartbeats 4000000 in
theorem rfront4 {c : Code} (hc : Func.blockOf Try.f17 4 = some c) {Q : Exit → Act → World → Prop} {w w0 w1 : World} {G base n a x0 cg cn : Nat} {ag an : Option Addr} {L B : List (List Int)} {r : List Int} {vs : List Value} {root : Int} {u2 u3 u4 u10 u11 u12 u13 u14 u15 u16 u17 u18 u19 u20 u21 u22 u23 u24 u25 u26 u27 u28 u29 u30 u31 u32 u33 u34 u35 u36 u37 u38 u39 u40 u41 u42 u43 u44 u45 u46 u47 u48 u49 u50 u51 u52 u53 u54 u55 u56 u57 u58 u59 u60 u61 u62 u63 u64 u65 u66 u67 u68 u69 u70 : Value}
    (hF : Fill w1 w base G vs B) (hA : RfAt L (rootN L root) a (fun x y => x < x0 ∧ Edge L x y) B) (hN : RdX (fun b => b = G) w1 (.slice an n cn) (normL L)) (hrx : (normL L)[x0]? = some r) (hform : r.Pairwise (· < ·) ∧ ∀ x ∈ r, 0 ≤ x ∧ x < n) (hedge : ∀ y : Nat, (y : Int) ∈ r ↔ Edge L x0 y) (hrr : r.length ≤ 100000) (hg : RdG w0 (.slice ag n cg) L) (hB0 : Below w0.heap.size w0 w1) (hG0 : w0.heap.size ≤ G) (hn : n = L.length) (hn2 : n ≤ 100000) (hrL : ∀ r ∈ L, r.length ≤ 100000) (ha : a < n) (hx0 : x0 < n) (hda : Dmn L (rootN L root) a x0) (hbase : base ≤ w1.heap.size)
    (hQ : Hid (∀ {wx : World} {v9 v10 v34 v35 v36 v37 v38 v39 v40 v41 v42 v43 v44 v45 v46 v47 v48 v49 v50 v51 v52 v53 v54 v55 v56 v57 v58 v59 v60 v61 v62 v63 v64 v65 v66 v67 v68 v69 : Value}, (∃ (vs : List Value) (B : List (List Int)), Fill w1 wx base G vs B ∧ RfAt L (rootN L root) a (fun x y => x < x0 + 1 ∧ Edge L x y) B) → Q .normal { tmps := #[.slice ag n cg, .int .i64 root, u2, u3, u4, .slice an n cn, .slice (some ⟨G, 0, none⟩) n n, .int .i64 a, .int .i64 x0, v9, v10, u11, u12, u13, u14, u15, u16, u17, u18, u19, u20, u21, u22, u23, u24, u25, u26, u27, u28, u29, u30, u31, u32, u33, v34, v35, v36, v37, v38, v39, v40, v41, v42, v43, v44, v45, v46, v47, v48, v49, v50, v51, v52, v53, v54, v55, v56, v57, v58, v59, v60, v61, v62, v63, v64, v65, v66, v67, v68, v69, u70], defers := [] } wx)) :
    c.wp Try.prog Q { tmps := #[.slice ag n cg, .int .i64 root, u2, u3, u4, .slice an n cn, .slice (some ⟨G, 0, none⟩) n n, .int .i64 a, .int .i64 x0, .int .i64 0, u10, u11, u12, u13, u14, u15, u16, u17, u18, u19, u20, u21, u22, u23, u24, u25, u26, u27, u28, u29, u30, u31, u32, u33, u34, u35, u36, u37, u38, u39, u40, u41, u42, u43, u44, u45, u46, u47, u48, u49, u50, u51, u52, u53, u54, u55, u56, u57, u58, u59, u60, u61, u62, u63, u64, u65, u66, u67, u68, u69, u70], defers := [] } w := by
  conv at hc => lhs; whnf
  simp only [Option.some.injEq] at hc
  subst hc
  obtain ⟨rl, hrl⟩ : ∃ rl, rl = r.length := ⟨_, rfl⟩
  have hrn : rl ≤ 100000 := by omega
  have hyl : ∀ y : Nat, (y : Int) ∈ r → y < n := fun y hy => by have := ((hedge y).1 hy).lt.2; omega
  have hHl : ∀ k x y, HdK L r x0 k x y → y < L.length := fun k x y h => by
    rcases h with h | h
    · exact h.2.lt.2
    · have := hyl y (List.mem_of_mem_take h.2); omega
  have ix : (x0 : Int) < (n : Int) := by omega
  have ia : (a : Int) < (n : Int) := by omega
  have hgw : ∀ wr, Touch w1 wr (fun b => b = G) → RdG wr (.slice ag n cg) L := fun wr hT => hg.below (hB0.trans (hT.below hB0.size (fun k hk e => by omega)))
  have hDo := Lib.hid (fun (wr : World) (hT : Touch w1 wr (fun b => b = G)) (y : Nat) (q : Bool) (hq : q = true ↔ Dmn L (rootN L root) a y) => dominates_any (hgw wr hT) (by omega) hrL (by omega) hq)
  obtain ⟨y0, hy0⟩ : ∃ y0, Hid (rootN L root = y0) := ⟨_, Lib.hid rfl⟩
  rw [hy0.out] at hDo hA hda
  obtain ⟨b, off, cap', u, e, hblk, hbG, hcell1, hrd1, hoff⟩ := hN.at hrx
  rw [show (normL L).length = n by rw [normL_len]; omega] at e
  simp only [Value.slice.injEq] at e
  obtain ⟨rfl, -, rfl⟩ := e
  obtain ⟨ar, cr, rfl⟩ := hrd1.shape
  rw [← hrl] at hrd1 hoff hcell1
  have hrow : ∀ wr, Touch w1 wr (fun b => b = G) → wr.cell? ⟨b, off + x0, none⟩ = some (.slice ar rl cr) ∧ RdI wr (.slice ar rl cr) r := fun wr hT => ⟨(cell_off hT hblk hbG).trans hcell1, Rd.off hrd1 hT (by rw [List.length_map, ← hrl]; exact hoff)⟩
  have hA0 := hA.same (H' := HdK L r x0 0) (fun x y _ => by unfold HdK; simp)
  replace hF := Lib.hid hF
  replace hA0 := Lib.hid hA0
  replace hrow := Lib.hid hrow
  replace hda := Lib.hid hda
  replace hn := Lib.hid hn
  replace hrl := Lib.hid hrl
  replace hyl := Lib.hid hyl
  replace hHl := Lib.hid hHl
  replace hedge := Lib.hid hedge
  clear hA hN hrx hcell1 hrd1 hoff hgw hg hB0
  go_wp2_with fail
  go_loopw [9, 10] (fun i _ wr => ∃ (k : Nat) (vs : List Value) (B : List (List Int)), k ≤ rl ∧ i = .int .i64 k ∧ Hid (Fill w1 wr base G vs B) ∧ Hid (RfAt L y0 a (HdK L r x0 k) B)) (fun i _ _ => rl - (intOf i).toNat)
  case atStart => exact ⟨0, vs, B, Nat.zero_le _, rfl, hF, hA0⟩
  case round =>
    clear hF hA0
    obtain ⟨k, vs, B, hk, rfl, hF, hA⟩ := hrel
    obtain ⟨c1, hri⟩ := hrow.out wr hF.out.T
    by_cases hlt : k < rl
    · obtain ⟨yi, hyi⟩ : ∃ y, r[k]? = some y := ⟨_, List.getElem?_eq_getElem (by rw [← hrl.out]; exact hlt)⟩
      have hy0' := hform.2 yi (List.mem_of_getElem? hyi)
      obtain ⟨y, rfl⟩ : ∃ y : Nat, yi = y := ⟨yi.toNat, by omega⟩
      obtain ⟨b2, off2, cap2, e2, hc2⟩ := RdI.cell hri hyi
      rw [← hrl.out] at e2
      simp only [Value.slice.injEq] at e2
      obtain ⟨rfl, -, rfl⟩ := e2
      have j1 : decide ((k : Int) < (rl : Int)) = true := by simpa using hlt
      have j2 : (k : Int) < (rl : Int) := by omega
      have hyn : y < n := hyl.out y (List.mem_of_getElem? hyi)
      have hkk : ∀ x y' : Nat, HdK L r x0 (k + 1) x y' ↔ HdK L r x0 k x y' ∨ (x = x0 ∧ y' = y) := fun x y' => by
        have ht : r.take (k + 1) = r.take k ++ [(y : Int)] := take_snoc hyi
        unfold HdK
        rw [ht, List.mem_append, List.mem_singleton]
        constructor
        · rintro (h | ⟨h1, h2 | h2⟩)
          · exact .inl (.inl h)
          · exact .inl (.inr ⟨h1, h2⟩)
          · exact .inr ⟨h1, by omega⟩
        · rintro ((h | ⟨h1, h2⟩) | ⟨h1, h2⟩)
          · exact .inl h
          · exact .inr ⟨h1, .inl h2⟩
          · exact .inr ⟨h1, .inr (by rw [h2])⟩
      have hlen := hA.out
      obtain ⟨Fr, hFr⟩ : ∃ Fr, B[a]? = some Fr := ⟨_, List.getElem?_eq_getElem (by rw [hA.out.1, ← hn.out]; omega)⟩
      have hFrl := hA.out.len hFr (hHl.out k)
      obtain ⟨u1, hu1, hown⟩ := hF.out.M.at hFr
      have hgc := hF.out.M.cell hu1
      obtain ⟨q2, hq2⟩ : ∃ q2 : Bool, q2 = true ↔ Dmn L y0 a y := by
        classical
        exact ⟨decide (Dmn L y0 a y), by simp⟩
      have hd2 := Lib.hid (hDo.out wr hF.out.T y q2 hq2)
      have hnl : Fr.length ≤ 100000 := by have := hn.out; omega
      have hbw : base ≤ wr.heap.size := Nat.le_trans hbase hF.out.T.size
      obtain ⟨au, cu, rfl⟩ := own_form hown
      by_cases hya : y = a
      · have j3 : ((y : Int) == (a : Int)) = true := by simp [hya]
        have hby : FrBy L y0 y a x0 := ⟨hda.out, .inl hya.symm⟩
        have hA2 := Lib.hid ((hA.out.add hFr hby).same (H' := HdK L r x0 (k + 1)) (fun x y' _ => (hkk x y').symm))
        have hadd := Lib.hid (radd_any (i := (y : Int)) (strip_down hown) hnl)
        have hFt := Lib.hid (fun w2 v' hb hs hnew => fill_turned (w2 := w2) (v' := v') (F' := addL Fr y) hF.out hu1 hFr hb hs hnew hbw)
        replace hya := Lib.hid hya
        clear hd2 hq2 hkk hA hown hu1 hFr hlen hri hby hyi
        go_wp2_with fail
        refine hadd.out.mono ?_
        rintro e w2 ⟨v', rfl, hs, hnew, hb2⟩
        obtain ⟨d1, d2, hF3⟩ := hFt.out w2 v' hb2 hs hnew
        obtain ⟨a2, c3, rfl⟩ := own_form hs
        replace hF3 := Lib.hid hF3
        clear hadd hFt hs hnew hb2 hgc c1 hc2 hF
        go_wp2_with fail
        exact ⟨⟨k + 1, _, _, by omega, by go_num, hF3, hA2⟩, by simp [intOf]; omega⟩
      · have j3 : ((y : Int) == (a : Int)) = false := by simp; omega
        cases q2 with
        | true =>
          have hnb : ¬ FrBy L y0 y a x0 := fun h => h.2.elim (fun e => hya e.symm) (fun h' => h' (hq2.1 rfl))
          have hA2 := Lib.hid (hA.out.same (H' := HdK L r x0 (k + 1)) (fun x y' hb => by
            rw [hkk]
            exact ⟨.inl, fun h => h.elim id (fun ⟨e1, e2⟩ => absurd (e1 ▸ e2 ▸ hb) hnb)⟩))
          replace hya := Lib.hid hya
          clear hq2 hkk hA hown hu1 hFr hlen hri hnb hyi
          go_wp2_with fail
          refine hd2.out.mono ?_
          rintro e w2 ⟨rfl, hb2⟩
          have hF3 := Lib.hid (fill_more hF.out hb2)
          clear hb2 hd2 hF hgc c1 hc2
          go_wp2_with fail
          exact ⟨⟨k + 1, _, _, by omega, by go_num, hF3, hA2⟩, by simp [intOf]; omega⟩
        | false =>
          have hby : FrBy L y0 y a x0 := ⟨hda.out, .inr (fun h => by have := hq2.2 h; cases this)⟩
          have hA2 := Lib.hid ((hA.out.add hFr hby).same (H' := HdK L r x0 (k + 1)) (fun x y' _ => (hkk x y').symm))
          replace hya := Lib.hid hya
          replace hu1 := Lib.hid hu1
          replace hFr := Lib.hid hFr
          clear hq2 hkk hA hown hlen hri hby hyi hgc
          go_wp2_with fail
          refine hd2.out.mono ?_
          rintro e w2 ⟨rfl, hb2⟩
          have hF2 := fill_more hF.out hb2
          have hown2 := hF2.M.row a _ Fr hu1.out hFr.out
          have hgc2 := hF2.M.cell hu1.out
          have hbw2 : base ≤ w2.heap.size := Nat.le_trans hbase hF2.T.size
          have hadd := Lib.hid (radd_any (i := (y : Int)) (strip_down hown2) hnl)
          have hFt := Lib.hid (fun w3 v' hb hs hnew => fill_turned (w2 := w3) (v' := v') (F' := addL Fr y) hF2 hu1.out hFr.out hb hs hnew hbw2)
          clear hb2 hd2 hF c1 hc2 hF2 hown2
          go_wp2_with fail
          refine hadd.out.mono ?_
          rintro e w3 ⟨v', rfl, hs, hnew, hb3⟩
          obtain ⟨d1, d2, hF3⟩ := hFt.out w3 v' hb3 hs hnew
          obtain ⟨a2, c3, rfl⟩ := own_form hs
          replace hF3 := Lib.hid hF3
          clear hadd hFt hs hnew hb3 hgc2
          go_wp2_with fail
          exact ⟨⟨k + 1, _, _, by omega, by go_num, hF3, hA2⟩, by simp [intOf]; omega⟩
    · obtain rfl : k = rl := by omega
      have j1 : decide ((k : Int) < (k : Int)) = false := by simp
      go_wp2_with fail
      exact hQ.out ⟨vs, B, hF.out, by
        have := hA.out.same (H' := fun x y => x < x0 + 1 ∧ Edge L x y) (fun x y _ => by
          unfold HdK
          rw [hrl.out, List.take_length]
          constructor
          · rintro (h | ⟨rfl, h⟩)
            · exact ⟨by omega, h.2⟩
            · exact ⟨by omega, (hedge.out y).1 h⟩
          · rintro ⟨h1, h2⟩
            by_cases e : x = x0
            · subst e; exact .inr ⟨rfl, (hedge.out y).2 h2⟩
            · exact .inl ⟨by omega, h2⟩)
        rw [hy0.out]
        exact this⟩

end Go.Proofs.Yteipncggndefmaa
