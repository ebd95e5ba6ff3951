/- The document's Dominates and Tree, walked. -/
import Derived.Test.YteipncggndefmaaDWays
import Derived.Test.YteipncggndefmaaGSame
namespace Go.Proofs.Yteipncggndefmaa
open Go.RowKit Go.Maps Go.Shelf

set_option maxRecDepth 20000 in
set_option maxHeartbeats 1000000 in
theorem without_any {w : World} {v : Value} {L : List (List Int)} {a : Nat} (h : RdG w v L) (hL : L.length ≤ 100000) (ha : a < L.length) :
    Calls Try.prog 42 #[v, .int .i64 a] w fun e w' => ∃ v', e = .returned v' ∧ RdG w' v' (cutL L a) ∧ Below w.heap.size w w' := by
  obtain ⟨ag, cg, rfl⟩ := h.form
  obtain ⟨n, hn⟩ : ∃ n, n = L.length := ⟨_, rfl⟩
  obtain ⟨i0, hi0, hz0, hz1, hz2⟩ := info_parts infoL1
  rw [← hn] at hL ha ⊢
  rw [← hn] at h
  obtain ⟨vs, hv1, hv2, hv3⟩ := h
  have hvl : vs.length = n := by omega
  have hone : ∀ u ∈ vs, u.oneCell' = true := by
    intro u hu
    obtain ⟨i, hi, e⟩ := List.getElem_of_mem hu
    obtain ⟨l, hl⟩ : ∃ l, L[i]? = some l := ⟨_, List.getElem?_eq_getElem (by omega)⟩
    obtain ⟨a', c', e'⟩ := (hv3 i u l (by rw [List.getElem?_eq_getElem hi, e]) hl).shape
    subst e'
    rfl
  have hn0 : 0 < n := by omega
  have ja : (a : Int) < (n : Int) := by omega
  replace hn := Lib.hid hn
  replace hv2 := Lib.hid hv2
  replace hv3 := Lib.hid hv3
  go_enter Try.func42, Try.ntmps42
  go_wp2_with (at_builtin; refine wpList_append_rd _ rfl _ _ 22 rfl w.heap.size 25 i0 (.slice none 0 0) 24 Try.underlying22 hi0 hz0 hz1 hz2 rfl _ 0 [] rfl (World.ownsRow_nil _ _ _ _) _ vs rfl hv1 hone (by unfold maxLen; omega) (by omega) (Nat.le_refl _) ?_)
  intro v1 w1 hown1 hgrow1 hat1
  replace hown1 : w1.ownsRow w.heap.size 25 1 v1 n vs := by simpa [hvl] using hown1
  have hb1 : Below w.heap.size w w1 := (Below.refl _ _).grown hgrow1 (Nat.le_refl _) (by simp [Value.ownBlock])
  obtain ⟨g, cap, rfl⟩ := row_form hown1 hn0
  have hgl := (hown1.lt g rfl).1
  obtain ⟨f1, ⟨u1, c1⟩, -, hcut, hT1⟩ := cut_rd hown1 hv2.out hn.out ha (fun i u l hu hl w' hT => rd_past (hv3.out i u l hu hl) hb1 hT hgl)
  have hb2 : Below w.heap.size w (w1.setCell ⟨g, a, none⟩ (.slice none 0 0)) := hb1.trans (hT1.below hb1.size (fun k hk e => by omega))
  replace hb2 := Lib.hid hb2
  replace hcut := Lib.hid hcut
  clear hown1 hgrow1 hat1 hb1 hT1 hv1 hone hv2 hv3
  go_wp2_with fail
  go_ret
  exact ⟨_, rfl, hcut.out, hb2.out⟩

theorem cut_low {L : List (List Int)} {a m : Nat} (h : ∀ r ∈ L, r.length ≤ m) : ∀ r ∈ cutL L a, r.length ≤ m := by
  intro r hrm
  rcases List.mem_or_eq_of_mem_set hrm with h1 | rfl
  · exact h r h1
  · simp

set_option maxRecDepth 20000 in
set_option maxHeartbeats 1000000 in
theorem dominates_any {w : World} {v : Value} {L : List (List Int)} {root : Int} {a b : Nat} {q : Bool} (h : RdG w v L) (hL : L.length ≤ 100000) (hr : ∀ r ∈ L, r.length ≤ 100000) (ha : a < L.length) (hq : q = true ↔ Dmn L (rootN L root) a b) :
    Calls Try.prog 27 #[v, .int .i64 root, .int .i64 a, .int .i64 b] w fun e w' => e = .returned (.bool q) ∧ Below w.heap.size w w' := by
  obtain ⟨p1, hp1⟩ : ∃ p1 : Bool, p1 = true ↔ leadsP L root b := by
    classical
    exact ⟨decide (leadsP L root b), by simp⟩
  obtain ⟨p2, hp2⟩ : ∃ p2 : Bool, p2 = true ↔ leadsP (cutL L a) root b := by
    classical
    exact ⟨decide (leadsP (cutL L a) root b), by simp⟩
  have hl1 := Lib.hid (rleads_any h hL hr hp1)
  have hwo := Lib.hid (fun (w2 : World) (hb : Below w.heap.size w w2) => without_any (h.below hb) hL ha)
  have hl2 := Lib.hid (fun (w2 : World) (v2 : Value) (h2 : RdG w2 v2 (cutL L a)) => rleads_any h2 (by rw [cut_len]; exact hL) (cut_low hr) hp2)
  rw [leads_root] at hp1
  rw [leads_root, rootN_cut] at hp2
  have hre := root_eq (L := L) (root := root) ha
  unfold Dmn at hq
  have hab : ((a : Int) == (b : Int)) = decide (a = b) := by
    by_cases e : a = b
    · simp [e]
    · have : (a : Int) ≠ b := by omega
      simp [e, this]
  have har : ((a : Int) == root) = decide (a = rootN L root) := by
    by_cases e : a = rootN L root
    · rw [decide_eq_true e]; simpa using hre.2 e
    · rw [decide_eq_false e]; simpa using fun h => e (hre.1 h)
  obtain ⟨ag, cg, rfl⟩ := h.form
  replace h := Lib.hid h
  clear hre
  cases p1 with
  | false =>
    obtain rfl : q = false := Bool.eq_false_iff.2 (fun h => by have := hp1.2 (hq.1 h).1; cases this)
    clear hq hp1 hp2 hab har
    go_enter Try.func27, Try.ntmps27
    go_wp2_with fail
    refine hl1.out.mono ?_
    rintro e w1 ⟨rfl, hb1⟩
    go_wp2_with fail
    go_ret
    exact ⟨rfl, hb1⟩
  | true =>
    have hw := hp1.1 rfl
    by_cases hae : a = b
    · rw [decide_eq_true hae] at hab
      obtain rfl : q = true := hq.2 ⟨hw, .inl hae⟩
      replace hae := Lib.hid hae
      clear hq hp1 hp2 har hw
      go_enter Try.func27, Try.ntmps27
      go_wp2_with fail
      refine hl1.out.mono ?_
      rintro e w1 ⟨rfl, hb1⟩
      go_wp2_with fail
      go_ret
      exact ⟨rfl, hb1⟩
    · rw [decide_eq_false hae] at hab
      by_cases hro : a = rootN L root
      · rw [decide_eq_true hro] at har
        obtain rfl : q = true := hq.2 ⟨hw, .inr (.inl hro)⟩
        replace hae := Lib.hid hae
        replace hro := Lib.hid hro
        clear hq hp1 hp2 hw
        go_enter Try.func27, Try.ntmps27
        go_wp2_with fail
        refine hl1.out.mono ?_
        rintro e w1 ⟨rfl, hb1⟩
        go_wp2_with fail
        go_ret
        exact ⟨rfl, hb1⟩
      · rw [decide_eq_false hro] at har
        obtain rfl : q = !p2 := by
          cases p2 with
          | true =>
            refine Bool.eq_false_iff.2 (fun h => ?_)
            obtain ⟨-, h1 | h1 | h1⟩ := hq.1 h
            · exact hae h1
            · exact hro h1
            · exact h1 (hp2.1 rfl)
          | false => exact hq.2 ⟨hw, .inr (.inr (fun h => by have := hp2.2 h; cases this))⟩
        replace hae := Lib.hid hae
        replace hro := Lib.hid hro
        clear hq hp1 hp2 hw
        go_enter Try.func27, Try.ntmps27
        go_wp2_with fail
        refine hl1.out.mono ?_
        rintro e w1 ⟨rfl, hb1⟩
        have hwo1 := Lib.hid (hwo.out w1 hb1)
        replace hb1 := Lib.hid hb1
        go_wp2_with fail
        refine hwo1.out.mono ?_
        rintro e w2 ⟨v2, rfl, h2, hb2⟩
        have hl3 := Lib.hid (hl2.out w2 v2 h2)
        have hb3 := Lib.hid (hb1.out.trans (hb2.mono hb1.out.size))
        clear hb2 hwo1 h2
        go_wp2_with fail
        refine hl3.out.mono ?_
        rintro e w3 ⟨rfl, hb4⟩
        have hfin := Lib.hid (hb3.out.trans (hb4.mono hb3.out.size))
        clear hb4 hl3
        go_wp2_with fail
        go_ret
        exact ⟨rfl, hfin.out⟩

/-- Those that dominate, each way. -/
theorem DT.dm {L : List (List Int)} {y0 : Nat} {t : List Int} (h : DT L y0 t) : (∀ a b c, Dmn L y0 a c → Dmn L y0 b c → Dmn L y0 a b ∨ Dmn L y0 b a) ∧ (∀ a b c, Dmn L y0 a b → Dmn L y0 b c → Dmn L y0 a c) ∧ (∀ a b, Dmn L y0 a b → Dmn L y0 b a → a = b) := by
  have hd := fun a b => h.domL (Nat.le_refl _) a b
  obtain ⟨h1, h2, h3⟩ := h.rows
  refine ⟨fun a b c k1 k2 => ?_, fun a b c k1 k2 => ?_, fun a b k1 k2 => ?_⟩
  · exact (h1 a b c ((hd a c).2 k1) ((hd b c).2 k2)).imp (hd a b).1 (hd b a).1
  · exact (hd a c).1 (h2 a b c ((hd a b).2 k1) ((hd b c).2 k2))
  · exact Classical.byContradiction (fun hne => h3 a b hne ((hd a b).2 k1) ((hd b a).2 k2))
theorem DT.idom {L : List (List Int)} {y0 : Nat} {t : List Int} (h : DT L y0 t) {b : Nat} {tv : Int} (htv : t[b]? = some tv) (hb : b < L.length) (h0 : 0 ≤ tv) : Dmn L y0 tv.toNat b ∧ tv.toNat ≠ b := by
  rcases h with ⟨o, T, ht⟩ | ⟨h1, rfl⟩
  · by_cases hbo : b ∈ o
    · obtain ⟨q, hq, eq⟩ := List.getElem_of_mem hbo
      have hq' : o[q]? = some b := by rw [List.getElem?_eq_getElem hq, eq]
      rcases Nat.eq_zero_or_pos q with rfl | hq0
      · have := ht.is.first b hq' hq
        rw [htv] at this
        have := Option.some.inj this
        omega
      · obtain ⟨z, hz, htz⟩ := ht.at_ hq' hq0
        rw [htv] at htz
        obtain rfl := Option.some.inj htz
        rw [Int.toNat_natCast]
        refine ⟨(ht.anc_dmn hz hq').1 (.up hq0 (.refl _)), fun e => ?_⟩
        subst e
        have := ht.row.inj hz hq'
        have := ht.down q hq0
        omega
    · have := ht.is.far b hb (fun p hp => absurd (List.mem_of_getElem? hp) hbo)
      rw [htv] at this
      have := Option.some.inj this
      omega
  · rw [List.getElem?_replicate, if_pos hb] at htv
    have := Option.some.inj htv
    omega
/-- The nearest of those that dominate b, among the first k nodes. -/
def Best (L : List (List Int)) (y0 b k : Nat) (v : Int) : Prop :=
  (v = -1 ∧ ∀ a, a < k → a ≠ b → ¬ Dmn L y0 a b) ∨ ∃ z : Nat, v = z ∧ z < k ∧ z ≠ b ∧ Dmn L y0 z b ∧ ∀ a, a < k → a ≠ b → Dmn L y0 a b → Dmn L y0 a z
section
variable {L : List (List Int)} {y0 b k : Nat} {v : Int} {t : List Int}
theorem Best.skip (h : Best L y0 b k v) (hs : k = b ∨ ¬ Dmn L y0 k b) : Best L y0 b (k + 1) v := by
  have hk : ∀ a, a < k + 1 → a ≠ b → Dmn L y0 a b → a < k := fun a ha hab hd => by
    by_cases e : a = k
    · subst e
      rcases hs with h | h
      · exact absurd h hab
      · exact absurd hd h
    · omega
  rcases h with ⟨h1, h2⟩ | ⟨z, h1, h2, h3, h4, h5⟩
  · exact .inl ⟨h1, fun a ha hab hd => h2 a (hk a ha hab hd) hab hd⟩
  · exact .inr ⟨z, h1, by omega, h3, h4, fun a ha hab hd => h5 a (hk a ha hab hd) hab hd⟩
theorem Best.first (h : Best L y0 b k v) (hv : v < 0) (hb : k ≠ b) (hd : Dmn L y0 k b) : Best L y0 b (k + 1) k := by
  rcases h with ⟨h1, h2⟩ | ⟨z, h1, -⟩
  · refine .inr ⟨k, rfl, by omega, hb, hd, fun a ha hab hda => ?_⟩
    by_cases e : a = k
    · subst e; exact ⟨hda.reached, .inl rfl⟩
    · exact absurd hda (h2 a (by omega) hab)
  · omega
theorem Best.next (h : Best L y0 b k v) (hT : DT L y0 t) (hv : 0 ≤ v) (hb : k ≠ b) (hd : Dmn L y0 k b) : (Dmn L y0 v.toNat k → Best L y0 b (k + 1) k) ∧ (¬ Dmn L y0 v.toNat k → Best L y0 b (k + 1) v) := by
  obtain ⟨d1, d2, d3⟩ := hT.dm
  rcases h with ⟨h1, -⟩ | ⟨z, rfl, h2, h3, h4, h5⟩
  · omega
  · rw [Int.toNat_natCast]
    refine ⟨fun hz => .inr ⟨k, rfl, by omega, hb, hd, fun a ha hab hda => ?_⟩, fun hz => .inr ⟨z, rfl, by omega, h3, h4, fun a ha hab hda => ?_⟩⟩
    · by_cases e : a = k
      · subst e; exact ⟨hda.reached, .inl rfl⟩
      · exact d2 a z k (h5 a (by omega) hab hda) hz
    · by_cases e : a = k
      · subst e
        rcases d1 z a b h4 hda with h | h
        · exact absurd h hz
        · exact h
      · exact h5 a (by omega) hab hda
theorem Best.done (h : Best L y0 b L.length v) (hT : DT L y0 t) (hb : b < L.length) (hw : Way L y0 b) : t[b]? = some v := by
  obtain ⟨tv, htv, e2, e1, hup, -⟩ := hT.pair hb
  obtain ⟨d1, d2, d3⟩ := hT.dm
  have hy := hw.lt.1
  have hyb : Dmn L y0 y0 b := ⟨hw, .inr (.inl rfl)⟩
  rw [htv]
  rcases h with ⟨rfl, h2⟩ | ⟨z, rfl, h2, h3, h4, h5⟩
  · have : b = y0 := Classical.byContradiction (fun hne => h2 y0 hy (fun e => hne e.symm) hyb)
    rw [e1.2 this]
  · have hby : b ≠ y0 := fun e => by
      have hz : Dmn L y0 y0 z := ⟨h4.reached, .inr (.inl rfl)⟩
      exact h3 (d3 z b h4 (by rw [e]; exact hz))
    have htv0 : 0 ≤ tv := by
      rcases hT with ⟨o, T, ht⟩ | ⟨h1, -⟩
      · obtain ⟨q, hq, eq⟩ := List.getElem_of_mem ((ht.row.mem b).2 hw)
        have hq' : o[q]? = some b := by rw [List.getElem?_eq_getElem hq, eq]
        have hq0 : 0 < q := by
          rcases Nat.eq_zero_or_pos q with rfl | h
          · exact absurd (Option.some.inj (hq'.symm.trans ht.row.head)) hby
          · exact h
        obtain ⟨p, -, htz⟩ := ht.at_ hq' hq0
        rw [htv] at htz
        have := Option.some.inj htz
        omega
      · omega
    obtain ⟨i1, i2⟩ := hT.idom htv hb htv0
    have k1 := hup z htv0 h3 h4
    have k2 := h5 tv.toNat i1.reached.lt.2 i2 i1
    have := d3 _ _ k1 k2
    rw [show tv = ((tv.toNat : Nat) : Int) from by omega, ← this]
end
end Go.Proofs.Yteipncggndefmaa
