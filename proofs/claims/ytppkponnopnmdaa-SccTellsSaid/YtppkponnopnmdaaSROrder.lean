/- The document's own Order, walked. -/
import Derived.Test.YtppkponnopnmdaaSRFold
namespace Go.Proofs.Ytppkponnopnmdaa
open Go.RowKit Go.Maps Go.Shelf

def natL (o : List Nat) : List Int := o.map (fun x : Nat => (x : Int))
theorem natL_mem {o : List Nat} {x : Nat} : (x : Int) ∈ natL o ↔ x ∈ o := by
  unfold natL
  rw [List.mem_map]
  exact ⟨fun ⟨y, h, e⟩ => Int.ofNat_inj.1 e ▸ h, fun h => ⟨x, h, rfl⟩⟩
/-- Is all out that leads there, among the first ones? -/
def freeK (F : List (List Int)) (o : List Nat) (x k : Nat) : Prop := ∀ a, a < k → Edge F a x → a ∈ o
def RO1 (F : List (List Int)) (w1 wr : World) (v : Value) (g : Nat) : Prop := ∃ o : List Nat, OrdP F o ∧ OutOk F o ∧ wr.ownsRow w1.heap.size 3 1 v (natL o).length ((natL o).map encI) ∧ Below w1.heap.size w1 wr ∧ Hid (g = F.length - o.length)
def RO2 (F : List (List Int)) (o : List Nat) (v : Value) (wr wx : World) (u i : Value) : Prop := ∃ x : Nat, x ≤ F.length ∧ i = .int .i64 x ∧ u = v ∧ (∀ y, y < x → ¬ Free F o y) ∧ wx = wr
def RO3 (F : List (List Int)) (o : List Nat) (x : Nat) (wr wx : World) (b i : Value) : Prop := ∃ (k : Nat) (t : Bool), k ≤ F.length ∧ i = .int .i64 k ∧ b = .bool t ∧ (t = true ↔ freeK F o x k) ∧ wx = wr

set_option maxRecDepth 20000 in
set_option maxHeartbeats 8000000 in
theorem rorder_any {w : World} {v : Value} {L : List (List Int)} {m : Nat → Int} (h : RdG w v L) (hL : L.length ≤ 300) (hr : ∀ r ∈ L, r.length ≤ 100000) (hm : Marks L m) :
    Calls Try.prog 20 #[v] w fun e w' => ∃ rv F o, e = .returned rv ∧ FoldOf L m F ∧ OrdOf F o ∧ RdI w' rv (natL o) ∧ Below w.heap.size w w' := by
  obtain ⟨av, cap, rfl⟩ := h.form
  have hF := Lib.hid (rfold_any h hL hr hm)
  obtain ⟨i0, hi0, hz0, hz1, hz2⟩ := info_parts infoI1
  clear h hr
  go_enter Try.func20, Try.ntmps20
  go_wp2_with fail
  refine hF.out.mono ?_
  rintro e w1 ⟨G, F, rfl, hfold, hg, hb1⟩
  have hap : ∀ a b, Way F a b → Way F b a → a = b := fun a b => hfold.apart hm
  have hself : ∀ a, ¬ Edge F a a := fun a e => ((hfold.edge a a).1 e).1 rfl
  have hfm := hfold.form
  have hcn := cntM_le m L.length
  have hlen0 := hfold.len
  obtain ⟨c, hc⟩ : ∃ c, c = F.length := ⟨_, rfl⟩
  rw [← hc] at hg hlen0 ⊢
  have hc3 : c ≤ 300 := by omega
  replace hc := Lib.hid hc
  replace hfold := Lib.hid hfold
  replace hap := Lib.hid hap
  replace hself := Lib.hid hself
  replace hfm := Lib.hid hfm
  have hgK : Hid (∀ wx : World, Below w1.heap.size w1 wx → RdG wx (.slice (some ⟨G, 0, none⟩) c c) F ∧ Below w.heap.size w wx) := Lib.hid (fun wx hb => ⟨hg.below hb, hb1.trans (hb.mono hb1.size)⟩)
  clear hF hg hb1 hlen0 hcn
  go_wp2_with fail
  go_loopg [4, 5, 6, 7] c (fun g u _ _ _ wr => RO1 F w1 wr u g)
  case atStart => exact ⟨[], fun i c h => by simp at h, OutOk.nil F, World.ownsRow_nil _ _ _ _, Below.refl _ _, Lib.hid (by rw [hc.out]; simp)⟩
  case round =>
    obtain ⟨o, hP, hO, hown, hb, hg⟩ := hrel
    have hol : (natL o).length = o.length := by simp [natL]
    rw [hol] at hown
    obtain ⟨ao, co, hform⟩ := own_form hown
    subst hform
    obtain ⟨hgF, hbw⟩ := hgK.out _ hb
    have holc := hO.len
    rw [← hc.out] at holc
    have hrd : RdI wr (.slice ao o.length co) (natL o) := strip_rd hown
    by_cases hlt : o.length < c
    · have i1 : (o.length : Int) < (c : Int) := by omega
      obtain ⟨xf, hxf⟩ : ∃ x, Free F o x := by
        obtain ⟨b, hb, hbo⟩ := out_one (F := F) (o := o) (by rw [← hc.out]; exact hlt)
        exact free_one hap.out hself.out hb hbo
      have hxf' := Lib.hid hxf
      have hown' := Lib.hid hown
      have hgF' := Lib.hid hgF
      have hrd' := Lib.hid hrd
      have hP' := Lib.hid hP
      have hO' := Lib.hid hO
      clear hxf hown hgF hrd hP hO
      go_wp2_with fail
      go_loopw [4, 5, 6, 7] (fun u i _ _ wx => RO2 F o (.slice ao o.length co) wr wx u i) (fun _ i _ _ _ => c - (intOf i).toNat)
      case atStart => exact ⟨0, Nat.zero_le _, by rfl, by rfl, fun y hy => by omega, rfl⟩
      case round =>
        obtain ⟨x, hx, rfl, rfl, hno0, rfl⟩ := hrel
        have hno := Lib.hid hno0
        clear hno0
        have hxc : x < c := by
          rw [← hc.out] at hx
          rcases Nat.lt_or_ge x c with h | h
          · exact h
          · exact absurd hxf'.out (hno.out xf (by have := hxf'.out.1; rw [← hc.out] at this; omega))
        have i2 : (x : Int) < (c : Int) := by omega
        have hH := Lib.hid (rhas_any (i := (x : Int)) hrd'.out (by rw [hol]; omega))
        by_cases hxo : x ∈ o
        · have hd : decide ((x : Int) ∈ natL o) = true := by simpa using natL_mem.2 hxo
          rw [hd] at hH
          have hno2 : Hid (∀ y, y < x + 1 → ¬ Free F o y) := Lib.hid (fun y hy hf => by
            by_cases e : y = x
            · subst e; exact hf.2.1 hxo
            · exact hno.out y (by omega) hf)
          clear hno hd
          replace hxo := Lib.hid hxo
          go_wp2_with fail
          refine hH.out.mono ?_
          rintro e w' ⟨rfl, hw⟩
          obtain rfl := hw.symm
          clear hH
          go_wp2_with fail
          exact ⟨⟨x + 1, by have := hc.out; omega, by go_num, by rfl, hno2.out, by first | rfl | exact trivial⟩, by simp [intOf]; omega⟩
        · have hd : decide ((x : Int) ∈ natL o) = false := by simpa using fun h => hxo (natL_mem.1 h)
          rw [hd] at hH
          clear hd
          replace hxo := Lib.hid hxo
          go_wp2_with fail
          refine hH.out.mono ?_
          rintro e w' ⟨rfl, hw⟩
          obtain rfl := hw.symm
          clear hH
          go_wp2_with fail
          go_loopw [6, 7] (fun b i wx => RO3 F o x wr wx b i) (fun _ i _ => c - (intOf i).toNat)
          case atStart => exact ⟨0, true, Nat.zero_le _, by rfl, by rfl, ⟨fun _ a ha => by omega, fun _ => rfl⟩, rfl⟩
          case round =>
            obtain ⟨k, t, hk, rfl, rfl, ht, rfl⟩ := hrel
            rw [← hc.out] at hk
            by_cases hltk : k < c
            · have i3 : (k : Int) < (c : Int) := by omega
              obtain ⟨r, hrk⟩ : ∃ r, F[k]? = some r := ⟨_, List.getElem?_eq_getElem (by rw [← hc.out]; exact hltk)⟩
              have hrf := hfm.out r (List.mem_of_getElem? hrk)
              have hrl : r.length ≤ c := by rw [hc.out]; exact rise_lenN hrf.1 hrf.2
              obtain ⟨bg, og, cg, u, eg, _, cG, hru⟩ := hgF'.out.at hrk
              rw [← hc.out] at eg
              simp only [Value.slice.injEq, Option.some.injEq, Addr.mk.injEq] at eg
              obtain ⟨⟨rfl, rfl, -⟩, -⟩ := eg
              obtain ⟨ar, cr, rfl⟩ := hru.shape
              rw [Nat.zero_add] at cG
              have hedge : Edge F k x ↔ (x : Int) ∈ r := by
                constructor
                · rintro ⟨_, r', hr', hm⟩
                  rw [hrk] at hr'
                  exact Option.some.inj hr' ▸ hm
                · exact fun hm => ⟨by rw [← hc.out]; exact hxc, r, hrk, hm⟩
              have hH1 := Lib.hid (rhas_any (i := (x : Int)) hru (by omega))
              have hH2 := Lib.hid (rhas_any (i := (k : Int)) hrd'.out (by rw [hol]; omega))
              obtain ⟨b1, hb1'⟩ : ∃ b, b = decide ((x : Int) ∈ r) := ⟨_, rfl⟩
              obtain ⟨b2, hb2'⟩ : ∃ b, b = decide ((k : Int) ∈ natL o) := ⟨_, rfl⟩
              rw [← hb1'] at hH1
              rw [← hb2'] at hH2
              have hnx : Hid (∀ t', t' = (t && (!b1 || b2)) → (t' = true ↔ freeK F o x (k + 1))) := Lib.hid (fun t' e => by
                have h1 : b1 = true ↔ Edge F k x := by rw [hb1', decide_eq_true_iff, hedge]
                have h2 : b2 = true ↔ k ∈ o := by rw [hb2', decide_eq_true_iff, natL_mem]
                rw [e, Bool.and_eq_true, ht]
                constructor
                · rintro ⟨g1, g2⟩ a ha e
                  by_cases hak : a = k
                  · subst hak
                    have := h1.2 e
                    rw [this] at g2
                    simp at g2
                    exact h2.1 g2
                  · exact g1 a (by omega) e
                · intro g
                  refine ⟨fun a ha => g a (by omega), ?_⟩
                  cases hb : b1 with
                  | false => rfl
                  | true =>
                    have := h2.2 (g k (by omega) (h1.1 hb))
                    rw [this]; rfl)
              replace ht := Lib.hid ht
              clear hru hedge hrk hb1' hb2'
              cases t
              · go_wp2_with fail
                exact ⟨⟨k + 1, false, by have := hc.out; omega, by go_num, rfl, hnx.out _ (by simp), by first | rfl | exact trivial⟩, by simp [intOf]; omega⟩
              · cases b1
                · go_wp2_with fail
                  refine hH1.out.mono ?_
                  rintro e w' ⟨rfl, hw⟩
                  obtain rfl := hw.symm
                  go_wp2_with fail
                  exact ⟨⟨k + 1, true, by have := hc.out; omega, by go_num, rfl, hnx.out _ (by simp), by first | rfl | exact trivial⟩, by simp [intOf]; omega⟩
                · go_wp2_with fail
                  refine hH1.out.mono ?_
                  rintro e w' ⟨rfl, hw⟩
                  obtain rfl := hw.symm
                  go_wp2_with fail
                  refine hH2.out.mono ?_
                  rintro e w' ⟨rfl, hw⟩
                  obtain rfl := hw.symm
                  go_wp2_with fail
                  exact ⟨⟨k + 1, b2, by have := hc.out; omega, by go_num, rfl, hnx.out _ (by simp), by first | rfl | exact trivial⟩, by simp [intOf]; omega⟩
            · obtain rfl : k = c := by omega
              have i3 : decide ((k : Int) < (k : Int)) = false := by simp
              have hfr : t = true ↔ Free F o x := by
                rw [ht]
                constructor
                · intro g
                  exact ⟨by rw [← hc.out]; exact hxc, hxo.out, fun a e => g a (by rw [hc.out]; exact e.lt.1) e⟩
                · intro g a _ e
                  exact g.2.2 a e
              replace ht := Lib.hid ht
              cases t
              · have hno2 : Hid (∀ y, y < x + 1 → ¬ Free F o y) := Lib.hid (fun y hy hf => by
                  by_cases e : y = x
                  · subst e
                    have := hfr.2 hf
                    cases this
                  · exact hno.out y (by omega) hf)
                replace hfr := Lib.hid hfr
                go_wp2_with fail
                exact ⟨⟨x + 1, by have := hc.out; omega, by go_num, by rfl, hno2.out, by first | rfl | exact trivial⟩, by simp [intOf]; omega⟩
              · have hf := hfr.1 rfl
                have hP2 := Lib.hid (hP'.out.more hf hno.out)
                have hO2 := Lib.hid (hO'.out.more hf)
                replace hfr := Lib.hid hfr
                have hownr := hown'.out
                have hsz := hb.size
                go_wp2_with (at_builtin; refine wpList_append_own_at _ rfl _ _ 26 rfl w1.heap.size 3 i0 _ 1 8 Try.underlying26 hi0 hz0 hz1 hz2 rfl (by decide) _ _ _ rfl (hownr.alloc _) ⟨wr.heap.size, 0, none⟩ 1 1 [.int .i64 x] rfl rfl (World.news_of_block (cs := #[.int .i64 x]) (t := 3) (fr := (0, 0)) (heap_alloc_new wr _)) (by simp [Value.oneCell']) (by unfold maxLen; omega) (by omega) (by simp; omega) ?_)
                intro v' w2 hown2 hgrow hnil hat
                have hb2 : Below w1.heap.size w1 w2 := (hb.alloc hb.size _).grown hgrow (by simp; omega) (fun b hb => (hownr.lt b hb).1)
                have hlen2 : (natL (o ++ [x])).length = o.length + 1 := by simp [natL]
                have hown3 : Hid (w2.ownsRow w1.heap.size 3 1 v' (natL (o ++ [x])).length ((natL (o ++ [x])).map encI)) := Lib.hid (by
                  rw [hlen2]
                  have : (natL (o ++ [x])).map encI = (natL o).map encI ++ [.int .i64 (x : Int)] := by simp [natL, encI]
                  rw [this]
                  exact hown2)
                have hgg : F.length - (o ++ [x]).length < gk := by rw [hg.out, List.length_append, List.length_singleton, ← hc.out]; omega
                clear hown2 hgrow hnil hat hownr
                go_wp2_with fail
                go_roundg (F.length - (o ++ [x]).length)
                case rel => exact ⟨o ++ [x], hP2.out, hO2.out, hown3.out, hb2, Lib.hid rfl⟩
                case measure => exact hgg
    · have holc2 : o.length = c := by omega
      have i1 : decide ((o.length : Int) < (c : Int)) = false := by simp; omega
      have i1' : decide (o.length < c) = false := by simp; omega
      have hord : Hid (OrdOf F o) := Lib.hid ⟨by rw [holc2, hc.out], hP⟩
      replace hrd := Lib.hid hrd
      clear hown hgF
      go_wp2_with fail
      go_ret
      exact ⟨_, F, o, rfl, hfold.out, hord.out, hrd.out, hbw⟩
end Go.Proofs.Ytppkponnopnmdaa
