/- The document's Tree, walked. -/
import Derived.Test.YteipncggndefmaaDRef
namespace Go.Proofs.Yteipncggndefmaa
open Go.RowKit Go.Maps Go.Shelf

set_option maxRecDepth 20000 in
set_option maxHeartbeats 4000000 in
theorem rtree_any {w : World} {v : Value} {L : List (List Int)} {root : Int} {t : List Int} (h : RdG w v L) (hL : L.length ≤ 100000) (hr : ∀ r ∈ L, r.length ≤ 100000) (hT : DT L (rootN L root) t) (htl : t.length = L.length) :
    Calls Try.prog 12 #[v, .int .i64 root] w fun e w' => ∃ v', e = .returned v' ∧ RdI w' v' t ∧ Below w.heap.size w w' := by
  obtain ⟨ag, cg, rfl⟩ := h.form
  obtain ⟨n, hn⟩ : ∃ n, n = L.length := ⟨_, rfl⟩
  obtain ⟨i0, hi0, hz0, hz1, hz2⟩ := info_parts infoI1
  have hDo := Lib.hid (fun (w2 : World) (hb : Below w.heap.size w w2) (a b : Nat) (q : Bool) (ha : a < L.length) (hq : q = true ↔ Dmn L (rootN L root) a b) => dominates_any (h.below hb) hL hr ha hq)
  have hLe := Lib.hid (fun (w2 : World) (hb : Below w.heap.size w w2) (b : Nat) (q : Bool) (hq : q = true ↔ leadsP L root b) => rleads_any (h.below hb) hL hr hq)
  obtain ⟨y0, hy0⟩ : ∃ y0, Hid (rootN L root = y0) := ⟨_, Lib.hid rfl⟩
  rw [hy0.out] at hT hDo
  rw [← hn] at h hL htl ⊢
  rw [← hn] at hLe hDo
  replace h := Lib.hid h
  replace hn := Lib.hid hn
  replace hT := Lib.hid hT
  replace htl := Lib.hid htl
  clear hr
  go_enter Try.func12, Try.ntmps12
  go_wp2_with fail
  go_loopw [5, 6, 7, 8] (fun v i _ _ wr => ∃ b : Nat, b ≤ n ∧ i = .int .i64 b ∧ Hid (wr.ownsRow w.heap.size 3 1 v b ((t.take b).map encI)) ∧ Hid (Below w.heap.size w wr)) (fun _ i _ _ _ => n - (intOf i).toNat)
  case atStart => exact ⟨0, Nat.zero_le _, rfl, Lib.hid (World.ownsRow_nil _ _ _ _), Lib.hid (Below.refl _ _)⟩
  case round =>
    obtain ⟨b, hb, rfl, hO, hB⟩ := hrel
    by_cases hlt : b < n
    · have j1 : decide ((b : Int) < (n : Int)) = true := by simpa using hlt
      obtain ⟨q, hq⟩ : ∃ q : Bool, q = true ↔ leadsP L root b := by
        classical
        exact ⟨decide (leadsP L root b), by simp⟩
      have hle := Lib.hid (hLe.out wr hB.out b q hq)
      rw [leads_root, hy0.out] at hq
      obtain ⟨tv, htv, e2, e1, -, -⟩ := hT.out.pair (b := b) (by have := hn.out; omega)
      have htk : Hid (t.take (b + 1) = t.take b ++ [tv]) := Lib.hid (take_snoc htv)
      cases q with
      | false =>
        obtain rfl : tv = -2 := e2.2 (fun h => by have := hq.2 h; cases this)
        replace hq := Lib.hid hq
        replace e1 := Lib.hid e1
        replace e2 := Lib.hid e2
        replace htv := Lib.hid htv
        go_wp2_with fail
        refine hle.out.mono ?_
        rintro e w2 ⟨rfl, hb2⟩
        have hO2 := ownsRow_touch hO.out (Touch.of_below hb2 (fun _ => False)) (fun _ _ h => h)
        have hB2 := hB.out.trans (hb2.mono hB.out.size)
        have hle2 := hB2.size
        obtain ⟨ao, co, rfl⟩ := own_form hO2
        clear hO hb2 hle
        go_wp2_with (at_builtin; refine wpList_append_own_at _ rfl _ _ 25 rfl w.heap.size 3 i0 _ 1 8 Try.underlying25 hi0 hz0 hz1 hz2 rfl (by decide) _ _ _ rfl (hO2.alloc _) ⟨w2.heap.size, 0, none⟩ 1 1 [.int .i64 (-2)] rfl rfl (World.news_of_block (cs := #[.int .i64 (-2)]) (t := 3) (fr := (0, 0)) (heap_alloc_new w2 _)) (by simp [Value.oneCell']) (by unfold maxLen; omega) (by omega) (by simp; omega) ?_)
        intro v' w3 hown3 hgrow hnil hat
        have hb3 : Hid (Below w.heap.size w w3) := Lib.hid ((hB2.alloc hle2 _).grown hgrow (by simp; omega) (fun b e => (hO2.lt b e).1))
        obtain ⟨a2, c3, rfl⟩ := own_form hown3
        have hO3 : Hid (w3.ownsRow w.heap.size 3 1 (.slice a2 (b + 1) c3) (b + 1) ((t.take (b + 1)).map encI)) := Lib.hid (by rw [htk.out]; simpa [encI] using hown3)
        clear hO2 hown3 hgrow hnil hat hB hB2
        go_wp2_with fail
        exact ⟨⟨b + 1, by omega, by go_num, hO3, hb3⟩, by simp [intOf]; omega⟩
      | true =>
        have hw := hq.1 rfl
        replace hq := Lib.hid hq
        replace e1 := Lib.hid e1
        replace e2 := Lib.hid e2
        replace htv := Lib.hid htv
        replace hw := Lib.hid hw
        go_wp2_with fail
        refine hle.out.mono ?_
        rintro e w2 ⟨rfl, hb2⟩
        have hO2 := Lib.hid (ownsRow_touch hO.out (Touch.of_below hb2 (fun _ => False)) (fun _ _ h => h))
        have hB2 := Lib.hid (hB.out.trans (hb2.mono hB.out.size))
        obtain ⟨ao, co, rfl⟩ := own_form hO2.out
        clear hO hb2 hle hB
        go_wp2_with fail
        go_loopw [7, 8] (fun v i wx => ∃ (k : Nat) (z : Int), k ≤ n ∧ i = .int .i64 k ∧ v = .int .i64 z ∧ Hid (Best L y0 b k z) ∧ Hid (Below w2.heap.size w2 wx)) (fun _ i _ => n - (intOf i).toNat)
        case atStart => exact ⟨0, -1, Nat.zero_le _, rfl, rfl, Lib.hid (.inl ⟨rfl, fun a h => by omega⟩), Lib.hid (Below.refl _ _)⟩
        case round =>
          obtain ⟨k, z, hk, rfl, rfl, hBe, hB3⟩ := hrel
          by_cases hltk : k < n
          · have j2 : decide ((k : Int) < (n : Int)) = true := by simpa using hltk
            by_cases hkb : k = b
            · have j3 : ((k : Int) == (b : Int)) = true := by simp [hkb]
              have hBe2 := Lib.hid (hBe.out.skip (.inl hkb))
              replace hkb := Lib.hid hkb
              clear hBe
              go_wp2_with fail
              exact ⟨⟨k + 1, z, by omega, by go_num, rfl, hBe2, hB3⟩, by simp [intOf]; omega⟩
            · have j3 : ((k : Int) == (b : Int)) = false := by simp; omega
              obtain ⟨q2, hq2⟩ : ∃ q2 : Bool, q2 = true ↔ Dmn L y0 k b := by
                classical
                exact ⟨decide (Dmn L y0 k b), by simp⟩
              have hd2 := Lib.hid (hDo.out wr (hB2.out.trans (hB3.out.mono hB2.out.size)) k b q2 hltk hq2)
              cases q2 with
              | false =>
                have hBe2 := Lib.hid (hBe.out.skip (.inr (fun h => by have := hq2.2 h; cases this)))
                replace hkb := Lib.hid hkb
                clear hBe hq2
                go_wp2_with fail
                refine hd2.out.mono ?_
                rintro e w4 ⟨rfl, hb4⟩
                have hB4 := Lib.hid (hB3.out.trans (hb4.mono hB3.out.size))
                clear hb4 hd2 hB3
                go_wp2_with fail
                exact ⟨⟨k + 1, z, by omega, by go_num, rfl, hBe2, hB4⟩, by simp [intOf]; omega⟩
              | true =>
                have hdk := hq2.1 rfl
                clear hq2
                by_cases hz : z < 0
                · have j4 : decide (z < 0) = true := by simpa using hz
                  have hBe2 := Lib.hid (hBe.out.first hz hkb hdk)
                  replace hkb := Lib.hid hkb
                  replace hz := Lib.hid hz
                  clear hBe hdk
                  go_wp2_with fail
                  refine hd2.out.mono ?_
                  rintro e w4 ⟨rfl, hb4⟩
                  have hB4 := Lib.hid (hB3.out.trans (hb4.mono hB3.out.size))
                  clear hb4 hd2 hB3
                  go_wp2_with fail
                  exact ⟨⟨k + 1, k, by omega, by go_num, rfl, hBe2, hB4⟩, by simp [intOf]; omega⟩
                · have j4 : decide (z < 0) = false := by simpa using hz
                  obtain ⟨zn, rfl⟩ : ∃ zn : Nat, z = zn := ⟨z.toNat, by omega⟩
                  have hzn : zn < n := by
                    rcases hBe.out with ⟨h1, -⟩ | ⟨z', h1, h2, -⟩
                    · omega
                    · omega
                  obtain ⟨q3, hq3⟩ : ∃ q3 : Bool, q3 = true ↔ Dmn L y0 zn k := by
                    classical
                    exact ⟨decide (Dmn L y0 zn k), by simp⟩
                  obtain ⟨n1, n2⟩ := hBe.out.next hT.out (by omega) hkb hdk
                  rw [Int.toNat_natCast] at n1 n2
                  have hd3 := Lib.hid (fun (w4 : World) (hb4 : Below wr.heap.size wr w4) => hDo.out w4 ((hB2.out.trans (hB3.out.mono hB2.out.size)).trans (hb4.mono (hB2.out.trans (hB3.out.mono hB2.out.size)).size)) zn k q3 hzn hq3)
                  replace hkb := Lib.hid hkb
                  replace hz := Lib.hid hz
                  cases q3 with
                  | true =>
                    have hBe2 := Lib.hid (n1 (hq3.1 rfl))
                    clear hBe hdk n1 n2 hq3
                    go_wp2_with fail
                    refine hd2.out.mono ?_
                    rintro e w4 ⟨rfl, hb4⟩
                    have hd4 := Lib.hid (hd3.out w4 hb4)
                    have hB4 := Lib.hid (hB3.out.trans (hb4.mono hB3.out.size))
                    clear hb4 hd2 hB3 hd3
                    go_wp2_with fail
                    refine hd4.out.mono ?_
                    rintro e w5 ⟨rfl, hb5⟩
                    have hB5 := Lib.hid (hB4.out.trans (hb5.mono hB4.out.size))
                    clear hb5 hd4 hB4
                    go_wp2_with fail
                    exact ⟨⟨k + 1, k, by omega, by go_num, rfl, hBe2, hB5⟩, by simp [intOf]; omega⟩
                  | false =>
                    have hBe2 := Lib.hid (n2 (fun h => by have := hq3.2 h; cases this))
                    clear hBe hdk n1 n2 hq3
                    go_wp2_with fail
                    refine hd2.out.mono ?_
                    rintro e w4 ⟨rfl, hb4⟩
                    have hd4 := Lib.hid (hd3.out w4 hb4)
                    have hB4 := Lib.hid (hB3.out.trans (hb4.mono hB3.out.size))
                    clear hb4 hd2 hB3 hd3
                    go_wp2_with fail
                    refine hd4.out.mono ?_
                    rintro e w5 ⟨rfl, hb5⟩
                    have hB5 := Lib.hid (hB4.out.trans (hb5.mono hB4.out.size))
                    clear hb5 hd4 hB4
                    go_wp2_with fail
                    exact ⟨⟨k + 1, zn, by omega, by go_num, rfl, hBe2, hB5⟩, by simp [intOf]; omega⟩
          · obtain rfl : k = n := by omega
            have j2 : decide ((k : Int) < (k : Int)) = false := by simp
            have hzt : z = tv := by
              have h1 := hBe.out
              rw [hn.out] at h1
              have h2 := h1.done hT.out (by have := hn.out; omega) hw.out
              exact Option.some.inj (h2.symm.trans htv.out)
            subst hzt
            have hOx := ownsRow_touch hO2.out (Touch.of_below hB3.out (fun _ => False)) (fun _ _ h => h)
            have hBx := hB2.out.trans (hB3.out.mono hB2.out.size)
            have hle2 := hBx.size
            clear hBe hO2 hB2 hB3
            go_wp2_with (at_builtin; refine wpList_append_own_at _ rfl _ _ 25 rfl w.heap.size 3 i0 _ 1 8 Try.underlying25 hi0 hz0 hz1 hz2 rfl (by decide) _ _ _ rfl (hOx.alloc _) ⟨wr.heap.size, 0, none⟩ 1 1 [.int .i64 z] rfl rfl (World.news_of_block (cs := #[.int .i64 z]) (t := 3) (fr := (0, 0)) (heap_alloc_new wr _)) (by simp [Value.oneCell']) (by unfold maxLen; omega) (by omega) (by simp; omega) ?_)
            intro v' w3 hown3 hgrow hnil hat
            have hb3 : Hid (Below w.heap.size w w3) := Lib.hid ((hBx.alloc hle2 _).grown hgrow (by simp; omega) (fun b e => (hOx.lt b e).1))
            obtain ⟨a2, c3, rfl⟩ := own_form hown3
            have hO3 : Hid (w3.ownsRow w.heap.size 3 1 (.slice a2 (b + 1) c3) (b + 1) ((t.take (b + 1)).map encI)) := Lib.hid (by rw [htk.out]; simpa [encI] using hown3)
            clear hOx hown3 hgrow hnil hat hBx
            go_wp2_with fail
            exact ⟨⟨b + 1, by omega, by go_num, hO3, hb3⟩, by simp [intOf]; omega⟩
    · obtain rfl : b = n := by omega
      have j1 : decide ((b : Int) < (b : Int)) = false := by simp
      have hfin : Hid (RdI wr _ t) := Lib.hid (by
        have h1 := hO.out
        rw [← htl.out, List.take_length] at h1
        exact strip_rd h1)
      obtain ⟨ao, co, rfl⟩ := own_form hO.out
      clear hO
      go_wp2_with fail
      go_ret
      exact ⟨_, rfl, hfin.out, hB.out⟩
end Go.Proofs.Yteipncggndefmaa
