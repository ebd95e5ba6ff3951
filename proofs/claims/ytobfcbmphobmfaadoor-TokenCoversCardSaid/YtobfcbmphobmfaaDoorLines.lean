/- lines: where each line of a text begins. -/
import Derived.Test.YtobfcbmphobmfaaDoorJoinsW
import Derived.Laws.OwnMore
namespace Go.Proofs.YtobfcbmphobmfaaDoor
open Go.RowKit Go.Shelf

def intsOf (l : List Nat) : List Value := l.map (fun n : Nat => Value.int .i64 (n : Int))
theorem infoInt : (Tryd.prog.info? 3).map (fun i => (i.zero, i.size, i.bytes)) = some (some (.int .i64 0), 1, 8) := by kernel_rfl
theorem begin_len (l : List UInt8) : (beginL l).length ≤ l.length + 1 := by
  refine snoc_ind (Q := fun l => (beginL l).length ≤ l.length + 1) (by simp [beginL, linesL]) (fun l b ih => ?_) l
  rw [begin_snoc]
  split <;> simp <;> omega

set_option maxHeartbeats 2000000 in
theorem lines_any {w : World} {s : ByteArray} (hs : s.size ≤ 5000) : Calls Tryd.prog 12 #[.string s] w fun e w' => ∃ v, e = .returned v ∧ w'.ownsRow w.heap.size 3 1 v (beginL s.data.toList).length (intsOf (beginL s.data.toList)) ∧ Below w.heap.size w w' := by
  obtain ⟨i0, hi0, hz0, hz1, hz2⟩ := info_parts infoInt
  go_enter Tryd.func12, Tryd.ntmps12
  go_wp2_with fail
  have hb0 := (Below.refl w.heap.size w).alloc (Nat.le_refl _) (.cells #[.int .i64 0] 3)
  have hr0 : (w.alloc (.cells #[.int .i64 0] 3)).ownsRow w.heap.size 3 1 (.slice (some ⟨w.heap.size, 0, none⟩) 1 1) 1 (intsOf (beginL (s.data.toList.take 0))) := World.ownsRow_lit w #[.int .i64 0] 1 (Nat.le_refl _) (by unfold maxLen; omega) rfl
  generalize (w.alloc (.cells #[.int .i64 0] 3)) = wa at *
  go_loopw [3, 4] (fun a i wr => ∃ k : Nat, k ≤ s.size ∧ i = .int .i64 k ∧ wr.ownsRow w.heap.size 3 1 a (beginL (s.data.toList.take k)).length (intsOf (beginL (s.data.toList.take k))) ∧ Below w.heap.size w wr) (fun _ i _ => s.size - (intOf i).toNat)
  case atStart => exact ⟨0, Nat.zero_le _, rfl, hr0, hb0⟩
  case round =>
    clear hr0 hb0
    obtain ⟨k, hk, rfl, hrow, hb⟩ := hrel
    by_cases hlt : k < s.size
    · have i1 : (k : Int) < (s.size : Int) := by omega
      have hts : s.data.toList.take (k + 1) = s.data.toList.take k ++ [s[k]] := by
        rw [List.take_succ_eq_append_getElem (by simpa using hlt)]
        rfl
      have hlen : (s.data.toList.take k).length = k := by rw [List.length_take]; simp; omega
      have hbl := begin_len (s.data.toList.take k)
      have hsn := begin_snoc (s.data.toList.take k) s[k]
      rw [← hts, hlen] at hsn
      rw [hlen] at hbl
      have hbs := hb.size
      by_cases hb10 : s[k] = 10
      · have e1 : ((s[k].toNat : Int) == 10) = true := by rw [hb10]; rfl
        rw [if_pos hb10] at hsn
        replace hsn := Lib.hid hsn
        clear hts hlen hb10
        generalize beginL (s.data.toList.take k) = bl at *
        go_wp2_with (at_builtin; refine wpList_append_own_at _ rfl _ _ 31 rfl w.heap.size 3 i0 (.int .i64 0) 1 8 Tryd.underlying31 hi0 hz0 hz1 hz2 rfl (by decide) _ _ _ rfl (hrow.alloc _) ⟨wr.heap.size, 0, none⟩ 1 1 [.int .i64 ((k : Int) + 1)] rfl rfl (World.news_of_block (cs := #[.int .i64 ((k : Int) + 1)]) (t := 3) (fr := (0, 0)) (heap_alloc_new wr _)) (by simp [Value.oneCell']) (by unfold maxLen; omega) (by omega) (by simp; omega) ?_)
        intro v' w2 hown2 hgrow hnil hat
        have hb2 : Below w.heap.size w w2 := hb.trans ((((Touch.refl wr (fun k => u3.ownBlock = some k)).alloc _).trans (Touch.of_grown hgrow (S := fun k => u3.ownBlock = some k) (fun k e => e))).below hbs (fun k hk e => by have := (hrow.lt k e).1; omega))
        have hrow2 : w2.ownsRow w.heap.size 3 1 v' (beginL (s.data.toList.take (k + 1))).length (intsOf (beginL (s.data.toList.take (k + 1)))) := by
          rw [hsn.out]
          simpa [intsOf] using hown2
        clear hown2 hgrow hnil hat hrow hb
        go_wp2_with fail
        go_roundw
        case rel => exact ⟨k + 1, by omega, by go_num, hrow2, hb2⟩
        case measure => simp [intOf]; omega
      · have e1 : ((s[k].toNat : Int) == 10) = false := by rw [show ((s[k].toNat : Int) == 10) = (s[k] == 10) from eqB s[k] 10]; simpa using hb10
        rw [if_neg hb10] at hsn
        rw [← hsn] at hrow
        clear hts hlen hb10 hsn
        go_wp2_with fail
        go_round
        case rel => exact ⟨k + 1, by omega, by go_num, hrow, hb⟩
        case measure => simp [intOf]; omega
    · have hke : k = s.size := by omega
      have g1 : decide ((k : Int) < (s.size : Int)) = false := by simp; omega
      have hta : s.data.toList.take k = s.data.toList := List.take_of_length_le (by simp; omega)
      rw [hta] at hrow
      replace hke := Lib.hid hke
      clear hta
      go_wp2_with fail
      go_ret
      exact ⟨_, rfl, hrow, hb⟩
end Go.Proofs.YtobfcbmphobmfaaDoor
