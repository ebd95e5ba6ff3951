/- names: keys seen twice; keys that are there. -/
import Derived.Test.YtjblhiekccjdcaaRNAll
import Derived.Maps.RangeWalk
namespace Go.Proofs.YtjblhiekccjdcaaR
open Go.RowKit Go.Maps

theorem Rd.apart {w w' : World} {s : Value} {xs : List Value} {b : Nat} {l : List ByteArray} (h : Rd w s xs) (hM : SetS w b l) (hT : Touch w w' (fun k => k = b)) : Rd w' s xs := by
  rcases h with h | ⟨g, off, cap, e, hlt, hc⟩
  · exact .inl h
  · by_cases h0 : xs = []
    · subst h0
      exact .inl ⟨rfl, .inr ⟨_, cap, e⟩⟩
    · obtain ⟨x, hx⟩ : ∃ x, xs[0]? = some x := ⟨_, List.getElem?_eq_getElem (List.length_pos_iff.2 h0)⟩
      have h1 := hc 0 x hx
      have hg : g ≠ b := by
        rintro rfl
        obtain ⟨D, ⟨es, clock, hb, -⟩, -⟩ := hM
        simp [World.cell?, hb] at h1
      exact .inr ⟨g, off, cap, e, Nat.lt_of_lt_of_le hlt hT.size, fun i u hu => by
        rw [← hc i u hu]
        unfold World.cell?
        rw [show w'.heap[g]? = w.heap[g]? from hT.block g hlt hg]⟩
/-- What twice tells, and what was seen behind it. -/
def twiceL : List ByteArray → List ByteArray → Bool × List ByteArray
  | l, [] => (false, l)
  | l, k :: ks => if k ∈ l then (true, l) else twiceL (plusS l k) ks
theorem twiceL_len : ∀ (ks l : List ByteArray), (twiceL l ks).2.length ≤ l.length + ks.length
  | [], l => by simp [twiceL]
  | k :: ks, l => by
    unfold twiceL
    split
    · simp
    · have h1 := twiceL_len ks (plusS l k)
      have h2 := plusS_len l k
      simp
      omega
theorem twiceL_at {l ks : List ByteArray} {k : Nat} {s : ByteArray} (h : ks[k]? = some s) : twiceL l (ks.drop k) = if s ∈ l then (true, l) else twiceL (plusS l s) (ks.drop (k + 1)) := by
  obtain ⟨h1, rfl⟩ := List.getElem?_eq_some_iff.1 h
  rw [List.drop_eq_getElem_cons h1]
  rfl
theorem cell_size {w : World} {p : Addr} {v : Value} (h : w.cell? p = some v) : p.block < w.heap.size := by
  unfold World.cell? at h
  split at h
  · rename_i h2
    exact (Array.getElem?_eq_some_iff.1 h2).1
  · cases h

set_option maxHeartbeats 2000000 in
theorem twice_any {w : World} {v : Value} {b : Nat} {l ks : List ByteArray} (hM : SetS w b l) (h : RdS w v ks) (hf : ∀ s ∈ ks, s.size ≤ maxLen) (hll : l.length + ks.length ≤ 3000000000000000000) :
    Calls Try.prog 47 #[.map (some b), v] w fun e w' => e = .returned (.bool (twiceL l ks).1) ∧ SetS w' b (twiceL l ks).2 ∧ Touch w w' (fun k => k = b) := by
  obtain ⟨a, c, rfl⟩ := h.shape
  obtain ⟨n, hn⟩ : ∃ n, n = ks.length := ⟨_, rfl⟩
  rw [← hn] at h hll ⊢
  generalize hA : twiceL l ks = A
  replace hA := Lib.hid hA
  have hK := Lib.hid (fun w' (hT : Touch w w' (fun k => k = b)) => Rd.apart h hM hT)
  replace hn := Lib.hid hn
  replace hf := Lib.hid hf
  replace hM := Lib.hid hM
  clear h
  go_enter Try.func47, Try.ntmps47
  go_wp2_with fail
  go_loopw [4, 6, 7, 8, 11] (fun _ _ _ _ i wr => ∃ (k : Nat) (l2 : List ByteArray), k ≤ n ∧ i = .int .i64 k ∧ Hid (twiceL l2 (ks.drop k) = A) ∧ Hid (SetS wr b l2) ∧ Hid (Touch w wr (fun k => k = b)) ∧ l2.length ≤ l.length + k) (fun _ _ _ _ i _ => n - (intOf i).toNat)
  case atStart => exact ⟨0, l, Nat.zero_le _, rfl, hA, hM, Lib.hid (Touch.refl _ _), Nat.le_refl _⟩
  case round =>
    clear hM
    obtain ⟨k, l2, hk, rfl, ha, hM, hT, hl2⟩ := hrel
    by_cases hlt : k < n
    · have j1 : decide ((k : Int) < (n : Int)) = true := by simpa using hlt
      have j2 : (k : Int) < (n : Int) := by omega
      obtain ⟨s, hs⟩ : ∃ s, ks[k]? = some s := ⟨_, List.getElem?_eq_getElem (by rw [← hn.out]; exact hlt)⟩
      obtain ⟨g, off, cap, e, hc⟩ := RdS.cell (hK.out wr hT.out) hs
      rw [← hn.out] at e
      simp only [Value.slice.injEq] at e
      obtain ⟨rfl, -, rfl⟩ := e
      have hsz := hf.out s (List.mem_of_getElem? hs)
      have hat := Lib.hid (twiceL_at (l := l2) hs)
      have hM2 : SetS (wr.alloc (.cells #[] 74)) b l2 := hM.out.block (Below.heap_alloc _ _ _ hM.out.lt)
      have hT2 := hT.out.alloc (.cells #[] 74)
      clear hs
      by_cases hm : s ∈ l2
      · have hd : decide (s ∈ l2) = true := decide_eq_true hm
        have hA2 := Lib.hid (show (true, l2) = A from by rw [← ha.out, hat.out, if_pos hm])
        replace hm := Lib.hid hm
        clear ha hat
        go_wp2_with (at_lookup; refine wpList_setS_look rfl _ _ rfl b l2 hM.out rfl s rfl hsz ?_)
        go_ret
        exact ⟨by rw [← hA2.out]; rfl, by rw [← hA2.out]; exact hM2, hT2⟩
      · have hd : decide (s ∈ l2) = false := decide_eq_false hm
        have hA2 := Lib.hid (show twiceL (plusS l2 s) (ks.drop (k + 1)) = A from by rw [← ha.out, hat.out, if_neg hm])
        have hpl := plusS_len l2 s
        replace hm := Lib.hid hm
        clear ha hat
        go_wp2_with (first
          | (at_lookup; refine wpList_setS_look rfl _ _ rfl b l2 hM.out rfl s rfl hsz ?_)
          | (at_mapUpdate; refine wpList_setS_put rfl _ _ _ rfl b l2 hM2 rfl s rfl rfl hsz (by omega) ?_; intro w3 hM3 hT3; go_frame))
        have hT4 := Lib.hid (hT2.trans (hT3.mono (fun _ _ e => e)))
        replace hM3 := Lib.hid hM3
        clear hT3 hM2 hT2 hM hT
        go_wp2_with fail
        exact ⟨⟨k + 1, plusS l2 s, by omega, by go_num, hA2, hM3, hT4, by omega⟩, by simp [intOf]; omega⟩
    · obtain rfl : k = n := by omega
      have j1 : decide ((k : Int) < (k : Int)) = false := by simp
      have hA2 := Lib.hid (show (false, l2) = A from by rw [← ha.out, List.drop_of_length_le (by rw [← hn.out]; exact Nat.le_refl _)]; rfl)
      clear ha
      go_wp2_with fail
      go_ret
      exact ⟨by rw [← hA2.out]; rfl, by rw [← hA2.out]; exact hM.out, hT.out⟩

set_option maxHeartbeats 2000000 in
theorem hasAll_any {w : World} {v : Value} {b : Nat} {l ks : List ByteArray} (hM : SetS w b l) (h : RdS w v ks) (hf : ∀ s ∈ ks, s.size ≤ maxLen) (hll : ks.length ≤ maxLen) :
    Calls Try.prog 61 #[.map (some b), v] w fun e w' => e = .returned (.bool (ks.all fun s => decide (s ∈ l))) ∧ Below w.heap.size w w' := by
  obtain ⟨a, c, rfl⟩ := h.shape
  obtain ⟨n, hn⟩ : ∃ n, n = ks.length := ⟨_, rfl⟩
  rw [← hn] at h hll ⊢
  unfold maxLen at hll
  generalize hA : (ks.all fun s => decide (s ∈ l)) = A
  replace hA := Lib.hid hA
  replace h := Lib.hid h
  replace hn := Lib.hid hn
  replace hf := Lib.hid hf
  replace hM := Lib.hid hM
  go_enter Try.func61, Try.ntmps61
  go_wp2_with fail
  go_loopw [4, 6, 7, 8, 11] (fun _ _ _ _ i wr => ∃ k : Nat, k ≤ n ∧ i = .int .i64 k ∧ Hid ((ks.take k).all (fun s => decide (s ∈ l)) = true) ∧ Hid (Below w.heap.size w wr)) (fun _ _ _ _ i _ => n - (intOf i).toNat)
  case atStart => exact ⟨0, Nat.zero_le _, rfl, Lib.hid (by simp), Lib.hid (Below.refl _ _)⟩
  case round =>
    obtain ⟨k, hk, rfl, ha, hB⟩ := hrel
    by_cases hlt : k < n
    · have j1 : decide ((k : Int) < (n : Int)) = true := by simpa using hlt
      have j2 : (k : Int) < (n : Int) := by omega
      obtain ⟨s, hs⟩ : ∃ s, ks[k]? = some s := ⟨_, List.getElem?_eq_getElem (by rw [← hn.out]; exact hlt)⟩
      obtain ⟨g, off, cap, e, hc⟩ := RdS.cell (Rd.below h.out hB.out) hs
      rw [← hn.out] at e
      simp only [Value.slice.injEq] at e
      obtain ⟨rfl, -, rfl⟩ := e
      have hsz := hf.out s (List.mem_of_getElem? hs)
      have hall : Hid ((ks.take (k + 1)).all (fun s => decide (s ∈ l)) = decide (s ∈ l)) := Lib.hid (by rw [take_snocS hs, List.all_append, ha.out]; simp)
      have hMw := Lib.hid (hM.out.block (hB.out.block _ hM.out.lt))
      have hB2 := Lib.hid (hB.out.alloc (hB.out.size) (.cells #[] 74))
      clear hs ha
      generalize hd : decide (s ∈ l) = d at hall
      cases d <;> (
        go_wp2_with (at_lookup; refine wpList_setS_look rfl _ _ rfl b l hMw.out rfl s rfl hsz ?_)
        first
        | (go_ret
           exact ⟨by rw [← hA.out, all_false_take hall.out]; rfl, hB2.out⟩)
        | exact ⟨⟨k + 1, by omega, by go_num, hall, hB2⟩, by simp [intOf]; omega⟩)
    · obtain rfl : k = n := by omega
      have j1 : decide ((k : Int) < (k : Int)) = false := by simp
      have hal : Hid ((ks.all fun s => decide (s ∈ l)) = true) := Lib.hid (by have := ha.out; rwa [List.take_of_length_le (by rw [← hn.out]; exact Nat.le_refl _)] at this)
      clear ha
      go_wp2_with fail
      go_ret
      exact ⟨by rw [← hA.out, hal.out]; rfl, hB.out⟩
end Go.Proofs.YtjblhiekccjdcaaR
