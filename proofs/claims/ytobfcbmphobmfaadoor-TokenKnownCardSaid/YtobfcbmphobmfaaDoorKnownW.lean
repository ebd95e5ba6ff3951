/- TokenKnown: the walk. -/
import Derived.Test.YtobfcbmphobmfaaDoorJoinsW
import Derived.Test.YtobfcbmphobmfaaDoorLaidJ
import Derived.Laws.BytesString
import Derived.Laws.OwnMore
namespace Go.Proofs.YtobfcbmphobmfaaDoor
open Go.RowKit Go.Shelf
def rowsK : List (List UInt8 × Nat × Nat × Nat) := [([48, 48, 55], 31, 1, 1), ([49, 50, 51, 52, 53, 54, 55, 56, 57, 48], 31, 1, 1), ([49, 97], 31, 1, 1), ([49, 46], 31, 1, 1), ([97, 45, 98], 30, 1, 2), ([46], 30, 1, 1), ([97, 10, 32, 49, 95], 31, 2, 2), ([59, 32, 45, 10, 9, 45], 30, 2, 2), ([128], 30, 1, 1), ([97, 0], 30, 1, 2), ([48, 48], 31, 1, 1)]
theorem rows_bad (r : List UInt8 × Nat × Nat × Nat) (hr : r ∈ rowsK) : lex r.1 1 1 = .error (r.2.2.1, r.2.2.2, r.2.1) ∧ r.1.length ≤ 20 := by
  simp only [rowsK, List.mem_cons, List.not_mem_nil, or_false] at hr
  rcases hr with rfl | rfl | rfl | rfl | rfl | rfl | rfl | rfl | rfl | rfl | rfl
  all_goals exact ⟨by kernel_rfl, by decide⟩
def cellsK (r : List UInt8 × Nat × Nat × Nat) : List Value := [.string ⟨r.1.toArray⟩, .int .i64 r.2.1, .int .i64 r.2.2.1, .int .i64 r.2.2.2]
theorem flatK_at : ∀ (l : List (List UInt8 × Nat × Nat × Nat)) (i : Nat) (t : List UInt8 × Nat × Nat × Nat), l[i]? = some t → ∀ j, j < 4 → (l.flatMap cellsK)[i * 4 + j]? = (cellsK t)[j]?
  | [], i, t, h, j, hj => by simp at h
  | x :: r, 0, t, h, j, hj => by
    simp at h
    subst h
    rw [List.flatMap_cons, List.getElem?_append_left (by simpa [cellsK] using hj), Nat.zero_mul, Nat.zero_add]
  | x :: r, i + 1, t, h, j, hj => by
    rw [List.flatMap_cons, List.getElem?_append_right (by simp [cellsK]; omega)]
    have := flatK_at r i t (by simpa using h) j hj
    rw [← this]
    congr 1
    simp [cellsK]
    omega
theorem row_cells {w : World} {g i : Nat} {t : List UInt8 × Nat × Nat × Nat} (h : w.heap[g]? = some (.cells (rowsK.flatMap cellsK).toArray 41 (0, 0))) (hi : rowsK[i]? = some t) :
    w.cell? ⟨g, i * 4, none⟩ = some (.string ⟨t.1.toArray⟩) ∧ w.cell? ⟨g, i * 4 + 1, none⟩ = some (.int .i64 t.2.1) ∧ w.cell? ⟨g, i * 4 + 2, none⟩ = some (.int .i64 t.2.2.1) ∧ w.cell? ⟨g, i * 4 + 3, none⟩ = some (.int .i64 t.2.2.2) := by
  have hc : ∀ j, j < 4 → w.cell? ⟨g, i * 4 + j, none⟩ = (cellsK t)[j]? := fun j hj => by
    rw [blk_cell h, ← flatK_at rowsK i t hi j hj]
    simp
  exact ⟨hc 0 (by omega), hc 1 (by omega), hc 2 (by omega), hc 3 (by omega)⟩

theorem RdT.cells {w : World} {v : Value} {t0 : Tok} {r : List Tok} (h : RdT w v (t0 :: r)) : ∃ g cap, v = .slice (some ⟨g, 0, none⟩) (t0 :: r).length cap ∧ g < w.heap.size ∧ ∀ i t, (t0 :: r)[i]? = some t → w.cell? ⟨g, i * 5, none⟩ = some (.int .u8 t.kind) ∧ w.cell? ⟨g, i * 5 + 1, none⟩ = some (.string ⟨t.text.toArray⟩) ∧ w.cell? ⟨g, i * 5 + 2, none⟩ = some (.int .i64 t.num) ∧ w.cell? ⟨g, i * 5 + 3, none⟩ = some (.int .i64 t.line) ∧ w.cell? ⟨g, i * 5 + 4, none⟩ = some (.int .i64 t.col) := by
  rcases h with ⟨e, _⟩ | h
  · cases e
  · exact h

/-- So many marks of a comment. -/
theorem lex_marks (n : Nat) (h : 0 < n) : lex (List.replicate n 59) 1 1 = .ok [⟨4, [], 0, 1, 1 + n⟩] := by
  obtain ⟨m, rfl⟩ : ∃ m, n = m + 1 := ⟨n - 1, by omega⟩
  have ht : (List.replicate (m + 1) (59 : UInt8)).takeWhile (· != 10) = List.replicate (m + 1) 59 := by
    have := (tw_all (p := (· != 10)) (x := List.replicate (m + 1) (59 : UInt8)) (r := []) (fun b hb => by rw [List.eq_of_mem_replicate hb]; decide) rfl).1
    rwa [List.append_nil] at this
  have hs : stepL (List.replicate (m + 1) 59) 1 1 = .ok (m + 1, 1, 1 + (m + 1), none) := by
    rw [List.replicate_succ] at ht ⊢
    unfold stepL
    dsimp only
    rw [if_neg (by decide), if_neg (by decide), if_pos rfl, ht]
    simp
  rw [lex_went (by rw [List.replicate_succ]; simp) hs, add_none, List.drop_eq_nil_of_le (by simp)]
  rfl

/-- Bytes that are all such marks, as a text. -/
theorem conv_marks {w : World} {a : Addr} {n cap : Nat} (h : ∀ j, j < n → w.cell? (a.add j) = some (.int .u8 59)) :
    ∃ S : ByteArray, (convert 43 9 (.slice (some a) n cap)).run Tryd.prog w = .ok (.string S) w ∧ S.data.toList = List.replicate n 59 := by
  refine ⟨(List.replicate n (59 : Int)).foldl (fun r n => r.push (UInt8.ofNat n.toNat)) ByteArray.empty, ?_, ?_⟩
  · rw [run_convert_bytes_string w _ _ 5 _ _ _ Tryd.underlying43 Tryd.underlying5 Tryd.underlying9]
    refine run_bytesToString w a n cap (List.replicate n 59) ?_
    rw [run_loadCells w a n (fun _ => .int .u8 59) h]
    congr 2
    rw [List.map_replicate]
    exact List.ext_getElem? (fun i => by simp [List.getElem?_map, List.getElem?_replicate, List.getElem?_range]; split <;> simp [*])
  · have : ∀ (m : Nat) (S : ByteArray), ((List.replicate m (59 : Int)).foldl (fun r n => r.push (UInt8.ofNat n.toNat)) S).data.toList = S.data.toList ++ List.replicate m 59 := by
      intro m
      induction m with
      | zero => intro S; simp
      | succ m ih =>
        intro S
        rw [List.replicate_succ, List.foldl_cons, ih, List.replicate_succ]
        simp [ByteArray.push]
    simpa using this n ByteArray.empty
theorem addk (g o i : Nat) : (⟨g, o, none⟩ : Addr).add i = ⟨g, o + i, none⟩ := by
  unfold Addr.add
  split <;> simp_all
theorem infoU8 : (Tryd.prog.info? 5).map (fun i => (i.zero, i.size, i.bytes)) = some (some (.int .u8 0), 1, 1) := by kernel_rfl
theorem bytes_of {S : ByteArray} {n : Nat} (h : S.data.toList = List.replicate n 59) : S.size = n := by
  have := congrArg List.length h
  simpa using this
set_option maxRecDepth 20000 in
set_option maxHeartbeats 8000000 in
theorem known_law (w : World) : Calls Tryd.prog 6 #[] w fun e w' => e = .returned (.bool true) ∧ Below w.heap.size w w' := by
  have hk := Lib.hid lexes_any
  have hL := Lib.hid (fun s (h : s.size ≤ 2000000) w => lex_told s w (by unfold maxLen; omega))
  go_enter Tryd.func6, Tryd.ntmps6
  go_wp2_with fail
  have hblk : (w.alloc (.cells #[.string ⟨#[48, 48, 55]⟩, .int .i64 31, .int .i64 1, .int .i64 1, .string ⟨#[49, 50, 51, 52, 53, 54, 55, 56, 57, 48]⟩, .int .i64 31, .int .i64 1, .int .i64 1, .string ⟨#[49, 97]⟩, .int .i64 31, .int .i64 1, .int .i64 1, .string ⟨#[49, 46]⟩, .int .i64 31, .int .i64 1, .int .i64 1, .string ⟨#[97, 45, 98]⟩, .int .i64 30, .int .i64 1, .int .i64 2, .string ⟨#[46]⟩, .int .i64 30, .int .i64 1, .int .i64 1, .string ⟨#[97, 10, 32, 49, 95]⟩, .int .i64 31, .int .i64 2, .int .i64 2, .string ⟨#[59, 32, 45, 10, 9, 45]⟩, .int .i64 30, .int .i64 2, .int .i64 2, .string ⟨#[128]⟩, .int .i64 30, .int .i64 1, .int .i64 1, .string ⟨#[97, 0]⟩, .int .i64 30, .int .i64 1, .int .i64 2, .string ⟨#[48, 48]⟩, .int .i64 31, .int .i64 1, .int .i64 1] 41)).heap[w.heap.size]? = some (.cells (rowsK.flatMap cellsK).toArray 41 (0, 0)) := heap_alloc_new w _
  have hb0 := (Below.refl w.heap.size w).alloc (Nat.le_refl _) (.cells #[.string ⟨#[48, 48, 55]⟩, .int .i64 31, .int .i64 1, .int .i64 1, .string ⟨#[49, 50, 51, 52, 53, 54, 55, 56, 57, 48]⟩, .int .i64 31, .int .i64 1, .int .i64 1, .string ⟨#[49, 97]⟩, .int .i64 31, .int .i64 1, .int .i64 1, .string ⟨#[49, 46]⟩, .int .i64 31, .int .i64 1, .int .i64 1, .string ⟨#[97, 45, 98]⟩, .int .i64 30, .int .i64 1, .int .i64 2, .string ⟨#[46]⟩, .int .i64 30, .int .i64 1, .int .i64 1, .string ⟨#[97, 10, 32, 49, 95]⟩, .int .i64 31, .int .i64 2, .int .i64 2, .string ⟨#[59, 32, 45, 10, 9, 45]⟩, .int .i64 30, .int .i64 2, .int .i64 2, .string ⟨#[128]⟩, .int .i64 30, .int .i64 1, .int .i64 1, .string ⟨#[97, 0]⟩, .int .i64 30, .int .i64 1, .int .i64 2, .string ⟨#[48, 48]⟩, .int .i64 31, .int .i64 1, .int .i64 1] 41)
  generalize (w.alloc (.cells #[.string ⟨#[48, 48, 55]⟩, .int .i64 31, .int .i64 1, .int .i64 1, .string ⟨#[49, 50, 51, 52, 53, 54, 55, 56, 57, 48]⟩, .int .i64 31, .int .i64 1, .int .i64 1, .string ⟨#[49, 97]⟩, .int .i64 31, .int .i64 1, .int .i64 1, .string ⟨#[49, 46]⟩, .int .i64 31, .int .i64 1, .int .i64 1, .string ⟨#[97, 45, 98]⟩, .int .i64 30, .int .i64 1, .int .i64 2, .string ⟨#[46]⟩, .int .i64 30, .int .i64 1, .int .i64 1, .string ⟨#[97, 10, 32, 49, 95]⟩, .int .i64 31, .int .i64 2, .int .i64 2, .string ⟨#[59, 32, 45, 10, 9, 45]⟩, .int .i64 30, .int .i64 2, .int .i64 2, .string ⟨#[128]⟩, .int .i64 30, .int .i64 1, .int .i64 1, .string ⟨#[97, 0]⟩, .int .i64 30, .int .i64 1, .int .i64 2, .string ⟨#[48, 48]⟩, .int .i64 31, .int .i64 1, .int .i64 1] 41)) = wa at *
  have hlta : w.heap.size < wa.heap.size := (Array.getElem?_eq_some_iff.1 hblk).1
  go_loopw [2, 3, 4, 5] (fun i _ _ _ wr => ∃ j : Nat, j ≤ 11 ∧ i = .int .i64 j ∧ Below wa.heap.size wa wr) (fun i _ _ _ _ => 11 - (intOf i).toNat)
  case atStart => exact ⟨0, by omega, rfl, Below.refl _ _⟩
  case round =>
    obtain ⟨j, hj, rfl, hbw⟩ := hrel
    by_cases hlt : j < 11
    · have i1 : (j : Int) < 11 := by omega
      obtain ⟨r, hr⟩ : ∃ r, rowsK[j]? = some r := ⟨_, List.getElem?_eq_getElem (show j < rowsK.length from hlt)⟩
      obtain ⟨c0, c1, c2, c3⟩ := row_cells ((hbw.block _ hlta).trans hblk) hr
      obtain ⟨hbad, hlen⟩ := rows_bad r (List.mem_of_getElem? hr)
      have hsz : (⟨r.1.toArray⟩ : ByteArray).size ≤ 20 := by show r.1.toArray.size ≤ 20; simpa using hlen
      have ht : told ⟨r.1.toArray⟩ = .error (r.2.2.1, r.2.2.2, r.2.1) := by rw [told_short (by omega)]; simpa using hbad
      obtain ⟨bs, er, l, c⟩ := r
      simp only at c0 c1 c2 c3 ht hsz
      replace ht := Lib.hid ht
      clear hr hbad hlen
      generalize (⟨bs.toArray⟩ : ByteArray) = s at *
      go_wp2_with fail
      refine (hL.out s (by omega) _).mono ?_
      rintro e1 w1 ⟨v, l1, k1, r1, rfl, hrd, hwh, hb1⟩
      rw [ht.out] at hrd hwh
      obtain ⟨rfl, rfl, rfl⟩ : l = l1 ∧ c = k1 ∧ er = r1 := by simpa [where'] using hwh
      obtain ⟨a1, ca1, rfl⟩ := hrd.form
      simp only [toks, List.length_nil]
      go_upto_region 6 with fail
      have hbz := (hbw.trans (hb1.mono hbw.size)).alloc (Nat.le_trans hbw.size hb1.size) (.cells #[.int .i64 l, .int .i64 c] 24)
      have hltw : w.heap.size < wr.heap.size := Nat.lt_of_lt_of_le hlta hbw.size
      have hlt1 : w.heap.size < w1.heap.size := Nat.lt_of_lt_of_le hltw hb1.size
      have d1 : ∀ o, (w1.alloc o).cell? ⟨w.heap.size, j * 4 + 1, none⟩ = some (.int .i64 er) := fun o => (World.cell?_alloc_past _ _ _ hlt1).trans ((hb1.cell (p := ⟨w.heap.size, j * 4 + 1, none⟩) hltw).trans c1)
      have d2 : ∀ o, (w1.alloc o).cell? ⟨w.heap.size, j * 4 + 2, none⟩ = some (.int .i64 l) := fun o => (World.cell?_alloc_past _ _ _ hlt1).trans ((hb1.cell (p := ⟨w.heap.size, j * 4 + 2, none⟩) hltw).trans c2)
      have d3 : ∀ o, (w1.alloc o).cell? ⟨w.heap.size, j * 4 + 3, none⟩ = some (.int .i64 c) := fun o => (World.cell?_alloc_past _ _ _ hlt1).trans ((hb1.cell (p := ⟨w.heap.size, j * 4 + 3, none⟩) hltw).trans c3)
      clear c0 c1 c2 c3 hrd hwh hb1 hbw ht
      go_quiet (fail)
      go_wp2_with fail
      have hbn := below_drawn hbz nq
      go_roundw
      case rel => exact ⟨j + 1, by omega, by go_num, hbn⟩
      case measure => simp [intOf]; omega
    · have g1 : decide ((j : Int) < 11) = false := by simp; omega
      have hbv := hb0.trans (hbw.mono hb0.size)
      clear hbw hb0 hblk hlta
      have hne := fun (k n l c : Nat) (t : List UInt8) w => eq_tokT ⟨k, t, n, l, c⟩ ⟨k, t, n, l, c⟩ w
      have hq1 := fun w => eq_tokT ⟨3, [61], 0, 1, 4⟩ ⟨3, [61], 0, 1, 4⟩ w
      have hq2 := fun w => eql_spotN w 1 13 1 13
      have hq3 := fun w => eql_spotN w 2 1 2 1
      have hq4 := fun w => eq_tokT ⟨4, [], 0, 1, 1⟩ ⟨4, [], 0, 1, 1⟩ w
      have hq5 := fun w => eql_spotN w 0 0 0 0
      simp only [tokB_refl] at hq1 hq4
      simp at hq1 hq2 hq3 hq4 hq5
      clear hne
      go_wp2_with fail
      refine (hL.out ⟨#[97, 46, 49, 61, 99, 111, 112, 121, 32, 98, 59, 120]⟩ (by decide) _).mono ?_
      rintro ep wp ⟨vp, lp, cp, rp, rfl, hrp, hwp, hbp⟩
      rw [show told ⟨#[97, 46, 49, 61, 99, 111, 112, 121, 32, 98, 59, 120]⟩ = .ok [⟨1, [97, 46, 49], 0, 1, 1⟩, ⟨3, [61], 0, 1, 4⟩, ⟨1, [99, 111, 112, 121], 0, 1, 5⟩, ⟨1, [98], 0, 1, 10⟩, ⟨4, [], 0, 1, 13⟩] from by rw [told_short (by decide)]; kernel_rfl] at hrp hwp
      obtain ⟨rfl, rfl, rfl⟩ : 0 = lp ∧ 0 = cp ∧ 0 = rp := by simpa [where'] using hwp
      obtain ⟨gp, capp, rfl, hgp, hcp⟩ := RdT.cells hrp
      simp only [toks, List.length_cons, List.length_nil, Nat.zero_add, Nat.reduceAdd]
      have hbxp := (hbv.trans (hbp.mono hbv.size)).alloc (Nat.le_trans hbv.size hbp.size) (.cells #[.int .i64 0, .int .i64 0] 24)
      obtain ⟨xpa0, xpb0, xpc0, xpd0, xpe0⟩ := hcp 0 _ rfl
      simp at xpa0 xpb0 xpc0 xpd0 xpe0
      replace xpa0 := fun o : Obj => (World.cell?_alloc_past o _ _ (by exact hgp)).trans xpa0
      replace xpb0 := fun o : Obj => (World.cell?_alloc_past o _ _ (by exact hgp)).trans xpb0
      replace xpc0 := fun o : Obj => (World.cell?_alloc_past o _ _ (by exact hgp)).trans xpc0
      replace xpd0 := fun o : Obj => (World.cell?_alloc_past o _ _ (by exact hgp)).trans xpd0
      replace xpe0 := fun o : Obj => (World.cell?_alloc_past o _ _ (by exact hgp)).trans xpe0
      obtain ⟨xpa1, xpb1, xpc1, xpd1, xpe1⟩ := hcp 1 _ rfl
      simp at xpa1 xpb1 xpc1 xpd1 xpe1
      replace xpa1 := fun o : Obj => (World.cell?_alloc_past o _ _ (by exact hgp)).trans xpa1
      replace xpb1 := fun o : Obj => (World.cell?_alloc_past o _ _ (by exact hgp)).trans xpb1
      replace xpc1 := fun o : Obj => (World.cell?_alloc_past o _ _ (by exact hgp)).trans xpc1
      replace xpd1 := fun o : Obj => (World.cell?_alloc_past o _ _ (by exact hgp)).trans xpd1
      replace xpe1 := fun o : Obj => (World.cell?_alloc_past o _ _ (by exact hgp)).trans xpe1
      obtain ⟨xpa3, xpb3, xpc3, xpd3, xpe3⟩ := hcp 3 _ rfl
      simp at xpa3 xpb3 xpc3 xpd3 xpe3
      replace xpa3 := fun o : Obj => (World.cell?_alloc_past o _ _ (by exact hgp)).trans xpa3
      replace xpb3 := fun o : Obj => (World.cell?_alloc_past o _ _ (by exact hgp)).trans xpb3
      replace xpc3 := fun o : Obj => (World.cell?_alloc_past o _ _ (by exact hgp)).trans xpc3
      replace xpd3 := fun o : Obj => (World.cell?_alloc_past o _ _ (by exact hgp)).trans xpd3
      replace xpe3 := fun o : Obj => (World.cell?_alloc_past o _ _ (by exact hgp)).trans xpe3
      obtain ⟨xpa4, xpb4, xpc4, xpd4, xpe4⟩ := hcp 4 _ rfl
      simp at xpa4 xpb4 xpc4 xpd4 xpe4
      replace xpa4 := fun o : Obj => (World.cell?_alloc_past o _ _ (by exact hgp)).trans xpa4
      replace xpb4 := fun o : Obj => (World.cell?_alloc_past o _ _ (by exact hgp)).trans xpb4
      replace xpc4 := fun o : Obj => (World.cell?_alloc_past o _ _ (by exact hgp)).trans xpc4
      replace xpd4 := fun o : Obj => (World.cell?_alloc_past o _ _ (by exact hgp)).trans xpd4
      replace xpe4 := fun o : Obj => (World.cell?_alloc_past o _ _ (by exact hgp)).trans xpe4
      clear hrp hwp hcp hbp hbv
      go_wp2_with fail
      refine (hL.out ⟨#[49, 50, 51, 52, 53, 54, 55, 56, 57, 32, 48, 40, 95, 65, 57, 13, 10, 41]⟩ (by decide) _).mono ?_
      rintro eq wq ⟨vq, lq, cq, rq, rfl, hrq, hwq, hbq⟩
      rw [show told ⟨#[49, 50, 51, 52, 53, 54, 55, 56, 57, 32, 48, 40, 95, 65, 57, 13, 10, 41]⟩ = .ok [⟨2, [49, 50, 51, 52, 53, 54, 55, 56, 57], 123456789, 1, 1⟩, ⟨2, [48], 0, 1, 11⟩, ⟨3, [40], 0, 1, 12⟩, ⟨1, [95, 65, 57], 0, 1, 13⟩, ⟨3, [41], 0, 2, 1⟩, ⟨4, [], 0, 2, 2⟩] from by rw [told_short (by decide)]; kernel_rfl] at hrq hwq
      obtain ⟨rfl, rfl, rfl⟩ : 0 = lq ∧ 0 = cq ∧ 0 = rq := by simpa [where'] using hwq
      obtain ⟨gq, capq, rfl, hgq, hcq⟩ := RdT.cells hrq
      simp only [toks, List.length_cons, List.length_nil, Nat.zero_add, Nat.reduceAdd]
      have hbxq := (hbxp.trans (hbq.mono hbxp.size)).alloc (Nat.le_trans hbxp.size hbq.size) (.cells #[.int .i64 0, .int .i64 0] 24)
      obtain ⟨xqa0, xqb0, xqc0, xqd0, xqe0⟩ := hcq 0 _ rfl
      simp at xqa0 xqb0 xqc0 xqd0 xqe0
      replace xqa0 := fun o : Obj => (World.cell?_alloc_past o _ _ (by exact hgq)).trans xqa0
      replace xqb0 := fun o : Obj => (World.cell?_alloc_past o _ _ (by exact hgq)).trans xqb0
      replace xqc0 := fun o : Obj => (World.cell?_alloc_past o _ _ (by exact hgq)).trans xqc0
      replace xqd0 := fun o : Obj => (World.cell?_alloc_past o _ _ (by exact hgq)).trans xqd0
      replace xqe0 := fun o : Obj => (World.cell?_alloc_past o _ _ (by exact hgq)).trans xqe0
      obtain ⟨xqa1, xqb1, xqc1, xqd1, xqe1⟩ := hcq 1 _ rfl
      simp at xqa1 xqb1 xqc1 xqd1 xqe1
      replace xqa1 := fun o : Obj => (World.cell?_alloc_past o _ _ (by exact hgq)).trans xqa1
      replace xqb1 := fun o : Obj => (World.cell?_alloc_past o _ _ (by exact hgq)).trans xqb1
      replace xqc1 := fun o : Obj => (World.cell?_alloc_past o _ _ (by exact hgq)).trans xqc1
      replace xqd1 := fun o : Obj => (World.cell?_alloc_past o _ _ (by exact hgq)).trans xqd1
      replace xqe1 := fun o : Obj => (World.cell?_alloc_past o _ _ (by exact hgq)).trans xqe1
      obtain ⟨xqa3, xqb3, xqc3, xqd3, xqe3⟩ := hcq 3 _ rfl
      simp at xqa3 xqb3 xqc3 xqd3 xqe3
      replace xqa3 := fun o : Obj => (World.cell?_alloc_past o _ _ (by exact hgq)).trans xqa3
      replace xqb3 := fun o : Obj => (World.cell?_alloc_past o _ _ (by exact hgq)).trans xqb3
      replace xqc3 := fun o : Obj => (World.cell?_alloc_past o _ _ (by exact hgq)).trans xqc3
      replace xqd3 := fun o : Obj => (World.cell?_alloc_past o _ _ (by exact hgq)).trans xqd3
      replace xqe3 := fun o : Obj => (World.cell?_alloc_past o _ _ (by exact hgq)).trans xqe3
      obtain ⟨xqa4, xqb4, xqc4, xqd4, xqe4⟩ := hcq 4 _ rfl
      simp at xqa4 xqb4 xqc4 xqd4 xqe4
      replace xqa4 := fun o : Obj => (World.cell?_alloc_past o _ _ (by exact hgq)).trans xqa4
      replace xqb4 := fun o : Obj => (World.cell?_alloc_past o _ _ (by exact hgq)).trans xqb4
      replace xqc4 := fun o : Obj => (World.cell?_alloc_past o _ _ (by exact hgq)).trans xqc4
      replace xqd4 := fun o : Obj => (World.cell?_alloc_past o _ _ (by exact hgq)).trans xqd4
      replace xqe4 := fun o : Obj => (World.cell?_alloc_past o _ _ (by exact hgq)).trans xqe4
      clear hrq hwq hcq hbq hbxp
      go_upto_region 14 with fail
      generalize (wq.alloc (.cells #[.int .i64 0, .int .i64 0] 24)) = wy at *
      clear xqa0 xqb0 xqc0 xqd0 xqe0 xqa1 xqb1 xqc1 xqd1 xqe1 xqa3 xqb3 xqc3 xqd3 xqe3 xqa4 xqb4 xqc4 xqd4 xqe4
      obtain ⟨i0, hi0, hz0, hz1, hz2⟩ := info_parts infoU8
      obtain ⟨wm, hmk0, hown0, hgr0⟩ := run_make_full (P := Tryd.prog) wy wy.heap.size 43 5 i0 (.int .u8 0) 1 Tryd.underlying43 hi0 hz0 hz1 .i64 .i64 1048577 (by rw [hz2]; decide) (by unfold maxLen; decide) (Nat.le_refl _)
      have hmk : (Instr.makeSlice 43 (.int .i64 1048577) (.int .i64 1048577)).run Tryd.prog wy = .ok (.slice (some ⟨wy.heap.size, 0, none⟩) 1048577 1048577) wm := hmk0
      have hbm : Below wy.heap.size wy wm := (Touch.of_grown hgr0 (S := fun _ => False) (fun k e => by cases e)).below (Nat.le_refl _) (fun _ _ h => h)
      have hgm : wy.heap.size < wm.heap.size := (hown0.lt _ rfl).2
      clear hmk0 hgr0
      generalize (madeCells (Value.int .u8 0).cells (1048577 * 1)).toList = cs0 at hown0
      go_wp2_with fail
      clear hmk
      go_loopw [13] (fun i wr => ∃ (j : Nat) (cs : List Value), j ≤ 1048577 ∧ i = .int .i64 j ∧ Hid (∀ k, k < j → cs[k]? = some (.int .u8 59)) ∧ wr.ownsRow wy.heap.size 5 1 (.slice (some ⟨wy.heap.size, 0, none⟩) 1048577 1048577) 1048577 cs ∧ Below wy.heap.size wy wr) (fun i _ => 1048577 - (intOf i).toNat)
      case atStart => exact ⟨0, cs0, Nat.zero_le _, rfl, Lib.hid (fun k hk => by omega), hown0, hbm⟩
      case round =>
        clear hown0 hbm hgm
        obtain ⟨j, cs, hj, rfl, hcs, hown, hbw⟩ := hrel
        have hcl := hown.1
        have hcell := Lib.hid (fun k hk => hown.cellAt k hk)
        have hfr := fun k => hown.frozenAt k
        by_cases hlt : j < 1048577
        · have i1 : (j : Int) < 1048577 := by omega
          obtain ⟨u, hu⟩ : ∃ u, cs[j]? = some u := ⟨_, List.getElem?_eq_getElem (by omega)⟩
          have c0 := (hcell.out j (by omega)).trans hu
          have f0 := hfr j
          obtain ⟨hown2, hgr⟩ := hown.stored j (.int .u8 59)
          have hb2 : Below wy.heap.size wy (wr.setCell ⟨wy.heap.size, j, none⟩ (.int .u8 59)) := hbw.trans ((Touch.of_grown hgr (S := fun k => k = wy.heap.size) (fun k e => by simpa using e.symm)).below hbw.size (fun k hk e => by omega))
          have hcs2 := Lib.hid (show ∀ k, k < j + 1 → (cs.set j (.int .u8 59))[k]? = some (.int .u8 59) from fun k hk => by
            rw [List.getElem?_set]
            by_cases hkj : j = k
            · rw [if_pos hkj, if_pos (by omega)]
            · rw [if_neg hkj]; exact hcs.out k (by omega))
          clear hown hcs hgr hcell hfr hbw hcl hu
          go_wp2_with fail
          go_roundw
          case rel => exact ⟨j + 1, _, by omega, by go_num, hcs2, hown2, hb2⟩
          case measure => simp [intOf]; omega
        · obtain rfl : j = 1048577 := by omega
          have hm59 : ∀ k, k < 1048577 → wr.cell? ⟨wy.heap.size, k, none⟩ = some (.int .u8 59) := fun k hk => (hcell.out k (by omega)).trans (hcs.out k hk)
          have hgw : wy.heap.size < wr.heap.size := (hown.lt _ rfl).2
          obtain ⟨S1, hcv1, hS1⟩ := conv_marks (w := wr) (a := ⟨wy.heap.size, 0, none⟩) (n := 1048577) (cap := 1048577) (fun k hk => by rw [add0]; exact hm59 k hk)
          have hz1' := bytes_of hS1
          have ht1 : told S1 = .error (0, 0, 2) := by unfold told; rw [if_neg (by omega)]
          replace hm59 := Lib.hid hm59
          replace hz1' := Lib.hid hz1'
          clear hown hcs hcell hfr hcl hS1
          go_wp2_with fail
          have hb3 := hbxq.trans (hbw.mono hbxq.size)
          clear hbw hbxq
          refine (hL.out S1 (by have := hz1'.out; omega) _).mono ?_
          rintro es ws ⟨vs, ls, cs', rs, rfl, hrs, hws, hbs⟩
          rw [ht1] at hrs hws
          obtain ⟨rfl, rfl, rfl⟩ : 0 = ls ∧ 0 = cs' ∧ 2 = rs := by simpa [where'] using hws
          obtain ⟨a9, ca9, rfl⟩ := hrs.form
          simp only [toks, List.length_nil]
          go_upto_region 20 with fail
          have hbt := hbs.alloc hbs.size (.cells #[.int .i64 0, .int .i64 0] 24)
          have p0 : (ws.alloc (.cells #[.int .i64 0, .int .i64 0] 24)).cell? ⟨ws.heap.size, 0, none⟩ = some (.int .i64 0) := by simp
          have p1 : (ws.alloc (.cells #[.int .i64 0, .int .i64 0] 24)).cell? ⟨ws.heap.size, 1, none⟩ = some (.int .i64 0) := by simp
          have pl : ws.heap.size < (ws.alloc (.cells #[.int .i64 0, .int .i64 0] 24)).heap.size := by simp
          generalize (ws.alloc (.cells #[.int .i64 0, .int .i64 0] 24)) = wt at *
          obtain ⟨S2, hcv2, hS2⟩ := conv_marks (w := wt) (a := ⟨wy.heap.size, 1, none⟩) (n := 1048576) (cap := 1048576) (fun k hk => by rw [addk]; exact (hbt.cell (p := ⟨wy.heap.size, 1 + k, none⟩) hgw).trans (hm59.out (1 + k) (by omega)))
          have hz2' := bytes_of hS2
          have ht2 : told S2 = .ok [⟨4, [], 0, 1, 1048577⟩] := by
            have := lex_marks 1048576 (by omega)
            rw [told_short (by omega), hS2]
            exact this
          have hb4 := hb3.trans (hbt.mono hb3.size)
          replace hz2' := Lib.hid hz2'
          clear hrs hws hbs hbt hS2 hm59 hz1' hb3 hcv1 ht1
          go_wp2_with fail
          refine (hL.out S2 (by have := hz2'.out; omega) _).mono ?_
          rintro eu wu ⟨vu, lu, cu, ru, rfl, hru, hwu, hbu⟩
          rw [ht2] at hru hwu
          obtain ⟨rfl, rfl, rfl⟩ : 0 = lu ∧ 0 = cu ∧ 0 = ru := by simpa [where'] using hwu
          obtain ⟨gu, capu, rfl, hgu, hcu⟩ := RdT.cells hru
          simp only [toks, List.length_cons, List.length_nil, Nat.zero_add, Nat.reduceAdd]
          obtain ⟨-, -, -, -, x4⟩ := hcu 0 _ rfl
          simp at x4
          go_upto_region 21 with fail
          have hlu : wt.heap.size ≤ wu.heap.size := hbu.size
          have q0 : (wu.alloc (.cells #[.int .i64 0, .int .i64 0] 24)).cell? ⟨ws.heap.size, 0, none⟩ = some (.int .i64 0) := (World.cell?_alloc_past _ _ _ (by omega)).trans ((hbu.cell (p := ⟨ws.heap.size, 0, none⟩) pl).trans p0)
          have q1 : (wu.alloc (.cells #[.int .i64 0, .int .i64 0] 24)).cell? ⟨ws.heap.size, 1, none⟩ = some (.int .i64 0) := (World.cell?_alloc_past _ _ _ (by omega)).trans ((hbu.cell (p := ⟨ws.heap.size, 1, none⟩) pl).trans p1)
          have y4 : (wu.alloc (.cells #[.int .i64 0, .int .i64 0] 24)).cell? ⟨gu, 4, none⟩ = some (.int .i64 1048577) := (World.cell?_alloc_past _ _ _ hgu).trans x4
          have gl : gu < (wu.alloc (.cells #[.int .i64 0, .int .i64 0] 24)).heap.size := by simp; omega
          have ql : ws.heap.size < (wu.alloc (.cells #[.int .i64 0, .int .i64 0] 24)).heap.size := by simp; omega
          have hb5 := (hb4.trans (hbu.mono hb4.size)).alloc (Nat.le_trans hb4.size hbu.size) (.cells #[.int .i64 0, .int .i64 0] 24)
          generalize (wu.alloc (.cells #[.int .i64 0, .int .i64 0] 24)) = wv at *
          clear hru hwu hcu hbu p0 p1 x4 hcv2 ht2 hb4
          go_wp2_with fail
          refine (hL.out ⟨#[]⟩ (by decide) _).mono ?_
          rintro ez wz ⟨vz, lz, cz, rz, rfl, hrz, hwz, hbz⟩
          rw [show told ⟨#[]⟩ = .ok [⟨4, [], 0, 1, 1⟩] from by rw [told_short (by decide)]; rfl] at hrz hwz
          obtain ⟨rfl, rfl, rfl⟩ : 0 = lz ∧ 0 = cz ∧ 0 = rz := by simpa [where'] using hwz
          obtain ⟨gz, capz, rfl, hgz, hcz⟩ := RdT.cells hrz
          simp only [toks, List.length_cons, List.length_nil, Nat.zero_add, Nat.reduceAdd]
          obtain ⟨z0, z1, z2, z3, z4⟩ := hcz 0 _ rfl
          simp at z0 z1 z2 z3 z4
          go_upto_region 22 with fail
          have hlz : wv.heap.size ≤ wz.heap.size := hbz.size
          have s0 : (wz.alloc (.cells #[.int .i64 0, .int .i64 0] 24)).cell? ⟨ws.heap.size, 0, none⟩ = some (.int .i64 0) := (World.cell?_alloc_past _ _ _ (by omega)).trans ((hbz.cell (p := ⟨ws.heap.size, 0, none⟩) ql).trans q0)
          have s1 : (wz.alloc (.cells #[.int .i64 0, .int .i64 0] 24)).cell? ⟨ws.heap.size, 1, none⟩ = some (.int .i64 0) := (World.cell?_alloc_past _ _ _ (by omega)).trans ((hbz.cell (p := ⟨ws.heap.size, 1, none⟩) ql).trans q1)
          have u4 : (wz.alloc (.cells #[.int .i64 0, .int .i64 0] 24)).cell? ⟨gu, 4, none⟩ = some (.int .i64 1048577) := (World.cell?_alloc_past _ _ _ (by omega)).trans ((hbz.cell (p := ⟨gu, 4, none⟩) gl).trans y4)
          have t0 := (World.cell?_alloc_past (.cells #[.int .i64 0, .int .i64 0] 24) _ _ hgz).trans z0
          have t1 := (World.cell?_alloc_past (.cells #[.int .i64 0, .int .i64 0] 24) _ _ hgz).trans z1
          have t2 := (World.cell?_alloc_past (.cells #[.int .i64 0, .int .i64 0] 24) _ _ hgz).trans z2
          have t3 := (World.cell?_alloc_past (.cells #[.int .i64 0, .int .i64 0] 24) _ _ hgz).trans z3
          have t4 := (World.cell?_alloc_past (.cells #[.int .i64 0, .int .i64 0] 24) _ _ hgz).trans z4
          have hb6 := (hb5.trans (hbz.mono hb5.size)).alloc (Nat.le_trans hb5.size hbz.size) (.cells #[.int .i64 0, .int .i64 0] 24)
          generalize (wz.alloc (.cells #[.int .i64 0, .int .i64 0] 24)) = wl at *
          clear hrz hwz hcz hbz q0 q1 y4 z0 z1 z2 z3 z4 hb5
          go_wp2_with (go_at_call 11; refine (hk.out _).mono ?_; rintro e9 w9 ⟨rfl, hb7⟩; have hb8 := Lib.hid (hb6.trans (hb7.mono hb6.size)); clear hb6 hb7)
          go_ret
          exact ⟨rfl, hb8.out⟩
end Go.Proofs.YtobfcbmphobmfaaDoor
