/- LaidT, RdB4, RdB5, RdB6. -/
import Derived.Test.YtgcanabckogmmaaDoorZA
import Derived.Test.YtgcanabckogmmaaDoorRows
import Derived.Test.YtgcanabckogmmaaDoorYO
import Derived.Test.YtgcanabckogmmaaDoorYP
import Derived.Test.YtgcanabckogmmaaDoorYK
import Derived.Lib.LaidTab
namespace Go.Proofs.YtgcanabckogmmaaDoor
set_option linter.unusedVariables false
set_option linter.unusedSimpArgs false
section
def lits64 : DataW Unit → List Value
  | .agg l => l.map fun | .lit (.int k n) => Value.int k n | _ => undef
  | _ => []
noncomputable def lowL : Nat := (World.holding Tryd.prog default ⟨#[], #[], []⟩).heap.size
/-- A variable that holds these cells. -/
noncomputable def putG (h : Array Obj) (g : Nat) (cs : Array Value) : Array Obj := h.modify g fun
  | .cells _ t frozen => .cells cs t frozen
  | o => o
noncomputable def laidWorld (os : Os) : World :=
  let w0 := World.holding Tryd.prog os ⟨#[.cells #[.string ⟨#[105, 110, 118, 97, 108, 105, 100, 32, 115, 121, 110, 116, 97, 120]⟩] 128, .cells #[.string ⟨#[118, 97, 108, 117, 101, 32, 111, 117, 116, 32, 111, 102, 32, 114, 97, 110, 103, 101]⟩] 128], #[], []⟩
  { w0 with heap := putG (putG (putG (putG (putG w0.heap 1 #[.iface 126 (.pointer (some ⟨lowL, 0, none⟩))]) 2 #[.iface 126 (.pointer (some ⟨lowL + 1, 0, none⟩))])
      3 (lits64 Rows.laid_internal_strconv_uint64pow10).toArray) 4 (lits64 Rows.laid_math_bits_deBruijn32tab).toArray) 5 (lits64 Rows.laid_math_bits_deBruijn64tab).toArray }
end
section
open Go.RowKit Go.Maps Go.Shelf
attribute [local go_sem] Oper.semAt_some fld0 fld1 fld2

theorem ebR_same {r1 r2 : Except Flt (List Fun)} (h : EbR r1 r2) : progR r2 = progR r1 ∧ (errR r2).2.2 = (errR r1).2.2 := by
  cases r1 with
  | ok P =>
    have h : r2 = .ok P := h
    subst h
    exact ⟨rfl, rfl⟩
  | error e =>
    obtain ⟨e', rfl, h⟩ := h
    exact ⟨rfl, h⟩
set_option maxRecDepth 20000 in
set_option maxHeartbeats 2000000 in
theorem blanks_great {w : World} {s : ByteArray} {v : Value} (h : 1000 < s.size) : Calls Tryd.prog 4 #[.string s, v] w fun e w' => e = .returned (.bool true) ∧ Below w.heap.size w w' := by
  have g1 : decide ((s.size : Int) > 1000) = true := by simp; omega
  clear h
  go_enter Tryd.func4, Tryd.ntmps4
  go_wp2_with fail
  go_ret
  exact ⟨rfl, Below.refl _ _⟩
set_option maxRecDepth 20000 in
set_option maxHeartbeats 2000000 in
theorem blanks_bad {w : World} {s : ByteArray} {v : Value} (h : s.size ≤ 1000) {f : Flt} (hl : lex s.data.toList 1 1 = .error f) : Calls Tryd.prog 4 #[.string s, v] w fun e w' => e = .returned (.bool true) ∧ Below w.heap.size w w' := by
  have g1 : decide ((s.size : Int) > 1000) = false := by simp; omega
  obtain ⟨l, c, er⟩ := f
  have h0 := lexN_err _ _ _ _ _ _ _ (Nat.le_refl _) hl
  have k1 := Lib.hid (fun w' => lex_any (w := w') (s := s) (by omega))
  have k2 := Lib.hid (fun w' => parse_any (w := w') (s := s) (by omega))
  have hp : parseL s.data.toList = .error (l, c, er) := by unfold parseL; rw [hl]
  rw [hl] at k1
  rw [hp] at k2
  have q1 : ((er : Int) != 0) = true := by simpa using h0
  clear h hl hp h0
  go_enter Tryd.func4, Tryd.ntmps4
  go_wp2_with fail
  refine (k1.out _).mono ?_
  rintro e w1 ⟨rfl, hb1⟩
  replace hb1 := Lib.hid hb1
  go_wp2_with fail
  refine (k2.out _).mono ?_
  rintro e w2 ⟨hb2, rfl⟩
  have hb3 : ∀ A B, Below w.heap.size w ((w2.alloc A).alloc B) := fun A B => by
    have s1 := hb1.out.size
    have t1 := hb1.out.alloc s1 (.cells #[.int .i64 l, .int .i64 c] 26)
    have t2 := t1.trans (hb2.mono t1.size)
    exact (t2.alloc t2.size A).alloc (by have := t2.size; simp; omega) B
  replace hb3 := Lib.hid hb3
  clear hb1 hb2
  go_wp2_with fail
  refine reads_any.mono ?_
  rintro e w5 ⟨rfl, hb5⟩
  replace hb5 := Lib.hid hb5
  go_wp2_with fail
  go_ret
  exact ⟨rfl, (hb3.out _ _).trans (hb5.out.mono (hb3.out _ _).size)⟩
/-- One of four gaps. -/
theorem four_at {m : Nat} (hm : m < 4) (A B C D : ByteArray) : ∃ g : ByteArray, (g = A ∨ g = B ∨ g = C ∨ g = D) ∧ ∀ (w : World) (T : TypeId), (w.alloc (.cells #[.string A, .string B, .string C, .string D] T)).cell? ⟨w.heap.size, m, none⟩ = some (.string g) := by
  have key : ∀ (w : World) (T : TypeId), (w.alloc (.cells #[.string A, .string B, .string C, .string D] T)).cell? ⟨w.heap.size, m, none⟩ = (#[Value.string A, .string B, .string C, .string D] : Array Value)[m]? := fun w T => blk_cell (at_newP rfl) m
  obtain rfl | rfl | rfl | rfl : m = 0 ∨ m = 1 ∨ m = 2 ∨ m = 3 := by omega
  · exact ⟨A, .inl rfl, fun w T => (key w T).trans rfl⟩
  · exact ⟨B, .inr (.inl rfl), fun w T => (key w T).trans rfl⟩
  · exact ⟨C, .inr (.inr (.inl rfl)), fun w T => (key w T).trans rfl⟩
  · exact ⟨D, .inr (.inr (.inr rfl)), fun w T => (key w T).trans rfl⟩
theorem four_bl {m : Nat} (hm : m < 4) : ∃ g : ByteArray, g.data.toList ∈ blG ∧ g.size ≤ 9 ∧ ∀ (w : World) (T : TypeId), (w.alloc (.cells #[.string ⟨#[32]⟩, .string ⟨#[9]⟩, .string ⟨#[32, 32]⟩, .string ⟨#[32, 9, 32]⟩] T)).cell? ⟨w.heap.size, m, none⟩ = some (.string g) := by
  obtain ⟨g, h1, h2⟩ := four_at hm ⟨#[32]⟩ ⟨#[9]⟩ ⟨#[32, 32]⟩ ⟨#[32, 9, 32]⟩
  refine ⟨g, ?_, ?_, h2⟩ <;> rcases h1 with rfl | rfl | rfl | rfl <;> decide
theorem four_nl {m : Nat} (hm : m < 4) : ∃ g : ByteArray, g.data.toList ∈ nlG ∧ g.size ≤ 9 ∧ ∀ (w : World) (T : TypeId), (w.alloc (.cells #[.string ⟨#[10]⟩, .string ⟨#[32, 59, 32, 120, 32, 61, 32, 40, 10]⟩, .string ⟨#[10, 10, 9, 10]⟩, .string ⟨#[13, 10, 59, 10, 32, 32]⟩] T)).cell? ⟨w.heap.size, m, none⟩ = some (.string g) := by
  obtain ⟨g, h1, h2⟩ := four_at hm ⟨#[10]⟩ ⟨#[32, 59, 32, 120, 32, 61, 32, 40, 10]⟩ ⟨#[10, 10, 9, 10]⟩ ⟨#[13, 10, 59, 10, 32, 32]⟩
  refine ⟨g, ?_, ?_, h2⟩ <;> rcases h1 with rfl | rfl | rfl | rfl <;> decide
end
section
open Go.RowKit Go.Maps Go.Shelf
attribute [local go_sem] Oper.semAt_some fld0 fld1 fld2

/-- The text so far. -/
structure BlS (W : World) (K : List Tok) (k : Nat) (sb : ByteArray) (Z : List (Tok × Tok)) (ln : Nat) (wr : World) : Prop where
  lay : Lay sb.data.toList Z ln
  take : Z.map Prod.fst = K.take k
  size : sb.size ≤ k * 1009
  bel : Below W.heap.size W wr
theorem BlS.next {W wr w2 : World} {K : List Tok} {k ln : Nat} {sb gp : ByteArray} {Z : List (Tok × Tok)} {t : Tok} (h : BlS W K k sb Z ln wr) (hk : K[k]? = some t) (hf : FormOk t.kind t.text t.num) (htx : t.text.length ≤ 1000) (hg : ln < t.line ∧ gp.data.toList ∈ nlG ∨ t.line = ln ∧ gp.data.toList ∈ blG) (hgs : gp.size ≤ 9) (hb : Below W.heap.size W w2) : ∃ Z', BlS W K (k + 1) (sb ++ gp ++ ⟨t.text.toArray⟩) Z' t.line w2 := by
  have he : (sb ++ gp ++ (⟨t.text.toArray⟩ : ByteArray)).data.toList = sb.data.toList ++ gp.data.toList ++ t.text := by simp [ByteArray.data_append]
  refine ⟨Z ++ [(t, ⟨t.kind, t.text, t.num, (spotOf (sb.data.toList ++ gp.data.toList)).1, (spotOf (sb.data.toList ++ gp.data.toList)).2⟩)], ⟨?_, ?_, ?_, hb⟩⟩
  · rw [he]
    exact Lay.snoc h.lay hf hg
  · rw [List.map_append, h.take, List.take_add_one, hk]
    rfl
  · have := h.size
    have e2 : (⟨t.text.toArray⟩ : ByteArray).size = t.text.length := by simp [ByteArray.size]
    rw [ByteArray.size_append, ByteArray.size_append, e2, Nat.succ_mul]
    omega
set_option maxRecDepth 20000 in
set_option maxHeartbeats 4000000 in
theorem blanks_good {w : World} {s : ByteArray} {v : Value} {gaps : List UInt8} (h : s.size ≤ 1000) (hv : Rd w v (gaps.map fun x => Value.int .u8 (x.toNat : Int))) (hgl : gaps.length ≤ maxLen) {T : List Tok} (hl : lex s.data.toList 1 1 = .ok T) : Calls Tryd.prog 4 #[.string s, v] w fun e w' => e = .returned (.bool true) ∧ Below w.heap.size w w' := by
  have g1 : decide ((s.size : Int) > 1000) = false := by simp; omega
  have k1 := Lib.hid (fun w' => lex_any (w := w') (s := s) (by omega))
  have k2 := Lib.hid (fun w' => parse_any (w := w') (s := s) (by omega))
  rw [hl] at k1
  obtain ⟨K, E, rfl, -, hlines⟩ := lex_lines _ _ _ _ _ hl
  obtain ⟨hlen, htx, l3, E3, e4, hE4, hk4⟩ := lexN_ok _ _ _ _ _ hl
  obtain ⟨rfl, e5⟩ := List.append_inj' e4 rfl
  injection e5 with e5 _
  subst e5
  have hlen : K.length ≤ 1000 := by simp at hlen; omega
  have htx : ∀ t ∈ K, t.text.length ≤ 1000 := fun t ht => by have := (htx t (List.mem_append_left _ ht)).1; simp at this; omega
  have hform : ∀ t ∈ K, FormOk t.kind t.text t.num := fun t ht => (lex_formOk _ _ _ _ _ hl t (List.mem_append_left _ ht)).resolve_left (hk4 t ht)
  have hsort : ∀ i x y, K[i]? = some x → K[i + 1]? = some y → x.line ≤ y.line := fun i x y hx hy => (lex_sorted _ _ _ _ _ hl).2 i x y ((List.getElem?_append_left (List.getElem?_eq_some_iff.1 hx).1).trans hx) ((List.getElem?_append_left (List.getElem?_eq_some_iff.1 hy).1).trans hy)
  have hbd : ∀ t ∈ K, t.line ≤ 4000000 := fun t ht => ((lex_tok hl (by simp; omega)).line t (List.mem_append_left _ ht)).1
  obtain ⟨av, cv, rfl⟩ := hv.form
  rw [List.length_map] at *
  obtain ⟨n, hn⟩ : ∃ n, n = K.length := ⟨_, rfl⟩
  obtain ⟨q, hq⟩ : ∃ q, q = gaps.length := ⟨_, rfl⟩
  have hnl : n ≤ 1000 := by omega
  have hfin := Lib.hid (fun (sb : ByteArray) Z ln wr (hB : BlS wr K n sb Z ln wr) => hB)
  have hlh := Lib.hid hl
  rw [← hq] at hv ⊢
  rw [← hq] at hgl
  unfold maxLen at hgl
  replace hv := Lib.hid hv
  replace hform := Lib.hid hform
  replace hsort := Lib.hid hsort
  replace hlines := Lib.hid hlines
  replace htx := Lib.hid htx
  replace hn := Lib.hid hn
  replace hq := Lib.hid hq
  replace hbd := Lib.hid hbd
  have hs1 := h
  clear hfin h hl hk4 hE4 hlen
  go_enter Tryd.func4, Tryd.ntmps4
  go_wp2_with fail
  refine (k1.out _).mono ?_
  rintro e w1 ⟨⟨v1, rfl, hrow⟩, hb1⟩
  have hrd := hrow.rd
  obtain ⟨av1, cv1, rfl⟩ := hrd.form
  have hln : (K ++ [E]).length = n + 1 := by rw [hn.out]; simp
  rw [hln]
  have q1 : ((0 : Int) != 0) = false := rfl
  replace hb1 := Lib.hid hb1
  replace hrd := Lib.hid hrd
  clear hrow
  go_upto_block 0 with fail
  have hb2 := hb1.out.alloc hb1.out.size (.cells #[.int .i64 0, .int .i64 0] 26)
  have hrd2 := hrd.out.below ((Below.refl _ w1).alloc (Nat.le_refl _) (.cells #[.int .i64 0, .int .i64 0] 26))
  generalize (w1.alloc (.cells #[.int .i64 0, .int .i64 0] 26)) = w2 at hb2 hrd2 ⊢
  replace hrd2 := Lib.hid hrd2
  replace hb2 := Lib.hid hb2
  clear hb1 hrd
  go_wp2_with fail
  go_loopw [11, 12, 13, 14] (fun sv lv iv _ wr => ∃ (k : Nat) (sb : ByteArray) (Z : List (Tok × Tok)) (ln : Nat), k ≤ n ∧ sv = .string sb ∧ lv = .int .i64 ln ∧ iv = .int .i64 k ∧ Hid (BlS w2 K k sb Z ln wr) ∧ sb.size ≤ k * 1009 ∧ Hid (∀ t, K[k]? = some t → ln ≤ t.line) ∧ ln ≤ 4000000) (fun _ _ i _ _ => n - (intOf i).toNat)
  case atStart => exact ⟨0, ⟨#[]⟩, [], 1, Nat.zero_le _, rfl, rfl, rfl, Lib.hid ⟨.nil, rfl, Nat.le_refl _, Below.refl _ _⟩, Nat.le_refl _, Lib.hid (fun t ht => (hlines.out t (List.mem_of_getElem? ht)).1), by omega⟩
  case round =>
    obtain ⟨k, sb, Z, ln, hk, rfl, rfl, rfl, hB, hsz, hln2, hlb⟩ := hrel
    by_cases hlt : k < n
    · have i1 : (k : Int) + 1 < ((n + 1 : Nat) : Int) := by omega
      obtain ⟨t, ht⟩ : ∃ t, K[k]? = some t := ⟨_, List.getElem?_eq_getElem (by rw [← hn.out]; exact hlt)⟩
      have htm := List.mem_of_getElem? ht
      have hrd3 := hrd2.out.below hB.out.bel
      obtain ⟨g, cap, e1, hg, c0, c1, c2, c3, c4⟩ := hrd3.at (i := k) (t := t) (by rw [List.getElem?_append_left (by rw [← hn.out]; exact hlt)]; exact ht)
      rw [hln] at e1
      simp only [Value.slice.injEq] at e1
      obtain ⟨rfl, -, rfl⟩ := e1
      have htl := hbd.out t htm
      have htx1 := htx.out t htm
      have hle := hln2.out t ht
      have hsz2 : sb.size ≤ 1009000 := by omega
      have hbw := hb2.out.trans (hB.out.bel.mono hb2.out.size)
      have hrv := Rd.below hv.out hbw
      have hnxt : ∀ u, K[k + 1]? = some u → t.line ≤ u.line := fun u hu => hsort.out k t u ht hu
      have htf := hform.out t htm
      replace hnxt := Lib.hid hnxt
      replace htf := Lib.hid htf
      -- the gap's number
      obtain ⟨m, hm, hgap⟩ : ∃ m : Nat, m < 4 ∧ (q = 0 ∧ m = 0 ∨ ∃ (j : Nat) (x : UInt8), 0 < q ∧ (k : Int) % (q : Int) = (j : Int) ∧ j < q ∧ gaps[j]? = some x ∧ x.toNat % 4 = m) := by
        rcases Nat.eq_zero_or_pos q with h0 | h0
        · exact ⟨0, by omega, .inl ⟨h0, rfl⟩⟩
        · have hj : k % q < gaps.length := by have := hq.out; have := Nat.mod_lt k h0; omega
          exact ⟨gaps[k % q].toNat % 4, Nat.mod_lt _ (by omega), .inr ⟨k % q, gaps[k % q], h0, by omega, Nat.mod_lt _ h0, List.getElem?_eq_getElem hj, rfl⟩⟩
      by_cases hcl : ln < t.line
      · have d1 : decide ((t.line : Int) > (ln : Int)) = true := by simp; omega
        obtain ⟨gp, hgp1, hgp2, hgp3⟩ := four_nl hm
        have hgp3 := hgp3 wr 9
        have hb3 : Below w2.heap.size w2 (wr.alloc (.cells #[.string ⟨#[10]⟩, .string ⟨#[32, 59, 32, 120, 32, 61, 32, 40, 10]⟩, .string ⟨#[10, 10, 9, 10]⟩, .string ⟨#[13, 10, 59, 10, 32, 32]⟩] 9)) := hB.out.bel.alloc hB.out.bel.size _
        obtain ⟨Z', hB'⟩ := hB.out.next ht htf.out htx1 (.inl ⟨hcl, hgp1⟩) hgp2 hb3
        have hsz3 := hB'.size
        replace hB' := Lib.hid hB'
        replace hb3 := Lib.hid hb3
        replace hgp1 := Lib.hid hgp1
        replace ht := Lib.hid ht
        have o1 : ¬9223372036854775807 < sb.size + gp.size := by omega
        have o2 : ¬9223372036854775807 < sb.size + gp.size + t.text.length := by omega
        rcases hgap with ⟨rfl, rfl⟩ | ⟨j, x, h0, hj1, hj2, hx, hxm⟩
        · clear hrv hgp1 hbw hrd3
          go_wp2_with fail
          exact ⟨⟨k + 1, _, Z', t.line, by omega, rfl, rfl, by go_num, hB', hsz3, Lib.hid (fun u hu => by exact hnxt.out u hu), by omega⟩, by simp [intOf]; omega⟩
        · have f1 : decide ((q : Int) > 0) = true := by simp; omega
          have f2 : ((q : Int) == 0) = false := by simp; omega
          have f3 : ((x.toNat : Nat) : Int) % 4 = (m : Int) := by omega
          have f4 : (j : Int) < (q : Int) := by omega
          obtain ⟨gb, go, gcap, ge, _, gc⟩ := hrv.at (i := j) (u := .int .u8 (x.toNat : Int)) (by simp [hx])
          rw [List.length_map, ← hq.out] at ge
          simp only [Value.slice.injEq] at ge
          obtain ⟨rfl, -, rfl⟩ := ge
          replace hx := Lib.hid hx
          clear hrv hgp1 hbw hrd3
          go_wp2_with fail
          exact ⟨⟨k + 1, _, Z', t.line, by omega, rfl, rfl, by go_num, hB', hsz3, Lib.hid (fun u hu => by exact hnxt.out u hu), by omega⟩, by simp [intOf]; omega⟩
      · have d1 : decide ((t.line : Int) > (ln : Int)) = false := by simp; omega
        have heq : t.line = ln := by omega
        obtain ⟨gp, hgp1, hgp2, hgp3⟩ := four_bl hm
        have hgp3 := hgp3 wr 9
        have hb3 : Below w2.heap.size w2 (wr.alloc (.cells #[.string ⟨#[32]⟩, .string ⟨#[9]⟩, .string ⟨#[32, 32]⟩, .string ⟨#[32, 9, 32]⟩] 9)) := hB.out.bel.alloc hB.out.bel.size _
        obtain ⟨Z', hB'⟩ := hB.out.next ht htf.out htx1 (.inr ⟨heq, hgp1⟩) hgp2 hb3
        rw [heq] at hB'
        have hsz3 := hB'.size
        replace hB' := Lib.hid hB'
        replace hb3 := Lib.hid hb3
        replace hgp1 := Lib.hid hgp1
        replace ht := Lib.hid ht
        have o1 : ¬9223372036854775807 < sb.size + gp.size := by omega
        have o2 : ¬9223372036854775807 < sb.size + gp.size + t.text.length := by omega
        rcases hgap with ⟨rfl, rfl⟩ | ⟨j, x, h0, hj1, hj2, hx, hxm⟩
        · clear hrv hgp1 hbw hrd3
          go_wp2_with fail
          exact ⟨⟨k + 1, _, Z', ln, by omega, rfl, rfl, by go_num, hB', hsz3, Lib.hid (fun u hu => by have := hnxt.out u hu; omega), by omega⟩, by simp [intOf]; omega⟩
        · have f1 : decide ((q : Int) > 0) = true := by simp; omega
          have f2 : ((q : Int) == 0) = false := by simp; omega
          have f3 : ((x.toNat : Nat) : Int) % 4 = (m : Int) := by omega
          have f4 : (j : Int) < (q : Int) := by omega
          obtain ⟨gb, go, gcap, ge, _, gc⟩ := hrv.at (i := j) (u := .int .u8 (x.toNat : Int)) (by simp [hx])
          rw [List.length_map, ← hq.out] at ge
          simp only [Value.slice.injEq] at ge
          obtain ⟨rfl, -, rfl⟩ := ge
          replace hx := Lib.hid hx
          clear hrv hgp1 hbw hrd3
          go_wp2_with fail
          exact ⟨⟨k + 1, _, Z', ln, by omega, rfl, rfl, by go_num, hB', hsz3, Lib.hid (fun u hu => by have := hnxt.out u hu; omega), by omega⟩, by simp [intOf]; omega⟩
    · obtain rfl : k = n := by omega
      have hlay := hB.out.lay
      have htk := hB.out.take
      rw [hn.out, List.take_length] at htk
      have hE : EbR (parseL s.data.toList) (parseL (sb.data.toList ++ [10, 59, 32, 101, 110, 100])) := lay_parse hlay (by rw [htk]; exact hlh.out)
      obtain ⟨e1, e2⟩ := ebR_same hE
      have hsz2 : sb.size ≤ 1009000 := by omega
      have hst : (sb ++ ⟨#[10, 59, 32, 101, 110, 100]⟩ : ByteArray).size ≤ 1048576 := by
        rw [ByteArray.size_append]
        have : (⟨#[10, 59, 32, 101, 110, 100]⟩ : ByteArray).size = 6 := rfl
        omega
      have k3 := Lib.hid (fun w' => parse_any (w := w') (s := sb ++ ⟨#[10, 59, 32, 101, 110, 100]⟩) hst)
      rw [show (sb ++ (⟨#[10, 59, 32, 101, 110, 100]⟩ : ByteArray)).data.toList = sb.data.toList ++ [10, 59, 32, 101, 110, 100] from by simp [ByteArray.data_append]] at k3
      have hfit := Lib.hid (fit_all (s := s.data.toList) (by simp; omega))
      have o1 : ¬9223372036854775807 < sb.size + 6 := by omega
      have hbw := Lib.hid (hb2.out.trans (hB.out.bel.mono hb2.out.size))
      replace e1 := Lib.hid e1
      replace e2 := Lib.hid e2
      clear hlay htk hE hst hlh hB hln2 hrd2 hform hsort hlines htx hbd hv k1 hb2 hn hq
      go_wp2_with fail
      refine (k2.out _).mono ?_
      intro e w3 h3
      obtain ⟨va, n1, vc, rfl, hb3, hn1, hr1⟩ := post_all h3
      replace hr1 := Lib.hid (hr1 w3 (Touch.refl _ _))
      replace hb3 := Lib.hid hb3
      clear h3 hn1
      have hz1 := hbw.out.size
      have hz2 := hb3.out.size
      have t1 : Below w.heap.size w ((w3.alloc (.cells #[.slice va n1 vc] 24)).alloc (.cells #[.int .i64 (errR (parseL s.data.toList)).1, .int .i64 (errR (parseL s.data.toList)).2.1] 26)) := ((hbw.out.trans (hb3.out.mono hz1)).alloc (by omega) _).alloc (by simp; omega) _
      have u1 : Below w3.heap.size w3 ((w3.alloc (.cells #[.slice va n1 vc] 24)).alloc (.cells #[.int .i64 (errR (parseL s.data.toList)).1, .int .i64 (errR (parseL s.data.toList)).2.1] 26)) := ((Below.refl _ _).alloc (Nat.le_refl _) _).alloc (by simp) _
      have x1 : ((w3.alloc (.cells #[.slice va n1 vc] 24)).alloc (.cells #[.int .i64 (errR (parseL s.data.toList)).1, .int .i64 (errR (parseL s.data.toList)).2.1] 26)).heap[w3.heap.size]? = some (.cells #[.slice va n1 vc] 24) := at_oldP (at_newP rfl)
      have r1 := RdE.below (fun _ _ h => h.below u1) hr1.out u1
      rw [← e2.out]
      go_upto_region 21 with fail
      generalize ((w3.alloc (.cells #[.slice va n1 vc] 24)).alloc (.cells #[.int .i64 (errR (parseL s.data.toList)).1, .int .i64 (errR (parseL s.data.toList)).2.1] 26)) = w4 at t1 x1 r1 ⊢
      generalize w3.heap.size = z1 at *
      generalize (errR (parseL s.data.toList)).1 = l1 at *
      generalize (errR (parseL s.data.toList)).2.1 = c1 at *
      have lz1 : z1 < w4.heap.size := (Array.getElem?_eq_some_iff.1 x1).1
      replace t1 := Lib.hid t1
      replace r1 := Lib.hid r1
      replace x1 := Lib.hid x1
      clear u1 hr1 hbw hb3 hz1 hz2
      go_wp2_with fail
      refine (k3.out _).mono ?_
      intro e w5 h5
      obtain ⟨vb, n2, vd, rfl, hb5, hn2, hr2⟩ := post_all h5
      have hr2 := hr2 w5 (Touch.refl _ _)
      rw [e1.out] at hr2
      have u2 : ∀ A B : Obj, Below w5.heap.size w5 ((w5.alloc A).alloc B) := fun A B => ((Below.refl _ _).alloc (Nat.le_refl _) _).alloc (by simp) _
      have q1 : ∀ A B : Obj, ((w5.alloc A).alloc B).cell? ⟨z1, 0, none⟩ = some (.slice va n1 vc) := fun A B => by rw [blk_cell (keepB (u2 A B) (keepB hb5 x1.out))]; rfl
      have q2 : ∀ (B : Obj), ((w5.alloc (.cells #[.slice vb n2 vd] 24)).alloc B).cell? ⟨w5.heap.size, 0, none⟩ = some (.slice vb n2 vd) := fun B => by rw [blk_cell (at_oldP (at_newP rfl))]; rfl
      have lz2 : z1 < w5.heap.size := Nat.lt_of_lt_of_le lz1 hb5.size
      have hsame : ∀ A B : Obj, Calls Tryd.prog 11 #[.agg #[.slice va n1 vc], .agg #[.slice vb n2 vd]] ((w5.alloc A).alloc B) fun e w' => e = .returned (.bool true) ∧ Below ((w5.alloc A).alloc B).heap.size ((w5.alloc A).alloc B) w' := fun A B => same_yes (RdE.below (fun _ _ h => h.below (hb5.trans ((u2 A B).mono hb5.size))) r1.out (hb5.trans ((u2 A B).mono hb5.size))) (RdE.below (fun _ _ h => h.below (u2 A B)) hr2 (u2 A B)) hfit.out
      have hend : ∀ A B : Obj, Below w.heap.size w ((w5.alloc A).alloc B) := fun A B => t1.out.trans ((hb5.trans ((u2 A B).mono hb5.size)).mono t1.out.size)
      replace hsame := Lib.hid hsame
      replace hend := Lib.hid hend
      generalize (errR (parseL (sb.data.toList ++ [10, 59, 32, 101, 110, 100]))).1 = l2 at *
      generalize (errR (parseL (sb.data.toList ++ [10, 59, 32, 101, 110, 100]))).2.1 = c2 at *
      generalize (errR (parseL (sb.data.toList ++ [10, 59, 32, 101, 110, 100]))).2.2 = er at *
      clear h5 hn2 hr2 hb5 r1 t1 x1 u2
      go_wp2_with fail
      refine (hsame.out _ _).mono ?_
      rintro e w6 ⟨rfl, hb6⟩
      have hb6 := Lib.hid ((hend.out _ _).trans (hb6.mono (hend.out _ _).size))
      go_wp2_with fail
      refine reads_any.mono ?_
      rintro e w7 ⟨rfl, hb7⟩
      have hb7 := Lib.hid (hb6.out.trans (hb7.mono hb6.out.size))
      go_wp2_with fail
      go_ret
      exact ⟨rfl, hb7.out⟩
end
section
section
open Go.RowKit Go.Maps

theorem blanks_law {w : World} {s : ByteArray} {v : Value} {gaps : List UInt8} (hv : Rd w v (gaps.map fun x => Value.int .u8 (x.toNat : Int))) (hgl : gaps.length ≤ maxLen) : Calls Tryd.prog 4 #[.string s, v] w fun e w' => e = .returned (.bool true) ∧ Below w.heap.size w w' := by
  by_cases h : 1000 < s.size
  · exact blanks_great h
  · have h : s.size ≤ 1000 := by omega
    cases hl : lex s.data.toList 1 1 with
    | error f => exact blanks_bad h hl
    | ok T => exact blanks_good h hv hgl hl
end
section
open Go.RowKit Go.WideShapes Go.ChangeShapes Go.ChangeAt Go.Deep
variable {H : Type} {enc : TypeId × Value → H} {P : Program} {w : World}

theorem rd_bytes {t e : TypeId} {v : Value} {d : DataW H} {ps : List MemPlace} {base : Nat} (ht : P.underlying t = some (.slice e)) (he : P.underlying e = some (.int .u8)) (hc : P.cellsOf e = 1)
    (hval : Value.okWide P w .any base t v) (h : DataW.Trod enc P w 0 (fun _ => true) true t v d ps) : ∃ l : List UInt8, Rd w v (l.map fun x => Value.int .u8 (x.toNat : Int)) ∧ l.length ≤ maxLen := by
  rcases rd_elems ht hc (by decide) hval h with h0 | ⟨b, off, len, cap, rfl, hb, hl, hx⟩
  · exact ⟨[], Or.inl ⟨rfl, h0⟩, Nat.zero_le _⟩
  · have hx' : ∀ i, i < len → ∃ x : UInt8, w.cell? ⟨b, off + i, none⟩ = some (.int .u8 (x.toNat : Int)) := by
      intro i hi'
      obtain ⟨cs', n, y, hlen, hce, htr⟩ := hx i hi'
      obtain ⟨x0, e0, _, w0⟩ := DataW.trod_int he htr
      subst e0
      have h0 := hce 0 (by omega)
      have hr : 0 ≤ x0 ∧ x0 < 256 := by
        simp [Lit.wf, IntKind.min, IntKind.max, IntKind.signed, IntKind.bits] at w0
        omega
      refine ⟨UInt8.ofNat x0.toNat, ?_⟩
      have hn : (UInt8.ofNat x0.toNat).toNat = x0.toNat := by
        rw [UInt8.toNat_ofNat']
        omega
      rw [hn, Int.toNat_of_nonneg hr.1]
      simpa using h0
    refine ⟨(List.range len).attach.map fun i => (hx' i.1 (List.mem_range.1 i.2)).choose, Or.inr ⟨b, off, cap, by simp, hb, fun i u hu => ?_⟩, by simpa using hl⟩
    have hlt : i < len := by have := (List.getElem?_eq_some_iff.1 hu).1; simpa using this
    simp [hlt] at hu
    subst hu
    exact (hx' i hlt).choose_spec
end
end
end Go.Proofs.YtgcanabckogmmaaDoor
