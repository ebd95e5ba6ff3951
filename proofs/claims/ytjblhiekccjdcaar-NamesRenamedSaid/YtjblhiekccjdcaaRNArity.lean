/- names: how many parameters the first function of each name has. -/
import Derived.Test.YtjblhiekccjdcaaRNQuestD
namespace Go.Proofs.YtjblhiekccjdcaaR
open Go.RowKit Go.Maps Go.Shelf Go.WideMaps

/-- A map from texts to numbers. -/
structure NumMap (D : DataW Unit) (f : ByteArray → Option Nat) : Prop where
  isMap : IsMap D
  has : ∀ s, Maps.has D (litS s) = (f s).isSome
  at_ : ∀ s n, f s = some n → ∀ z, D.atKey (litS s) z = .lit (.int .i64 n)
theorem NumMap.nil : NumMap (.map []) (fun _ => none) := ⟨isMap_empty, fun s => by simp [Maps.has], fun s n h => by cases h⟩
theorem NumMap.put {D : DataW Unit} {f : ByteArray → Option Nat} (h : NumMap D f) (y : ByteArray) (n : Nat) : NumMap (D.put (litS y) (.lit (.int .i64 n))) (fun s => if s = y then some n else f s) := by
  refine ⟨h.isMap.put _ _, fun s => ?_, fun s m hs z => ?_⟩
  · by_cases e : s = y
    · subst e
      rw [has_put_same h.isMap (litS_key s), if_pos rfl]
      rfl
    · rw [has_put_other (fun h => e (litS_inj h)), h.has, if_neg e]
  · by_cases e : s = y
    · subst e
      rw [if_pos rfl] at hs
      cases hs
      rw [atKey_put_same h.isMap (litS_key s)]
    · rw [if_neg e] at hs
      rw [atKey_put_other (fun h => e (litS_inj h)), h.at_ s m hs z]
def MapN (w : World) (b k : Nat) (f : ByteArray → Option Nat) : Prop := ∃ D : DataW Unit, w.ownsMap Try.prog 9 (plainElem Try.prog 3) b k D ∧ NumMap D f
theorem MapN.block {w w' : World} {b k : Nat} {f : ByteArray → Option Nat} (h : MapN w b k f) (hb : w'.heap[b]? = w.heap[b]?) : MapN w' b k f := by
  obtain ⟨D, h1, h2⟩ := h
  exact ⟨D, ownsMap_block h1 hb, h2⟩
theorem MapN.lt {w : World} {b k : Nat} {f : ByteArray → Option Nat} (h : MapN w b k f) : b < w.heap.size := by
  obtain ⟨D, h1, h2⟩ := h
  exact h1.lt
theorem MapN.more {w : World} {b k : Nat} {f : ByteArray → Option Nat} (h : MapN w b k f) : MapN w b (k + 1) f := by
  obtain ⟨D, h1, h2⟩ := h
  exact ⟨D, h1.mono (Nat.le_succ _), h2⟩
theorem MapN.new (w : World) : MapN (w.alloc (.map #[] 0)) w.heap.size 0 (fun _ => none) := ⟨.map [], World.ownsMap_made w _ _ _, NumMap.nil⟩
section
variable {w : World} {ops : Array Oper} {rest : List Oper} {o : Oper} {a : Act} {Q : Exit → Act → World → Prop}
theorem wpList_num_look (hg : o.guard = none) (m x : Operand) (hop : o.op = Op.lookup 75 m x true) (b k : Nat) (f : ByteArray → Option Nat) (h : MapN w b k f) (hm : a.eval m = .map (some b)) (y : ByteArray) (hx : a.eval x = .string y) (hy : y.size ≤ maxLen)
    (hK : wpList Try.prog ops Q rest (a.put o.dst (.tuple #[.int .i64 ((f y).getD 0 : Nat), .bool (f y).isSome])) w) : wpList Try.prog ops Q (o :: rest) a w := by
  obtain ⟨D, hown, hD⟩ := h
  refine wpList_lookup_own_ok_int w hg m x 75 hop 9 3 .i64 lawS Try.underlying75 Try.underlying3 (zeroI _) b k D hm hown _ _ hx (keyS y hy) ?_
  intro c hc hwc
  have hh := hD.has y
  rw [hh]
  have hcn : c = (((f y).getD 0 : Nat) : Int) := by
    cases hf : f y with
    | none =>
      rw [hf] at hh
      rw [atKey_of_not_has hh] at hc
      simpa using hc.symm
    | some n =>
      rw [hD.at_ y n hf] at hc
      simpa using hc.symm
  rw [hcn]
  exact hK
theorem wpList_num_put (hg : o.guard = none) (m x v : Operand) (hop : o.op = Op.mapUpdate 75 m x v) (b k : Nat) (f : ByteArray → Option Nat) (h : MapN w b k f) (hk : k < maxLen) (hm : a.eval m = .map (some b)) (y : ByteArray) (n : Nat) (hx : a.eval x = .string y) (hv : a.eval v = .int .i64 n) (hy : y.size ≤ maxLen) (hn : n ≤ 4000000000000000000)
    (hK : ∀ w', MapN w' b (k + 1) (fun s => if s = y then some n else f s) → Touch w w' (fun j => j = b) → wpList Try.prog ops Q rest (a.put o.dst undef) w') : wpList Try.prog ops Q (o :: rest) a w := by
  obtain ⟨D, hown, hD⟩ := h
  have hwf : (Lit.int .i64 (n : Int)).wf = true := WalkArith.wf_i64 (by omega)
  refine wpList_mapUpdate_own w hg m x v 75 hop 9 3 lawS Try.underlying75 _ b k D hm hown hk _ _ _ hx hv (keyS y hy) _ [] (plainElem_int Try.underlying3 hwf) ?_
  intro w1 hown1 hgrow1
  exact hK w1 ⟨_, hown1, hD.put y n⟩ (Touch.of_grown hgrow1 (fun b e => (Option.some.inj e).symm))
end

/-- How many parameters the first function of a name has. -/
def arityF (l : List Fun) (s : ByteArray) : Option Nat := (l.find? (fun d => decide (d.name = s))).map (fun d => d.params.length)
theorem arity_hit {l : List Fun} {k : Nat} {x : Fun} (h : l[k]? = some x) (hs : (arityF (l.take k) x.name).isSome = true) : arityF (l.take (k + 1)) = arityF (l.take k) := by
  funext s
  unfold arityF at hs ⊢
  rw [take_snocS h, List.find?_append]
  cases hf : (l.take k).find? (fun d => decide (d.name = s)) with
  | some y => rfl
  | none =>
    by_cases e : x.name = s
    · subst e
      rw [hf] at hs
      cases hs
    · simp [e]
theorem arity_miss {l : List Fun} {k : Nat} {x : Fun} (h : l[k]? = some x) (hs : (arityF (l.take k) x.name).isSome = false) : arityF (l.take (k + 1)) = fun s => if s = x.name then some x.params.length else arityF (l.take k) s := by
  funext s
  unfold arityF at hs ⊢
  rw [take_snocS h, List.find?_append]
  by_cases e : s = x.name
  · subst e
    rw [if_pos rfl]
    cases hf : (l.take k).find? (fun d => decide (d.name = x.name)) with
    | some y => rw [hf] at hs; cases hs
    | none => simp
  · rw [if_neg e]
    have : decide (x.name = s) = false := decide_eq_false (fun h => e h.symm)
    simp [this]

set_option maxHeartbeats 4000000 in
theorem arities_any {P : List Fun} (hfit : ∀ d ∈ P, d.name.size ≤ maxLen) (hl : P.length ≤ 1000000) (hlp : ∀ d ∈ P, d.params.length ≤ 1000000) {w : World} {v : Value} (h : RdE 3 RdFun w v P) :
    Calls Try.prog 62 #[.agg #[v]] w fun e w' => ∃ bm, e = .returned (.map (some bm)) ∧ w.heap.size ≤ bm ∧ MapN w' bm P.length (arityF P) ∧ Below w.heap.size w w' := by
  obtain ⟨a0, c0, rfl⟩ := h.form
  generalize hn : P.length = n at h hl ⊢
  have hmm := @run_makeMap Try.prog
  have hb0 : Below w.heap.size w ((w.alloc (.cells #[.slice a0 n c0] 56)).alloc (.map #[] 0)) := ((Below.refl _ _).alloc (Nat.le_refl _) _).alloc (by simp) _
  have hM0 : MapN ((w.alloc (.cells #[.slice a0 n c0] 56)).alloc (.map #[] 0)) (w.heap.size + 1) 0 (arityF (P.take 0)) := by
    have h1 := MapN.new (w.alloc (.cells #[.slice a0 n c0] 56))
    rw [show (w.alloc (.cells #[.slice a0 n c0] 56)).heap.size = w.heap.size + 1 from by simp] at h1
    exact h1
  have hc0 : ((w.alloc (.cells #[.slice a0 n c0] 56)).alloc (.map #[] 0)).cell? ⟨w.heap.size, 0, none⟩ = some (.slice a0 n c0) := by rw [blk_cell (at_oldN (at_newN rfl))]; rfl
  replace hb0 := Lib.hid hb0
  replace hM0 := Lib.hid hM0
  replace hn := Lib.hid hn
  replace hfit := Lib.hid hfit
  replace hlp := Lib.hid hlp
  replace h := Lib.hid h
  go_enter Try.func62, Try.ntmps62
  go_wp2_with fail
  generalize ((w.alloc (.cells #[.slice a0 n c0] 56)).alloc (.map #[] 0)) = w0 at hb0 hM0 hc0 ⊢
  clear hc0
  generalize hbm : w.heap.size + 1 = bm at hM0 ⊢
  have hge : w.heap.size ≤ bm := by omega
  clear hbm hmm
  go_loopw [5, 6, 7, 13] (fun _ _ _ i wr => ∃ k : Nat, k ≤ n ∧ i = .int .i64 k ∧ Hid (MapN wr bm k (arityF (P.take k))) ∧ Hid (Below w.heap.size w wr)) (fun _ _ _ i _ => n - (intOf i).toNat)
  case atStart => exact ⟨0, Nat.zero_le _, rfl, hM0, hb0⟩
  case round =>
    clear hM0 hb0
    obtain ⟨k, hk, rfl, hM, hB⟩ := hrel
    by_cases hlt : k < n
    · have j1 : decide ((k : Int) < (n : Int)) = true := by simpa using hlt
      have j2 : (k : Int) < (n : Int) := by omega
      obtain ⟨x, hx⟩ : ∃ x, P[k]? = some x := ⟨_, List.getElem?_eq_getElem (by rw [hn.out]; exact hlt)⟩
      obtain ⟨g, off, cap, cs, e, hgl, ⟨vp, vb, rfl, hp, hb⟩, -, hcell⟩ := (RdE.below (fun _ _ h => h.below hB.out) h.out hB.out).at hx
      simp only [Value.slice.injEq] at e
      obtain ⟨rfl, -, rfl⟩ := e
      obtain ⟨ap, cp, rfl⟩ := hp.shape
      obtain ⟨ab, cb, rfl⟩ := hb.form
      have c0 : wr.cell? ⟨g, off + k * 3, none⟩ = some (.string x.name) := hcell 0 _ rfl
      have c1 := hcell 1 _ rfl
      have c2 := hcell 2 _ rfl
      have hxm := List.mem_of_getElem? hx
      have hsz := hfit.out x hxm
      have hpl := hlp.out x hxm
      have hM2 := Lib.hid (hM.out.block (Below.heap_alloc _ (.cells #[.string x.name, .slice ap x.params.length cp, .slice ab x.blocks.length cb] 39) _ hM.out.lt))
      have hB2 := Lib.hid (hB.out.alloc hB.out.size (.cells #[.string x.name, .slice ap x.params.length cp, .slice ab x.blocks.length cb] 39))
      clear hcell hp hb hxm
      cases hq : (arityF (P.take k) x.name).isSome with
      | true =>
        have hat := arity_hit hx hq
        have hM3 := Lib.hid hM2.out.more
        rw [← hat] at hM3
        clear hx hM hB hat
        generalize x.params.length = pl at hpl c1 hM2 hB2 hM3 ⊢
        generalize x.blocks.length = bl at c2 hM2 hB2 hM3 ⊢
        go_wp2_with (at_lookup; refine wpList_num_look rfl _ _ rfl bm k _ hM2.out rfl x.name rfl hsz ?_; rw [hq])
        exact ⟨⟨k + 1, by omega, by go_num, hM3, hB2⟩, by simp [intOf]; omega⟩
      | false =>
        have hat := Lib.hid (arity_miss hx hq)
        clear hx hM hB
        generalize x.params.length = pl at hpl c1 hM2 hB2 hat ⊢
        generalize x.blocks.length = bl at c2 hM2 hB2 ⊢
        go_wp2_with (first
          | (at_lookup; refine wpList_num_look rfl _ _ rfl bm k _ hM2.out rfl x.name rfl hsz ?_; rw [hq])
          | (at_mapUpdate; refine wpList_num_put rfl _ _ _ rfl bm k _ hM2.out (by unfold maxLen; omega) rfl x.name pl rfl rfl hsz (by omega) ?_; intro w3 hM3 hT3))
        rw [← hat.out] at hM3
        replace hM3 := Lib.hid hM3
        have hB3 := Lib.hid (hB2.out.trans (hT3.below hB2.out.size (fun b hb e => by omega)))
        clear hM2 hB2 hT3
        go_wp2_with fail
        exact ⟨⟨k + 1, by omega, by go_num, hM3, hB3⟩, by simp [intOf]; omega⟩
    · obtain rfl : k = n := by omega
      have j1 : decide ((k : Int) < (k : Int)) = false := by simp
      have hE : P.take k = P := List.take_of_length_le (by rw [hn.out]; exact Nat.le_refl _)
      rw [hE] at hM
      go_wp2_with fail
      go_ret
      exact ⟨bm, rfl, hge, hM.out, hB.out⟩
end Go.Proofs.YtjblhiekccjdcaaR
