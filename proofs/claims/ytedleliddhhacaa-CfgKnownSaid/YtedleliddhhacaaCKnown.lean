/- The law CfgKnown: what is made in its regions that draw. -/
import Derived.Test.YtedleliddhhacaaCRing
import Derived.Test.YtedleliddhhacaaCOwnW
import Derived.Test.YtedleliddhhacaaGrow
import Derived.Deep.CutRange
import Derived.Deep.CutBlock
namespace Go.Proofs.Ytedleliddhhacaa
open Go.RowKit Go.Maps

/-- What a value is. -/
inductive Kind
  | same (v : Value)
  | strs (ss : List ByteArray)
  | ins (d : Ins)
  | insL (ds : List Ins)
  | blk (b : Blk)
  | blkL (bs : List Blk)
  | fn (f : Fun)
  | fnL (fs : List Fun)
  | tup (N B : List (List Int))
  | flow (N B : List (List Int))
  | cell (lo : Nat)
/-- Rows of ways, there and back. -/
def Mats (N B : List (List Int)) (w : World) (s1 s2 : Value) : Prop := ∃ G1 vs1 b1 G2 vs2 b2, s1 = .slice (some ⟨G1, 0, none⟩) N.length N.length ∧ s2 = .slice (some ⟨G2, 0, none⟩) B.length B.length ∧ Mat w b1 G1 vs1 N ∧ Mat w b2 G2 vs2 B
theorem Mats.below {N B : List (List Int)} {w w' : World} {s1 s2 : Value} (h : Mats N B w s1 s2) (hb : Below w.heap.size w w') : Mats N B w' s1 s2 := by
  obtain ⟨G1, vs1, b1, G2, vs2, b2, e1, e2, M1, M2⟩ := h
  exact ⟨G1, vs1, b1, G2, vs2, b2, e1, e2, M1.below hb, M2.below hb⟩
def Kind.V : Kind → World → Value → Prop
  | .same u, _, v => v = u
  | .strs ss, w, v => RdS w v ss
  | .ins d, w, v => ∃ cs, v = .agg cs.toArray ∧ RdIns w cs d
  | .insL ds, w, v => RdE 8 RdIns w v ds
  | .blk b, w, v => ∃ cs, v = .agg cs.toArray ∧ RdBlk w cs b
  | .blkL bs, w, v => RdE 2 RdBlk w v bs
  | .fn f, w, v => ∃ cs, v = .agg cs.toArray ∧ RdFun w cs f
  | .fnL fs, w, v => RdE 3 RdFun w v fs
  | .tup N B, w, v => ∃ s1 s2, v = .tuple #[.agg #[s1, s2], .int .i64 0] ∧ Mats N B w s1 s2
  | .flow N B, w, v => ∃ s1 s2, v = .agg #[s1, s2] ∧ Mats N B w s1 s2
  | .cell lo, w, v => ∃ b, v = .pointer (some ⟨b, 0, none⟩) ∧ lo ≤ b ∧ w.heap[b]? = some (.cells #[.slice none 0 0, .slice none 0 0] 36 (0, 0))
theorem Kind.below : ∀ {k : Kind} {w w' : World} {v : Value}, k.V w v → Below w.heap.size w w' → k.V w' v
  | .same _, _, _, _, h, _ => h
  | .strs _, _, _, _, h, hb => Rd.below h hb
  | .ins _, _, _, _, ⟨cs, e, h⟩, hb => ⟨cs, e, h.below hb⟩
  | .insL _, _, _, _, h, hb => RdE.below (fun _ _ h => RdIns.below h hb) h hb
  | .blk _, _, _, _, ⟨cs, e, h⟩, hb => ⟨cs, e, h.below hb⟩
  | .blkL _, _, _, _, h, hb => RdE.below (fun _ _ h => RdBlk.below h hb) h hb
  | .fn _, _, _, _, ⟨cs, e, h⟩, hb => ⟨cs, e, h.below hb⟩
  | .fnL _, _, _, _, h, hb => RdE.below (fun _ _ h => RdFun.below h hb) h hb
  | .tup _ _, _, _, _, ⟨s1, s2, e, h⟩, hb => ⟨s1, s2, e, h.below hb⟩
  | .flow _ _, _, _, _, ⟨s1, s2, e, h⟩, hb => ⟨s1, s2, e, h.below hb⟩
  | .cell _, _, _, _, ⟨b, e, hl, h⟩, hb => ⟨b, e, hl, (hb.block b (Array.getElem?_eq_some_iff.1 h).1).trans h⟩

section
variable {P : Program} {o : Oper} {a : Act} {w : World} {K : Act → World → Prop} {Q : Exit → Act → World → Prop}
theorem wp_val {v : Value} {w' : World} (h : (execOp a.eval o).run P w = .ok (.value v) w') (hk : K (a.put o.dst v) w') : o.wp P a w K Q := by
  unfold Oper.wp
  rw [h]
  exact hk
theorem wp_skip {w' : World} (h : (execOp a.eval o).run P w = .ok .skip w') (hk : K (a.put o.dst undef) w') : o.wp P a w K Q := by
  unfold Oper.wp
  rw [h]
  exact hk
theorem wp_enter {f : FuncId} {args : Array Value} {w' : World} (h : (execOp a.eval o).run P w = .ok (.enter f args) w') {R : Value → World → Prop} (hc : Calls P f args w' fun e w'' => ∃ v, e = .returned v ∧ R v w'')
    (hk : ∀ v w'', R v w'' → K (a.put o.dst v) w'') : o.wp P a w K Q := by
  unfold Oper.wp
  rw [h]
  refine hc.mono ?_
  rintro e w'' ⟨v, rfl, hr⟩
  exact hk v w'' hr
end

theorem blockK_any {w : World} {l : ByteArray} {v : Value} {ds : List Ins} (h : RdE 8 RdIns w v ds) : Calls Try.prog 18 #[.string l, v] w fun e w' => ∃ u, e = .returned u ∧ (Kind.blk ⟨l, ds⟩).V w' u ∧ Below w.heap.size w w' := by
  obtain ⟨a, c, rfl⟩ := h.form
  replace h := Lib.hid h
  have hbe : ∀ a : Array Value, Below w.heap.size w (w.alloc (.cells a 44)) := fun a => (Below.refl _ _).alloc (Nat.le_refl _) _
  go_enter Try.func18, Try.ntmps18
  go_wp2_with fail
  refine bodyPost_ret (by simp [results, Try.results18, go_sem, *]; exact rfl) rfl ?_
  exact ⟨_, rfl, ⟨[.string l, .slice a ds.length c], rfl, ⟨_, rfl, RdE.below (fun _ _ x => RdIns.below x (hbe _)) h.out (hbe _)⟩⟩, hbe _⟩
theorem rde_fourC {α : Type} {c : Nat} {R : World → List Value → α → Prop} {w : World} {B : Nat} {c1 c2 c3 c4 : List Value} {t : TypeId} {d1 d2 d3 d4 : α} (hb : w.heap[B]? = some (.cells (c1 ++ (c2 ++ (c3 ++ c4))).toArray t (0, 0)))
    (h1 : R w c1 d1) (h2 : R w c2 d2) (h3 : R w c3 d3) (h4 : R w c4 d4) (e1 : c1.length = c) (e2 : c2.length = c) (e3 : c3.length = c) (e4 : c4.length = c) : RdE c R w (.slice (some ⟨B, 0, none⟩) 4 4) [d1, d2, d3, d4] := by
  refine .inr ⟨B, 0, 4, rfl, (Array.getElem?_eq_some_iff.1 hb).1, fun i x hx => ?_⟩
  have hi : i < 4 := by have := (List.getElem?_eq_some_iff.1 hx).1; simpa using this
  have key : ∀ (j : Nat) (u : Value) (k : Nat), (c1 ++ (c2 ++ (c3 ++ c4)))[k]? = some u → k = 0 + i * c + j → w.cell? ⟨B, 0 + i * c + j, none⟩ = some u := fun j u k h1 h2 => by
    rw [blk_cell hb, ← h2]
    simpa using h1
  rcases (by omega : i = 0 ∨ i = 1 ∨ i = 2 ∨ i = 3) with rfl | rfl | rfl | rfl
  · obtain rfl : d1 = x := by simpa using hx
    refine ⟨c1, h1, e1, fun j u hu => key j u j ?_ (by omega)⟩
    have hj := (List.getElem?_eq_some_iff.1 hu).1
    rw [List.getElem?_append_left hj]; exact hu
  · obtain rfl : d2 = x := by simpa using hx
    refine ⟨c2, h2, e2, fun j u hu => key j u (c + j) ?_ (by omega)⟩
    have hj := (List.getElem?_eq_some_iff.1 hu).1
    rw [List.getElem?_append_right (by omega), show c + j - c1.length = j from by omega, List.getElem?_append_left hj]; exact hu
  · obtain rfl : d3 = x := by simpa using hx
    refine ⟨c3, h3, e3, fun j u hu => key j u (2 * c + j) ?_ (by omega)⟩
    have hj := (List.getElem?_eq_some_iff.1 hu).1
    rw [List.getElem?_append_right (by omega), List.getElem?_append_right (by omega), show 2 * c + j - c1.length - c2.length = j from by omega, List.getElem?_append_left hj]; exact hu
  · obtain rfl : d4 = x := by simpa using hx
    refine ⟨c4, h4, e4, fun j u hu => key j u (3 * c + j) ?_ (by omega)⟩
    rw [List.getElem?_append_right (by omega), List.getElem?_append_right (by omega), List.getElem?_append_right (by omega), show 3 * c + j - c1.length - c2.length - c3.length = j from by omega]; exact hu

/-- The four functions that are refused. -/
def bZ : ByteArray := ⟨#[122]⟩
def insNull : Ins := ⟨3, b0, b0, b0, 0, b0, [], []⟩
def insNone : Ins := ⟨0, b0, b0, b0, 0, b0, [], []⟩
def f1K : Fun := ⟨b0, [], [⟨bA, [insGoto [bZ]]⟩]⟩
def f2K : Fun := ⟨b0, [], [⟨bA, []⟩]⟩
def f3K : Fun := ⟨b0, [], [⟨bA, [insRet]⟩, ⟨bB, [insNull]⟩]⟩
def f4K : Fun := ⟨b0, [], [⟨bA, [insRet, insNone]⟩]⟩
def kinds3 (c : Value) : List Kind := [.same c, .strs [bZ], .ins (insGoto [bZ]), .insL [insGoto [bZ]], .blk ⟨bA, [insGoto [bZ]]⟩, .blkL [⟨bA, [insGoto [bZ]]⟩], .fn f1K,
  .same c, .blk ⟨bA, []⟩, .blkL [⟨bA, []⟩], .fn f2K,
  .same c, .ins insRet, .insL [insRet], .blk ⟨bA, [insRet]⟩, .same c, .ins insNull, .insL [insNull], .blk ⟨bB, [insNull]⟩, .blkL [⟨bA, [insRet]⟩, ⟨bB, [insNull]⟩], .fn f3K,
  .same c, .ins insRet, .ins insNone, .insL [insRet, insNone], .blk ⟨bA, [insRet, insNone]⟩, .blkL [⟨bA, [insRet, insNone]⟩], .fn f4K, .fnL [f1K, f2K, f3K, f4K], .fnL [f1K, f2K, f3K, f4K]]

def bC : ByteArray := ⟨#[99]⟩
def insRetA : Ins := ⟨14, b0, b0, b0, 0, b0, [], [bA]⟩
def f5K : Fun := ⟨b0, [], [⟨bA, [insBr [bC, bB]]⟩, ⟨bB, [insGoto [bC]]⟩, ⟨bC, [insGoto [], insRetA]⟩, ⟨bA, [insRet]⟩]⟩
def succK : List (List Int) := [[1, 2], [2], [], []]
def predK : List (List Int) := [[], [0], [0, 1], []]
theorem f5_ok : ofOk f5K = true := by decide +kernel
theorem f5_norm : normL (rowsF f5K) = succK := by decide +kernel
theorem f5_back : backL (rowsF f5K) = predK := by decide +kernel
theorem f5_small : SmallF f5K := by
  refine ⟨by decide, fun b hb => ?_⟩
  simp only [f5K, List.mem_cons, List.not_mem_nil, or_false] at hb
  rcases hb with rfl | rfl | rfl | rfl
  · exact ⟨by decide, by decide, by decide, by decide⟩
  · exact ⟨by decide, by decide, by decide, by decide⟩
  · exact ⟨by decide, by decide, by decide, by decide⟩
  · exact ⟨by decide, by decide, by decide, by decide⟩
theorem ofK_any {w : World} {cs : List Value} (h : RdFun w cs f5K) : Calls Try.prog 13 #[.agg cs.toArray] w fun e w' => ∃ u, e = .returned u ∧ (Kind.tup succK predK).V w' u ∧ Below w.heap.size w w' := by
  refine (of_any h f5_small).mono ?_
  rintro e w' ⟨hyes, -, hb⟩
  obtain ⟨m, G1, vs1, G2, vs2, he, M1, M2, -⟩ := hyes f5_ok
  rw [f5_norm] at M1
  rw [f5_back] at M2
  exact ⟨_, he, ⟨_, _, rfl, G1, vs1, _, G2, vs2, _, rfl, rfl, M1, M2⟩, hb⟩
def kinds10 (c : Value) (lo : Nat) : List Kind := [.same c, .strs [bC, bB], .ins (insBr [bC, bB]), .insL [insBr [bC, bB]], .blk ⟨bA, [insBr [bC, bB]]⟩,
  .same c, .strs [bC], .ins (insGoto [bC]), .insL [insGoto [bC]], .blk ⟨bB, [insGoto [bC]]⟩,
  .same c, .ins (insGoto []), .strs [bA], .ins insRetA, .insL [insGoto [], insRetA], .blk ⟨bC, [insGoto [], insRetA]⟩,
  .same c, .ins insRet, .insL [insRet], .blk ⟨bA, [insRet]⟩,
  .blkL [⟨bA, [insBr [bC, bB]]⟩, ⟨bB, [insGoto [bC]]⟩, ⟨bC, [insGoto [], insRetA]⟩, ⟨bA, [insRet]⟩], .fn f5K, .tup succK predK, .tup succK predK, .flow succK predK, .same (.int .i64 0), .cell lo]

/-- A region's operations, by its number. -/
def findRg (n : Nat) : Code → Option (Array Oper)
  | .seq a b => (findRg n a).or (findRg n b)
  | .cond _ a b => (findRg n a).or (findRg n b)
  | .loop a => findRg n a
  | .block _ a => findRg n a
  | .region k l _ => if k = n then some l else none
  | _ => none
def regOf (f : Func) (n : Nat) : Array Oper := ((f.body.bind (findRg n)).getD #[])
theorem Grown.val {ops : Array Oper} {V : Nat → World → Value → Prop} {a0 : Act} {w0 : World} {listed : Array Bool} {a : Act} {w : World} (H : Grown ops V a0 w0 listed a w) (k d : Nat) (hk : (ops[k]?).bind (·.dst) = some d) (hl : listed[k]? = some true) : ∃ v, a.tmps[d]? = some v ∧ V k w v := by
  rcases ho : ops[k]? with _ | o
  · rw [ho] at hk; cases hk
  · rw [ho] at hk
    exact H.done k o d ho hl hk
theorem eval_tmp {a : Act} {d : Nat} {v : Value} (h : a.tmps[d]? = some v) : a.eval (.tmp d) = v := by
  simp [Act.eval, h]

noncomputable def ops3 : Array Oper := regOf Try.f7 3
theorem ops3_size : ops3.size = 30 := by kernel_rfl
def cloK : Value := .func (Fn.func 18) #[] #[]
noncomputable def ops10 : Array Oper := regOf Try.f7 10
def V10 (lo i : Nat) : World → Value → Prop := ((kinds10 cloK lo)[i]?.getD (.same undef)).V
def V3 (i : Nat) : World → Value → Prop := ((kinds3 cloK)[i]?.getD (.same undef)).V

section
variable {a0 : Act} {w0 : World} {listed : Array Bool} {a : Act} {w : World} {Q : Exit → Act → World → Prop}
/-- A slot that no operation of the region sets. -/
def freeB (ops : Array Oper) (d : Nat) : Bool := (List.range ops.size).all fun k => match ops[k]? with
  | some o => decide (o.dst ≠ some d)
  | none => true
theorem Grown.old {ops : Array Oper} {V : Nat → World → Value → Prop} (H : Grown ops V a0 w0 listed a w) (d : Nat) (h : freeB ops d = true) {v : Value} (hv : a0.tmps[d]? = some v) : a.tmps[d]? = some v := by
  rw [H.rest d (fun k o hk _ => ?_), hv]
  unfold freeB at h
  rw [List.all_eq_true] at h
  have h1 := h k (List.mem_range.2 (Array.getElem?_eq_some_iff.1 hk).1)
  simpa [hk] using h1
/-- Does operation i wait for k? -/
def depB (ops : Array Oper) (i k : Nat) : Bool := match ops[i]? with
  | some o => o.after.any fun e => Region.binds .any e && e.on == k
  | none => false
theorem dep_of {ops : Array Oper} {i k : Nat} {o : Oper} (ho : ops[i]? = some o) (hdep : ∀ e ∈ o.after, Region.binds .any e = true → listed[e.on]? = some true) (h : depB ops i k = true) : listed[k]? = some true := by
  unfold depB at h
  simp only [ho, Array.any_eq_true', Bool.and_eq_true, beq_iff_eq] at h
  obtain ⟨e, he, hb, rfl⟩ := h
  exact hdep e he hb
theorem getD_of {a : Act} {d : Nat} {v : Value} (h : a.tmps[d]? = some v) : a.tmps.getD d undef = v := by simp [h]

end
end Go.Proofs.Ytedleliddhhacaa
