/- NRenM, NRenR. -/
import Derived.Test.YtjblhiekccjdcaaRNOne1
namespace Go.Proofs.YtjblhiekccjdcaaR
section
open Go.RowKit Go.Maps Go.Shelf

/-- A variable's name with a letter more; nothing and null stay. -/
def renV (s : ByteArray) : ByteArray := if s.toList.isEmpty || isNull s then s else ⟨(118 :: s.data.toList).toArray⟩
def renI (y : Ins) : Ins := { y with dst := renV y.dst, a := renV y.a, b := renV y.b, args := y.args.map renV }
def renB (x : Blk) : Blk := { x with code := x.code.map renI }
def renF (d : Fun) : Fun := { d with params := d.params.map renV, blocks := d.blocks.map renB }
def renP : Prt → Prt
  | .fn f d => .fn f (renF d)
  | .blk f b d x => .blk f b (renF d) (renB x)
  | .ins f b i d x c => .ins f b i (renF d) (renB x) (renI c)
theorem toList_mk (l : List UInt8) : (⟨l.toArray⟩ : ByteArray).toList = l := by rw [Lib.toList_data]
theorem renV_old {s : ByteArray} (h : (s.toList.isEmpty || isNull s) = true) : renV s = s := if_pos h
theorem renV_new {s : ByteArray} (h : ¬ (s.toList.isEmpty || isNull s) = true) : (renV s).toList = 118 :: s.toList := by
  unfold renV
  rw [if_neg h, toList_mk, Lib.toList_data]
theorem renV_empty (s : ByteArray) : (renV s).toList.isEmpty = s.toList.isEmpty := by
  by_cases h : (s.toList.isEmpty || isNull s) = true
  · rw [renV_old h]
  · rw [renV_new h]
    simp only [Bool.or_eq_true, not_or, Bool.not_eq_true] at h
    rw [h.1]
    rfl
theorem renV_null (s : ByteArray) : isNull (renV s) = isNull s := by
  by_cases h : (s.toList.isEmpty || isNull s) = true
  · rw [renV_old h]
  · have h2 := h
    simp only [Bool.or_eq_true, not_or, Bool.not_eq_true] at h2
    rw [h2.2]
    unfold isNull
    rw [renV_new h]
    rfl
theorem renV_inj {a b : ByteArray} (h : renV a = renV b) : a = b := by
  by_cases ha : (a.toList.isEmpty || isNull a) = true
  · by_cases hb : (b.toList.isEmpty || isNull b) = true
    · rwa [renV_old ha, renV_old hb] at h
    · exfalso
      have e1 := renV_empty b
      have e2 := renV_null b
      rw [← h, renV_old ha] at e1 e2
      rw [← e1, ← e2] at hb
      exact hb ha
  · by_cases hb : (b.toList.isEmpty || isNull b) = true
    · exfalso
      have e1 := renV_empty a
      have e2 := renV_null a
      rw [h, renV_old hb] at e1 e2
      rw [← e1, ← e2] at ha
      exact ha hb
    · have e := congrArg ByteArray.toList h
      rw [renV_new ha, renV_new hb] at e
      exact toList_inj (List.cons.inj e).2
theorem mem_renV {l : List ByteArray} {s : ByteArray} : renV s ∈ l.map renV ↔ s ∈ l := by
  constructor
  · intro h
    obtain ⟨y, hy, e⟩ := List.mem_map.1 h
    rw [← renV_inj e]
    exact hy
  · exact fun h => List.mem_map.2 ⟨s, h, rfl⟩
theorem plusS_ren (l : List ByteArray) (s : ByteArray) : plusS (l.map renV) (renV s) = (plusS l s).map renV := by
  unfold plusS
  by_cases h : s ∈ l
  · rw [if_pos h, if_pos (mem_renV.2 h)]
  · rw [if_neg h, if_neg (fun h2 => h (mem_renV.1 h2)), List.map_cons]
theorem twiceL_ren : ∀ (ks l : List ByteArray), twiceL (l.map renV) (ks.map renV) = ((twiceL l ks).1, (twiceL l ks).2.map renV)
  | [], l => rfl
  | k :: ks, l => by
    rw [List.map_cons]
    unfold twiceL
    by_cases h : k ∈ l
    · rw [if_pos h, if_pos (mem_renV.2 h)]
    · rw [if_neg h, if_neg (fun h2 => h (mem_renV.1 h2)), plusS_ren]
      exact twiceL_ren ks (plusS l k)
theorem givenL_ren (s : ByteArray) : givenL (renV s) = (givenL s).map renV := by
  unfold givenL
  rw [renV_empty]
  split <;> rfl
theorem usedB_ren (s : ByteArray) : usedB (renV s) = usedB s := by unfold usedB; rw [renV_empty, renV_null]
theorem usesL_ren (c : Ins) : usesL (renI c) = (usesL c).map renV := by
  unfold usesL
  rw [show (renI c).a :: (renI c).b :: (renI c).args = (c.a :: c.b :: c.args).map renV from rfl, List.filter_map]
  congr 1
  exact List.filter_congr (fun s _ => usedB_ren s)
theorem varsP_ren : ∀ (l s : List ByteArray), varsP (s.map renV) (l.map renV) = (varsP s l).map renV
  | [], _ => rfl
  | x :: l, s => by
    have := varsP_ren l (plusS s x)
    rw [← plusS_ren] at this
    exact this
theorem varsC_ren : ∀ (l : List Ins) (s : List ByteArray), varsC (s.map renV) (l.map renI) = (varsC s l).map renV
  | [], _ => rfl
  | x :: l, s => by
    have := varsC_ren l (plusS s x.dst)
    rw [← plusS_ren] at this
    exact this
theorem varsB_ren : ∀ (l : List Blk) (s : List ByteArray), varsB (s.map renV) (l.map renB) = (varsB s l).map renV
  | [], _ => rfl
  | x :: l, s => by
    have := varsB_ren l (varsC s x.code)
    rw [← varsC_ren] at this
    exact this
theorem varsL_ren (d : Fun) : varsL (renF d) = (varsL d).map renV := by
  unfold varsL
  rw [← varsB_ren, ← varsP_ren]
  rfl
theorem labelsL_ren (l : List Blk) : labelsL (l.map renB) = labelsL l := by
  unfold labelsL
  rw [List.foldl_map]
  rfl
theorem at_ren (x : Prt) : (renP x).at = x.at := by cases x <;> rfl
theorem cat_ren {α β γ δ : Type} {g : Nat → α → List β} {g' : Nat → γ → List δ} {F : α → γ} {G : β → δ} (h : ∀ i z, g' i (F z) = (g i z).map G) (l : List α) : cat g' (l.map F) = (cat g l).map G := by
  unfold cat
  rw [List.map_flatten]
  congr 1
  apply List.ext_getElem?
  intro i
  simp only [List.getElem?_map, List.getElem?_mapIdx]
  cases l[i]? <;> simp [h]
theorem blkL_ren (f b : Nat) (d : Fun) (x : Blk) : blkL f b (renF d) (renB x) = (blkL f b d x).map renP := by
  unfold blkL
  rw [List.map_cons]
  congr 1
  exact cat_ren (F := renI) (G := renP) (g := fun i c => [Prt.ins f b i d x c]) (fun i c => rfl) x.code
theorem funL_ren (f : Nat) (d : Fun) : funL f (renF d) = (funL f d).map renP := by
  unfold funL
  rw [List.map_cons]
  congr 1
  exact cat_ren (F := renB) (G := renP) (g := fun b x => blkL f b d x) (fun b x => blkL_ren f b d x) d.blocks
theorem partsL_ren (P : List Fun) : partsL (P.map renF) = (partsL P).map renP := cat_ren (fun f d => funL_ren f d) P
/-- A state that goes on alike. -/
theorem firstBad_ren {σ τ : Type} {step : σ → Prt → Bool × σ} {step' : τ → Prt → Bool × τ} {m : σ → τ} (h : ∀ s x, step' (m s) (renP x) = ((step s x).1, m (step s x).2)) : ∀ (L : List Prt) (s : σ), firstBad step' (m s) (L.map renP) = (firstBad step s L).map renP
  | [], _ => rfl
  | x :: L, s => by
    rw [List.map_cons, firstBad_cons, firstBad_cons, h]
    split
    · rfl
    · exact firstBad_ren h L _
theorem firstAt_ren {σ τ : Type} {step : σ → Prt → Bool × σ} {step' : τ → Prt → Bool × τ} {m : σ → τ} (h : ∀ s x, step' (m s) (renP x) = ((step s x).1, m (step s x).2)) (P : List Fun) (s : σ) : (firstBad step' (m s) (partsL (P.map renF))).map Prt.at = (firstBad step s (partsL P)).map Prt.at := by
  rw [partsL_ren, firstBad_ren h, Option.map_map]
  congr 1
  funext x
  exact at_ren x
theorem pureAt_ren {B B' : Prt → Bool} (h : ∀ x, B' (renP x) = B x) (P : List Fun) : (firstBad (fun (s : Unit) x => (B' x, s)) () (partsL (P.map renF))).map Prt.at = (firstBad (fun (s : Unit) x => (B x, s)) () (partsL P)).map Prt.at :=
  firstAt_ren (m := fun s => s) (fun s x => by rw [h]) P ()
end
section
open Go.RowKit Go.Maps Go.Shelf

/-- Names of variables that are not too long. -/
def ShortI (c : Ins) : Prop := c.dst.size ≤ 60 ∧ c.a.size ≤ 60 ∧ c.b.size ≤ 60 ∧ ∀ s ∈ c.args, s.size ≤ 60
def ShortF (d : Fun) : Prop := (∀ s ∈ d.params, s.size ≤ 60) ∧ ∀ x ∈ d.blocks, ∀ c ∈ x.code, ShortI c
theorem isName_ren {s : ByteArray} (h : isName s = true) (hs : s.size ≤ 60) : isName (renV s) = true := by
  have he := name_ne h
  have hn : isNull s = false := by
    unfold isName at h
    unfold isNull
    cases e : s.toList == [110, 117, 108, 108] with
    | false => rfl
    | true => rw [e] at h; simp at h
  have hc : ¬ (s.toList.isEmpty || isNull s) = true := by rw [he, hn]; simp
  have hd : (renV s).data.toList = 118 :: s.data.toList := by rw [← Lib.toList_data, renV_new hc, Lib.toList_data]
  have hz : (renV s).size ≤ 64 := by
    rw [← ByteArray.size_data, ← Array.length_toList, hd, List.length_cons, Array.length_toList, ByteArray.size_data]
    omega
  unfold isName at h ⊢
  rw [hd, renV_new hc]
  simp only [Bool.and_eq_true] at h ⊢
  refine ⟨by simpa using hz, rfl, rfl, ?_⟩
  rw [List.all_cons, h.2.2.2]
  rfl
theorem isOperand_ren {s : ByteArray} (h : isOperand s = true) (hs : s.size ≤ 60) : isOperand (renV s) = true := by
  unfold isOperand at h ⊢
  rw [renV_null]
  cases e : isNull s with
  | true => rfl
  | false =>
    rw [e] at h
    exact isName_ren (by simpa using h) hs
theorem all_ren {p : ByteArray → Bool} {l : List ByteArray} (h : l.all p = true) (hp : ∀ s ∈ l, p s = true → p (renV s) = true) : (l.map renV).all p = true := by
  rw [List.all_eq_true] at h ⊢
  intro y hy
  obtain ⟨s, hs, rfl⟩ := List.mem_map.1 hy
  exact hp s hs (h s hs)
theorem hasL_ren (k : Int) (s : ByteArray) : hasL k (renV s) = (hasL k s).map renV := by
  unfold hasL
  split
  · rfl
  · exact givenL_ren s
theorem mem_hasL {k : Int} {s y : ByteArray} (h : y ∈ hasL k s) : y = s := by
  unfold hasL at h
  split at h
  · cases h
  · unfold givenL at h
    split at h
    · cases h
    · exact List.mem_singleton.1 h
theorem badNames_ren {c : Ins} (hs : ShortI c) (h : badNamesB c = false) : badNamesB (renI c) = false := by
  cases e : shapeN c.op with
  | none => exact badNamesB_none (d := renI c) e
  | some s =>
    rw [badNamesB_some e] at h
    rw [badNamesB_some (d := renI c) e]
    obtain ⟨s1, s2, s3, s4⟩ := hs
    unfold badNamesS at h ⊢
    simp only [Bool.or_eq_false_iff, Bool.not_eq_false', Bool.and_eq_false_iff] at h ⊢
    obtain ⟨⟨h1, h2⟩, ⟨h3, h4⟩, h5, h6⟩ := h
    refine ⟨⟨?_, h2⟩, ⟨?_, ?_⟩, h5, ?_⟩
    · show (hasL s.dst (renV c.dst)).all isName = true
      rw [hasL_ren]
      exact all_ren h1 (fun y hy hp => isName_ren hp (by rw [mem_hasL hy]; exact s1))
    · show (hasL s.a (renV c.a)).all isOperand = true
      rw [hasL_ren]
      exact all_ren h3 (fun y hy hp => isOperand_ren hp (by rw [mem_hasL hy]; exact s2))
    · show (hasL s.b (renV c.b)).all isOperand = true
      rw [hasL_ren]
      exact all_ren h4 (fun y hy hp => isOperand_ren hp (by rw [mem_hasL hy]; exact s3))
    · exact h6.imp id (fun h => all_ren h (fun y hy hp => isOperand_ren hp (s4 y hy)))
theorem missB_ren (k : Int) (s : ByteArray) : missB k (renV s) = missB k s := by unfold missB; rw [renV_empty]
theorem badFields_ren (c : Ins) : badFieldsB (renI c) = badFieldsB c := by
  cases e : shapeN c.op with
  | none => rw [badFieldsB_none e, badFieldsB_none (d := renI c) e]
  | some s =>
    rw [badFieldsB_some e, badFieldsB_some (d := renI c) e]
    unfold badShp
    rw [show (renI c).dst = renV c.dst from rfl, show (renI c).a = renV c.a from rfl, show (renI c).b = renV c.b from rfl, missB_ren, missB_ren, missB_ren, show (renI c).args.length = c.args.length from List.length_map ..]
    rfl
theorem pure_none {B : Prt → Bool} : ∀ {L : List Prt}, (∀ x ∈ L, B x = false) → firstBad (fun (s : Unit) x => (B x, s)) () L = none
  | [], _ => rfl
  | x :: L, h => by
    rw [firstBad_cons, if_neg (by rw [h x List.mem_cons_self]; simp)]
    exact pure_none (fun y hy => h y (List.mem_cons_of_mem _ hy))
theorem arityF_ren (P : List Fun) : arityF (P.map renF) = arityF P := by
  funext s
  unfold arityF
  rw [List.find?_map]
  rw [show ((fun d : Fun => decide (d.name = s)) ∘ renF) = fun d => decide (d.name = s) from rfl]
  cases P.find? (fun d => decide (d.name = s)) with
  | none => rfl
  | some d => simp [renF]
theorem main_ren : ∀ (P : List Fun) (k : Nat), mainAt k (P.map renF) = mainAt k P
  | [], _ => rfl
  | d :: P, k => by
    rw [List.map_cons]
    unfold mainAt
    rw [main_ren P (k + 1), show (renF d).name = d.name from rfl, show (renF d).params.length = d.params.length from List.length_map ..]
theorem prevB_ren (x : Blk) (i : Nat) : prevB (renB x) i = prevB x i := by
  unfold prevB
  rw [show (renB x).code = x.code.map renI from rfl, List.getElem?_map]
  cases x.code[i - 1]? <;> rfl
theorem dec_ren (l : List ByteArray) (L : List ByteArray) : ((L.map renV).all fun s => decide (s ∈ l.map renV)) = (L.all fun s => decide (s ∈ l)) := by
  rw [List.all_map]
  congr 1
  funext s
  exact decide_eq_decide.2 mem_renV
theorem rule_ren {P : List Fun} (hs : ∀ d ∈ P, ShortF d) (h2 : ruleAt P 2 = none) (k : Nat) : ruleAt (P.map renF) k = ruleAt P k := by
  match k with
  | 0 => rfl
  | 1 => show manyP _ = manyP _; unfold manyP; rw [List.length_map]
  | 2 =>
    rw [h2]
    have r2 := firstBad_pure (show firstP bad2 P = none from opt_none h2)
    show (firstP bad2 (P.map renF)).map Prt.at = none
    have : firstP bad2 (P.map renF) = none := pure_none (fun y hy => by
      rw [partsL_ren] at hy
      obtain ⟨x, hx, rfl⟩ := List.mem_map.1 hy
      have hb := r2 x hx
      cases x with
      | fn f d =>
        have hd := parts_fun hx
        simp only [bad2, Bool.or_eq_false_iff, Bool.not_eq_false'] at hb
        show (!isName d.name || !(d.params.map renV).all isName) = false
        rw [hb.1, all_ren hb.2 (fun s hm hp => isName_ren hp ((hs d hd).1 s hm))]
        rfl
      | blk f b d x => exact hb
      | ins f b i d x c =>
        obtain ⟨hd, hx2, hc⟩ := parts_ins hx
        exact badNames_ren ((hs d hd).2 x hx2 c hc) hb)
    rw [this]
    rfl
  | 3 => exact firstAt_ren (m := fun s => s) (fun s x => by cases x <;> rfl) P []
  | 4 => exact main_ren P 0
  | 5 => exact pureAt_ren (fun x => by cases x <;> simp [renP, bad5, renF, renI]) P
  | 6 => exact pureAt_ren (fun x => by cases x <;> simp [renP, bad6, renF]) P
  | 7 => exact firstAt_ren (m := fun s => s) (fun s x => by cases x <;> cases s <;> rfl) P none
  | 8 => exact firstAt_ren (m := fun s => s) (fun s x => by cases x <;> rfl) P 0
  | 9 => exact pureAt_ren (fun x => by cases x with | fn f d => rfl | blk f b d x => rfl | ins f b i d x c => exact badFields_ren c) P
  | 10 => exact pureAt_ren (fun x => by cases x <;> simp [renP, bad10, renB, renI]) P
  | 11 => exact pureAt_ren (fun x => by
      cases x with
      | fn f d => rfl
      | blk f b d x => rfl
      | ins f b i d x c =>
        show phiB b i (renB x) (renI c) = phiB b i x c
        unfold phiB
        rw [prevB_ren]
        rfl) P
  | 12 => exact firstAt_ren (m := fun s => s) (fun s x => by
      cases x with
      | fn f d => show (false, some (labelsL (d.blocks.map renB))) = _; rw [labelsL_ren]; rfl
      | blk f b d x => cases s <;> rfl
      | ins f b i d x c => cases s <;> rfl) P none
  | 13 =>
    show (firstBad (fun (_ : Unit) x => (bad13 (arityF (P.map renF)) x, ())) () (partsL (P.map renF))).map Prt.at = _
    rw [arityF_ren]
    exact pureAt_ren (fun x => by cases x <;> rfl) P
  | 14 =>
    show (firstBad (fun (_ : Unit) x => (bad14 (arityF (P.map renF)) x, ())) () (partsL (P.map renF))).map Prt.at = _
    rw [arityF_ren]
    exact pureAt_ren (fun x => by cases x <;> simp [renP, bad14, renI]) P
  | 15 => exact firstAt_ren (step := step15) (step' := step15) (m := fun s => s.map (List.map renV)) (fun s x => by
      cases x with
      | fn f d => show ((twiceL [] (d.params.map renV)).1, some (twiceL [] (d.params.map renV)).2) = _; rw [show ([] : List ByteArray) = ([] : List ByteArray).map renV from rfl, twiceL_ren]; rfl
      | blk f b d x => cases s <;> rfl
      | ins f b i d x c =>
        cases s with
        | none => rfl
        | some l => show ((twiceL (l.map renV) (givenL (renV c.dst))).1, some (twiceL (l.map renV) (givenL (renV c.dst))).2) = _; rw [givenL_ren, twiceL_ren]; rfl) P none
  | 16 => exact firstAt_ren (step := step16) (step' := step16) (m := fun s => s.map (List.map renV)) (fun s x => by
      cases x with
      | fn f d => show (false, some (varsL (renF d))) = _; rw [varsL_ren]; rfl
      | blk f b d x => cases s <;> rfl
      | ins f b i d x c =>
        cases s with
        | none => rfl
        | some l => show (!(usesL (renI c)).all fun s => decide (s ∈ l.map renV), some (l.map renV)) = _; rw [usesL_ren, dec_ren]; rfl) P none
  | n + 17 => rfl
theorem wrong_ren {P : List Fun} (hs : ∀ d ∈ P, ShortF d) (h2 : ruleAt P 2 = none) : wrongOf (P.map renF) = wrongOf P := by
  have key : ∀ n k, checkF (P.map renF) n k = checkF P n k := by
    intro n
    induction n with
    | zero => intro k; rfl
    | succ n ih =>
      intro k
      unfold checkF
      rw [rule_ren hs h2, ih]
  exact key 16 1
end
end Go.Proofs.YtjblhiekccjdcaaR
