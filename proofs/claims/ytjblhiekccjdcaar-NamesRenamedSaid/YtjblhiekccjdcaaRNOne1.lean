/- names: what a program that breaks no rule is. -/
import Derived.Test.YtjblhiekccjdcaaRNCheck
namespace Go.Proofs.YtjblhiekccjdcaaR
open Go.RowKit Go.Maps Go.Shelf

theorem checkF_res {P : List Fun} : ∀ {n k r : Nat} {q : Nat × Nat × Nat}, checkF P n k = (r, q) → 1 ≤ k → (r = 0 ∧ q = (0, 0, 0) ∧ ∀ j, k ≤ j → j < k + n → ruleAt P j = none) ∨ (k ≤ r ∧ r < k + n ∧ ruleAt P r = some q ∧ ∀ j, k ≤ j → j < r → ruleAt P j = none)
  | 0, k, r, q, h, _ => by cases h; exact .inl ⟨rfl, rfl, fun j h1 h2 => by omega⟩
  | n + 1, k, r, q, h, hk => by
    unfold checkF at h
    split at h
    · rename_i hs
      cases h
      refine .inr ⟨Nat.le_refl _, by omega, ?_, fun j h1 h2 => by omega⟩
      cases hr : ruleAt P k with
      | none => rw [hr] at hs; cases hs
      | some q => rfl
    · rename_i hs
      have hs0 : ruleAt P k = none := by
        cases hr : ruleAt P k with
        | none => rfl
        | some q => rw [hr] at hs; exact absurd rfl hs
      rcases checkF_res h (by omega) with ⟨h1, h2, h3⟩ | ⟨h1, h2, h3, h4⟩
      · exact .inl ⟨h1, h2, fun j j1 j2 => by
          by_cases e : j = k
          · rw [e]; exact hs0
          · exact h3 j (by omega) (by omega)⟩
      · exact .inr ⟨by omega, by omega, h3, fun j j1 j2 => by
          by_cases e : j = k
          · rw [e]; exact hs0
          · exact h4 j (by omega) j2⟩
/-- Prefixes and what comes behind them. -/
theorem firstBad_pre {σ : Type} {step : σ → Prt → Bool × σ} : ∀ {a b : List Prt} {s : σ}, firstBad step s (a ++ b) = none → firstBad step s a = none ∧ firstBad step (runSt step s a) b = none
  | [], b, s, h => ⟨rfl, h⟩
  | x :: a, b, s, h => by
    rw [List.cons_append, firstBad_cons] at h
    split at h
    · cases h
    · rename_i hn
      rw [firstBad_cons, if_neg hn]
      exact firstBad_pre h
theorem firstBad_pure {B : Prt → Bool} : ∀ {l : List Prt}, firstBad (fun (s : Unit) x => (B x, s)) () l = none → ∀ x ∈ l, B x = false
  | [], _, x, hx => by cases hx
  | y :: l, h, x, hx => by
    rw [firstBad_cons] at h
    split at h
    · cases h
    · rename_i hn
      rcases List.mem_cons.1 hx with rfl | hx
      · simpa using hn
      · exact firstBad_pure h x hx
/-- The parts behind a function's own. -/
def bodyL (f : Nat) (d : Fun) : List Prt := cat (fun b x => blkL f b d x) d.blocks
theorem parts_at {P : List Fun} {f : Nat} {d : Fun} (h : P[f]? = some d) : ∃ pre post, partsL P = pre ++ (.fn f d :: (bodyL f d ++ post)) := by
  obtain ⟨r, hr⟩ := cat_split (g := funL) h
  exact ⟨_, r, by unfold partsL; rw [hr]; rfl⟩
theorem in_cat {α β : Type} {g : Nat → α → List β} {l : List α} {i : Nat} {z : α} {y : β} (h : l[i]? = some z) (hy : y ∈ g i z) : y ∈ cat g l := by
  obtain ⟨r, hr⟩ := cat_split (g := g) h
  rw [hr]
  simp [hy]
theorem in_fn {P : List Fun} {f : Nat} {d : Fun} (h : P[f]? = some d) : Prt.fn f d ∈ partsL P := in_cat h (by unfold funL; simp)
theorem in_body {f b : Nat} {d : Fun} {x : Blk} {y : Prt} (h : d.blocks[b]? = some x) (hy : y ∈ blkL f b d x) : y ∈ bodyL f d := in_cat h hy
theorem in_blk {f b : Nat} {d : Fun} {x : Blk} (h : d.blocks[b]? = some x) : Prt.blk f b d x ∈ bodyL f d := in_body h (by unfold blkL; simp)
theorem in_ins {f b i : Nat} {d : Fun} {x : Blk} {c : Ins} (h : d.blocks[b]? = some x) (hc : x.code[i]? = some c) : Prt.ins f b i d x c ∈ bodyL f d := in_body h (by unfold blkL; exact List.mem_cons_of_mem _ (in_cat hc (by simp)))
theorem body_in {P : List Fun} {f : Nat} {d : Fun} (h : P[f]? = some d) {y : Prt} (hy : y ∈ bodyL f d) : y ∈ partsL P := in_cat h (by unfold funL; exact List.mem_cons_of_mem _ hy)
/-- What kind a part is of. -/
def Prt.isFn : Prt → Bool | .fn _ _ => true | .blk _ _ _ _ => false | .ins _ _ _ _ _ _ => false
theorem body_noFn {f : Nat} {d : Fun} {y : Prt} (h : y ∈ bodyL f d) : y.isFn = false := by
  obtain ⟨b, x, hx, h⟩ := mem_cat h
  unfold blkL at h
  rcases List.mem_cons.1 h with rfl | h
  · rfl
  · obtain ⟨i, c, hc, h⟩ := mem_cat h
    rw [List.mem_singleton] at h
    subst h
    rfl
/-- Names, labels, what is defined. -/
def fnN : Prt → Option ByteArray | .fn _ d => some d.name | .blk _ _ _ _ => none | .ins _ _ _ _ _ _ => none
def lblN : Prt → Option ByteArray | .fn _ _ => none | .blk _ _ _ x => some x.label | .ins _ _ _ _ _ _ => none
def dstN : Prt → Option ByteArray | .fn _ _ => none | .blk _ _ _ _ => none | .ins _ _ _ _ _ c => if c.dst.toList.isEmpty then none else some c.dst
theorem filterMap_cat {α β γ : Type} {g : Nat → α → List β} {F : β → Option γ} {G : α → List γ} (h : ∀ i z, (g i z).filterMap F = G z) (l : List α) : (cat g l).filterMap F = l.flatMap G := by
  unfold cat
  rw [List.filterMap_flatten]
  have : (l.mapIdx g).map (List.filterMap F) = l.map G := by
    apply List.ext_getElem?
    intro i
    simp only [List.getElem?_map, List.getElem?_mapIdx]
    cases l[i]? <;> simp [h]
  rw [this, List.flatMap_def]
theorem dstN_no {f b i : Nat} {d : Fun} {x : Blk} {c : Ins} (h : c.dst.toList.isEmpty = true) : dstN (.ins f b i d x c) = none := if_pos h
theorem dstN_yes {f b i : Nat} {d : Fun} {x : Blk} {c : Ins} (h : ¬ c.dst.toList.isEmpty = true) : dstN (.ins f b i d x c) = some c.dst := if_neg h
theorem flat_single {α β : Type} (f : α → β) : ∀ l : List α, l.flatMap (fun x => [f x]) = l.map f
  | [] => rfl
  | x :: l => by rw [List.flatMap_cons, flat_single f l]; rfl
theorem fnN_body (f : Nat) (d : Fun) : (bodyL f d).filterMap fnN = [] := by
  refine List.filterMap_eq_nil_iff.2 (fun y hy => ?_)
  have := body_noFn hy
  cases y with
  | fn f d => cases this
  | blk f b d x => rfl
  | ins f b i d x c => rfl
theorem fnN_parts (P : List Fun) : (partsL P).filterMap fnN = P.map (·.name) := by
  unfold partsL
  rw [filterMap_cat (G := fun d => [d.name]) (fun i z => ?_), flat_single]
  unfold funL
  rw [List.filterMap_cons_some (f := fnN) (b := z.name) rfl]
  exact congrArg _ (fnN_body i z)
theorem lblN_body (f : Nat) (d : Fun) : (bodyL f d).filterMap lblN = d.blocks.map (·.label) := by
  unfold bodyL
  rw [filterMap_cat (G := fun x => [x.label]) (fun i z => ?_), flat_single]
  unfold blkL
  rw [List.filterMap_cons_some (f := lblN) (b := z.label) rfl, filterMap_cat (G := fun _ => []) (fun j c => rfl)]
  simp
def dstsL (d : Fun) : List ByteArray := d.blocks.flatMap (fun x => x.code.map (·.dst))
theorem dstN_body (f : Nat) (d : Fun) : (bodyL f d).filterMap dstN = (dstsL d).filter (fun s => !s.toList.isEmpty) := by
  unfold bodyL dstsL
  rw [filterMap_cat (G := fun x => (x.code.map (·.dst)).filter (fun s => !s.toList.isEmpty)) (fun i z => ?_), List.filter_flatMap]
  unfold blkL
  rw [List.filterMap_cons_none (f := dstN) rfl, filterMap_cat (G := fun c => if c.dst.toList.isEmpty then [] else [c.dst]) (fun j c => ?_)]
  · generalize z.code = l
    induction l with
    | nil => rfl
    | cons c l ih =>
      rw [List.flatMap_cons, ih, List.map_cons, List.filter_cons]
      cases h : c.dst.toList.isEmpty <;> simp
  · by_cases h : c.dst.toList.isEmpty = true
    · rw [if_pos h, List.filterMap_cons_none (dstN_no h)]; rfl
    · rw [if_neg h, List.filterMap_cons_some (dstN_yes h)]; rfl
/-- Nothing twice. -/
theorem once3 : ∀ {L : List Prt} {s : List ByteArray}, firstBad step3 s L = none → (L.filterMap fnN).Nodup ∧ ∀ y ∈ L.filterMap fnN, y ∉ s
  | [], s, _ => ⟨List.nodup_nil, fun y hy => by cases hy⟩
  | x :: L, s, h => by
    rw [firstBad_cons] at h
    split at h
    · cases h
    · rename_i hn
      obtain ⟨h1, h2⟩ := once3 h
      cases x with
      | blk f b d x => exact ⟨h1, h2⟩
      | ins f b i d x c => exact ⟨h1, h2⟩
      | fn f d =>
        rw [List.filterMap_cons_some (f := fnN) (b := d.name) rfl]
        have hd : d.name ∉ s := fun hm => hn (by show (twiceL s [d.name]).1 = true; unfold twiceL; rw [if_pos hm])
        have e : (step3 s (.fn f d)).2 = plusS s d.name := by show (twiceL s [d.name]).2 = _; unfold twiceL; rw [if_neg hd]; rfl
        rw [e] at h2
        refine ⟨List.nodup_cons.2 ⟨fun hm => h2 _ hm (mem_plusS.2 (.inr rfl)), h1⟩, fun y hy => ?_⟩
        rcases List.mem_cons.1 hy with rfl | hy
        · exact hd
        · exact fun hm => h2 y hy (mem_plusS.2 (.inl hm))
theorem once7 : ∀ {L : List Prt} {s : List ByteArray}, (∀ x ∈ L, x.isFn = false) → firstBad step7 (some s) L = none → (L.filterMap lblN).Nodup ∧ ∀ y ∈ L.filterMap lblN, y ∉ s
  | [], s, _, _ => ⟨List.nodup_nil, fun y hy => by cases hy⟩
  | x :: L, s, hL, h => by
    have hL' : ∀ x ∈ L, x.isFn = false := fun x hx => hL x (List.mem_cons_of_mem _ hx)
    rw [firstBad_cons] at h
    split at h
    · cases h
    · rename_i hn
      cases x with
      | fn f d => have := hL _ List.mem_cons_self; cases this
      | ins f b i d x c => rw [List.filterMap_cons_none (f := lblN) rfl]; exact once7 hL' h
      | blk f b d x =>
        have hd : x.label ∉ s := fun hm => hn (by show (twiceL s [x.label]).1 = true; unfold twiceL; rw [if_pos hm])
        have e : (step7 (some s) (.blk f b d x)).2 = some (plusS s x.label) := by show some (twiceL s [x.label]).2 = _; unfold twiceL; rw [if_neg hd]; rfl
        rw [e] at h
        obtain ⟨h1, h2⟩ := once7 hL' h
        rw [List.filterMap_cons_some (f := lblN) (b := x.label) rfl]
        refine ⟨List.nodup_cons.2 ⟨fun hm => h2 _ hm (mem_plusS.2 (.inr rfl)), h1⟩, fun y hy => ?_⟩
        rcases List.mem_cons.1 hy with rfl | hy
        · exact hd
        · exact fun hm => h2 y hy (mem_plusS.2 (.inl hm))
theorem once15 : ∀ {L : List Prt} {s : List ByteArray}, (∀ x ∈ L, x.isFn = false) → firstBad step15 (some s) L = none → (L.filterMap dstN).Nodup ∧ ∀ y ∈ L.filterMap dstN, y ∉ s
  | [], s, _, _ => ⟨List.nodup_nil, fun y hy => by cases hy⟩
  | x :: L, s, hL, h => by
    have hL' : ∀ x ∈ L, x.isFn = false := fun x hx => hL x (List.mem_cons_of_mem _ hx)
    rw [firstBad_cons] at h
    split at h
    · cases h
    · rename_i hn
      cases x with
      | fn f d => have := hL _ List.mem_cons_self; cases this
      | blk f b d x => rw [List.filterMap_cons_none (f := dstN) rfl]; exact once15 hL' h
      | ins f b i d x c =>
        by_cases he : c.dst.toList.isEmpty = true
        · have e : (step15 (some s) (.ins f b i d x c)).2 = some s := by show some (twiceL s (givenL c.dst)).2 = _; unfold givenL; rw [if_pos he]; rfl
          rw [e] at h
          rw [List.filterMap_cons_none (dstN_no he)]
          exact once15 hL' h
        · have hg : givenL c.dst = [c.dst] := by unfold givenL; rw [if_neg he]
          have hd : c.dst ∉ s := fun hm => hn (by show (twiceL s (givenL c.dst)).1 = true; rw [hg]; unfold twiceL; rw [if_pos hm])
          have e : (step15 (some s) (.ins f b i d x c)).2 = some (plusS s c.dst) := by show some (twiceL s (givenL c.dst)).2 = _; rw [hg]; unfold twiceL; rw [if_neg hd]; rfl
          rw [e] at h
          obtain ⟨h1, h2⟩ := once15 hL' h
          rw [List.filterMap_cons_some (dstN_yes he)]
          refine ⟨List.nodup_cons.2 ⟨fun hm => h2 _ hm (mem_plusS.2 (.inr rfl)), h1⟩, fun y hy => ?_⟩
          rcases List.mem_cons.1 hy with rfl | hy
          · exact hd
          · exact fun hm => h2 y hy (mem_plusS.2 (.inl hm))
theorem twice_no : ∀ {ks l : List ByteArray}, (twiceL l ks).1 = false → ks.Nodup ∧ (∀ y ∈ ks, y ∉ l) ∧ ∀ y, y ∈ (twiceL l ks).2 ↔ y ∈ l ∨ y ∈ ks
  | [], l, _ => ⟨List.nodup_nil, (fun y hy => by cases hy), fun y => by unfold twiceL; simp⟩
  | k :: ks, l, h => by
    unfold twiceL at h ⊢
    by_cases hk : k ∈ l
    · rw [if_pos hk] at h; cases h
    · rw [if_neg hk] at h ⊢
      obtain ⟨h1, h2, h3⟩ := twice_no h
      refine ⟨List.nodup_cons.2 ⟨fun hm => h2 k hm (mem_plusS.2 (.inr rfl)), h1⟩, fun y hy => ?_, fun y => ?_⟩
      · rcases List.mem_cons.1 hy with rfl | hy
        · exact hk
        · exact fun hm => h2 y hy (mem_plusS.2 (.inl hm))
      · rw [h3, mem_plusS, List.mem_cons, or_assoc]
theorem all12 : ∀ {L : List Prt} {s : List ByteArray}, (∀ x ∈ L, x.isFn = false) → firstBad step12 (some s) L = none → ∀ f b i d x c, Prt.ins f b i d x c ∈ L → ∀ l ∈ c.labels, l ∈ s
  | [], s, _, _, f, b, i, d, x, c, hm, l, hl => by cases hm
  | y :: L, s, hL, h, f, b, i, d, x, c, hm, l, hl => by
    have hL' : ∀ x ∈ L, x.isFn = false := fun x hx => hL x (List.mem_cons_of_mem _ hx)
    rw [firstBad_cons] at h
    split at h
    · cases h
    · rename_i hn
      have e : (step12 (some s) y).2 = some s := by
        cases y with
        | fn f d => have := hL _ List.mem_cons_self; cases this
        | blk f b d x => rfl
        | ins f b i d x c => rfl
      rw [e] at h
      rcases List.mem_cons.1 hm with rfl | hm
      · have : (c.labels.all fun s' => decide (s' ∈ s)) = true := by
          have h9 : (!c.labels.all fun s' => decide (s' ∈ s)) = false := by simpa [step12] using hn
          simpa using h9
        simpa using List.all_eq_true.1 this l hl
      · exact all12 hL' h f b i d x c hm l hl
theorem all16 : ∀ {L : List Prt} {s : List ByteArray}, (∀ x ∈ L, x.isFn = false) → firstBad step16 (some s) L = none → ∀ f b i d x c, Prt.ins f b i d x c ∈ L → ∀ l ∈ usesL c, l ∈ s
  | [], s, _, _, f, b, i, d, x, c, hm, l, hl => by cases hm
  | y :: L, s, hL, h, f, b, i, d, x, c, hm, l, hl => by
    have hL' : ∀ x ∈ L, x.isFn = false := fun x hx => hL x (List.mem_cons_of_mem _ hx)
    rw [firstBad_cons] at h
    split at h
    · cases h
    · rename_i hn
      have e : (step16 (some s) y).2 = some s := by
        cases y with
        | fn f d => have := hL _ List.mem_cons_self; cases this
        | blk f b d x => rfl
        | ins f b i d x c => rfl
      rw [e] at h
      rcases List.mem_cons.1 hm with rfl | hm
      · have : ((usesL c).all fun s' => decide (s' ∈ s)) = true := by
          have h9 : (!(usesL c).all fun s' => decide (s' ∈ s)) = false := by simpa [step16] using hn
          simpa using h9
        simpa using List.all_eq_true.1 this l hl
      · exact all16 hL' h f b i d x c hm l hl
end Go.Proofs.YtjblhiekccjdcaaR
namespace Go.Proofs.YtjblhiekccjdcaaR
open Go.RowKit Go.Maps Go.Shelf

def nameN (P : List Fun) (s : ByteArray) : Nat := (P.filter (fun d => decide (d.name = s))).length
def lblC (d : Fun) (s : ByteArray) : Nat := (d.blocks.filter (fun x => decide (x.label = s))).length
def defN (d : Fun) (s : ByteArray) : Nat := (d.params.filter (fun x => decide (x = s))).length + ((dstsL d).filter (fun x => decide (x = s))).length
def lastN (P : List Fun) (s : ByteArray) : Int := P.foldl (fun n d => if d.name = s then (d.params.length : Int) else n) (-1)
def okU (d : Fun) (s : ByteArray) : Prop := s.toList.isEmpty = true ∨ isNull s = true ∨ defN d s = 1
def isMain (d : Fun) : Bool := d.name.toList == [109, 97, 105, 110]
theorem cnt_none {α β : Type} [DecidableEq β] {f : α → β} {l : List α} {s : β} (h : s ∉ l.map f) : (l.filter (fun y => decide (f y = s))).length = 0 := by
  rw [List.length_eq_zero_iff, List.filter_eq_nil_iff]
  intro y hy e
  exact h (List.mem_map.2 ⟨y, hy, of_decide_eq_true e⟩)
theorem cnt_one {α β : Type} [DecidableEq β] {f : α → β} {s : β} : ∀ {l : List α}, (l.map f).Nodup → s ∈ l.map f → (l.filter (fun y => decide (f y = s))).length = 1
  | [], _, h => by cases h
  | x :: l, hn, h => by
    rw [List.map_cons, List.nodup_cons] at hn
    by_cases e : f x = s
    · rw [List.filter_cons_of_pos (by simp [e]), List.length_cons, cnt_none (by rw [← e]; exact hn.1)]
    · rw [List.filter_cons_of_neg (by simp [e])]
      rw [List.map_cons, List.mem_cons] at h
      exact cnt_one hn.2 (h.resolve_left (fun e' => e e'.symm))
theorem mem_labelsF {l : List Blk} : ∀ {s : List ByteArray} {y : ByteArray}, y ∈ l.foldl (fun s x => plusS s x.label) s ↔ y ∈ s ∨ y ∈ l.map (·.label) := by
  induction l with
  | nil => intro s y; simp
  | cons x l ih =>
    intro s y
    rw [List.foldl_cons, ih, mem_plusS, List.map_cons, List.mem_cons, or_assoc]
theorem mem_labelsL {l : List Blk} {y : ByteArray} : y ∈ labelsL l ↔ y ∈ l.map (·.label) := by
  unfold labelsL
  rw [mem_labelsF]
  simp
theorem mem_varsP {l : List ByteArray} : ∀ {s : List ByteArray} {y : ByteArray}, y ∈ varsP s l ↔ y ∈ s ∨ y ∈ l := by
  unfold varsP
  induction l with
  | nil => intro s y; simp
  | cons x l ih =>
    intro s y
    rw [List.foldl_cons, ih, mem_plusS, List.mem_cons, or_assoc]
theorem mem_varsC {l : List Ins} : ∀ {s : List ByteArray} {y : ByteArray}, y ∈ varsC s l ↔ y ∈ s ∨ y ∈ l.map (·.dst) := by
  unfold varsC
  induction l with
  | nil => intro s y; simp
  | cons x l ih =>
    intro s y
    rw [List.foldl_cons, ih, mem_plusS, List.map_cons, List.mem_cons, or_assoc]
theorem mem_varsB {l : List Blk} : ∀ {s : List ByteArray} {y : ByteArray}, y ∈ varsB s l ↔ y ∈ s ∨ y ∈ l.flatMap (fun x => x.code.map (·.dst)) := by
  unfold varsB
  induction l with
  | nil => intro s y; simp
  | cons x l ih =>
    intro s y
    rw [List.foldl_cons, ih, mem_varsC, List.flatMap_cons, List.mem_append, or_assoc]
theorem mem_varsL {d : Fun} {y : ByteArray} : y ∈ varsL d ↔ y ∈ d.params ∨ y ∈ dstsL d := by
  unfold varsL dstsL
  rw [mem_varsB, mem_varsP]
  simp
theorem def_one {d : Fun} {s : ByteArray} (h1 : d.params.Nodup) (h2 : ((dstsL d).filter (fun s => !s.toList.isEmpty)).Nodup) (h3 : ∀ y ∈ (dstsL d).filter (fun s => !s.toList.isEmpty), y ∉ d.params) (hs : s.toList.isEmpty = false) (hm : s ∈ d.params ∨ s ∈ dstsL d) : defN d s = 1 := by
  have e : (dstsL d).filter (fun x => decide (x = s)) = ((dstsL d).filter (fun s => !s.toList.isEmpty)).filter (fun x => decide (x = s)) := by
    rw [List.filter_filter]
    refine List.filter_congr (fun x _ => ?_)
    by_cases e : x = s
    · subst e; simp [hs]
    · simp [e]
  unfold defN
  rw [e]
  have m2 : s ∈ (dstsL d).filter (fun s => !s.toList.isEmpty) ↔ s ∈ dstsL d := by rw [List.mem_filter]; simp [hs]
  generalize (dstsL d).filter (fun s => !s.toList.isEmpty) = N at h2 h3 m2 ⊢
  have c1 := cnt_one (f := fun x : ByteArray => x) (s := s) (l := d.params) (by simpa using h1)
  have c2 := cnt_one (f := fun x : ByteArray => x) (s := s) (l := N) (by simpa using h2)
  have n1 := cnt_none (f := fun x : ByteArray => x) (s := s) (l := d.params)
  have n2 := cnt_none (f := fun x : ByteArray => x) (s := s) (l := N)
  simp only [List.map_id'] at c1 c2 n1 n2
  by_cases hp : s ∈ d.params
  · rw [c1 hp, n2 (fun hN => h3 s hN hp)]
  · have hN : s ∈ N := m2.2 (hm.resolve_left hp)
    rw [c2 hN, n1 hp]
theorem last_no {s : ByteArray} : ∀ {P : List Fun} {n : Int}, s ∉ P.map (·.name) → P.foldl (fun n d => if d.name = s then (d.params.length : Int) else n) n = n
  | [], _, _ => rfl
  | d :: P, n, h => by
    rw [List.map_cons, List.mem_cons] at h
    rw [List.foldl_cons, if_neg (fun e => h (.inl e.symm))]
    exact last_no (fun hm => h (.inr hm))
theorem last_one {s : ByteArray} {d : Fun} : ∀ {P : List Fun} {n : Int}, (P.map (·.name)).Nodup → d ∈ P → d.name = s → P.foldl (fun n d => if d.name = s then (d.params.length : Int) else n) n = d.params.length
  | [], _, _, h, _ => by cases h
  | x :: P, n, hn, h, e => by
    rw [List.map_cons, List.nodup_cons] at hn
    rw [List.foldl_cons]
    rcases List.mem_cons.1 h with rfl | h
    · rw [if_pos e, last_no (by rw [← e]; exact hn.1)]
    · rw [if_neg (fun e' => hn.1 (by rw [e', ← e]; exact List.mem_map.2 ⟨d, h, rfl⟩))]
      exact last_one hn.2 h e
theorem main_ok {P : List Fun} : ∀ {k : Nat}, mainAt k P = none → ∃ d ∈ P, isMain d = true ∧ d.params.length = 0 := by
  induction P with
  | nil => intro k h; cases h
  | cons d P ih =>
    intro k h
    unfold mainAt at h
    split at h
    · rename_i hd
      split at h
      · cases h
      · exact ⟨d, List.mem_cons_self, hd, by omega⟩
    · obtain ⟨d', h1, h2⟩ := ih h
      exact ⟨d', List.mem_cons_of_mem _ h1, h2⟩
theorem toList_inj {a b : ByteArray} (h : a.toList = b.toList) : a = b := by
  rw [show a = ⟨a.toList.toArray⟩ from ?_, show b = ⟨b.toList.toArray⟩ from ?_, h]
  all_goals (apply ByteArray.ext; simp [ByteArray.toList_eq])
/-- A program that breaks no rule: what the law asks. -/
structure OnceP (P : List Fun) : Prop where
  main : (P.filter isMain).length = 1
  mainP : ∀ d ∈ P, isMain d = true → d.params.length = 0
  fn : ∀ d ∈ P, isName d.name = true ∧ nameN P d.name = 1 ∧ 0 < d.blocks.length
  blk : ∀ d ∈ P, ∀ x ∈ d.blocks, 0 < x.code.length ∧ lblC d x.label = 1
  ends : ∀ d ∈ P, ∀ x ∈ d.blocks, ∀ i c, x.code[i]? = some c → endsB c.op = decide (i + 1 = x.code.length)
  dst : ∀ d ∈ P, ∀ x ∈ d.blocks, ∀ c ∈ x.code, c.dst.toList.isEmpty = false → defN d c.dst = 1
  use : ∀ d ∈ P, ∀ x ∈ d.blocks, ∀ c ∈ x.code, okU d c.a ∧ okU d c.b ∧ ∀ a ∈ c.args, okU d a ∧ a.toList.isEmpty = false
  lbl : ∀ d ∈ P, ∀ x ∈ d.blocks, ∀ c ∈ x.code, ∀ l ∈ c.labels, lblC d l = 1
  call : ∀ d ∈ P, ∀ x ∈ d.blocks, ∀ c ∈ x.code, (c.op = 10 ∨ c.op = 4 → nameN P c.fn = 1) ∧ (c.op = 10 → lastN P c.fn = c.args.length)
  par : ∀ d ∈ P, ∀ s ∈ d.params, defN d s = 1
theorem name_ne {s : ByteArray} (h : isName s = true) : s.toList.isEmpty = false := by
  cases e : s.toList.isEmpty with
  | false => rfl
  | true =>
    rw [List.isEmpty_iff] at e
    have h2 : s.data.toList = [] := by rw [← e]; exact (ByteArray.toList_eq s).symm
    unfold isName at h
    rw [h2] at h
    simp [nmHeadB] at h
theorem operand_ne {s : ByteArray} (h : isOperand s = true) : s.toList.isEmpty = false := by
  unfold isOperand at h
  rcases Bool.or_eq_true _ _ ▸ h with h | h
  · unfold isNull at h
    rw [beq_iff_eq] at h
    rw [h]
    rfl
  · exact name_ne h
end Go.Proofs.YtjblhiekccjdcaaR
namespace Go.Proofs.YtjblhiekccjdcaaR
open Go.RowKit Go.Maps Go.Shelf

theorem opt_none {α β : Type} {f : α → β} {o : Option α} (h : o.map f = none) : o = none := by cases o with | none => rfl | some a => cases h
theorem isNull_ne {s : ByteArray} (h : isNull s = true) : s.toList.isEmpty = false := by
  unfold isNull at h
  rw [beq_iff_eq] at h
  rw [h]
  rfl
set_option maxHeartbeats 1000000 in
theorem once_of {P : List Fun} (h : ∀ k, 1 ≤ k → k < 17 → ruleAt P k = none) : OnceP P := by
  have r2 := firstBad_pure (opt_none (h 2 (by omega) (by omega)))
  have r3 := once3 (opt_none (h 3 (by omega) (by omega)))
  have r4 : mainAt 0 P = none := h 4 (by omega) (by omega)
  have r6 := firstBad_pure (opt_none (h 6 (by omega) (by omega)))
  have r7 : firstBad step7 none (partsL P) = none := opt_none (h 7 (by omega) (by omega))
  have r9 := firstBad_pure (opt_none (h 9 (by omega) (by omega)))
  have r10 := firstBad_pure (opt_none (h 10 (by omega) (by omega)))
  have r12 : firstBad step12 none (partsL P) = none := opt_none (h 12 (by omega) (by omega))
  have r13 := firstBad_pure (opt_none (h 13 (by omega) (by omega)))
  have r14 := firstBad_pure (opt_none (h 14 (by omega) (by omega)))
  have r15 : firstBad step15 none (partsL P) = none := opt_none (h 15 (by omega) (by omega))
  have r16 : firstBad step16 none (partsL P) = none := opt_none (h 16 (by omega) (by omega))
  have hnd : (P.map (·.name)).Nodup := by rw [← fnN_parts]; exact r3.1
  have hname : ∀ d ∈ P, nameN P d.name = 1 := fun d hd => cnt_one (f := fun d : Fun => d.name) hnd (List.mem_map.2 ⟨d, hd, rfl⟩)
  have hl7 : ∀ d ∈ P, (d.blocks.map (·.label)).Nodup := fun d hd => by
    obtain ⟨f, hf⟩ := List.getElem?_of_mem hd
    obtain ⟨pre, post, e⟩ := parts_at hf
    rw [e] at r7
    have h1 := (firstBad_pre r7).2
    rw [firstBad_cons] at h1
    split at h1
    · cases h1
    · have h2 := (firstBad_pre (show firstBad step7 (some []) (bodyL f d ++ post) = none from h1)).1
      rw [← lblN_body f d]
      exact (once7 (fun x hx => body_noFn hx) h2).1
  have hl12 : ∀ d ∈ P, ∀ x ∈ d.blocks, ∀ c ∈ x.code, ∀ l ∈ c.labels, l ∈ d.blocks.map (·.label) := fun d hd x hx c hc l hl => by
    obtain ⟨f, hf⟩ := List.getElem?_of_mem hd
    obtain ⟨b, hb⟩ := List.getElem?_of_mem hx
    obtain ⟨i, hi⟩ := List.getElem?_of_mem hc
    obtain ⟨pre, post, e⟩ := parts_at hf
    rw [e] at r12
    have h1 := (firstBad_pre r12).2
    rw [firstBad_cons] at h1
    split at h1
    · cases h1
    · have h2 := (firstBad_pre (show firstBad step12 (some (labelsL d.blocks)) (bodyL f d ++ post) = none from h1)).1
      exact mem_labelsL.1 (all12 (fun x hx => body_noFn hx) h2 f b i d x c (in_ins hb hi) l hl)
  have hl16 : ∀ d ∈ P, ∀ x ∈ d.blocks, ∀ c ∈ x.code, ∀ l ∈ usesL c, l ∈ d.params ∨ l ∈ dstsL d := fun d hd x hx c hc l hl => by
    obtain ⟨f, hf⟩ := List.getElem?_of_mem hd
    obtain ⟨b, hb⟩ := List.getElem?_of_mem hx
    obtain ⟨i, hi⟩ := List.getElem?_of_mem hc
    obtain ⟨pre, post, e⟩ := parts_at hf
    rw [e] at r16
    have h1 := (firstBad_pre r16).2
    rw [firstBad_cons] at h1
    split at h1
    · cases h1
    · have h2 := (firstBad_pre (show firstBad step16 (some (varsL d)) (bodyL f d ++ post) = none from h1)).1
      exact mem_varsL.1 (all16 (fun x hx => body_noFn hx) h2 f b i d x c (in_ins hb hi) l hl)
  have hdef : ∀ d ∈ P, ∀ s : ByteArray, s.toList.isEmpty = false → (s ∈ d.params ∨ s ∈ dstsL d) → defN d s = 1 := fun d hd s hs hm => by
    obtain ⟨f, hf⟩ := List.getElem?_of_mem hd
    obtain ⟨pre, post, e⟩ := parts_at hf
    rw [e] at r15
    have h1 := (firstBad_pre r15).2
    rw [firstBad_cons] at h1
    split at h1
    · cases h1
    · rename_i hn
      obtain ⟨t1, -, t3⟩ := twice_no (l := []) (ks := d.params) (by simpa [step15] using hn)
      have h2 := (firstBad_pre (show firstBad step15 (some (twiceL [] d.params).2) (bodyL f d ++ post) = none from h1)).1
      obtain ⟨u1, u2⟩ := once15 (fun x hx => body_noFn hx) h2
      rw [dstN_body] at u1 u2
      exact def_one t1 u1 (fun y hy hp => u2 y hy ((t3 y).2 (.inr hp))) hs hm
  have hdst : ∀ d ∈ P, ∀ x ∈ d.blocks, ∀ c ∈ x.code, c.dst ∈ dstsL d := fun d _ x hx c hc => List.mem_flatMap.2 ⟨x, hx, List.mem_map.2 ⟨c, hc, rfl⟩⟩
  have hin : ∀ d ∈ P, ∀ x ∈ d.blocks, ∀ i c, x.code[i]? = some c → ∃ f b, Prt.ins f b i d x c ∈ partsL P := fun d hd x hx i c hc => by
    obtain ⟨f, hf⟩ := List.getElem?_of_mem hd
    obtain ⟨b, hb⟩ := List.getElem?_of_mem hx
    exact ⟨f, b, body_in hf (in_ins hb hc)⟩
  have hpar : ∀ d ∈ P, isName d.name = true ∧ ∀ s ∈ d.params, isName s = true := fun d hd => by
    obtain ⟨f, hf⟩ := List.getElem?_of_mem hd
    have := r2 _ (in_fn hf)
    simp only [bad2, Bool.or_eq_false_iff, Bool.not_eq_false'] at this
    exact ⟨this.1, List.all_eq_true.1 this.2⟩
  have huse : ∀ d ∈ P, ∀ x ∈ d.blocks, ∀ c ∈ x.code, ∀ s, s ∈ c.a :: c.b :: c.args → okU d s := fun d hd x hx c hc s hs => by
    by_cases h1 : s.toList.isEmpty = true
    · exact .inl h1
    by_cases h2 : isNull s = true
    · exact .inr (.inl h2)
    have hu : s ∈ usesL c := by
      unfold usesL
      rw [List.mem_filter]
      exact ⟨hs, by unfold usedB; simp [h1, h2]⟩
    exact .inr (.inr (hdef d hd s (by simpa using h1) (hl16 d hd x hx c hc s hu)))
  obtain ⟨dm, hdm, hm1, hm2⟩ := main_ok r4
  have hmn : ∀ d ∈ P, isMain d = true → d = dm := fun d hd hmd => by
    have e : d.name = dm.name := toList_inj (by
      unfold isMain at hm1 hmd
      rw [beq_iff_eq] at hm1 hmd
      rw [hm1, hmd])
    obtain ⟨i, hi⟩ := List.getElem?_of_mem hd
    obtain ⟨j, hj⟩ := List.getElem?_of_mem hdm
    obtain ⟨hi1, hi2⟩ := List.getElem?_eq_some_iff.1 hi
    obtain ⟨hj1, hj2⟩ := List.getElem?_eq_some_iff.1 hj
    have : i = j := (List.getElem_inj (h₀ := by simpa using hi1) (h₁ := by simpa using hj1) hnd).1 (by simp [hi2, hj2, e])
    subst this
    rw [← hi2, ← hj2]
  refine ⟨?_, fun d hd hmd => by rw [hmn d hd hmd]; exact hm2, fun d hd => ⟨(hpar d hd).1, hname d hd, ?_⟩, fun d hd x hx => ⟨?_, cnt_one (f := fun x : Blk => x.label) (hl7 d hd) (List.mem_map.2 ⟨x, hx, rfl⟩)⟩, fun d hd x hx i c hc => ?_, fun d hd x hx c hc hs => hdef d hd c.dst hs (.inr (hdst d hd x hx c hc)),
    fun d hd x hx c hc => ⟨huse d hd x hx c hc c.a (by simp), huse d hd x hx c hc c.b (by simp), fun a ha => ⟨huse d hd x hx c hc a (by simp [ha]), ?_⟩⟩,
    fun d hd x hx c hc l hl => cnt_one (f := fun x : Blk => x.label) (hl7 d hd) (hl12 d hd x hx c hc l hl), fun d hd x hx c hc => ?_, fun d hd s hs => hdef d hd s (name_ne ((hpar d hd).2 s hs)) (.inl hs)⟩
  · have : P.filter isMain = P.filter (fun d => decide (d.name = dm.name)) := List.filter_congr (fun d hd => by
      by_cases hmd : isMain d = true
      · rw [hmn d hd hmd, hm1]; simp
      · have : d.name ≠ dm.name := fun e => hmd (by unfold isMain at hm1 ⊢; rw [e]; exact hm1)
        simp [this, hmd])
    rw [this]
    exact hname dm hdm
  · obtain ⟨f, hf⟩ := List.getElem?_of_mem hd
    have := r6 _ (in_fn hf)
    simp only [bad6, Bool.or_eq_false_iff, decide_eq_false_iff_not] at this
    omega
  · obtain ⟨f, hf⟩ := List.getElem?_of_mem hd
    obtain ⟨b, hb⟩ := List.getElem?_of_mem hx
    have := r10 _ (body_in hf (in_blk hb))
    simp only [bad10, decide_eq_false_iff_not] at this
    omega
  · obtain ⟨f, b, hm⟩ := hin d hd x hx i c hc
    have := r10 _ hm
    simp only [bad10, bne_eq_false_iff_eq] at this
    exact this.symm
  · obtain ⟨i, hi⟩ := List.getElem?_of_mem hc
    obtain ⟨f, b, hm⟩ := hin d hd x hx i c hi
    have h9 := r9 _ hm
    have h2 := r2 _ hm
    have h9 : badFieldsB c = false := h9
    have h2 : badNamesB c = false := h2
    cases hs : shapeN c.op with
    | none => rw [badFieldsB_none hs] at h9; cases h9
    | some s =>
      rw [badFieldsB_some hs] at h9
      rw [badNamesB_some hs] at h2
      unfold badShp at h9
      unfold badNamesS at h2
      simp only [Bool.or_eq_false_iff, Bool.and_eq_false_iff] at h9 h2
      by_cases h0 : s.args = 0
      · have hz := h9.2.2.2.2.2.2.2.1
        rw [h0] at hz
        unfold misB at hz
        have : c.args.length = 0 := by
          rw [show ((0 : Int) != -1) = true from rfl, Bool.true_and, bne_eq_false_iff_eq] at hz
          omega
        rw [List.length_eq_zero_iff] at this
        rw [this] at ha
        cases ha
      · have hz := h2.2.2.2.resolve_left (by simpa using h0)
        exact operand_ne (List.all_eq_true.1 (by simpa using hz) a ha)
  · obtain ⟨i, hi⟩ := List.getElem?_of_mem hc
    obtain ⟨f, b, hm⟩ := hin d hd x hx i c hi
    have h13 : ((decide (c.op = 10) || decide (c.op = 4)) && !(arityF P c.fn).isSome) = false := r13 _ hm
    have h14 : (decide (c.op = 10) && ((arityF P c.fn).isSome && !decide ((arityF P c.fn).getD 0 = c.args.length))) = false := r14 _ hm
    have hsome : c.op = 10 ∨ c.op = 4 → ∃ d' ∈ P, d'.name = c.fn ∧ arityF P c.fn = some d'.params.length := fun ho => by
      have h0 : (decide (c.op = 10) || decide (c.op = 4)) = true := by simpa using ho
      rw [h0, Bool.true_and, Bool.not_eq_false'] at h13
      unfold arityF at h13 ⊢
      cases hf : P.find? (fun d => decide (d.name = c.fn)) with
      | none => rw [hf] at h13; cases h13
      | some d' => exact ⟨d', List.mem_of_find?_eq_some hf, of_decide_eq_true (List.find?_some (p := fun d : Fun => decide (d.name = c.fn)) hf), rfl⟩
    refine ⟨fun ho => ?_, fun ho => ?_⟩
    · obtain ⟨d', h1, h2, -⟩ := hsome ho
      rw [← h2]
      exact hname d' h1
    · obtain ⟨d', h1, h2, h3⟩ := hsome (.inl ho)
      rw [h3, ho] at h14
      have : d'.params.length = c.args.length := by simpa using h14
      unfold lastN
      rw [last_one hnd h1 h2, this]
end Go.Proofs.YtjblhiekccjdcaaR
