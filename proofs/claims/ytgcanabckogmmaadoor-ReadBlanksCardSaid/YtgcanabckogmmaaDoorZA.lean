/- Law, TabD, Tab, Read, LexM, ReadE, LexA, LexT, LexS, LexB. -/
import Derived.Test.YtgcanabckogmmaaDoorRows
import Derived.Test.YtgcanabckogmmaaDoorShelf
import Derived.ProofKit
import Derived.SizedLaws
import Derived.Below
import Derived.Maps.Views
import Derived.Maps.Own
import Derived.Maps.OwnSet
import Derived.Maps.AppendAt
import Derived.Laws.AppendOwnNone
import Derived.WalkKit
import Derived.Lib.Hide
import Derived.Defers
import Derived.Deep.Draws
import Derived.Recover
import Derived.Deep.Strs
import Derived.Deep.Slices
import Derived.Lib.Atoi
import Derived.DataReads
import Derived.WalkLawsBesides
import Derived.Deep.QuietTactic
import Derived.BigQuiet
import Derived.Outline
import Derived.Deep.LoopGhost
import Derived.Lib.SmallJoins
import Derived.Deep.RegionLaw
import Derived.Deep.AppendLies
namespace Go.Proofs.YtgcanabckogmmaaDoor
set_option linter.unusedVariables false
set_option linter.unusedSimpArgs false
section
open Go.RowKit Go.WideShapes Go.ChangeShapes Go.ChangeAt

section
variable {H : Type} {enc : TypeId × Value → H} {P : Program}

theorem all_stay {W W' : World} (hl : laidOutB P = true) (hb : Below W.heap.size W W') : ∀ {ts : List TypeId} {vs : List Value} {ds : List (DataW H)} {ps : List MemPlace},
    (∀ t ∈ ts, P.readableRec t = true ∧ t < P.types.size) → DataW.TrodAll enc P W 0 (fun _ => true) true ts vs ds ps → (∀ x ∈ ps, x.block < W.heap.size) →
    DataW.TrodAll enc P W' 0 (fun b => decide (b < W.heap.size)) true ts vs ds ps
  | [], vs, ds, ps, _, h, _ => by
    obtain ⟨rfl, rfl, rfl⟩ := trodAll_nil h
    rfl
  | t :: ts, vs, ds, ps, hts, h, hlt => by
    obtain ⟨v, vs', d, ds', p, q, rfl, rfl, rfl, h1, h2⟩ := trodAll_cons h
    have g := hts t (by simp)
    exact ⟨p, q, Below.trod hl g.1 g.2 h1 hb (fun x hx => hlt x (by simp [hx])), all_stay hl hb (fun u hu => hts u (by simp [hu])) h2 (fun x hx => hlt x (by simp [hx])), rfl⟩

theorem law_post {f : Func} {s : ChangeSpec} {W W' : World} {args : Array Value} {ds gs : List (DataW H)} {before : List MemPlace} {tb : TypeId} {apart : Bool}
    (hl : laidOutB P = true) (hts : ∀ t ∈ f.params.toList, P.readableRec t = true ∧ t < P.types.size) (hrt : f.resultTypes = #[tb]) (htb : P.underlying tb = some .bool) (hvars : s.vars = [])
    (hspec : ∀ ds : List (DataW H), ds.length = f.params.toList.length → s.fn H ds = { results := [.lit (.bool true)], args := ds })
    (hW : DataW.Whole enc P f.params.toList s.vars apart W args.toList ds gs before) (hb : Below W.heap.size W W') :
    s.post enc P f apart true false false W args (.bool true) W' := by
  have hlt : ∀ p ∈ before, p.block < W.heap.size := fun p hp => hW.lt p hp
  have hW0 := hW
  obtain ⟨p, q, hA, hV, rfl, _, _⟩ := hW0
  rw [hvars] at hV
  obtain ⟨rfl, rfl⟩ := trodVars_none hV
  have hlen : ∀ {ts : List TypeId} {vs : List Value} {ds : List (DataW H)} {ps : List MemPlace}, DataW.TrodAll enc P W 0 (fun _ => true) true ts vs ds ps → ds.length = ts.length := by
    intro ts
    induction ts with
    | nil => intro vs ds ps h; obtain ⟨_, rfl, _⟩ := trodAll_nil h; rfl
    | cons t ts ih => intro vs ds ps h; obtain ⟨_, _, _, _, _, _, _, rfl, _, _, h2⟩ := trodAll_cons h; simp [ih h2]
  have hs := hspec ds (hlen hA)
  refine ⟨ds, [], p ++ [], [], p, [], hW, ?_, ?_, ?_, World.keptBut_mono (fun x hx => ⟨hx, Or.inr (Or.inl (by simpa using hx))⟩) (hb.frame (· ∈ p ++ [])), fun h => by cases h⟩
  · rw [List.append_nil, hs, hrt]
    exact trodAll_mk1 (shut_bool htb _)
  · rw [List.append_nil, hs]
    exact all_stay hl hb hts hA (fun x hx => hlt x (by simp [hx]))
  · rw [List.append_nil, hs, hvars]
    rfl

/-- The walk's contract lifted to the row's form. -/
theorem law_lifted {C : Checked} {os : Os} {f : FuncId} {fn : Func} {s : ChangeSpec} {tb : TypeId} {apart : Bool}
    (own : ownKnob C.prog.godebug = none) (started : os.Started) (noInit : C.prog.inits.idxOf? f = none) (hfn : C.prog.funcs[f]? = some fn)
    (witness : ∃ (w : World) (tape : Tape) (i : Input), w.os = os ∧ (w.forCall tape i).Shaped C.prog ∧ i.vars = [] ∧ Input.okWide C.prog (w.forCall tape i) .any w.heap.size f i ∧
      s.pre6 enc C.prog fn [] apart (w.forCall tape i).memory i.args ∧ Assume.holds {} C.prog (lone (Frame.enter C.prog f i.args .normal) [] (w.forCall tape i)))
    (hl : laidOutB C.prog = true) (hts0 : (fn.params.toList.all fun t => C.prog.readableRec t && decide (t < C.prog.types.size)) = true) (hrt : fn.resultTypes = #[tb]) (htb : C.prog.underlying tb = some .bool) (hvars : s.vars = [])
    (hspec : ∀ ds : List (DataW H), ds.length = fn.params.toList.length → s.fn H ds = { results := [.lit (.bool true)], args := ds })
    (contract : ∀ (W : World) (base : Nat) (args : Array Value) (ds : List (DataW H)) (before : List MemPlace),
      (∀ (j : Nat) t v, fn.params[j]? = some t → args[j]? = some v → Value.okWide C.prog W .any base t v) →
      DataW.TrodAll enc C.prog W 0 (fun _ => true) true fn.params.toList args.toList ds before →
      (∀ p ∈ before, p.block < W.heap.size) →
      (DataW.weightsEach C.prog fn.params.toList ds).all (· ≤ reachBytes) = true →
      Calls C.prog f args W fun e W' => e = .returned (.bool true) ∧ Below W.heap.size W W') :
    ReturnsInHanded {} C os f .any (s.pre6 enc C.prog fn [] apart) (s.post enc C.prog fn apart true false false) := by
  have hts : ∀ t ∈ fn.params.toList, C.prog.readableRec t = true ∧ t < C.prog.types.size := fun t ht => by simpa using List.all_eq_true.1 hts0 t ht
  refine returnsInHanded_of_change_sized own started noInit hfn witness ?_
  intro W base args ds gs before hval hW _ hsz _
  have hlt : ∀ p ∈ before, p.block < W.heap.size := fun p hp => hW.lt p hp
  have hW0 := hW
  obtain ⟨p, q, hA, hV, rfl, _, _⟩ := hW0
  rw [hvars] at hV
  obtain ⟨rfl, rfl⟩ := trodVars_none hV
  have hvt : s.plain.varTypes C.prog = [] := by
    have : s.plain.vars = [] := hvars
    simp [DataSpec.varTypes, this]
  rw [hvt, List.append_nil, List.append_nil] at hsz
  refine (contract W base args ds p hval hA (fun x hx => hlt x (by simp [hx])) hsz).mono fun e W' ⟨he, hb⟩ => ?_
  exact ⟨.bool true, he, law_post hl hts hrt htb hvars hspec hW hb⟩

end
end
section
open Go.Maps

theorem snoc_ind {α : Type} {Q : List α → Prop} (h0 : Q []) (h1 : ∀ l x, Q l → Q (l ++ [x])) (l : List α) : Q l := by
  have h : ∀ r : List α, Q r.reverse := by
    intro r
    induction r with
    | nil => exact h0
    | cons x r ih => rw [List.reverse_cons]; exact h1 _ _ ih
  have := h l.reverse
  rwa [List.reverse_reverse] at this

section
variable {H : Type}

def num (i : Nat) : DataW H := .lit (.int .i64 i)

/-- The datum of a table with the keys ls. -/
def tabD (ls : List Lit) : DataW H := (ls.foldl (fun (m : DataW H × Nat) x => (m.1.put x (num m.2), m.2 + 1)) (.map [], 0)).1

theorem tab_count (ls : List Lit) : ∀ (m : DataW H) (n : Nat), (ls.foldl (fun (m : DataW H × Nat) x => (m.1.put x (num m.2), m.2 + 1)) (m, n)).2 = n + ls.length := by
  induction ls with
  | nil => intro m n; rfl
  | cons x r ih => intro m n; simp only [List.foldl_cons, ih, List.length_cons]; omega

theorem tabD_nil : tabD (H := H) [] = .map [] := rfl

theorem tabD_snoc (ls : List Lit) (x : Lit) : tabD (H := H) (ls ++ [x]) = (tabD ls).put x (num ls.length) := by
  unfold tabD
  rw [List.foldl_append, List.foldl_cons, List.foldl_nil, tab_count, Nat.zero_add]

theorem isMap_tabD (ls : List Lit) : IsMap (tabD (H := H) ls) := by
  refine snoc_ind (Q := fun ls => IsMap (tabD (H := H) ls)) isMap_empty (fun l x h => ?_) ls
  rw [tabD_snoc]
  exact h.put _ _

theorem has_tabD (ls : List Lit) (hk : ∀ x ∈ ls, WideAt.IsKeyLit x) (k : Lit) : has (tabD (H := H) ls) k = true ↔ k ∈ ls := by
  refine snoc_ind (Q := fun ls => (∀ x ∈ ls, WideAt.IsKeyLit x) → (has (tabD (H := H) ls) k = true ↔ k ∈ ls)) (fun _ => by simp [tabD_nil, Maps.has]) (fun l x ih hk => ?_) ls hk
  rw [tabD_snoc]
  by_cases hx : k = x
  · subst hx
    rw [has_put_same (isMap_tabD l) (hk k (by simp))]
    simp
  · rw [has_put_other hx, ih (fun y hy => hk y (by simp [hy]))]
    simp [hx]

theorem has_tabD_in {ls : List Lit} (hk : ∀ x ∈ ls, WideAt.IsKeyLit x) {k : Lit} (h : k ∈ ls) : has (tabD (H := H) ls) k = true := (has_tabD ls hk k).2 h
theorem has_tabD_out {ls : List Lit} (hk : ∀ x ∈ ls, WideAt.IsKeyLit x) {k : Lit} (h : k ∉ ls) : has (tabD (H := H) ls) k = false := by
  cases e : has (tabD (H := H) ls) k
  · rfl
  · exact absurd ((has_tabD ls hk k).1 e) h

theorem at_tabD (ls : List Lit) (hk : ∀ x ∈ ls, WideAt.IsKeyLit x) (hn : ls.Nodup) (k : Lit) (z : DataW H) : ∀ i, ls[i]? = some k → (tabD (H := H) ls).atKey k z = num i := by
  refine snoc_ind (Q := fun ls => (∀ x ∈ ls, WideAt.IsKeyLit x) → ls.Nodup → ∀ i, ls[i]? = some k → (tabD (H := H) ls).atKey k z = num i) (fun _ _ i h => by simp at h) (fun l x ih hk hn i h => ?_) ls hk hn
  rw [tabD_snoc]
  rw [List.nodup_append] at hn
  obtain ⟨hn1, _, hn2⟩ := hn
  by_cases hx : k = x
  · subst hx
    have hi : i = l.length := by
      rcases Nat.lt_or_ge i l.length with h2 | h2
      · rw [List.getElem?_append_left h2] at h
        exact absurd rfl (hn2 k (List.mem_of_getElem? h) k (by simp))
      · rw [List.getElem?_append_right h2] at h
        have := (List.getElem?_eq_some_iff.1 h).1
        simp at this
        omega
    rw [atKey_put_same (isMap_tabD l) (hk k (by simp)), hi]
  · rw [atKey_put_other hx]
    refine ih (fun y hy => hk y (by simp [hy])) hn1 i ?_
    rcases Nat.lt_or_ge i l.length with h2 | h2
    · rwa [List.getElem?_append_left h2] at h
    · rw [List.getElem?_append_right h2] at h
      have h3 := (List.getElem?_eq_some_iff.1 h).1
      simp at h3
      have h4 : i - l.length = 0 := by omega
      rw [h4] at h
      simp at h
      exact absurd h.symm hx

end
end
section
open Go.RowKit Go.Maps

theorem or_map {a b c d : Prop} (h : a ∨ b) (f : a → c) (g : b → d) : c ∨ d := h.elim (fun x => Or.inl (f x)) (fun x => Or.inr (g x))

/-- All blocks that were there, but those of S, are as they were. -/
structure Touch (w w' : World) (S : Nat → Prop) : Prop where
  os : w'.os = w.os
  tape : w'.tape = w.tape
  output : w'.output = w.output
  size : w.heap.size ≤ w'.heap.size
  block : ∀ k, k < w.heap.size → ¬ S k → w'.heap[k]? = w.heap[k]?

theorem Touch.refl (w : World) (S : Nat → Prop) : Touch w w S := ⟨rfl, rfl, rfl, Nat.le_refl _, fun _ _ _ => rfl⟩
theorem Touch.mono {w w' : World} {S S' : Nat → Prop} (h : Touch w w' S) (hs : ∀ k, k < w.heap.size → S k → S' k) : Touch w w' S' := ⟨h.os, h.tape, h.output, h.size, fun k hk hn => h.block k hk (fun s => hn (hs k hk s))⟩
theorem Touch.trans {a b c : World} {S : Nat → Prop} (h : Touch a b S) (g : Touch b c S) : Touch a c S :=
  ⟨g.os.trans h.os, g.tape.trans h.tape, g.output.trans h.output, Nat.le_trans h.size g.size, fun k hk hn => (g.block k (Nat.lt_of_lt_of_le hk h.size) hn).trans (h.block k hk hn)⟩
theorem Touch.below {w w' : World} {S : Nat → Prop} (h : Touch w w' S) {B : Nat} (hB : B ≤ w.heap.size) (hs : ∀ k, k < B → ¬ S k) : Below B w w' := ⟨h.os, h.tape, h.output, h.size, fun k hk => h.block k (Nat.lt_of_lt_of_le hk hB) (hs k hk)⟩
theorem Touch.of_below {w w' : World} (h : Below w.heap.size w w') (S : Nat → Prop) : Touch w w' S := ⟨h.os, h.tape, h.output, h.size, fun k hk _ => h.block k hk⟩
theorem Touch.of_grown {w w' : World} {row : Option Nat} (h : w.grownBy w' row) {S : Nat → Prop} (hs : ∀ k, row = some k → S k) : Touch w w' S :=
  ⟨h.os, h.tape, h.output, h.size, fun k hk hn => h.block k hk (fun e => hn (hs k e.symm))⟩
theorem Touch.alloc {w w' : World} {S : Nat → Prop} (h : Touch w w' S) (o : Obj) : Touch w (w'.alloc o) S :=
  ⟨h.os, h.tape, h.output, Nat.le_trans h.size (by simp), fun k hk hn => (Below.heap_alloc w' o k (Nat.lt_of_lt_of_le hk h.size)).trans (h.block k hk hn)⟩
theorem Touch.setCell {w w' : World} {S : Nat → Prop} (h : Touch w w' S) {a : Addr} (ha : a.block < w.heap.size → S a.block) (u : Value) : Touch w (w'.setCell a u) S :=
  ⟨h.os, h.tape, h.output, by simpa using h.size, fun k hk hn => (Below.heap_setCell w' a u k (fun e => hn (by subst e; exact ha hk))).trans (h.block k hk hn)⟩
theorem Touch.drew {w w' : World} {S : Nat → Prop} (h : Touch w w' S) : Touch w w'.drew S := ⟨h.os, h.tape, h.output, h.size, h.block⟩

theorem blk_set {w : World} {b i : Nat} {cs : Array Value} {S : TypeId} {fr : Nat × Nat} (v : Value) (h : w.heap[b]? = some (.cells cs S fr)) :
    (w.setCell ⟨b, i, none⟩ v).heap[b]? = some (.cells (cs.setIfInBounds i v) S fr) := by
  simp [World.setCell, Array.getElem?_modify, h]
theorem blk_cell {w : World} {b : Nat} {cs : Array Value} {S : TypeId} {fr : Nat × Nat} (h : w.heap[b]? = some (.cells cs S fr)) (i : Nat) : w.cell? ⟨b, i, none⟩ = cs[i]? := by
  simp [World.cell?, h]

theorem row_form {w : World} {base : Nat} {e : TypeId} {size : Nat} {v : Value} {n : Nat} {xs : List Value} (h : w.ownsRow base e size v n xs) (hn : 0 < n) : ∃ g cap, v = .slice (some ⟨g, 0, none⟩) n cap := by
  rcases h.2 with ⟨_, h0⟩ | ⟨g, cap, cur, e1, _⟩
  · omega
  · exact ⟨g, cap, e1⟩

instance decBytes : DecidableEq ByteArray := fun a b => decidable_of_iff (a.data = b.data) ⟨fun h => ByteArray.ext h, fun h => h ▸ rfl⟩

theorem add0 (g i : Nat) : (⟨g, 0, none⟩ : Addr).add i = ⟨g, i, none⟩ := by
  unfold Addr.add
  split <;> simp_all

/-- A slice that reads as the cells xs (one cell an element). -/
def Rd (w : World) (s : Value) (xs : List Value) : Prop :=
  (xs = [] ∧ (s = .slice none 0 0 ∨ ∃ a c, s = .slice (some a) 0 c)) ∨ ∃ b off cap, s = .slice (some ⟨b, off, none⟩) xs.length cap ∧ b < w.heap.size ∧ ∀ i u, xs[i]? = some u → w.cell? ⟨b, off + i, none⟩ = some u

theorem Rd.form {w : World} {s : Value} {xs : List Value} (h : Rd w s xs) : ∃ a c, s = .slice a xs.length c := by
  rcases h with ⟨rfl, rfl | ⟨a, c, rfl⟩⟩ | ⟨b, off, cap, rfl, _⟩
  · exact ⟨none, 0, rfl⟩
  · exact ⟨some a, c, rfl⟩
  · exact ⟨_, cap, rfl⟩

theorem Rd.below {w w' : World} {s : Value} {xs : List Value} (h : Rd w s xs) (hb : Below w.heap.size w w') : Rd w' s xs := by
  refine or_map h id ?_
  rintro ⟨b, off, cap, e, hlt, hc⟩
  exact ⟨b, off, cap, e, Nat.lt_of_lt_of_le hlt hb.size, fun i u hu => (hb.cell (p := ⟨b, off + i, none⟩) hlt).trans (hc i u hu)⟩

/-- .. and an element of it is where it is. -/
theorem Rd.at {w : World} {s : Value} {xs : List Value} (h : Rd w s xs) {i : Nat} {u : Value} (hi : xs[i]? = some u) : ∃ b off cap, s = .slice (some ⟨b, off, none⟩) xs.length cap ∧ b < w.heap.size ∧ w.cell? ⟨b, off + i, none⟩ = some u := by
  rcases h with ⟨rfl, _⟩ | ⟨b, off, cap, e, hlt, hc⟩
  · simp at hi
  · exact ⟨b, off, cap, e, hlt, hc i u hi⟩

theorem ownsRow_touch {w w' : World} {base : Nat} {e : TypeId} {size : Nat} {v : Value} {n : Nat} {xs : List Value} {S : Nat → Prop} (h : w.ownsRow base e size v n xs) (ht : Touch w w' S) (hd : ∀ b, v.ownBlock = some b → ¬ S b) : w'.ownsRow base e size v n xs := by
  obtain ⟨h1, h2⟩ := h
  refine ⟨h1, or_map h2 id ?_⟩
  rintro ⟨g, cap, cur, rfl, h3, h4, h5⟩
  exact ⟨g, cap, cur, rfl, h3, (ht.block g (Array.getElem?_eq_some_iff.1 h4).1 (hd g rfl)).trans h4, h5⟩

/-- append, of a slice that reads as news (nil included), onto a slice of the call's own: 'wpList_append_own_at' and its twin at nil in one. -/
theorem wpList_append_rd {P : Program} {ops : Array Oper} {rest : List Oper} {o : Oper} {a : Act} {Q : Exit → Act → World → Prop} (w : World) (hgd : o.guard = none) (s x : Operand) (t : TypeId)
    (ho : o.op = .call { callee := .builtin .append, args := #[s, x], argTypes := #[t, t] })
    (base : Nat) (e : TypeId) (i : TypeInfo) (z : Value) (bytes : Nat) (ht : P.underlying t = some (.slice e)) (hi : P.info? e = some i) (hz : i.zero = some z)
    (hsize : i.size = 1) (hby : i.bytes = bytes) (hzs : z.cells.size = 1)
    (v : Value) (n : Nat) (xs : List Value) (hs : a.eval s = v) (hown : w.ownsRow base e 1 v n xs)
    (sv : Value) (news : List Value) (hx : a.eval x = sv) (hrd : Rd w sv news) (h1 : ∀ u ∈ news, u.oneCell' = true)
    (h63 : n + news.length ≤ maxLen) (hbytes : (n + news.length) * bytes ≤ 140737488355328) (hbase : base ≤ w.heap.size)
    (h : ∀ v' w', w'.ownsRow base e 1 v' (n + news.length) (xs ++ news) → w.grownBy w' v.ownBlock → (v'.ownBlock = v.ownBlock ∨ v'.ownBlock = some w.heap.size) → wpList P ops Q rest (a.put o.dst v') w') :
    wpList P ops Q (o :: rest) a w := by
  rcases hrd with ⟨rfl, rfl | ⟨ad, c, rfl⟩⟩ | ⟨b, off, cap, rfl, hlt, hc⟩
  · exact wpList_append_own_none (w := w) hgd s x t ho base e i 1 ht hi v n xs hs hown hx (h v w (by simpa using hown) (World.grownBy.refl w _) (Or.inl rfl))
  · exact wpList_append_own_at w hgd s x t ho base e i z 1 bytes ht hi hz hsize hby hzs (by decide) v n xs hs hown ad 0 c [] hx rfl (by simp) h1 h63 hbytes hbase (fun v' w' h2 h3 _ h4 => h v' w' h2 h3 h4)
  · exact wpList_append_own_at w hgd s x t ho base e i z 1 bytes ht hi hz hsize hby hzs (by decide) v n xs hs hown ⟨b, off, none⟩ news.length cap news hx (by simp) (fun j u hj => by
      have e2 : (⟨b, off, none⟩ : Addr).add j = ⟨b, off + j, none⟩ := by
        unfold Addr.add
        split <;> simp_all
      rw [e2]; exact hc j u hj) h1 h63 hbytes hbase (fun v' w' h2 h3 _ h4 => h v' w' h2 h3 h4)

/-- THE TABLE: a struct in block sb (a map in block bm, a slice v of the keys), in a world w; K the key's type, E its elements' integers, S the struct; a key reads as lit, lies as flat; the slice's row lies at B or behind. -/
structure Tab {κ : Type} (P : Program) (K E S : TypeId) (size : Nat) (flat : κ → List Value) (lit : κ → Lit) (A B : Nat) (w : World) (sb bm : Nat) (v : Value) (ks : List κ) : Prop where
  blk : w.heap[sb]? = some (.cells #[.map (some bm), v] S (0, 0))
  map : w.ownsMap P K (plainElem (H := Unit) P E) bm ks.length (tabD (ks.map lit))
  row : w.ownsRow B K size v ks.length (ks.flatMap flat)
  sbA : A ≤ sb
  bmA : A ≤ bm
  sbB : sb < B
  bmB : bm < B
  ne : sb ≠ bm
  top : B ≤ w.heap.size
  nodup : (ks.map lit).Nodup

/-- The blocks that a table has. -/
def Own (sb bm : Nat) (v : Value) (k : Nat) : Prop := k = sb ∨ k = bm ∨ v.ownBlock = some k

section
variable {κ : Type} {P : Program} {K E S : TypeId} {size : Nat} {flat : κ → List Value} {lit : κ → Lit} {A B : Nat} {w : World} {sb bm : Nat} {v : Value} {ks : List κ}

theorem Tab.c0 (T : Tab P K E S size flat lit A B w sb bm v ks) : w.cell? ⟨sb, 0, none⟩ = some (.map (some bm)) := by simp [World.cell?, T.blk]
theorem Tab.c1 (T : Tab P K E S size flat lit A B w sb bm v ks) : w.cell? ⟨sb, 1, none⟩ = some v := by simp [World.cell?, T.blk]
theorem Tab.f0 (T : Tab P K E S size flat lit A B w sb bm v ks) (i : Nat) : w.frozen? ⟨sb, i, none⟩ = false := by simp [World.frozen?, T.blk]
theorem Tab.lt (T : Tab P K E S size flat lit A B w sb bm v ks) : ∀ k, Own sb bm v k → k < w.heap.size := by
  rintro k (rfl | rfl | h)
  · exact (Array.getElem?_eq_some_iff.1 T.blk).1
  · exact T.map.lt
  · exact (T.row.lt k h).2
theorem Tab.low (T : Tab P K E S size flat lit A B w sb bm v ks) : ∀ k, Own sb bm v k → A ≤ k := by
  rintro k (rfl | rfl | h)
  · exact T.sbA
  · exact T.bmA
  · exact Nat.le_trans T.sbA (Nat.le_trans (Nat.le_of_lt T.sbB) (T.row.lt k h).1)

/-- A table stays what it is where none of its blocks turns. -/
theorem Tab.kept {w' : World} {Q : Nat → Prop} (T : Tab P K E S size flat lit A B w sb bm v ks) (h : Touch w w' Q) (hd : ∀ k, Own sb bm v k → ¬ Q k) : Tab P K E S size flat lit A B w' sb bm v ks := by
  have hb : ∀ k, Own sb bm v k → w'.heap[k]? = w.heap[k]? := fun k hk => h.block k (T.lt k hk) (hd k hk)
  refine ⟨(hb sb (Or.inl rfl)).trans T.blk, ?_, ?_, T.sbA, T.bmA, T.sbB, T.bmB, T.ne, Nat.le_trans T.top h.size, T.nodup⟩
  · obtain ⟨es, clock, h1, h2⟩ := T.map
    exact ⟨es, clock, (hb bm (Or.inr (Or.inl rfl))).trans h1, h2⟩
  · obtain ⟨h1, h2⟩ := T.row
    refine ⟨h1, or_map h2 id ?_⟩
    rintro ⟨g, cap, cur, rfl, h3, h4, h5⟩
    exact ⟨g, cap, cur, rfl, h3, (hb g (Or.inr (Or.inr rfl))).trans h4, h5⟩

theorem Tab.form (T : Tab P K E S size flat lit A B w sb bm v ks) : ∃ a cap, v = .slice a ks.length cap := by
  rcases T.row.2 with ⟨rfl, h⟩ | ⟨g, cap, cur, rfl, _⟩
  · exact ⟨none, 0, by rw [h]⟩
  · exact ⟨_, cap, rfl⟩

/-- A world in which a map has turned and one cell of a struct was stored, put together to the table with one key more. -/
theorem Tab.more {w' : World} {v' : Value} {k : κ} (T : Tab P K E S size flat lit A B w sb bm v ks) (hnew : lit k ∉ ks.map lit)
    (hblk : w'.heap[sb]? = some (.cells #[.map (some bm), v'] S (0, 0)))
    (hmap : w'.ownsMap P K (plainElem (H := Unit) P E) bm (ks.length + 1) ((tabD (ks.map lit)).put (lit k) (num ks.length)))
    (hrow : w'.ownsRow B K size v' (ks.length + 1) (ks.flatMap flat ++ flat k)) (hs : w.heap.size ≤ w'.heap.size) : Tab P K E S size flat lit A B w' sb bm v' (ks ++ [k]) := by
  refine ⟨hblk, ?_, ?_, T.sbA, T.bmA, T.sbB, T.bmB, T.ne, Nat.le_trans T.top hs, ?_⟩
  · rw [List.map_append, List.map_cons, List.map_nil, tabD_snoc, List.length_append, List.length_map]
    exact hmap
  · rw [List.flatMap_append, List.length_append, List.flatMap_cons, List.flatMap_nil, List.append_nil]
    exact hrow
  · rw [List.map_append, List.map_cons, List.map_nil, List.nodup_append]
    refine ⟨T.nodup, by simp, fun a ha b hb => ?_⟩
    simp at hb
    subst hb
    exact fun e => hnew (e ▸ ha)

theorem Tab.mono {A' : Nat} (T : Tab P K E S size flat lit A B w sb bm v ks) (h : A' ≤ A) : Tab P K E S size flat lit A' B w sb bm v ks :=
  ⟨T.blk, T.map, T.row, Nat.le_trans h T.sbA, Nat.le_trans h T.bmA, T.sbB, T.bmB, T.ne, T.top, T.nodup⟩

theorem Tab.drewN (T : Tab P K E S size flat lit A B w sb bm v ks) (n : Nat) : Tab P K E S size flat lit A B (w.drewN n) sb bm v ks :=
  T.kept (Q := fun _ => False) ⟨rfl, rfl, rfl, Nat.le_refl _, fun _ _ _ => rfl⟩ (fun _ _ h => h)

theorem Tab.fresh (P : Program) (K E S : TypeId) (size : Nat) (flat : κ → List Value) (lit : κ → Lit) (w : World) :
    Tab P K E S size flat lit w.heap.size (w.heap.size + 2) ((w.alloc (.map #[] 0)).alloc (.cells #[.map (some w.heap.size), .slice none 0 0] S)) (w.heap.size + 1) w.heap.size (.slice none 0 0) [] ∧
      Below w.heap.size w ((w.alloc (.map #[] 0)).alloc (.cells #[.map (some w.heap.size), .slice none 0 0] S)) := by
  refine ⟨⟨by have := heap_alloc_new (w.alloc (.map #[] 0)) (.cells #[.map (some w.heap.size), .slice none 0 0] S); rwa [World.size_alloc] at this, ?_, World.ownsRow_nil _ _ _ _, by omega, by omega, by omega, by omega, by omega, by simp, List.nodup_nil⟩, ((Below.refl _ _).alloc (Nat.le_refl _) _).alloc (by simp) _⟩
  rw [List.map_nil, tabD_nil]
  exact (World.ownsMap_made w P K _).alloc _

/-- Made by this call: a table in new blocks, and all old blocks as they were. -/
def Made (P : Program) (K E S : TypeId) (size : Nat) (flat : κ → List Value) (lit : κ → Lit) (A B : Nat) (w w' : World) (sb bm : Nat) (ks : List κ) : Prop :=
  ∃ v, Tab P K E S size flat lit A B w' sb bm v ks ∧ Below A w w'

end

section
variable {κ : Type} [DecidableEq κ]
theorem Touch.drewN (w : World) (n : Nat) (S : Nat → Prop) : Touch w (w.drewN n) S := ⟨rfl, rfl, rfl, Nat.le_refl _, fun _ _ _ => rfl⟩
theorem Rd.touch {w w' : World} {s : Value} {xs : List Value} {S : Nat → Prop} (h : Rd w s xs) (ht : Touch w w' S) (hd : ∀ b, s.ownBlock = some b → ¬ S b) : Rd w' s xs := by
  refine or_map h id ?_
  rintro ⟨b, off, cap, rfl, hlt, hc⟩
  exact ⟨b, off, cap, rfl, Nat.lt_of_lt_of_le hlt ht.size, fun i u hu => (World.cell?_of_block (w := w) (ht.block b hlt (hd b rfl))).trans (hc i u hu)⟩
theorem below_drawn {B : Nat} {a w : World} (h : Below B a w) (n : Nat) : Below B a (w.drewN n) := h.trans ⟨rfl, rfl, rfl, Nat.le_refl _, fun _ _ => rfl⟩

/-- The keys that a list has, each where it came first. -/
def keysOf (ss : List κ) : List κ := ss.foldl (fun acc k => if k ∈ acc then acc else acc ++ [k]) []
theorem keysOf_snoc (ss : List κ) (k : κ) : keysOf (ss ++ [k]) = if k ∈ keysOf ss then keysOf ss else keysOf ss ++ [k] := by
  unfold keysOf
  rw [List.foldl_append, List.foldl_cons, List.foldl_nil]
theorem keysOf_len (ss : List κ) : (keysOf ss).length ≤ ss.length := by
  refine snoc_ind (Q := fun ss => (keysOf ss).length ≤ ss.length) (Nat.le_refl _) (fun l x ih => ?_) ss
  rw [keysOf_snoc]
  split <;> simp <;> omega
theorem mem_keysOf (ss : List κ) (k : κ) : k ∈ keysOf ss ↔ k ∈ ss := by
  refine snoc_ind (Q := fun ss => k ∈ keysOf ss ↔ k ∈ ss) (by simp [keysOf]) (fun l x ih => ?_) ss
  rw [keysOf_snoc]
  by_cases h : x ∈ keysOf l
  · rw [if_pos h, List.mem_append, List.mem_singleton, ih]
    constructor
    · exact Or.inl
    · rintro (h1 | rfl)
      · exact h1
      · exact ih.1 h
  · rw [if_neg h, List.mem_append, List.mem_append, ih]
theorem nodup_keysOf (ss : List κ) : (keysOf ss).Nodup := by
  refine snoc_ind (Q := fun ss => (keysOf ss).Nodup) (by simp [keysOf]) (fun l x ih => ?_) ss
  rw [keysOf_snoc]
  by_cases h : x ∈ keysOf l
  · rw [if_pos h]; exact ih
  · rw [if_neg h, List.nodup_append]
    refine ⟨ih, by simp, fun a ha b hb e => ?_⟩
    simp at hb
    subst hb; subst e
    exact h ha
theorem keysOf_nodup (ss : List κ) (h : ss.Nodup) : keysOf ss = ss := by
  refine snoc_ind (Q := fun ss => ss.Nodup → keysOf ss = ss) (fun _ => rfl) (fun l x ih h => ?_) ss h
  rw [List.nodup_append] at h
  rw [keysOf_snoc, ih h.1, if_neg]
  exact fun hx => h.2.2 x hx x (by simp) rfl

/-- A list with a key that it may lack. -/
def plus (ks : List κ) (k : κ) : List κ := if k ∈ ks then ks else ks ++ [k]
theorem plus_in {ks : List κ} {k : κ} (h : k ∈ ks) : plus ks k = ks := if_pos h
theorem plus_out {ks : List κ} {k : κ} (h : k ∉ ks) : plus ks k = ks ++ [k] := if_neg h
theorem plus_len (ks : List κ) (k : κ) : (plus ks k).length ≤ ks.length + 1 := by
  unfold plus
  split <;> simp

/-- A key's place. -/
def place (ks : List κ) (k : κ) : Nat := ks.findIdx (fun x => decide (x = k))
theorem place_lt {ks : List κ} {k : κ} (h : k ∈ ks) : place ks k < ks.length := List.findIdx_lt_length_of_exists ⟨k, h, by simp⟩
theorem place_get {ks : List κ} {k : κ} (h : k ∈ ks) : ks[place ks k]? = some k := by
  have h1 := place_lt h
  have h2 : decide (ks[place ks k] = k) = true := List.findIdx_getElem (p := fun x => decide (x = k)) (xs := ks) (w := h1)
  rw [List.getElem?_eq_getElem h1]
  exact congrArg some (of_decide_eq_true h2)
theorem place_first {ks : List κ} {k : κ} {j : Nat} (h : ks[j]? = some k) (hf : ∀ t, t < j → ks[t]? ≠ some k) : place ks k = j := by
  have hg := place_get (List.mem_of_getElem? h)
  rcases Nat.lt_trichotomy (place ks k) j with h1 | h1 | h1
  · exact absurd hg (hf _ h1)
  · exact h1
  · have h2 := List.not_of_lt_findIdx (p := fun x => decide (x = k)) (xs := ks) h1
    obtain ⟨hlt, e⟩ := List.getElem?_eq_some_iff.1 h
    simp [e] at h2
theorem place_new {ks : List κ} {k : κ} (h : k ∉ ks) : place (ks ++ [k]) k = ks.length := by
  unfold place
  rw [List.findIdx_append, if_neg]
  · simp
  · have : ks.findIdx (fun x => decide (x = k)) = ks.length := List.findIdx_eq_length.2 (fun x hx => by simp; rintro rfl; exact h hx)
    omega
theorem place_of {ks : List κ} {k : κ} {i : Nat} (hn : ks.Nodup) (h : ks[i]? = some k) : place ks k = i := by
  have hm := List.mem_of_getElem? h
  exact ((List.getElem?_inj (place_lt hm) hn).1 ((place_get hm).trans h.symm))
theorem keysOf_app (a b : List κ) : ∃ t, keysOf (a ++ b) = keysOf a ++ t := by
  refine snoc_ind (Q := fun b => ∃ t, keysOf (a ++ b) = keysOf a ++ t) ⟨[], by simp⟩ (fun l x ih => ?_) b
  obtain ⟨t, ht⟩ := ih
  rw [← List.append_assoc, keysOf_snoc]
  split
  · exact ⟨t, ht⟩
  · exact ⟨t ++ [x], by rw [ht, List.append_assoc]⟩
theorem place_app {a b : List κ} {k : κ} (h : k ∈ a) : place (keysOf a) k = place (keysOf (a ++ b)) k := by
  obtain ⟨t, ht⟩ := keysOf_app a b
  have hk : k ∈ keysOf a := (mem_keysOf a k).2 h
  refine (place_of (nodup_keysOf _) ?_).symm
  rw [ht, List.getElem?_append_left (place_lt hk)]
  exact place_get hk
theorem place_inj {ks : List κ} {x y : κ} (hx : x ∈ ks) (hy : y ∈ ks) (h : place ks x = place ks y) : x = y := by
  have h1 := place_get hx
  rw [h, place_get hy] at h1
  exact (Option.some.inj h1).symm
end

theorem take_snoc {α : Type} {l : List α} {j : Nat} {x : α} (h : l[j]? = some x) : l.take (j + 1) = l.take j ++ [x] := by
  obtain ⟨hlt, e⟩ := List.getElem?_eq_some_iff.1 h
  rw [List.take_succ_eq_append_getElem hlt, e]
end
section
open Go.RowKit Go.WideShapes Go.ChangeShapes Go.ChangeAt Go.Deep

section
variable {H : Type} {enc : TypeId × Value → H} {P : Program} {w : World}

theorem spot_none {a : Addr} {v : Value} (h : w.cell? a = some v) : a.spot = none := by
  obtain ⟨b, o, s⟩ := a
  cases s with
  | none => rfl
  | some s =>
    simp only [World.cell?, Option.isSome_some, if_true] at h
    split at h <;> cases h

/-- A slice that came in, one cell an element. -/
theorem rd_of {v : Value} {a : Addr} {len cap m : Nat} {X : Nat → Value} (hv : v = .slice (some a) len cap) (hm : len ≤ m) (h : ∀ i, i < m → w.cell? (a.add i) = some (X i)) (hlt : a.block < w.heap.size ∨ len = 0) :
    Rd w v ((List.range len).map X) := by
  subst hv
  by_cases h0 : len = 0
  · subst h0
    exact Or.inl ⟨rfl, Or.inr ⟨_, _, rfl⟩⟩
  · obtain ⟨b, o, s⟩ := a
    have hs : s = none := by
      have h1 := spot_none (h 0 (by omega))
      have h2 : ((⟨b, o, s⟩ : Addr).add 0).spot = s := by simp [Addr.add]
      exact h2.symm.trans h1
    subst hs
    refine Or.inr ⟨b, o, cap, by simp, hlt.resolve_right h0, fun i u hu => ?_⟩
    have hi : i < len := by have := (List.getElem?_eq_some_iff.1 hu).1; simpa using this
    simp [hi] at hu
    subst hu
    have := h i (by omega)
    unfold Addr.add at this
    split at this
    · rename_i e; subst e; simpa using this
    · simpa using this

theorem rd_strings {t e : TypeId} {v : Value} {d : DataW H} {ps : List MemPlace} {base : Nat} (ht : P.underlying t = some (.slice e)) (he : P.underlying e = some .string) (hc : P.cellsOf e = 1)
    (hval : Value.okWide P w .any base t v) (h : DataW.Trod enc P w 0 (fun _ => true) true t v d ps) : ∃ ss : List ByteArray, Rd w v (ss.map Value.string) ∧ ∀ s ∈ ss, s.size ≤ maxLen := by
  obtain ⟨a, len, cap, rfl⟩ := okWide_slice ht hval
  obtain ⟨n, hn⟩ := h
  rcases open_strs ht he hc hn with ⟨e1, _⟩ | ⟨a', len', cap', m, Sx, e1, _, hl, hm, hmm, _, hx⟩
  · simp [Value.cells] at e1
    obtain ⟨rfl, rfl, rfl⟩ := e1
    exact ⟨[], Or.inl ⟨rfl, Or.inl rfl⟩, by simp⟩
  · simp [Value.cells] at e1
    obtain ⟨rfl, rfl, rfl⟩ := e1
    simp only [if_true] at hmm
    refine ⟨(List.range len).map Sx, ?_, ?_⟩
    · have := rd_of (w := w) (v := .slice (some a') len cap) (X := fun i => .string (Sx i)) rfl (by omega : len ≤ m) (fun i hi => (hx i hi).1) (by
        by_cases h0 : len = 0
        · exact Or.inr h0
        · left
          have h1 := (hx 0 (by omega)).1
          unfold World.cell? at h1
          split at h1
          · rename_i h2
            have := (Array.getElem?_eq_some_iff.1 h2).1
            unfold Addr.add at this
            split at this <;> simpa using this
          · cases h1)
      rwa [List.map_map]
    · intro s hs
      obtain ⟨i, hi, rfl⟩ := List.mem_map.1 hs
      exact (hx i (by have := List.mem_range.1 hi; omega)).2
theorem len_le {t e : TypeId} {v : Value} {d : DataW H} {ps : List MemPlace} {base : Nat} (ht : P.underlying t = some (.slice e))
    (hval : Value.okWide P w .any base t v) (h : DataW.Trod enc P w 0 (fun _ => true) true t v d ps) : ∀ a len cap, v = .slice a len cap → len ≤ maxLen := by
  rintro a len cap rfl
  obtain ⟨n, hn⟩ := h
  rcases open_slice ht hn with ⟨e1, _⟩ | ⟨a', len', cap', m, n', D, Pl, e1, _, hl, hm, _⟩
  · simp [Value.cells] at e1
    omega
  · simp [Value.cells] at e1
    omega
theorem okWide_len {t e : TypeId} {v : Value} {d : DataW H} {ps : List MemPlace} {base : Nat} (ht : P.underlying t = some (.slice e))
    (hval : Value.okWide P w .any base t v) (h : DataW.Trod enc P w 0 (fun _ => true) true t v d ps) {α : Type} {f : α → Value} : ∀ l : List α, Rd w v (l.map f) → l.length ≤ maxLen := by
  intro l hr
  obtain ⟨a, c, e1⟩ := hr.form
  have := len_le ht hval h a _ c e1
  simpa using this
end
end
section
def blankB (b : UInt8) : Bool := b == 32 || b == 9 || b == 13
def digitB (b : UInt8) : Bool := decide (48 ≤ b) && decide (b ≤ 57)
def letterB (b : UInt8) : Bool := decide (97 ≤ b) && decide (b ≤ 122) || (decide (65 ≤ b) && decide (b ≤ 90) || b == 95)
def partB (b : UInt8) : Bool := letterB b || (digitB b || b == 46)
def signs : List UInt8 := [61, 44, 58, 40, 41, 123, 125, 91, 93]
def signB (b : UInt8) : Bool := decide (b ∈ signs)

/-- A word: its kind, its bytes, its number, its line and its column. -/
structure Tok where
  kind : Nat
  text : List UInt8
  num : Nat
  line : Nat
  col : Nat

/-- A number of digits. -/
def numOf (l : List UInt8) : Nat := l.foldl (fun n b => 10 * n + (b.toNat - 48)) 0

/-- What went wrong: where, and the error. -/
abbrev Bad := Nat × Nat × Nat
/-- One step: how many bytes, the line and the column behind them, the word if there is one. -/
abbrev Went := Nat × Nat × Nat × Option Tok

def stepL (l : List UInt8) (ln cl : Nat) : Except Bad Went :=
  match l with
  | [] => .error (ln, cl, 30)
  | c :: r =>
    if c = 10 then .ok (1, ln + 1, 1, none)
    else if blankB c = true then .ok (((c :: r).takeWhile blankB).length, ln, cl + ((c :: r).takeWhile blankB).length, none)
    else if c = 59 then .ok (((c :: r).takeWhile (· != 10)).length, ln, cl + ((c :: r).takeWhile (· != 10)).length, none)
    else if letterB c = true then .ok (((c :: r).takeWhile partB).length, ln, cl + ((c :: r).takeWhile partB).length, some ⟨1, (c :: r).takeWhile partB, 0, ln, cl⟩)
    else if digitB c = true then
      if (((c :: r).dropWhile digitB).head?.any partB || decide (9 < ((c :: r).takeWhile digitB).length) || (decide (1 < ((c :: r).takeWhile digitB).length) && decide (c = 48))) = true then .error (ln, cl, 31)
      else .ok (((c :: r).takeWhile digitB).length, ln, cl + ((c :: r).takeWhile digitB).length, some ⟨2, (c :: r).takeWhile digitB, numOf ((c :: r).takeWhile digitB), ln, cl⟩)
    else if signB c = true then .ok (1, ln, cl + 1, some ⟨3, [c], 0, ln, cl⟩)
    else .error (ln, cl, 30)

def add (t : Option Tok) (r : Except Bad (List Tok)) : Except Bad (List Tok) :=
  match r with
  | .error e => .error e
  | .ok l => .ok (t.toList ++ l)

def lexN : Nat → List UInt8 → Nat → Nat → Except Bad (List Tok)
  | _, [], ln, cl => .ok [⟨4, [], 0, ln, cl⟩]
  | 0, _ :: _, ln, cl => .error (ln, cl, 0)
  | n + 1, c :: r, ln, cl =>
    match stepL (c :: r) ln cl with
    | .error e => .error e
    | .ok (k, ln', cl', t) => add t (lexN n ((c :: r).drop k) ln' cl')
def lex (l : List UInt8) (ln cl : Nat) : Except Bad (List Tok) := lexN l.length l ln cl

theorem step_pos {l : List UInt8} {ln cl k ln' cl' : Nat} {t : Option Tok} (h : stepL l ln cl = .ok (k, ln', cl', t)) : 0 < k ∧ k ≤ l.length := by
  have tw : ∀ (p : UInt8 → Bool) (c : UInt8) (r : List UInt8), p c = true → 0 < ((c :: r).takeWhile p).length ∧ ((c :: r).takeWhile p).length ≤ (c :: r).length := by
    intro p c r hp
    refine ⟨?_, List.Sublist.length_le (List.takeWhile_sublist p)⟩
    rw [List.takeWhile_cons, if_pos hp]
    simp
  unfold stepL at h
  split at h
  · cases h
  · rename_i c r
    split at h
    · injection h with h; injection h with h; subst h; simp
    · rename_i h10
      split at h
      · rename_i hb
        injection h with h; injection h with h; subst h; exact tw _ _ _ hb
      · split at h
        · injection h with h; injection h with h; subst h; exact tw _ _ _ (by simpa using h10)
        · split at h
          · rename_i hl
            injection h with h; injection h with h; subst h; exact tw _ _ _ (by unfold partB; rw [hl]; rfl)
          · split at h
            · rename_i hd
              split at h
              · cases h
              · injection h with h; injection h with h; subst h; exact tw _ _ _ hd
            · split at h
              · injection h with h; injection h with h; subst h; simp
              · cases h

theorem lexN_fuel : ∀ (n m : Nat) (l : List UInt8) (ln cl : Nat), l.length ≤ n → l.length ≤ m → lexN n l ln cl = lexN m l ln cl
  | _, _, [], _, _, _, _ => by rw [lexN.eq_def, lexN.eq_def]
  | 0, _, _ :: _, _, _, h, _ => by simp at h
  | _ + 1, 0, _ :: _, _, _, _, h => by simp at h
  | n + 1, m + 1, c :: r, ln, cl, h1, h2 => by
    rw [lexN, lexN]
    cases hs : stepL (c :: r) ln cl with
    | error e => rfl
    | ok x =>
      obtain ⟨k, ln', cl', t⟩ := x
      have := step_pos hs
      simp only [List.length_cons] at h1 h2
      show add t _ = add t _
      rw [lexN_fuel n m _ ln' cl' (by rw [List.length_drop, List.length_cons]; omega) (by rw [List.length_drop, List.length_cons]; omega)]

theorem lex_nil (ln cl : Nat) : lex [] ln cl = .ok [⟨4, [], 0, ln, cl⟩] := rfl
theorem lex_bad {l : List UInt8} {ln cl : Nat} {e : Bad} (h0 : l ≠ []) (h : stepL l ln cl = .error e) : lex l ln cl = .error e := by
  unfold lex
  cases l with
  | nil => exact absurd rfl h0
  | cons c r => rw [List.length_cons, lexN, h]
theorem lex_went {l : List UInt8} {ln cl k ln' cl' : Nat} {t : Option Tok} (h0 : l ≠ []) (h : stepL l ln cl = .ok (k, ln', cl', t)) : lex l ln cl = add t (lex (l.drop k) ln' cl') := by
  have hp := step_pos h
  unfold lex
  cases l with
  | nil => exact absurd rfl h0
  | cons c r =>
    rw [List.length_cons, lexN, h]
    show add t _ = add t _
    rw [lexN_fuel r.length ((c :: r).drop k).length _ ln' cl' (by rw [List.length_drop, List.length_cons]; omega) (Nat.le_refl _)]
theorem add_none (r : Except Bad (List Tok)) : add none r = r := by cases r <;> rfl

/-- So far these words were told. -/
def sofar (out : List Tok) (r : Except Bad (List Tok)) : Except Bad (List Tok) :=
  match r with
  | .error e => .error e
  | .ok l => .ok (out ++ l)
theorem sofar_add (out : List Tok) (t : Option Tok) (r : Except Bad (List Tok)) : sofar out (add t r) = sofar (out ++ t.toList) r := by
  cases r with
  | error e => rfl
  | ok l => simp [sofar, add]
theorem sofar_nil (r : Except Bad (List Tok)) : sofar [] r = r := by cases r <;> rfl
end
section
open Go.RowKit Go.WideShapes Go.ChangeShapes Go.ChangeAt Go.Deep

section
variable {H : Type} {enc : TypeId × Value → H} {P : Program} {w : World}

theorem add_add {b o i j : Nat} : ((⟨b, o, none⟩ : Addr).add i).add j = ⟨b, o + i + j, none⟩ := by
  unfold Addr.add
  split <;> split <;> simp_all

/-- A slice that came in: each element's cells read as an element. -/
theorem rd_elems {t e : TypeId} {v : Value} {d : DataW H} {ps : List MemPlace} {base c : Nat} (ht : P.underlying t = some (.slice e)) (hc : P.cellsOf e = c) (hc0 : 0 < c)
    (hval : Value.okWide P w .any base t v) (h : DataW.Trod enc P w 0 (fun _ => true) true t v d ps) :
    (v = .slice none 0 0 ∨ ∃ a k, v = .slice (some a) 0 k) ∨ ∃ b off len cap, v = .slice (some ⟨b, off, none⟩) len cap ∧ b < w.heap.size ∧ len ≤ maxLen ∧
      ∀ i, i < len → ∃ cs n y, cs.length = c ∧ (∀ j, j < c → w.cell? ⟨b, off + i * c + j, none⟩ = cs[j]?) ∧ DataW.trod enc P w 0 (fun _ => true) true n e cs = some y := by
  subst hc
  obtain ⟨a, len, cap, rfl⟩ := okWide_slice ht hval
  obtain ⟨n, hn⟩ := h
  rcases open_slice ht hn with ⟨e1, _⟩ | ⟨a', len', cap', m, n', D, Pl, e1, _, hl, hm, hmm, _, hx⟩
  · simp [Value.cells] at e1
    obtain ⟨rfl, rfl, rfl⟩ := e1
    exact Or.inl (Or.inl rfl)
  · simp [Value.cells] at e1
    obtain ⟨rfl, rfl, rfl⟩ := e1
    simp only [if_true] at hmm
    by_cases h0 : len = 0
    · subst h0
      exact Or.inl (Or.inr ⟨_, _, rfl⟩)
    · right
      obtain ⟨b, o, s⟩ := a'
      obtain ⟨cs0, hcs0, _⟩ := hx 0 (by omega)
      obtain ⟨_, hlen0, hce0⟩ := World.cells?_some hcs0
      have h1 : ∃ u, w.cell? (((⟨b, o, s⟩ : Addr).add (0 * P.cellsOf e)).add 0) = some u := by
        rw [hce0 0 (by omega)]
        exact ⟨_, List.getElem?_eq_getElem (by omega)⟩
      obtain ⟨u, hu⟩ := h1
      have hs : s = none := by
        have h2 := spot_none hu
        have h3 : (((⟨b, o, s⟩ : Addr).add (0 * P.cellsOf e)).add 0).spot = s := by simp [Addr.add]
        exact h3.symm.trans h2
      subst hs
      have hb : b < w.heap.size := by
        rw [add_add] at hu
        unfold World.cell? at hu
        split at hu
        · rename_i h4
          exact (Array.getElem?_eq_some_iff.1 h4).1
        · cases hu
      refine ⟨b, o, len, cap, rfl, hb, by omega, fun i hi => ?_⟩
      obtain ⟨cs, hcs, htr⟩ := hx i (by omega)
      obtain ⟨_, hlen, hce⟩ := World.cells?_some hcs
      refine ⟨cs, n', _, hlen, fun j hj => ?_, htr⟩
      rw [← hce j hj, add_add]
end
end
section
open Go.RowKit

theorem eqB (b c : UInt8) : ((b.toNat : Int) == (c.toNat : Int)) = (b == c) := by
  rw [Bool.eq_iff_iff]
  simp
  constructor
  · intro h
    exact UInt8.toNat_inj.1 (by omega)
  · rintro rfl
    rfl
theorem geB (b c : UInt8) : decide ((b.toNat : Int) ≥ (c.toNat : Int)) = decide (c ≤ b) := by
  rw [Bool.eq_iff_iff]
  simp [UInt8.le_iff_toNat_le]
theorem leB (b c : UInt8) : decide ((b.toNat : Int) ≤ (c.toNat : Int)) = decide (b ≤ c) := by
  rw [Bool.eq_iff_iff]
  simp [UInt8.le_iff_toNat_le]

theorem blank_any (b : UInt8) (w : World) : Calls Tryd.prog 52 #[.int .u8 b.toNat] w fun e w' => e = .returned (.bool (blankB b)) ∧ w' = w := by
  have e1 : ((b.toNat : Int) == 32) = (b == 32) := eqB b 32
  have e2 : ((b.toNat : Int) == 9) = (b == 9) := eqB b 9
  have e3 : ((b.toNat : Int) == 13) = (b == 13) := eqB b 13
  unfold blankB
  generalize (b == 32) = q1 at *
  generalize (b == 9) = q2 at *
  generalize (b == 13) = q3 at *
  cases q1 <;> cases q2 <;> cases q3 <;> (go_enter Tryd.func52, Tryd.ntmps52; go_wp2; go_ret; exact ⟨rfl, rfl⟩)

theorem digit_any (b : UInt8) (w : World) : Calls Tryd.prog 58 #[.int .u8 b.toNat] w fun e w' => e = .returned (.bool (digitB b)) ∧ w' = w := by
  have e1 : decide ((b.toNat : Int) ≥ 48) = decide (48 ≤ b) := geB b 48
  have e2 : decide ((b.toNat : Int) ≤ 57) = decide (b ≤ 57) := leB b 57
  unfold digitB
  generalize decide (48 ≤ b) = q1 at *
  generalize decide (b ≤ 57) = q2 at *
  cases q1 <;> cases q2 <;> (go_enter Tryd.func58, Tryd.ntmps58; go_wp2; go_ret; exact ⟨rfl, rfl⟩)

theorem letter_any (b : UInt8) (w : World) : Calls Tryd.prog 55 #[.int .u8 b.toNat] w fun e w' => e = .returned (.bool (letterB b)) ∧ w' = w := by
  have e1 : decide ((b.toNat : Int) ≥ 97) = decide (97 ≤ b) := geB b 97
  have e2 : decide ((b.toNat : Int) ≤ 122) = decide (b ≤ 122) := leB b 122
  have e3 : decide ((b.toNat : Int) ≥ 65) = decide (65 ≤ b) := geB b 65
  have e4 : decide ((b.toNat : Int) ≤ 90) = decide (b ≤ 90) := leB b 90
  have e5 : ((b.toNat : Int) == 95) = (b == 95) := eqB b 95
  unfold letterB
  generalize decide (97 ≤ b) = q1 at *
  generalize decide (b ≤ 122) = q2 at *
  generalize decide (65 ≤ b) = q3 at *
  generalize decide (b ≤ 90) = q4 at *
  generalize (b == 95) = q5 at *
  cases q1 <;> cases q2 <;> cases q3 <;> cases q4 <;> cases q5 <;> (go_enter Tryd.func55, Tryd.ntmps55; go_wp2; go_ret; exact ⟨rfl, rfl⟩)

theorem part_any (b : UInt8) (w : World) : Calls Tryd.prog 57 #[.int .u8 b.toNat] w fun e w' => e = .returned (.bool (partB b)) ∧ w' = w := by
  have e1 : ((b.toNat : Int) == 46) = (b == 46) := eqB b 46
  have c1 := Lib.hid (letter_any b w)
  have c2 := Lib.hid (digit_any b w)
  unfold partB
  generalize (b == 46) = q1 at *
  generalize letterB b = q2 at *
  generalize digitB b = q3 at *
  cases q1 <;> cases q2 <;> cases q3 <;> (go_enter Tryd.func57, Tryd.ntmps57; go_wp2_with (first | (go_at_call 55; refine c1.out.mono ?_; rintro e w' ⟨rfl, hw⟩; obtain rfl := hw.symm) | (go_at_call 58; refine c2.out.mono ?_; rintro e w' ⟨rfl, hw⟩; obtain rfl := hw.symm)); go_ret; exact ⟨rfl, rfl⟩)

def lineB (b : UInt8) : Bool := b != 10
theorem line_any (b : UInt8) (w : World) : Calls Tryd.prog 54 #[.int .u8 b.toNat] w fun e w' => e = .returned (.bool (lineB b)) ∧ w' = w := by
  have e1 : ((b.toNat : Int) != 10) = (b != 10) := by unfold bne; rw [show ((b.toNat : Int) == 10) = (b == 10) from eqB b 10]
  unfold lineB
  generalize (b != 10) = q1 at *
  cases q1 <;> (go_enter Tryd.func54, Tryd.ntmps54; go_wp2; go_ret; exact ⟨rfl, rfl⟩)
end
section
open Go.RowKit

/-- The lexer in block lb: its line, column and place, its text, its words. -/
def LexAt (w : World) (lb : Nat) (s : ByteArray) (ln cl i : Nat) (v : Value) : Prop := w.heap[lb]? = some (.cells #[.int .i64 ln, .int .i64 cl, .int .i64 i, .string s, v] 79 (0, 0))

section
variable {w w' : World} {lb ln cl i : Nat} {s : ByteArray} {v : Value}

theorem LexAt.lt (h : LexAt w lb s ln cl i v) : lb < w.heap.size := (Array.getElem?_eq_some_iff.1 h).1
theorem LexAt.c0 (h : LexAt w lb s ln cl i v) : w.cell? ⟨lb, 0, none⟩ = some (.int .i64 ln) := blk_cell h 0
theorem LexAt.c1 (h : LexAt w lb s ln cl i v) : w.cell? ⟨lb, 1, none⟩ = some (.int .i64 cl) := blk_cell h 1
theorem LexAt.c2 (h : LexAt w lb s ln cl i v) : w.cell? ⟨lb, 2, none⟩ = some (.int .i64 i) := blk_cell h 2
theorem LexAt.c3 (h : LexAt w lb s ln cl i v) : w.cell? ⟨lb, 3, none⟩ = some (.string s) := blk_cell h 3
theorem LexAt.c4 (h : LexAt w lb s ln cl i v) : w.cell? ⟨lb, 4, none⟩ = some v := blk_cell h 4
theorem LexAt.fr (h : LexAt w lb s ln cl i v) (j : Nat) : w.frozen? ⟨lb, j, none⟩ = false := by
  unfold LexAt at h
  simp [World.frozen?, h]
theorem LexAt.touch {Q : Nat → Prop} (h : LexAt w lb s ln cl i v) (ht : Touch w w' Q) (hn : ¬ Q lb) : LexAt w' lb s ln cl i v := (ht.block lb h.lt hn).trans h
theorem LexAt.drawn (h : LexAt w lb s ln cl i v) (n : Nat) : LexAt (w.drewN n) lb s ln cl i v := h
theorem LexAt.below (h : LexAt w lb s ln cl i v) (hb : Below w.heap.size w w') : LexAt w' lb s ln cl i v := (hb.block lb h.lt).trans h
theorem LexAt.step (h : LexAt w lb s ln cl i v) : LexAt ((w.setCell ⟨lb, 2, none⟩ (.int .i64 ((i : Int) + 1))).setCell ⟨lb, 1, none⟩ (.int .i64 ((cl : Int) + 1))) lb s ln (cl + 1) (i + 1) v := by
  have h1 := blk_set (i := 1) (.int .i64 ((cl : Int) + 1)) (blk_set (i := 2) (.int .i64 ((i : Int) + 1)) h)
  unfold LexAt
  rw [h1]
  rfl

/-- The bytes from a place on. -/
def rest (s : ByteArray) (i : Nat) : List UInt8 := s.data.toList.drop i
theorem rest_at {s : ByteArray} {i : Nat} (h : i < s.size) : rest s i = s[i] :: rest s (i + 1) := by
  unfold rest
  exact List.drop_eq_getElem_cons (by simpa using h)
theorem rest_end {s : ByteArray} {i : Nat} (h : s.size ≤ i) : rest s i = [] := by
  unfold rest
  exact List.drop_eq_nil_of_le (by simpa using h)
/-- How many bytes from a place on are of a kind. -/
def run (p : UInt8 → Bool) (s : ByteArray) (i : Nat) : Nat := ((rest s i).takeWhile p).length
theorem run_yes {p : UInt8 → Bool} {s : ByteArray} {i : Nat} (h : i < s.size) (hp : p s[i] = true) : run p s i = run p s (i + 1) + 1 := by
  unfold run
  rw [rest_at h, List.takeWhile_cons, if_pos hp, List.length_cons]
theorem run_no {p : UInt8 → Bool} {s : ByteArray} {i : Nat} (h : i < s.size) (hp : p s[i] = false) : run p s i = 0 := by
  unfold run
  rw [rest_at h, List.takeWhile_cons, if_neg (by rw [hp]; simp)]
  rfl
theorem run_end {p : UInt8 → Bool} {s : ByteArray} {i : Nat} (h : s.size ≤ i) : run p s i = 0 := by
  unfold run
  rw [rest_end h]
  rfl
theorem run_le (p : UInt8 → Bool) (s : ByteArray) (i : Nat) : run p s i ≤ s.size - i := by
  unfold run rest
  have := List.Sublist.length_le (List.takeWhile_sublist p (l := s.data.toList.drop i))
  simpa using this

set_option maxHeartbeats 4000000 in
theorem take_blank (h : LexAt w lb s ln cl i v) (hi : i ≤ s.size) (hs : s.size ≤ 2000000) (hc : cl ≤ 4000000) :
    Calls Tryd.prog 53 #[.pointer (some ⟨lb, 0, none⟩), .func (.func 52) #[] #[]] w fun e w' => e = .returned (.string (s.extract i (i + run blankB s i))) ∧ LexAt w' lb s ln (cl + run blankB s i) (i + run blankB s i) v ∧ Touch w w' (fun k => k = lb) := by
  have c2 := h.c2
  obtain ⟨K, hK⟩ : ∃ K, K = run blankB s i := ⟨_, rfl⟩
  have hKl := run_le blankB s i
  rw [← hK] at hKl ⊢
  replace hK := Lib.hid hK
  go_enter Tryd.func53, Tryd.ntmps53
  go_wp2_with fail
  go_loopg [] K (fun k wr => ∃ m c : Nat, Hid (m + k = i + K ∧ c + i = cl + m ∧ k = run blankB s m) ∧ i ≤ m ∧ m ≤ s.size ∧ c ≤ 8000000 ∧ LexAt wr lb s ln c m v ∧ Touch w wr (fun k => k = lb))
  case atStart => exact ⟨i, cl, Lib.hid ⟨rfl, by omega, hK.out⟩, Nat.le_refl _, hi, by omega, h, Touch.refl _ _⟩
  case round =>
    obtain ⟨m, c, hr, him, hm, hcb, hL, ht⟩ := hrel
    clear c2 h
    have c2 := hL.c2
    have c3 := hL.c3
    have c1 := hL.c1
    have f1 := hL.fr 1
    have f2 := hL.fr 2
    by_cases hlt : m < s.size
    · cases hb : blankB s[m] with
      | true =>
        have hcc := Lib.hid (blank_any s[m])
        rw [hb] at hcc
        have i1 : (m : Int) < (s.size : Int) := by omega
        have hr2 := Lib.hid (run_yes hlt hb)
        clear hb
        go_wp2_with fail
        go_quiet ((go_at_call 52; exact Calls.quiet_of_same (hcc.out _)))
        have hL2 := hL.drawn nq
        have ht2 := ht.trans (Touch.drewN wr nq _)
        clear hL ht c1 c2 c3 f1 f2
        generalize wr.drewN nq = wx at hL2 ht2 ⊢
        have c1 := hL2.c1
        have c2 := hL2.c2
        have f1 := hL2.fr 1
        have f2 := hL2.fr 2
        have b1 : (c : Int) + 1 < 9223372036854775808 := by omega
        go_wp2_with fail
        have hL3 := hL2.step
        have ht3 := (ht2.setCell (a := ⟨lb, 2, none⟩) (fun _ => rfl) (.int .i64 ((m : Int) + 1))).setCell (a := ⟨lb, 1, none⟩) (fun _ => rfl) (.int .i64 ((c : Int) + 1))
        obtain ⟨e1, e2, e3⟩ := hr.out
        have e4 := hr2.out
        go_roundg (gk - 1)
        case rel => exact ⟨m + 1, c + 1, Lib.hid ⟨by omega, by omega, by omega⟩, by omega, by omega, by omega, hL3, ht3⟩
        case measure => omega
      | false =>
        have hcc := Lib.hid (blank_any s[m])
        rw [hb] at hcc
        have i1 : (m : Int) < (s.size : Int) := by omega
        have hr2 := Lib.hid (run_no hlt hb)
        clear hb
        go_wp2_with fail
        go_quiet ((go_at_call 52; exact Calls.quiet_of_same (hcc.out _)))
        have hL2 := hL.drawn nq
        have ht2 := ht.trans (Touch.drewN wr nq _)
        clear hL ht c1 c2 c3 f1 f2
        generalize wr.drewN nq = wx at hL2 ht2 ⊢
        have c2 := hL2.c2
        have c3 := hL2.c3
        have b2 : (i : Int) ≤ (m : Int) := by omega
        have b3 : (m : Int) ≤ (s.size : Int) := by omega
        go_wp2_with fail
        go_quiet (fail)
        go_wp2_with fail
        obtain ⟨e1, e2, e3⟩ := hr.out
        have e4 := hr2.out
        obtain rfl : m = i + K := by omega
        obtain rfl : c = cl + K := by omega
        go_ret
        exact ⟨rfl, hL2.drawn nq, ht2.trans (Touch.drewN wx nq _)⟩
    · have hr2 := Lib.hid (run_end (p := blankB) (s := s) (i := m) (by omega))
      have g1 : decide ((m : Int) < (s.size : Int)) = false := by simp; omega
      go_wp2_with fail
      go_quiet (fail)
      have hL2 := hL.drawn nq
      have ht2 := ht.trans (Touch.drewN wr nq _)
      clear hL ht c1 c2 c3 f1 f2
      generalize wr.drewN nq = wx at hL2 ht2 ⊢
      have c2 := hL2.c2
      have c3 := hL2.c3
      have b2 : (i : Int) ≤ (m : Int) := by omega
      have b3 : (m : Int) ≤ (s.size : Int) := by omega
      go_wp2_with fail
      go_quiet (fail)
      go_wp2_with fail
      obtain ⟨e1, e2, e3⟩ := hr.out
      have e4 := hr2.out
      obtain rfl : m = i + K := by omega
      obtain rfl : c = cl + K := by omega
      go_ret
      exact ⟨rfl, hL2.drawn nq, ht2.trans (Touch.drewN wx nq _)⟩

set_option maxHeartbeats 4000000 in
theorem take_line (h : LexAt w lb s ln cl i v) (hi : i ≤ s.size) (hs : s.size ≤ 2000000) (hc : cl ≤ 4000000) :
    Calls Tryd.prog 53 #[.pointer (some ⟨lb, 0, none⟩), .func (.func 54) #[] #[]] w fun e w' => e = .returned (.string (s.extract i (i + run lineB s i))) ∧ LexAt w' lb s ln (cl + run lineB s i) (i + run lineB s i) v ∧ Touch w w' (fun k => k = lb) := by
  have c2 := h.c2
  obtain ⟨K, hK⟩ : ∃ K, K = run lineB s i := ⟨_, rfl⟩
  have hKl := run_le lineB s i
  rw [← hK] at hKl ⊢
  replace hK := Lib.hid hK
  go_enter Tryd.func53, Tryd.ntmps53
  go_wp2_with fail
  go_loopg [] K (fun k wr => ∃ m c : Nat, Hid (m + k = i + K ∧ c + i = cl + m ∧ k = run lineB s m) ∧ i ≤ m ∧ m ≤ s.size ∧ c ≤ 8000000 ∧ LexAt wr lb s ln c m v ∧ Touch w wr (fun k => k = lb))
  case atStart => exact ⟨i, cl, Lib.hid ⟨rfl, by omega, hK.out⟩, Nat.le_refl _, hi, by omega, h, Touch.refl _ _⟩
  case round =>
    obtain ⟨m, c, hr, him, hm, hcb, hL, ht⟩ := hrel
    clear c2 h
    have c2 := hL.c2
    have c3 := hL.c3
    have c1 := hL.c1
    have f1 := hL.fr 1
    have f2 := hL.fr 2
    by_cases hlt : m < s.size
    · cases hb : lineB s[m] with
      | true =>
        have hcc := Lib.hid (line_any s[m])
        rw [hb] at hcc
        have i1 : (m : Int) < (s.size : Int) := by omega
        have hr2 := Lib.hid (run_yes hlt hb)
        clear hb
        go_wp2_with fail
        go_quiet ((go_at_call 54; exact Calls.quiet_of_same (hcc.out _)))
        have hL2 := hL.drawn nq
        have ht2 := ht.trans (Touch.drewN wr nq _)
        clear hL ht c1 c2 c3 f1 f2
        generalize wr.drewN nq = wx at hL2 ht2 ⊢
        have c1 := hL2.c1
        have c2 := hL2.c2
        have f1 := hL2.fr 1
        have f2 := hL2.fr 2
        have b1 : (c : Int) + 1 < 9223372036854775808 := by omega
        go_wp2_with fail
        have hL3 := hL2.step
        have ht3 := (ht2.setCell (a := ⟨lb, 2, none⟩) (fun _ => rfl) (.int .i64 ((m : Int) + 1))).setCell (a := ⟨lb, 1, none⟩) (fun _ => rfl) (.int .i64 ((c : Int) + 1))
        obtain ⟨e1, e2, e3⟩ := hr.out
        have e4 := hr2.out
        go_roundg (gk - 1)
        case rel => exact ⟨m + 1, c + 1, Lib.hid ⟨by omega, by omega, by omega⟩, by omega, by omega, by omega, hL3, ht3⟩
        case measure => omega
      | false =>
        have hcc := Lib.hid (line_any s[m])
        rw [hb] at hcc
        have i1 : (m : Int) < (s.size : Int) := by omega
        have hr2 := Lib.hid (run_no hlt hb)
        clear hb
        go_wp2_with fail
        go_quiet ((go_at_call 54; exact Calls.quiet_of_same (hcc.out _)))
        have hL2 := hL.drawn nq
        have ht2 := ht.trans (Touch.drewN wr nq _)
        clear hL ht c1 c2 c3 f1 f2
        generalize wr.drewN nq = wx at hL2 ht2 ⊢
        have c2 := hL2.c2
        have c3 := hL2.c3
        have b2 : (i : Int) ≤ (m : Int) := by omega
        have b3 : (m : Int) ≤ (s.size : Int) := by omega
        go_wp2_with fail
        go_quiet (fail)
        go_wp2_with fail
        obtain ⟨e1, e2, e3⟩ := hr.out
        have e4 := hr2.out
        obtain rfl : m = i + K := by omega
        obtain rfl : c = cl + K := by omega
        go_ret
        exact ⟨rfl, hL2.drawn nq, ht2.trans (Touch.drewN wx nq _)⟩
    · have hr2 := Lib.hid (run_end (p := lineB) (s := s) (i := m) (by omega))
      have g1 : decide ((m : Int) < (s.size : Int)) = false := by simp; omega
      go_wp2_with fail
      go_quiet (fail)
      have hL2 := hL.drawn nq
      have ht2 := ht.trans (Touch.drewN wr nq _)
      clear hL ht c1 c2 c3 f1 f2
      generalize wr.drewN nq = wx at hL2 ht2 ⊢
      have c2 := hL2.c2
      have c3 := hL2.c3
      have b2 : (i : Int) ≤ (m : Int) := by omega
      have b3 : (m : Int) ≤ (s.size : Int) := by omega
      go_wp2_with fail
      go_quiet (fail)
      go_wp2_with fail
      obtain ⟨e1, e2, e3⟩ := hr.out
      have e4 := hr2.out
      obtain rfl : m = i + K := by omega
      obtain rfl : c = cl + K := by omega
      go_ret
      exact ⟨rfl, hL2.drawn nq, ht2.trans (Touch.drewN wx nq _)⟩

set_option maxHeartbeats 4000000 in
theorem take_part (h : LexAt w lb s ln cl i v) (hi : i ≤ s.size) (hs : s.size ≤ 2000000) (hc : cl ≤ 4000000) :
    Calls Tryd.prog 53 #[.pointer (some ⟨lb, 0, none⟩), .func (.func 57) #[] #[]] w fun e w' => e = .returned (.string (s.extract i (i + run partB s i))) ∧ LexAt w' lb s ln (cl + run partB s i) (i + run partB s i) v ∧ Touch w w' (fun k => k = lb) := by
  have c2 := h.c2
  obtain ⟨K, hK⟩ : ∃ K, K = run partB s i := ⟨_, rfl⟩
  have hKl := run_le partB s i
  rw [← hK] at hKl ⊢
  replace hK := Lib.hid hK
  go_enter Tryd.func53, Tryd.ntmps53
  go_wp2_with fail
  go_loopg [] K (fun k wr => ∃ m c : Nat, Hid (m + k = i + K ∧ c + i = cl + m ∧ k = run partB s m) ∧ i ≤ m ∧ m ≤ s.size ∧ c ≤ 8000000 ∧ LexAt wr lb s ln c m v ∧ Touch w wr (fun k => k = lb))
  case atStart => exact ⟨i, cl, Lib.hid ⟨rfl, by omega, hK.out⟩, Nat.le_refl _, hi, by omega, h, Touch.refl _ _⟩
  case round =>
    obtain ⟨m, c, hr, him, hm, hcb, hL, ht⟩ := hrel
    clear c2 h
    have c2 := hL.c2
    have c3 := hL.c3
    have c1 := hL.c1
    have f1 := hL.fr 1
    have f2 := hL.fr 2
    by_cases hlt : m < s.size
    · cases hb : partB s[m] with
      | true =>
        have hcc := Lib.hid (part_any s[m])
        rw [hb] at hcc
        have i1 : (m : Int) < (s.size : Int) := by omega
        have hr2 := Lib.hid (run_yes hlt hb)
        clear hb
        go_wp2_with fail
        go_quiet ((go_at_call 57; exact Calls.quiet_of_same (hcc.out _)))
        have hL2 := hL.drawn nq
        have ht2 := ht.trans (Touch.drewN wr nq _)
        clear hL ht c1 c2 c3 f1 f2
        generalize wr.drewN nq = wx at hL2 ht2 ⊢
        have c1 := hL2.c1
        have c2 := hL2.c2
        have f1 := hL2.fr 1
        have f2 := hL2.fr 2
        have b1 : (c : Int) + 1 < 9223372036854775808 := by omega
        go_wp2_with fail
        have hL3 := hL2.step
        have ht3 := (ht2.setCell (a := ⟨lb, 2, none⟩) (fun _ => rfl) (.int .i64 ((m : Int) + 1))).setCell (a := ⟨lb, 1, none⟩) (fun _ => rfl) (.int .i64 ((c : Int) + 1))
        obtain ⟨e1, e2, e3⟩ := hr.out
        have e4 := hr2.out
        go_roundg (gk - 1)
        case rel => exact ⟨m + 1, c + 1, Lib.hid ⟨by omega, by omega, by omega⟩, by omega, by omega, by omega, hL3, ht3⟩
        case measure => omega
      | false =>
        have hcc := Lib.hid (part_any s[m])
        rw [hb] at hcc
        have i1 : (m : Int) < (s.size : Int) := by omega
        have hr2 := Lib.hid (run_no hlt hb)
        clear hb
        go_wp2_with fail
        go_quiet ((go_at_call 57; exact Calls.quiet_of_same (hcc.out _)))
        have hL2 := hL.drawn nq
        have ht2 := ht.trans (Touch.drewN wr nq _)
        clear hL ht c1 c2 c3 f1 f2
        generalize wr.drewN nq = wx at hL2 ht2 ⊢
        have c2 := hL2.c2
        have c3 := hL2.c3
        have b2 : (i : Int) ≤ (m : Int) := by omega
        have b3 : (m : Int) ≤ (s.size : Int) := by omega
        go_wp2_with fail
        go_quiet (fail)
        go_wp2_with fail
        obtain ⟨e1, e2, e3⟩ := hr.out
        have e4 := hr2.out
        obtain rfl : m = i + K := by omega
        obtain rfl : c = cl + K := by omega
        go_ret
        exact ⟨rfl, hL2.drawn nq, ht2.trans (Touch.drewN wx nq _)⟩
    · have hr2 := Lib.hid (run_end (p := partB) (s := s) (i := m) (by omega))
      have g1 : decide ((m : Int) < (s.size : Int)) = false := by simp; omega
      go_wp2_with fail
      go_quiet (fail)
      have hL2 := hL.drawn nq
      have ht2 := ht.trans (Touch.drewN wr nq _)
      clear hL ht c1 c2 c3 f1 f2
      generalize wr.drewN nq = wx at hL2 ht2 ⊢
      have c2 := hL2.c2
      have c3 := hL2.c3
      have b2 : (i : Int) ≤ (m : Int) := by omega
      have b3 : (m : Int) ≤ (s.size : Int) := by omega
      go_wp2_with fail
      go_quiet (fail)
      go_wp2_with fail
      obtain ⟨e1, e2, e3⟩ := hr.out
      have e4 := hr2.out
      obtain rfl : m = i + K := by omega
      obtain rfl : c = cl + K := by omega
      go_ret
      exact ⟨rfl, hL2.drawn nq, ht2.trans (Touch.drewN wx nq _)⟩

set_option maxHeartbeats 4000000 in
theorem take_digit (h : LexAt w lb s ln cl i v) (hi : i ≤ s.size) (hs : s.size ≤ 2000000) (hc : cl ≤ 4000000) :
    Calls Tryd.prog 53 #[.pointer (some ⟨lb, 0, none⟩), .func (.func 58) #[] #[]] w fun e w' => e = .returned (.string (s.extract i (i + run digitB s i))) ∧ LexAt w' lb s ln (cl + run digitB s i) (i + run digitB s i) v ∧ Touch w w' (fun k => k = lb) := by
  have c2 := h.c2
  obtain ⟨K, hK⟩ : ∃ K, K = run digitB s i := ⟨_, rfl⟩
  have hKl := run_le digitB s i
  rw [← hK] at hKl ⊢
  replace hK := Lib.hid hK
  go_enter Tryd.func53, Tryd.ntmps53
  go_wp2_with fail
  go_loopg [] K (fun k wr => ∃ m c : Nat, Hid (m + k = i + K ∧ c + i = cl + m ∧ k = run digitB s m) ∧ i ≤ m ∧ m ≤ s.size ∧ c ≤ 8000000 ∧ LexAt wr lb s ln c m v ∧ Touch w wr (fun k => k = lb))
  case atStart => exact ⟨i, cl, Lib.hid ⟨rfl, by omega, hK.out⟩, Nat.le_refl _, hi, by omega, h, Touch.refl _ _⟩
  case round =>
    obtain ⟨m, c, hr, him, hm, hcb, hL, ht⟩ := hrel
    clear c2 h
    have c2 := hL.c2
    have c3 := hL.c3
    have c1 := hL.c1
    have f1 := hL.fr 1
    have f2 := hL.fr 2
    by_cases hlt : m < s.size
    · cases hb : digitB s[m] with
      | true =>
        have hcc := Lib.hid (digit_any s[m])
        rw [hb] at hcc
        have i1 : (m : Int) < (s.size : Int) := by omega
        have hr2 := Lib.hid (run_yes hlt hb)
        clear hb
        go_wp2_with fail
        go_quiet ((go_at_call 58; exact Calls.quiet_of_same (hcc.out _)))
        have hL2 := hL.drawn nq
        have ht2 := ht.trans (Touch.drewN wr nq _)
        clear hL ht c1 c2 c3 f1 f2
        generalize wr.drewN nq = wx at hL2 ht2 ⊢
        have c1 := hL2.c1
        have c2 := hL2.c2
        have f1 := hL2.fr 1
        have f2 := hL2.fr 2
        have b1 : (c : Int) + 1 < 9223372036854775808 := by omega
        go_wp2_with fail
        have hL3 := hL2.step
        have ht3 := (ht2.setCell (a := ⟨lb, 2, none⟩) (fun _ => rfl) (.int .i64 ((m : Int) + 1))).setCell (a := ⟨lb, 1, none⟩) (fun _ => rfl) (.int .i64 ((c : Int) + 1))
        obtain ⟨e1, e2, e3⟩ := hr.out
        have e4 := hr2.out
        go_roundg (gk - 1)
        case rel => exact ⟨m + 1, c + 1, Lib.hid ⟨by omega, by omega, by omega⟩, by omega, by omega, by omega, hL3, ht3⟩
        case measure => omega
      | false =>
        have hcc := Lib.hid (digit_any s[m])
        rw [hb] at hcc
        have i1 : (m : Int) < (s.size : Int) := by omega
        have hr2 := Lib.hid (run_no hlt hb)
        clear hb
        go_wp2_with fail
        go_quiet ((go_at_call 58; exact Calls.quiet_of_same (hcc.out _)))
        have hL2 := hL.drawn nq
        have ht2 := ht.trans (Touch.drewN wr nq _)
        clear hL ht c1 c2 c3 f1 f2
        generalize wr.drewN nq = wx at hL2 ht2 ⊢
        have c2 := hL2.c2
        have c3 := hL2.c3
        have b2 : (i : Int) ≤ (m : Int) := by omega
        have b3 : (m : Int) ≤ (s.size : Int) := by omega
        go_wp2_with fail
        go_quiet (fail)
        go_wp2_with fail
        obtain ⟨e1, e2, e3⟩ := hr.out
        have e4 := hr2.out
        obtain rfl : m = i + K := by omega
        obtain rfl : c = cl + K := by omega
        go_ret
        exact ⟨rfl, hL2.drawn nq, ht2.trans (Touch.drewN wx nq _)⟩
    · have hr2 := Lib.hid (run_end (p := digitB) (s := s) (i := m) (by omega))
      have g1 : decide ((m : Int) < (s.size : Int)) = false := by simp; omega
      go_wp2_with fail
      go_quiet (fail)
      have hL2 := hL.drawn nq
      have ht2 := ht.trans (Touch.drewN wr nq _)
      clear hL ht c1 c2 c3 f1 f2
      generalize wr.drewN nq = wx at hL2 ht2 ⊢
      have c2 := hL2.c2
      have c3 := hL2.c3
      have b2 : (i : Int) ≤ (m : Int) := by omega
      have b3 : (m : Int) ≤ (s.size : Int) := by omega
      go_wp2_with fail
      go_quiet (fail)
      go_wp2_with fail
      obtain ⟨e1, e2, e3⟩ := hr.out
      have e4 := hr2.out
      obtain rfl : m = i + K := by omega
      obtain rfl : c = cl + K := by omega
      go_ret
      exact ⟨rfl, hL2.drawn nq, ht2.trans (Touch.drewN wx nq _)⟩
end
end
section
open Go.RowKit

section
variable {w w' : World} {lb ln cl i m pl pf : Nat} {s : ByteArray} {v : Value}

theorem one_any (hp : w.cell? ⟨pl, 0, none⟩ = some (.pointer (some ⟨lb, 0, none⟩))) (hf : w.cell? ⟨pf, 0, none⟩ = some (.int .i64 i)) (h : LexAt w lb s ln cl m v) (x : Int) {q : Bool} (hq : decide (m = i) = q) :
    Calls Tryd.prog 61 #[.int .u8 x, .pointer (some ⟨pl, 0, none⟩), .pointer (some ⟨pf, 0, none⟩)] w fun e w' => e = .returned (.bool q) ∧ ∃ n, w' = w.drewN n := by
  have c2 := h.c2
  have e1 : ((m : Int) == (i : Int)) = q := by rw [← hq, Bool.eq_iff_iff]; simp; omega
  clear hq h
  go_enter Tryd.func61, Tryd.ntmps61
  go_wp2_with fail
  go_quiet (fail)
  go_wp2_with fail
  go_ret
  exact ⟨rfl, _, rfl⟩

set_option maxHeartbeats 4000000 in
theorem take_one (h : LexAt w lb s ln cl i v) (hi : i < s.size) (hs : s.size ≤ 2000000) (hc : cl ≤ 4000000) (hp : w.cell? ⟨pl, 0, none⟩ = some (.pointer (some ⟨lb, 0, none⟩))) (hf : w.cell? ⟨pf, 0, none⟩ = some (.int .i64 i)) (n1 : pl ≠ lb) (n2 : pf ≠ lb) (l1 : pl < w.heap.size) (l2 : pf < w.heap.size) :
    Calls Tryd.prog 53 #[.pointer (some ⟨lb, 0, none⟩), .func (.func 61) #[] #[.pointer (some ⟨pl, 0, none⟩), .pointer (some ⟨pf, 0, none⟩)]] w fun e w' => e = .returned (.string (s.extract i (i + 1))) ∧ LexAt w' lb s ln (cl + 1) (i + 1) v ∧ Touch w w' (fun k => k = lb) := by
  have c2 := h.c2
  go_enter Tryd.func53, Tryd.ntmps53
  go_wp2_with fail
  go_loopg [] 1 (fun k wr => ∃ m c : Nat, Hid (m + k = i + 1 ∧ c + i = cl + m) ∧ m ≤ i + 1 ∧ i ≤ m ∧ m ≤ s.size ∧ c ≤ 8000000 ∧ LexAt wr lb s ln c m v ∧ Touch w wr (fun k => k = lb))
  case atStart => exact ⟨i, cl, Lib.hid ⟨rfl, by omega⟩, by omega, Nat.le_refl _, by omega, by omega, h, Touch.refl _ _⟩
  case round =>
    obtain ⟨m, c, hr, hmi, him, hm, hcb, hL, ht⟩ := hrel
    have hp2 := (World.cell?_of_block (w := w) (ht.block pl l1 n1)).trans hp
    have hf2 := (World.cell?_of_block (w := w) (ht.block pf l2 n2)).trans hf
    clear c2 h hp hf
    have c2 := hL.c2
    have c3 := hL.c3
    have c1 := hL.c1
    have f1 := hL.fr 1
    have f2 := hL.fr 2
    by_cases hlt : m < s.size
    · have i1 : (m : Int) < (s.size : Int) := by omega
      by_cases he : m = i
      · have hcc : ∀ n', Calls Tryd.prog 61 #[.int .u8 s[m].toNat, .pointer (some ⟨pl, 0, none⟩), .pointer (some ⟨pf, 0, none⟩)] (wr.drewN n') fun e w'' => e = .returned (.bool true) ∧ ∃ n, w'' = wr.drewN n := fun n' => (one_any (w := wr.drewN n') hp2 hf2 (hL.drawn n') _ (decide_eq_true he)).mono fun _ _ ⟨e, n, h⟩ => ⟨e, n' + n, h.trans (World.drewN_drewN _ _ _)⟩
        replace hcc := Lib.hid hcc
        replace he := Lib.hid he
        clear hp2 hf2
        go_wp2_with fail
        go_quiet ((go_at_call 61; exact hcc.out _))
        have hL2 := hL.drawn nq
        have ht2 := ht.trans (Touch.drewN wr nq _)
        clear hL ht c1 c2 c3 f1 f2 hcc
        generalize wr.drewN nq = wx at hL2 ht2 ⊢
        have c1 := hL2.c1
        have c2 := hL2.c2
        have f1 := hL2.fr 1
        have f2 := hL2.fr 2
        have b1 : (c : Int) + 1 < 9223372036854775808 := by omega
        go_wp2_with fail
        have hL3 := hL2.step
        have ht3 := (ht2.setCell (a := ⟨lb, 2, none⟩) (fun _ => rfl) (.int .i64 ((m : Int) + 1))).setCell (a := ⟨lb, 1, none⟩) (fun _ => rfl) (.int .i64 ((c : Int) + 1))
        obtain ⟨e1, e2⟩ := hr.out
        have e4 := he.out
        go_roundg (gk - 1)
        case rel => exact ⟨m + 1, c + 1, Lib.hid ⟨by omega, by omega⟩, by omega, by omega, by omega, by omega, hL3, ht3⟩
        case measure => omega
      · have hcc : ∀ n', Calls Tryd.prog 61 #[.int .u8 s[m].toNat, .pointer (some ⟨pl, 0, none⟩), .pointer (some ⟨pf, 0, none⟩)] (wr.drewN n') fun e w'' => e = .returned (.bool false) ∧ ∃ n, w'' = wr.drewN n := fun n' => (one_any (w := wr.drewN n') hp2 hf2 (hL.drawn n') _ (decide_eq_false he)).mono fun _ _ ⟨e, n, h⟩ => ⟨e, n' + n, h.trans (World.drewN_drewN _ _ _)⟩
        replace hcc := Lib.hid hcc
        have he' : m = i + 1 := by omega
        replace he' := Lib.hid he'
        clear hp2 hf2 he
        go_wp2_with fail
        go_quiet ((go_at_call 61; exact hcc.out _))
        have hL2 := hL.drawn nq
        have ht2 := ht.trans (Touch.drewN wr nq _)
        clear hL ht c1 c2 c3 f1 f2 hcc
        generalize wr.drewN nq = wx at hL2 ht2 ⊢
        have c2 := hL2.c2
        have c3 := hL2.c3
        have b2 : (i : Int) ≤ (m : Int) := by omega
        have b3 : (m : Int) ≤ (s.size : Int) := by omega
        go_wp2_with fail
        go_quiet (fail)
        go_wp2_with fail
        obtain ⟨e1, e2⟩ := hr.out
        obtain rfl := he'.out
        obtain rfl : c = cl + 1 := by omega
        go_ret
        exact ⟨rfl, hL2.drawn nq, ht2.trans (Touch.drewN wx nq _)⟩
    · have g1 : decide ((m : Int) < (s.size : Int)) = false := by simp; omega
      have he' : m = i + 1 := by omega
      replace he' := Lib.hid he'
      clear hp2 hf2
      go_wp2_with fail
      go_quiet (fail)
      have hL2 := hL.drawn nq
      have ht2 := ht.trans (Touch.drewN wr nq _)
      clear hL ht c1 c2 c3 f1 f2
      generalize wr.drewN nq = wx at hL2 ht2 ⊢
      have c2 := hL2.c2
      have c3 := hL2.c3
      have b2 : (i : Int) ≤ (m : Int) := by omega
      have b3 : (m : Int) ≤ (s.size : Int) := by omega
      go_wp2_with fail
      go_quiet (fail)
      go_wp2_with fail
      obtain ⟨e1, e2⟩ := hr.out
      obtain rfl := he'.out
      obtain rfl : c = cl + 1 := by omega
      go_ret
      exact ⟨rfl, hL2.drawn nq, ht2.trans (Touch.drewN wx nq _)⟩
end
end
section
open Go.RowKit Go.Shelf

theorem index_eq : ∀ (l : List UInt8) (c : UInt8), decide (Lib.indexByte l c ≥ 0) = decide (c ∈ l)
  | [], c => by simp [Lib.indexByte]
  | b :: l, c => by
    have ih := index_eq l c
    rw [decide_eq_decide] at ih ⊢
    unfold Lib.indexByte
    by_cases h : b = c
    · simp [h]
    · have h1 : (b == c) = false := by simpa using h
      rw [h1]
      simp only [Bool.false_eq_true, if_false, List.mem_cons]
      rw [← ih]
      have h2 : -1 ≤ Lib.indexByte l c := by
        clear ih h h1
        induction l with
        | nil => simp [Lib.indexByte]
        | cons a l ih =>
          unfold Lib.indexByte
          split
          · omega
          · split
            · omega
            · omega
      by_cases h3 : Lib.indexByte l c = -1
      · rw [h3]; simp; exact fun e => h e.symm
      · have h4 : (Lib.indexByte l c == -1) = false := by simpa using h3
        rw [h4]
        simp only [Bool.false_eq_true, if_false]
        constructor
        · intro _; right; omega
        · rintro (e | _)
          · exact absurd e.symm h
          · omega

section
variable {w w' : World} {lb ln cl i : Nat} {s : ByteArray} {v : Value}

theorem sign_any (b : UInt8) (w : World) : Calls Tryd.prog 60 #[.string ⟨#[61, 44, 58, 40, 41, 123, 125, 91, 93]⟩, .int .u8 b.toNat] w fun e w' => ∃ n : Int, e = .returned (.int .i64 n) ∧ decide (n ≥ 0) = signB b ∧ w' = w := by
  refine (Any.strings_IndexByte Tryd.lays137 ⟨#[61, 44, 58, 40, 41, 123, 125, 91, 93]⟩ (b.toNat : Int) w).mono ?_
  rintro e w' ⟨rfl, rfl⟩
  refine ⟨_, rfl, ?_, rfl⟩
  rw [index_eq]
  unfold signB signs
  rw [show ((b.toNat : Int).toNat.toUInt8) = b from by simp]

theorem clone_any (t : ByteArray) (w : World) (h : t.size ≤ 2000000) : Calls Tryd.prog 68 #[.string t] w fun e w' => e = .returned (.string t) ∧ Below w.heap.size w w' := by
  have hc := Lib.hid (Any.stringslite_Clone Tryd.laysM316 t w (by omega))
  go_enter Tryd.func68, Tryd.ntmps68
  go_wp2_with fail
  refine hc.out.mono ?_
  rintro e w' ⟨rfl, hb⟩
  go_wp2_with fail
  go_ret
  exact ⟨rfl, hb⟩
theorem atoi_any (t : ByteArray) (n : Int) (w : World) (hl : t.size ≤ 9) (h : Lib.atoi t.data.toList = some n) : Calls Tryd.prog 69 #[.string t] w fun e w' => e = .returned (.tuple #[.int .i64 n, .nilIface]) ∧ Below w.heap.size w w' := by
  refine (Any.strconv_Atoi Tryd.lays172 t n (by omega) h w).mono ?_
  rintro e w' ⟨rfl, u, rfl⟩
  exact ⟨rfl, Joins.below_bytesWorld _ _ _ _ (Nat.le_refl _)⟩

theorem infoTok : (Tryd.prog.info? 38).map (fun i => (i.zero, i.size, i.bytes)) = some (some (.agg #[.int .u8 0, .string ⟨#[]⟩, .int .i64 0, .int .i64 0, .int .i64 0]), 5, 48) := by kernel_rfl

/-- A word's cells. -/
def cellsT (t : Tok) : List Value := [.int .u8 t.kind, .string ⟨t.text.toArray⟩, .int .i64 t.num, .int .i64 t.line, .int .i64 t.col]
/-- The lexer with its words: a row of its own, from block B on. -/
structure LexW (B : Nat) (w : World) (lb : Nat) (s : ByteArray) (ln cl i : Nat) (v : Value) (out : List Tok) : Prop where
  at' : LexAt w lb s ln cl i v
  row : w.ownsRow B 38 5 v out.length (out.flatMap cellsT)
  low : lb < B
  top : B ≤ w.heap.size

theorem put_end {B gg cap' : Nat} {O : Obj} {w1 w2 : World} {out : List Tok} {t : Tok} (h : LexW B w lb s ln cl i v out) (hb : Below w.heap.size w w1) (hgrow : (w1.alloc O).grownBy w2 v.ownBlock)
    (hown : w2.ownsRow B 38 5 (.slice (some ⟨gg, 0, none⟩) (out.length + 1) cap') (out.length + 1) (out.flatMap cellsT ++ cellsT t)) (hat : v.ownBlock = some gg ∨ gg = w1.heap.size + 1) :
    LexW B (w2.setCell ⟨lb, 4, none⟩ (.slice (some ⟨gg, 0, none⟩) (out.length + 1) cap')) lb s ln cl i (.slice (some ⟨gg, 0, none⟩) (out.length + 1) cap') (out ++ [t]) ∧
      Touch w (w2.setCell ⟨lb, 4, none⟩ (.slice (some ⟨gg, 0, none⟩) (out.length + 1) cap')) (fun k => k = lb ∨ v.ownBlock = some k) := by
  have hlow := h.low
  have htop := h.top
  have hne : v.ownBlock ≠ some lb := fun e => by have := (h.row.lt lb e).1; omega
  have ht1 : Touch w w1 (fun k => v.ownBlock = some k) := Touch.of_below hb _
  have ht2 := (ht1.alloc O).trans ((Touch.of_grown hgrow (S := fun k => v.ownBlock = some k) (fun k e => e)))
  have hL := h.at'.touch ht2 hne
  have hlt := h.at'.lt
  have hz := hb.size
  have hgl : gg ≠ lb := by
    rintro rfl
    rcases hat with e | e
    · exact hne e
    · omega
  have ht3 : Touch w w2 (fun k => k = lb ∨ v.ownBlock = some k) := ht2.mono (fun k _ e => Or.inr e)
  refine ⟨⟨?_, ?_, hlow, ?_⟩, ht3.setCell (a := ⟨lb, 4, none⟩) (fun _ => Or.inl rfl) _⟩
  · have h1 := blk_set (i := 4) (.slice (some ⟨gg, 0, none⟩) (out.length + 1) cap') hL
    unfold LexAt
    rw [h1]
    rfl
  · rw [List.flatMap_append, List.length_append]
    have h2 := ownsRow_touch (S := fun k => k = lb) hown ((Touch.refl w2 (fun k => k = lb)).setCell (a := ⟨lb, 4, none⟩) (fun _ => rfl) (.slice (some ⟨gg, 0, none⟩) (out.length + 1) cap')) (fun b hb e => by
      simp [Value.ownBlock] at hb
      omega)
    simpa using h2
  · have := ht2.size
    simp
    omega

set_option maxHeartbeats 2000000 in
theorem put_any {B l c k n : Nat} {out : List Tok} {t : List UInt8} (h : LexW B w lb s ln cl i v out) (ho : out.length ≤ 2000000) (ht : t.length ≤ 2000000) :
    Calls Tryd.prog 56 #[.pointer (some ⟨lb, 0, none⟩), .int .u8 k, .agg #[.int .i64 l, .int .i64 c], .string ⟨t.toArray⟩, .int .i64 n] w fun e w' => e = .returned (.tuple #[]) ∧ ∃ v', LexW B w' lb s ln cl i v' (out ++ [⟨k, t, n, l, c⟩]) ∧ Touch w w' (fun k => k = lb ∨ v.ownBlock = some k) := by
  obtain ⟨i0, hi0, hz0, hz1, hz2⟩ := info_parts infoTok
  have c4 := h.at'.c4
  go_enter Tryd.func56, Tryd.ntmps56
  have hb0 : Below w.heap.size w (w.alloc (.cells #[.int .i64 l, .int .i64 c] 26)) := (Below.refl _ _).alloc (Nat.le_refl _) _
  have hcl := Lib.hid (clone_any ⟨t.toArray⟩ (w.alloc (.cells #[.int .i64 l, .int .i64 c] 26)).drew (by show t.toArray.size ≤ 2000000; simpa using ht))
  have hrow := h.row
  have hlow := h.low
  have htop := h.top
  have hlb := h.at'.lt
  go_wp2_with fail
  generalize hx : w.alloc (.cells #[.int .i64 l, .int .i64 c] 26) = wx at *
  have hL := h.at'.below hb0
  have hrow1 := ownsRow_touch hrow (Touch.of_below hb0 (fun _ => False)) (fun _ _ h => h)
  have c4 := hL.c4
  have s0 : wx.cell? ⟨w.heap.size, 0, none⟩ = some (.int .i64 l) := by rw [← hx]; simp
  have s1 : wx.cell? ⟨w.heap.size, 1, none⟩ = some (.int .i64 c) := by rw [← hx]; simp
  have hxz : wx.heap.size = w.heap.size + 1 := by rw [← hx]; simp
  replace hxz := Lib.hid hxz
  have hxle : w.heap.size < wx.heap.size := by have := hxz.out; omega
  have hne : v.ownBlock ≠ some lb := fun e => by have := (hrow.lt lb e).1; omega
  clear hx hxz
  go_region_law (first
    | (go_simp; go_at_call 68; refine hcl.out.mono ?_; rintro e w1 ⟨rfl, hb1⟩; have r4 := (hb1.cell (p := ⟨lb, 4, none⟩) (by simp; omega)).trans c4; have r0 := (hb1.cell (p := ⟨w.heap.size, 0, none⟩) hxle).trans s0; have r1 := (hb1.cell (p := ⟨w.heap.size, 1, none⟩) hxle).trans s1; have hrow2 := ownsRow_touch hrow1.drew (Touch.of_below hb1 (fun _ => False)) (fun _ _ h => h); have hzw : wx.heap.size ≤ w1.heap.size := hb1.size; have q4 : ∀ o, (w1.alloc o).cell? ⟨lb, 4, none⟩ = some v := fun o => (World.cell?_alloc_past _ _ _ (by omega)).trans r4; have g4 : ∀ o, (w1.alloc o).frozen? ⟨lb, 4, none⟩ = false := fun o => (World.frozen?_alloc_past _ _ _ (by omega)).trans ((hb1.frozen (p := ⟨lb, 4, none⟩) (by simp; omega)).trans (hL.fr 4)); go_simp)
    | (refine step_append_lies _ (by rfl) _ _ _ (by rfl) B 38 i0 _ 5 48 Tryd.underlying34 hi0 hz0 hz1 hz2 rfl (by omega) v out.length _ (by rfl) (hrow2.alloc _)
            ⟨w1.heap.size, 0, none⟩ 1 1 [.int .u8 k, .string ⟨t.toArray⟩, .int .i64 n, .int .i64 l, .int .i64 c] (by rfl) (by rfl) (World.news_of_block (cs := #[.int .u8 k, .string ⟨t.toArray⟩, .int .i64 n, .int .i64 l, .int .i64 c]) (t := 38) (fr := (0, 0)) (heap_alloc_new w1 _)) (by simp [Value.oneCell'])
            (by omega) (by unfold maxLen; omega) (by omega) (by simp; omega) (w1.heap.size + 1) (by simp) ?_; intro gg cap' w2 hown2 hgrow hat hlt2; have t4 : w2.cell? ⟨lb, 4, none⟩ = some v := (hgrow.cell_far ⟨lb, 4, none⟩ (by simp; omega) (Ne.symm hne)).trans (q4 _); have u4 : w2.frozen? ⟨lb, 4, none⟩ = false := (hgrow.frozen_far ⟨lb, 4, none⟩ (by simp; omega) (Ne.symm hne)).trans (g4 _)))
  all_goals
    have hzb : Below w.heap.size w w1 := (hb0.mono (Nat.le_refl _)).trans (Below.trans (b := wx.drew) ⟨rfl, rfl, rfl, Nat.le_refl _, fun _ _ => rfl⟩ (hb1.mono (Nat.le_of_lt hxle)))
    have hres := Lib.hid (put_end (t := ⟨k, t, n, l, c⟩) h hzb hgrow hown2 hat)
    clear h hrow hrow1 hrow2 hL hb0 hb1 hcl r4 r0 r1 s0 s1 q4 g4 hown2 hgrow hat c4
    go_wp2_with fail
    go_end0
    exact ⟨rfl, _, hres.out⟩
end
end
end Go.Proofs.YtgcanabckogmmaaDoor
