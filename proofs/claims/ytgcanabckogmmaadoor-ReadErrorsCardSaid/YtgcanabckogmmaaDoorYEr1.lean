/- LaidT, RdE3, RdE4, RdE5, RdE6, RdE7. -/
import Derived.Test.YtgcanabckogmmaaDoorZA
import Derived.Test.YtgcanabckogmmaaDoorRows
import Derived.Test.YtgcanabckogmmaaDoorYO
import Derived.Test.YtgcanabckogmmaaDoorYP
import Derived.Test.YtgcanabckogmmaaDoorYK
import Derived.Test.YtgcanabckogmmaaDoorYI
import Derived.Lib.LaidTab
import Derived.Deep.CutBlock
namespace Go.Proofs.YtgcanabckogmmaaDoor
set_option linter.unusedVariables false
set_option linter.unusedSimpArgs false
section
def lits64 : DataW Unit → List Value
  | .agg l => l.map fun | .lit (.int k n) => Value.int k n | _ => undef
  | _ => []
noncomputable def lowL : Nat := (World.holding Tryd.prog default ⟨#[], #[], []⟩).heap.size
/-- A variable that holds these cells. -/
noncomputable def putG (h : Array Obj) (g : Nat) (cs : Array Value) : Array Obj := h.modify g fun
  | .cells _ t frozen => .cells cs t frozen
  | o => o
noncomputable def laidWorld (os : Os) : World :=
  let w0 := World.holding Tryd.prog os ⟨#[.cells #[.string ⟨#[105, 110, 118, 97, 108, 105, 100, 32, 115, 121, 110, 116, 97, 120]⟩] 128, .cells #[.string ⟨#[118, 97, 108, 117, 101, 32, 111, 117, 116, 32, 111, 102, 32, 114, 97, 110, 103, 101]⟩] 128], #[], []⟩
  { w0 with heap := putG (putG (putG (putG (putG w0.heap 1 #[.iface 126 (.pointer (some ⟨lowL, 0, none⟩))]) 2 #[.iface 126 (.pointer (some ⟨lowL + 1, 0, none⟩))])
      3 (lits64 Rows.laid_internal_strconv_uint64pow10).toArray) 4 (lits64 Rows.laid_math_bits_deBruijn32tab).toArray) 5 (lits64 Rows.laid_math_bits_deBruijn64tab).toArray }
end
section
section
variable {α β : Type} {N : List Tok}
def SpB (N l : List Tok) : Prop := ∀ t ∈ l, t ∈ N
def SpF (N : List Tok) (e : Flt) : Prop := e.2.2 = 0 ∨ ∃ t ∈ N, e = (t.line, t.col, if t.kind = 4 then 41 else 40)
def Sp (N : List Tok) (r : Except Flt (α × List Tok)) : Prop :=
  match r with
  | .ok p => SpB N p.2
  | .error e => SpF N e
def SpL (N : List Tok) (r : Except Flt (List Tok)) : Prop :=
  match r with
  | .ok l => SpB N l
  | .error e => SpF N e
theorem Sp.bind {r : Except Flt (α × List Tok)} {g : α → List Tok → Except Flt (β × List Tok)} (h : Sp N r) (hg : ∀ x l, SpB N l → Sp N (g x l)) : Sp N (bindE r g) := by
  cases r with
  | error e => exact h
  | ok p => exact hg p.1 p.2 h
theorem SpL.bind {r : Except Flt (List Tok)} {g : List Tok → Except Flt (β × List Tok)} (h : SpL N r) (hg : ∀ l, SpB N l → Sp N (g l)) : Sp N (match (generalizing := false) r with | .error e => .error e | .ok l => g l) := by
  cases r with
  | error e => exact h
  | ok l => exact hg l h
theorem flt_sp {l : List Tok} (h : SpB N l) : SpF N (fltL l) := by
  cases l with
  | nil => exact .inl rfl
  | cons t l => exact .inr ⟨t, h t (List.mem_cons_self ..), rfl⟩
theorem tail_sp {l : List Tok} (h : SpB N l) : SpB N l.tail := fun t ht => h t (List.mem_of_mem_tail ht)
theorem take_sp {l : List Tok} (h : SpB N l) (k ln : Nat) : Sp N (takeP k l ln) := by
  cases l with
  | nil => exact .inl rfl
  | cons t l =>
    show Sp N (if (moreB (t :: l) ln && t.kind == k) = true then .ok (t, l) else .error (fltL (t :: l)))
    split
    · exact tail_sp h
    · exact flt_sp h
theorem name_sp {l : List Tok} (h : SpB N l) (ln : Nat) : Sp N (nameP l ln) := by
  rw [nameP_b]
  exact (take_sp h 1 ln).bind fun _ _ h => h
theorem sign_sp {l : List Tok} (h : SpB N l) (c : UInt8) (ln : Nat) : SpL N (signP c l ln) := by
  unfold signP
  split
  · exact tail_sp h
  · exact flt_sp h
def SpP (N : List Tok) (f : α → List Tok → Nat → Except Flt (α × List Tok)) : Prop := ∀ x l ln, SpB N l → Sp N (f x l ln)
theorem list_sp {one : α → List Tok → Nat → Except Flt (α × List Tok)} {c : UInt8} (hone : SpP N one) : ∀ (n : Nat), SpP N (listP one c n)
  | 0, _, _, _, _ => .inl rfl
  | n + 1, x, l, ln, h => by
    unfold listP
    have ho := hone x l ln h
    cases hr : one x l ln with
    | error e => rw [hr] at ho; exact ho
    | ok p =>
      obtain ⟨x1, l1⟩ := p
      rw [hr] at ho
      dsimp only
      split
      · exact (sign_sp ho c ln).bind (g := fun l => .ok (x1, l)) fun _ h => h
      · exact (sign_sp ho 44 ln).bind (g := fun l => listP one c n x1 l ln) fun l h => list_sp hone n x1 l ln h
theorem oneName_sp : SpP N oneName := fun x l ln h => by
  rw [oneName_b]
  exact (name_sp h ln).bind fun _ _ h => h
theorem names_sp {l : List Tok} (h : SpB N l) (ln : Nat) : Sp N (namesP l ln) := by
  unfold namesP
  refine (sign_sp h 40 ln).bind (g := fun l => if isB l ln 41 = true then (match signP 41 l ln with | .error e => .error e | .ok l => .ok ([], l)) else listP oneName 41 (l.length + 1) [] l ln) fun l h => ?_
  split
  · exact (sign_sp h 41 ln).bind (g := fun l => .ok ([], l)) fun _ h => h
  · exact list_sp oneName_sp _ _ _ _ h
theorem then_sp {f g : Ins → List Tok → Nat → Except Flt (Ins × List Tok)} (hf : SpP N f) (hg : SpP N g) : SpP N (thenP f g) := fun x l ln h => by
  rw [thenP_b]
  exact (hf x l ln h).bind fun x l h => hg x l ln h
theorem skip_sp (c : UInt8) : SpP N (skipP c) := fun x l ln h => (sign_sp h c ln).bind (g := fun l => .ok (x, l)) fun _ h => h
theorem byName_sp {f : Ins → List Tok → Nat → Except Flt (Ins × List Tok)} (put : Ins → ByteArray → Ins) (hf : ∀ x l ln, f x l ln = match nameP l ln with | .error e => .error e | .ok (s, l) => .ok (put x s, l)) : SpP N f := fun x l ln h => by
  have e : f x l ln = bindE (nameP l ln) (fun s l => .ok (put x s, l)) := by
    rw [hf]
    unfold bindE
    cases nameP l ln <;> rfl
  rw [e]
  exact (name_sp h ln).bind fun _ _ h => h
theorem operand_sp : SpP N operandP := byName_sp (fun x s => { x with a := s }) (fun _ _ _ => rfl)
theorem label_sp : SpP N labelP := byName_sp (fun x s => { x with labels := x.labels ++ [s] }) (fun _ _ _ => rfl)
theorem fn_sp : SpP N fnP := byName_sp (fun x s => { x with fn := s }) (fun _ _ _ => rfl)
theorem arg_sp : SpP N argP := byName_sp (fun x s => { x with args := x.args ++ [s] }) (fun _ _ _ => rfl)
theorem val_sp : SpP N valP := byName_sp (fun x s => { x with b := s }) (fun _ _ _ => rfl)
theorem fields_sp : SpP N fieldsP := fun x l ln h => by
  rw [fieldsP_b]
  exact (take_sp h 2 ln).bind fun _ _ h => h
theorem args_sp : SpP N argsP := fun x l ln h => by
  rw [argsP_b]
  exact (names_sp h ln).bind fun _ _ h => h
theorem phi_sp : SpP N phiP := fun x l ln h => (sign_sp h 91 ln).bind (g := fun l => listP pairP 93 (l.length + 1) x l ln) fun l h => list_sp (then_sp label_sp (then_sp (skip_sp 58) arg_sp)) _ _ _ _ h
theorem rest_sp (r : Rst) : SpP N (restP r) := by
  cases r with
  | fields => exact fields_sp
  | nothing => exact fun x l ln h => h
  | fn => exact fn_sp
  | operand => exact operand_sp
  | field => exact then_sp operand_sp fields_sp
  | phi => exact phi_sp
  | call => exact then_sp fn_sp args_sp
  | icall => exact then_sp operand_sp args_sp
  | store => exact then_sp operand_sp (then_sp (skip_sp 44) val_sp)
  | branch => exact then_sp label_sp label_sp
  | label => exact label_sp
  | result =>
    intro x l ln h
    show Sp N (if moreB l ln = true then operandP x l ln else .ok (x, l))
    split
    · exact operand_sp x l ln h
    · exact h
end
section
variable {N : List Tok}
def SpT (N : List Tok) (r : Except Flt (Fun × List Tok × Nat)) : Prop :=
  match r with
  | .ok p => SpB N p.2.1
  | .error e => SpF N e
theorem inside_sp (d : Fun) {l : List Tok} (h : SpB N l) (ln : Nat) : Sp N (insideP d l ln) := by
  unfold insideP
  have ho := name_sp h ln
  cases hr : nameP l ln with
  | error e => rw [hr] at ho; exact ho
  | ok p =>
    obtain ⟨s, l1⟩ := p
    rw [hr] at ho
    have ho : SpB N l1 := ho
    dsimp only
    split
    · exact (sign_sp ho 58 ln).bind (g := fun l => .ok (addB d s, l)) fun _ h => h
    · cases (if isB l1 ln 61 = true then none else bareF s.data.toList) with
      | some how =>
        dsimp only
        have hi := rest_sp (N := N) how.2 (insOf how.1 ⟨#[]⟩) l1 ln ho
        unfold instrP
        cases hq : restP how.2 (insOf how.1 ⟨#[]⟩) l1 ln with
        | error e => rw [hq] at hi; exact hi
        | ok p => rw [hq] at hi; exact hi
      | none =>
        dsimp only
        have hs := sign_sp ho 61 ln
        cases hq : signP 61 l1 ln with
        | error e => rw [hq] at hs; exact hs
        | ok l2 =>
          rw [hq] at hs
          have hs : SpB N l2 := hs
          dsimp only
          cases valueF (headT l2) with
          | none => exact flt_sp hs
          | some how =>
            dsimp only
            have hn := name_sp hs ln
            cases hq2 : nameP l2 ln with
            | error e => rw [hq2] at hn; exact hn
            | ok p =>
              obtain ⟨s2, l5⟩ := p
              rw [hq2] at hn
              have hn : SpB N l5 := hn
              dsimp only
              have hi := rest_sp (N := N) how.2 (insOf how.1 s) l5 ln hn
              unfold instrP
              cases hq3 : restP how.2 (insOf how.1 s) l5 ln with
              | error e => rw [hq3] at hi; exact hi
              | ok p => rw [hq3] at hi; exact hi
theorem begin_sp {l : List Tok} (h : SpB N l) {ln : Nat} {e : Flt} (hb : beginP l ln = .error e) : SpF N e := by
  unfold beginP at hb
  split at hb
  · injection hb with hb
    subst hb
    exact flt_sp h
  · cases hb
theorem body_sp : ∀ (n : Nat) (d : Fun) (l : List Tok) (ln : Nat), SpB N l → SpT N (bodyP n d l ln)
  | 0, _, _, _, _ => .inl rfl
  | n + 1, d, l, ln, h => by
    unfold bodyP
    split
    · have hs := sign_sp h 125 ln
      cases hq : signP 125 l ln with
      | error e => rw [hq] at hs; exact hs
      | ok l2 => rw [hq] at hs; exact hs
    · have hi := inside_sp d h ln
      cases hq : insideP d l ln with
      | error e => rw [hq] at hi; exact hi
      | ok p =>
        obtain ⟨d1, l2⟩ := p
        rw [hq] at hi
        dsimp only
        cases hb : beginP l2 ln with
        | error e => exact begin_sp (l := l2) hi hb
        | ok ln3 => exact body_sp n d1 l2 ln3 hi
theorem func_sp {l : List Tok} (h : SpB N l) (ln : Nat) : SpT N (funcP l ln) := by
  unfold funcP
  split
  · have h1 := name_sp h ln
    cases q1 : nameP l ln with
    | error e => rw [q1] at h1; exact h1
    | ok p =>
      obtain ⟨s1, l1⟩ := p
      rw [q1] at h1
      have h1 : SpB N l1 := h1
      dsimp only
      have h2 := name_sp h1 ln
      cases q2 : nameP l1 ln with
      | error e => rw [q2] at h2; exact h2
      | ok p =>
        obtain ⟨s2, l2⟩ := p
        rw [q2] at h2
        have h2 : SpB N l2 := h2
        dsimp only
        have h3 := names_sp h2 ln
        cases q3 : namesP l2 ln with
        | error e => rw [q3] at h3; exact h3
        | ok p =>
          obtain ⟨ps, l3⟩ := p
          rw [q3] at h3
          have h3 : SpB N l3 := h3
          dsimp only
          have h4 := sign_sp h3 123 ln
          cases q4 : signP 123 l3 ln with
          | error e => rw [q4] at h4; exact h4
          | ok l4 =>
            rw [q4] at h4
            have h4 : SpB N l4 := h4
            dsimp only
            cases hb : beginP l4 ln with
            | error e => exact begin_sp h4 hb
            | ok ln5 => exact body_sp _ _ l4 ln5 h4
  · exact flt_sp h
theorem prog_sp : ∀ (n : Nat) (acc : List Fun) (l : List Tok) (ln : Nat) (e : Flt), SpB N l → progP n acc l ln = .error e → SpF N e
  | 0, _, _, _, e, _, h => by unfold progP at h; injection h with h; subst h; exact .inl rfl
  | n + 1, acc, l, ln, e, hl, h => by
    unfold progP at h
    split at h
    · cases h
    · have hf := func_sp hl ln
      cases hq : funcP l ln with
      | error f =>
        rw [hq] at h hf
        injection h with h
        subst h
        exact hf
      | ok p =>
        obtain ⟨d, l1, ln1⟩ := p
        rw [hq] at h hf
        have hf : SpB N l1 := hf
        dsimp only at h
        cases hb : beginP l1 ln1 with
        | error f =>
          rw [hb] at h
          injection h with h
          subst h
          exact begin_sp hf hb
        | ok ln2 =>
          rw [hb] at h
          exact prog_sp n _ l1 ln2 e hf h
theorem parseT_sp {T : List Tok} (hT : SpB N T) {e : Flt} (h : parseT T = .error e) : SpF N e := by
  unfold parseT at h
  cases hb : beginP T 0 with
  | error f => rw [hb] at h; injection h with h; subst h; exact begin_sp hT hb
  | ok ln => rw [hb] at h; exact prog_sp _ _ _ _ _ hT h
end
end
section
/-- Up to a word there are the words ahead of it. -/
theorem lex_upto : ∀ (n : Nat) (l : List UInt8) (ln cl : Nat) (T : List Tok), l.length ≤ n → lex l ln cl = .ok T → ∀ i t, T[i]? = some t → ∃ m, m ≤ l.length ∧ spotL (ln, cl) (l.take m) = (t.line, t.col) ∧ lex (l.take m) ln cl = .ok (T.take i ++ [⟨4, [], 0, t.line, t.col⟩])
  | _, [], ln, cl, T, _, h, i, t, ht => by
    rw [lex_nil] at h
    injection h with h
    subst h
    cases i with
    | succ i => simp at ht
    | zero =>
      rw [List.getElem?_cons_zero] at ht
      injection ht with ht
      subst ht
      exact ⟨0, Nat.le_refl _, rfl, by rw [List.take_nil, lex_nil]; rfl⟩
  | 0, _ :: _, _, _, _, h, _, _, _, _ => by simp at h
  | n + 1, c :: q, ln, cl, T, hn, h, i, t, ht => by
    cases hs : stepL (c :: q) ln cl with
    | error e' => rw [lex_bad (by simp) hs] at h; cases h
    | ok x =>
      obtain ⟨k, a, b, w⟩ := x
      obtain ⟨hk0, hk⟩ := step_pos hs
      obtain ⟨hsp, hf⟩ := step_forms hs
      rw [lex_went (by simp) hs] at h
      cases hr : lex ((c :: q).drop k) a b with
      | error e => rw [hr] at h; cases h
      | ok T' =>
        rw [hr] at h
        injection h with h
        subst h
        have ih := fun i t ht => lex_upto n ((c :: q).drop k) a b T' (by rw [List.length_drop]; simp only [List.length_cons] at hn ⊢; omega) hr i t ht
        have key : ∀ i t, T'[i]? = some t → ∃ m, m ≤ (c :: q).length ∧ spotL (ln, cl) ((c :: q).take m) = (t.line, t.col) ∧ lex ((c :: q).take m) ln cl = .ok (w.toList ++ (T'.take i ++ [⟨4, [], 0, t.line, t.col⟩])) := fun i t ht => by
          obtain ⟨m, h1, h2, h3⟩ := ih i t ht
          have hl := h1
          rw [List.length_drop] at hl
          refine ⟨k + m, by omega, ?_, ?_⟩
          · rw [List.take_add, spotL_app, hsp]
            exact h2
          · have hs2 := stepL_take (n := k + m) hs (by omega)
            have h0 : (c :: q).take (k + m) ≠ [] := by
              obtain ⟨j, hj⟩ : ∃ j, k + m = j + 1 := ⟨k + m - 1, by omega⟩
              rw [hj, List.take_succ_cons]; simp
            rw [lex_went h0 hs2, List.drop_take, show k + m - k = m from by omega, h3]
            rfl
        cases w with
        | none => exact key i t ht
        | some x =>
          have ht : (x :: T')[i]? = some t := ht
          cases i with
          | zero =>
            rw [List.getElem?_cons_zero] at ht
            injection ht with ht
            subst ht
            rcases hf with ⟨h, -⟩ | ⟨w', h, -, h2, -⟩
            · cases h
            · injection h with h
              subst h
              refine ⟨0, Nat.zero_le _, h2.symm, ?_⟩
              rw [List.take_zero, lex_nil]
              injection h2 with h3 h4
              rw [h3, h4]
              rfl
          | succ i =>
            rw [List.getElem?_cons_succ] at ht
            exact key i t ht
theorem spot_place {l : List UInt8} {m m' : Nat} (hm : m ≤ l.length) (hm' : m' ≤ l.length) (h : spotOf (l.take m) = spotOf (l.take m')) : m = m' := by
  obtain ⟨-, -, -, x, h1, h2⟩ := place_of_spot l hm
  obtain ⟨-, -, -, y, h3, h4⟩ := place_of_spot l hm'
  rw [h] at h1 h2
  rw [h1] at h3
  injection h3 with h3
  omega
/-- No two words have one spot. -/
theorem lex_one {l : List UInt8} {T : List Tok} (h : lex l 1 1 = .ok T) {i j : Nat} {t u : Tok} (ht : T[i]? = some t) (hu : T[j]? = some u) (he : t.line = u.line ∧ t.col = u.col) : i = j := by
  obtain ⟨m, h1, h2, h3⟩ := lex_upto _ l 1 1 T (Nat.le_refl _) h i t ht
  obtain ⟨m', k1, k2, k3⟩ := lex_upto _ l 1 1 T (Nat.le_refl _) h j u hu
  obtain rfl := spot_place h1 k1 (h2.trans (by rw [he.1, he.2]; exact k2.symm))
  rw [h3] at k3
  injection k3 with k3
  have := congrArg List.length k3
  simp only [List.length_append, List.length_take, List.length_singleton] at this
  have a1 := (List.getElem?_eq_some_iff.1 ht).1
  have a2 := (List.getElem?_eq_some_iff.1 hu).1
  omega
def errR' : Except Flt (List Fun) → Nat
  | .ok _ => 0
  | .error e => e.2.2
/-- What an error is: at a word; up to that the text goes on. -/
theorem parse_upto {l : List UInt8} {T : List Tok} {f : Flt} (h : lex l 1 1 = .ok T) (hf : parseL l = .error f) : ∃ (i : Nat) (t : Tok) (m : Nat), T[i]? = some t ∧ f = (t.line, t.col, if t.kind = 4 then 41 else 40) ∧ m ≤ l.length ∧ spotOf (l.take m) = (t.line, t.col) ∧ (errR' (parseL (l.take m)) = 41 ∨ errR' (parseL (l.take m)) = 0) := by
  have h0 := parse_code hf
  have hp : parseT T = .error f := by unfold parseL at hf; rw [h] at hf; exact hf
  have hs := parseT_sp (N := T) (fun t ht => ht) hp
  rcases hs with hs | ⟨t, ht, hs⟩
  · exact absurd hs h0
  · obtain ⟨i, hi⟩ := List.getElem?_of_mem ht
    obtain ⟨m, h1, h2, h3⟩ := lex_upto _ l 1 1 T (Nat.le_refl _) h i t hi
    refine ⟨i, t, m, hi, hs, h1, h2, ?_⟩
    have hE : parseL (l.take m) = parseT (T.take i ++ [⟨4, [], 0, t.line, t.col⟩]) := by unfold parseL; rw [h3]
    rw [hE]
    cases hq : parseT (T.take i ++ [⟨4, [], 0, t.line, t.col⟩]) with
    | ok P => exact .inr rfl
    | error e =>
      refine .inl ?_
      have hpos := (lex_sorted _ _ _ _ _ h).1
      refine parse_cut (R := T.drop i) rfl (fun u hu => hpos u (List.mem_of_mem_take hu)) hq fun u hu f' hf' => ?_
      rw [List.take_append_drop, hp] at hf'
      injection hf' with hf'
      subst hf'
      rw [hs]
      rintro ⟨e1, e2⟩
      obtain ⟨j, hj⟩ := List.getElem?_of_mem hu
      have hlt : j < i := by
        have := (List.getElem?_eq_some_iff.1 hj).1
        rw [List.length_take] at this
        omega
      rw [List.getElem?_take_of_lt hlt] at hj
      have := lex_one h hi hj ⟨e1, e2⟩
      omega
/-- Lines of a text that goes on do not go back. -/
theorem spot_mono (l : List UInt8) {a b : Nat} (h : a ≤ b) : (spotOf (l.take a)).1 ≤ (spotOf (l.take b)).1 := by
  rw [(begin_spot (l.take a)).1, (begin_spot (l.take b)).1]
  obtain ⟨t, ht⟩ := begin_take (l.take b) a
  rw [List.take_take, Nat.min_eq_left h] at ht
  rw [ht, List.length_append]
  omega
end
section
open Go.RowKit Go.Maps Go.Shelf
attribute [local go_sem] Oper.semAt_some fld0 fld1 fld2

set_option maxRecDepth 20000 in
set_option maxHeartbeats 2000000 in
theorem errors_great {w : World} {s : ByteArray} (h : 1500 < s.size) : Calls Tryd.prog 5 #[.string s] w fun e w' => e = .returned (.bool true) ∧ Below w.heap.size w w' := by
  have g1 : decide ((s.size : Int) > 1500) = true := by simp; omega
  clear h
  go_enter Tryd.func5, Tryd.ntmps5
  go_wp2_with fail
  go_ret
  exact ⟨rfl, Below.refl _ _⟩
set_option maxRecDepth 20000 in
set_option maxHeartbeats 2000000 in
theorem errors_lex {w : World} {s : ByteArray} (h : s.size ≤ 1500) {f : Flt} (hl : lex s.data.toList 1 1 = .error f) : Calls Tryd.prog 5 #[.string s] w fun e w' => e = .returned (.bool true) ∧ Below w.heap.size w w' := by
  have g1 : decide ((s.size : Int) > 1500) = false := by simp; omega
  obtain ⟨l, c, er⟩ := f
  have h0 := lexN_err _ _ _ _ _ _ _ (Nat.le_refl _) hl
  obtain ⟨m, hm, hsp, -⟩ := first_bad _ s.data.toList 1 1 l c er (Nat.le_refl _) hl
  have hl1 : 1 ≤ l := by
    have := (place_of_spot s.data.toList (m := m) (by omega)).1
    rw [show spotOf (s.data.toList.take m) = (l, c) from hsp] at this
    exact this
  have k1 := Lib.hid (fun w' => lex_any (w := w') (s := s) (by omega))
  have k2 := Lib.hid (fun w' => parse_any (w := w') (s := s) (by omega))
  have hp : parseL s.data.toList = .error (l, c, er) := by unfold parseL; rw [hl]
  rw [hl] at k1
  rw [hp] at k2
  have q1 : ((er : Int) != 0) = true := by simpa using h0
  have q2 : ((er : Int) == 0) = false := by rw [beq_eq_false_iff_ne]; omega
  have hq := fun w => eq_spotT w (l : Int) (c : Int) 0 0
  have q3 : ((l : Int) == 0) = false := by rw [beq_eq_false_iff_ne]; omega
  clear h hl hp h0 hm hsp
  go_enter Tryd.func5, Tryd.ntmps5
  go_wp2_with fail
  refine (k1.out _).mono ?_
  rintro e w1 ⟨rfl, hb1⟩
  replace hb1 := Lib.hid hb1
  go_wp2_with fail
  refine (k2.out _).mono ?_
  rintro e w2 ⟨hb2, rfl⟩
  have hb3 : ∀ A B, Below w.heap.size w ((w2.alloc A).alloc B) := fun A B => by
    have s1 := hb1.out.size
    have t1 := hb1.out.alloc s1 (.cells #[.int .i64 l, .int .i64 c] 26)
    have t2 := t1.trans (hb2.mono t1.size)
    exact (t2.alloc t2.size A).alloc (by have := t2.size; simp; omega) B
  replace hb3 := Lib.hid hb3
  clear hb1 hb2
  go_wp2_with fail
  refine reads_any.mono ?_
  rintro e w5 ⟨rfl, hb5⟩
  replace hb5 := Lib.hid hb5
  go_wp2_with fail
  go_ret
  exact ⟨rfl, (hb3.out _ _).trans (hb5.out.mono (hb3.out _ _).size)⟩
set_option maxRecDepth 20000 in
set_option maxHeartbeats 2000000 in
theorem errors_ok {w : World} {s : ByteArray} (h : s.size ≤ 1500) {P : List Fun} (hp : parseL s.data.toList = .ok P) : Calls Tryd.prog 5 #[.string s] w fun e w' => e = .returned (.bool true) ∧ Below w.heap.size w w' := by
  have g1 : decide ((s.size : Int) > 1500) = false := by simp; omega
  obtain ⟨T, hl⟩ : ∃ T, lex s.data.toList 1 1 = .ok T := by
    cases hl : lex s.data.toList 1 1 with
    | ok T => exact ⟨T, rfl⟩
    | error e => unfold parseL at hp; rw [hl] at hp; cases hp
  have k1 := Lib.hid (fun w' => lex_any (w := w') (s := s) (by omega))
  have k2 := Lib.hid (fun w' => parse_any (w := w') (s := s) (by omega))
  rw [hl] at k1
  rw [hp] at k2
  have hq := fun w => eq_spotT w 0 0 0 0
  clear h hl hp
  go_enter Tryd.func5, Tryd.ntmps5
  go_wp2_with fail
  refine (k1.out _).mono ?_
  rintro e w1 ⟨⟨v1, rfl, hrow⟩, hb1⟩
  obtain ⟨av1, cv1, rfl⟩ := hrow.rd.form
  replace hb1 := Lib.hid hb1
  clear hrow
  go_wp2_with fail
  refine (k2.out _).mono ?_
  intro e w2 h2
  obtain ⟨va, n1, vc, rfl, hb2, -, -⟩ := post_all h2
  dsimp only [errR]
  rw [Int.natCast_zero]
  clear h2
  have hb3 : ∀ A B, Below w.heap.size w ((w2.alloc A).alloc B) := fun A B => by
    have s1 := hb1.out.size
    have t1 := hb1.out.alloc s1 (.cells #[.int .i64 0, .int .i64 0] 26)
    have t2 := t1.trans (hb2.mono t1.size)
    exact (t2.alloc t2.size A).alloc (by have := t2.size; simp; omega) B
  replace hb3 := Lib.hid hb3
  clear hb1 hb2
  go_wp2_with fail
  refine reads_any.mono ?_
  rintro e w5 ⟨rfl, hb5⟩
  replace hb5 := Lib.hid hb5
  go_wp2_with fail
  go_ret
  exact ⟨rfl, (hb3.out _ _).trans (hb5.out.mono (hb3.out _ _).size)⟩
end
section
open Go.RowKit Go.Maps Go.Shelf
attribute [local go_sem] Oper.semAt_some fld0 fld1 fld2

theorem errR_eq (R : Except Flt (List Fun)) : errR' R = (errR R).2.2 := by cases R <;> rfl
theorem extract_take (s : ByteArray) (m : Nat) : (s.extract 0 m).data.toList = s.data.toList.take m := by
  rw [ByteArray.data_extract]
  simp [List.extract_eq_take_drop]
/-- One byte further. -/
theorem from_step {s : ByteArray} {k l L m C : Nat} (hk : k < s.size) (hm : m ≤ s.size) (hsp : spotOf (s.data.toList.take m) = (L, C)) (h1 : (spotOf (s.data.toList.take k)).1 = l) (hl : l < L) :
    (s[k] = 10 → (spotOf (s.data.toList.take (k + 1))).1 = l + 1 ∧ l + 1 ≤ L ∧ (beginL s.data.toList)[l + 1 - 1]? = some (k + 1)) ∧ (s[k] ≠ 10 → (spotOf (s.data.toList.take (k + 1))).1 = l) := by
  have hts : s.data.toList.take (k + 1) = s.data.toList.take k ++ [s[k]] := by
    rw [List.take_succ_eq_append_getElem (by simpa using hk)]
    rfl
  have hstep : spotOf (s.data.toList.take (k + 1)) = spotStep (spotOf (s.data.toList.take k)) s[k] := by rw [hts, spotOf_snoc]
  refine ⟨fun hc => ?_, fun hc => ?_⟩
  · have e : spotOf (s.data.toList.take (k + 1)) = (l + 1, 1) := by
      rw [hstep]
      unfold spotStep
      rw [if_pos hc, h1]
    have hkm : k + 1 ≤ m := by
      rcases Nat.lt_or_ge k m with h | h
      · exact h
      · have := spot_mono s.data.toList h
        rw [hsp, h1] at this
        have : L ≤ l := this
        omega
    have := spot_mono s.data.toList hkm
    rw [hsp, e] at this
    have this : l + 1 ≤ L := this
    obtain ⟨-, -, -, x, h3, h4⟩ := place_of_spot s.data.toList (m := k + 1) (by simp; omega)
    rw [e] at h3 h4
    have h4 : x + 1 = k + 1 + 1 := h4
    obtain rfl : x = k + 1 := by omega
    exact ⟨by rw [e], this, h3⟩
  · rw [hstep]
    unfold spotStep
    rw [if_neg hc]
    exact h1
set_option maxRecDepth 20000 in
set_option maxHeartbeats 4000000 in
theorem errors_syn {w : World} {s : ByteArray} (h : s.size ≤ 1500) {T : List Tok} (hl : lex s.data.toList 1 1 = .ok T) {f : Flt} (hp : parseL s.data.toList = .error f) : Calls Tryd.prog 5 #[.string s] w fun e w' => e = .returned (.bool true) ∧ Below w.heap.size w w' := by
  have g1 : decide ((s.size : Int) > 1500) = false := by simp; omega
  obtain ⟨i0, t, m, hi0, hft, hm, hsp, hend⟩ := parse_upto hl hp
  have hsz : s.data.toList.length = s.size := by simp
  rw [hsz] at hm
  obtain ⟨L, hL⟩ : ∃ L, L = t.line := ⟨_, rfl⟩
  obtain ⟨C, hC⟩ : ∃ C, C = t.col := ⟨_, rfl⟩
  obtain ⟨fe, hfe⟩ : ∃ fe : Nat, fe = if t.kind = 4 then 41 else 40 := ⟨_, rfl⟩
  rw [← hL, ← hC, ← hfe] at hft
  rw [← hL, ← hC] at hsp
  obtain ⟨bq, e1, e2⟩ : ∃ bq, ((fe : Int) == 41) = bq ∧ ((t.kind : Int) == 4) = bq := by
    by_cases h4 : t.kind = 4
    · exact ⟨true, by rw [hfe, if_pos h4]; rfl, by rw [h4]; rfl⟩
    · exact ⟨false, by rw [hfe, if_neg h4]; rfl, by rw [beq_eq_false_iff_ne]; omega⟩
  have hfe2 : fe = 40 ∨ fe = 41 := by rw [hfe]; split <;> simp
  have q1 : ((fe : Int) == 0) = false := by rw [beq_eq_false_iff_ne]; omega
  have q2 : (fe = 40 ∧ ((fe : Int) != 40) = false) ∨ (((fe : Int) != 40) = true ∧ ((fe : Int) != 41) = false) := by rcases hfe2 with h | h <;> subst h <;> simp
  have k1 := Lib.hid (fun w' => lex_any (w := w') (s := s) (by omega))
  have k2 := Lib.hid (fun w' => parse_any (w := w') (s := s) (by omega))
  have k3 := Lib.hid (fun w' => parse_any (w := w') (s := s.extract 0 m) (by simp; omega))
  rw [extract_take] at k3
  rw [hl] at k1
  rw [hp, hft] at k2
  obtain ⟨x, hx1, hx2⟩ : ∃ x, (beginL s.data.toList)[L - 1]? = some x ∧ x + C = m + 1 := by
    obtain ⟨-, -, -, x, h3, h4⟩ := place_of_spot s.data.toList (m := m) (by omega)
    rw [hsp] at h3 h4
    exact ⟨x, h3, h4⟩
  have hL1 : 1 ≤ L := by
    have := (place_of_spot s.data.toList (m := m) (by omega)).1
    rw [hsp] at this
    exact this
  have htok := lex_tok hl (by omega)
  have hLb : L ≤ 4000000 := by rw [hL]; exact (htok.line t (List.mem_of_getElem? hi0)).1
  have hCb : C ≤ 4000000 := by rw [hC]; exact (htok.line t (List.mem_of_getElem? hi0)).2
  have hTl := htok.len
  have hone := Lib.hid (fun i u (hu : T[i]? = some u) (he : u.line = L ∧ u.col = C) => lex_one hl hu hi0 (by rw [← hL, ← hC]; exact he))
  obtain ⟨n, hn⟩ : ∃ n, n = T.length := ⟨_, rfl⟩
  have hin : i0 < n := by rw [hn]; exact (List.getElem?_eq_some_iff.1 hi0).1
  rw [← hn] at hTl
  replace hi0 := Lib.hid hi0
  replace hn := Lib.hid hn
  replace hsp := Lib.hid hsp
  replace hx1 := Lib.hid hx1
  replace hend := Lib.hid hend
  replace hL := Lib.hid hL
  replace hC := Lib.hid hC
  clear hl hp hft hfe htok hsz hfe2
  go_enter Tryd.func5, Tryd.ntmps5
  go_wp2_with fail
  refine (k1.out _).mono ?_
  rintro e w1 ⟨⟨v1, rfl, hrow⟩, hb1⟩
  have hrd := hrow.rd
  obtain ⟨av1, cv1, rfl⟩ := hrd.form
  rw [← hn.out]
  have hrd : RdT w1 (.slice av1 n cv1) T := by rw [hn.out]; exact hrd
  replace hb1 := Lib.hid hb1
  replace hrd := Lib.hid hrd
  clear hrow
  go_wp2_with fail
  refine (k2.out _).mono ?_
  rintro e w2 ⟨hb2, rfl⟩
  have u1 : Below w1.heap.size w1 (w1.alloc (.cells #[.int .i64 0, .int .i64 0] 26)) := (Below.refl _ _).alloc (Nat.le_refl _) _
  have u2 : ∀ A B : Obj, Below w2.heap.size w2 ((w2.alloc A).alloc B) := fun A B => ((Below.refl _ _).alloc (Nat.le_refl _) _).alloc (by simp) _
  have hz1 := hb1.out.size
  have t1 := hb1.out.trans (u1.mono hz1)
  have t2 := t1.trans (hb2.mono t1.size)
  have hb3 : ∀ A B : Obj, Below w.heap.size w ((w2.alloc A).alloc B) := fun A B => t2.trans ((u2 A B).mono t2.size)
  have hrd3 : ∀ A B : Obj, RdT ((w2.alloc A).alloc B) (.slice av1 n cv1) T := fun A B => (((hrd.out.below u1).below hb2)).below (u2 A B)
  have x7 : ∀ A : Obj, ((w2.alloc A).alloc (.cells #[.int .i64 L, .int .i64 C] 26)).heap[w2.heap.size + 1]? = some (.cells #[.int .i64 L, .int .i64 C] 26) := fun A => at_newP (by simp)
  replace hb3 := Lib.hid hb3
  replace hrd3 := Lib.hid hrd3
  replace x7 := Lib.hid x7
  clear u1 u2 t1 t2 hb2 hb1 hrd hz1
  have q3 : (¬ (fe : Int) = 40 → (fe : Int) = 41) := by rcases q2 with ⟨h, -⟩ | ⟨-, h⟩; omega; intro _; simpa using h
  rcases q2 with ⟨-, q2⟩ | ⟨q2, q4⟩
  all_goals
    go_upto_block 0 with fail
    have hB := hb3.out (.cells #[.slice none 0 0] 24) (.cells #[.int .i64 L, .int .i64 C] 26)
    have hR := hrd3.out (.cells #[.slice none 0 0] 24) (.cells #[.int .i64 L, .int .i64 C] 26)
    have hX := x7.out (.cells #[.slice none 0 0] 24)
    generalize ((w2.alloc (.cells #[.slice none 0 0] 24)).alloc (.cells #[.int .i64 L, .int .i64 C] 26)) = w3 at hB hR hX ⊢
    obtain ⟨z, hz⟩ : ∃ z, z = w2.heap.size + 1 := ⟨_, rfl⟩
    rw [← hz] at hX ⊢
    obtain ⟨c0, c1⟩ := cells2P hX
    have lz : z < w3.heap.size := (Array.getElem?_eq_some_iff.1 hX).1
    replace hB := Lib.hid hB
    replace hR := Lib.hid hR
    clear hb3 hrd3 x7 hX hz
    go_wp2_with fail
    go_loopw [2, 9, 10, 11, 12, 13, 14] (fun r i _ _ _ _ _ wr => ∃ k d : Nat, k ≤ i0 ∧ i = .int .i64 k ∧ r = .bool false ∧ wr = w3.drewN d) (fun _ i _ _ _ _ _ _ => n - (intOf i).toNat)
    case atStart => exact ⟨0, 0, Nat.zero_le _, rfl, rfl, rfl⟩
    case round =>
      obtain ⟨k, d, hk, rfl, rfl, rfl⟩ := hrel
      have j1 : (k : Int) < (n : Int) := by omega
      obtain ⟨u, hu⟩ : ∃ u, T[k]? = some u := ⟨_, List.getElem?_eq_getElem (by rw [← hn.out]; omega)⟩
      obtain ⟨g, cap, ge, hg, d0, -, -, d3, d4⟩ := hR.out.at hu
      rw [← hn.out] at ge
      simp only [Value.slice.injEq] at ge
      obtain ⟨rfl, -, rfl⟩ := ge
      by_cases he : u.line = L ∧ u.col = C
      · have hki := hone.out k u hu he
        subst hki
        obtain rfl : u = t := by have := hu.symm.trans hi0.out; simpa using this
        rw [he.1] at d3
        rw [he.2] at d4
        have hq := fun w => eq_spotT w (L : Int) (C : Int) (L : Int) (C : Int)
        clear he
        replace hu := Lib.hid hu
        go_upto_region 12 with fail
        go_quiet (fail)
        go_upto_block 2 with fail
        have hwx : Below w3.heap.size w3 ((w3.drewN d).drewN nq) := below_drawn (below_drawn (Below.refl _ _) _) _
        have c0 := (hwx.cell (p := ⟨z, 0, none⟩) lz).trans c0
        have c1 := (hwx.cell (p := ⟨z, 1, none⟩) lz).trans c1
        have hBx := hB.out.trans (hwx.mono hB.out.size)
        rw [World.drewN_drewN] at c0 c1 hBx
        generalize (w3.drewN (d + nq)) = wx at c0 c1 hBx ⊢
        replace hBx := Lib.hid hBx
        clear hwx d0 d3 d4 hR hu hi0 hq hB hone
        go_wp2_with fail
        go_loopw [10, 11] (fun a b wr => ∃ j l : Nat, a = .int .i64 j ∧ b = .int .i64 l ∧ wr = wx ∧ j ≤ s.size ∧ l ≤ L ∧ Hid ((spotOf (s.data.toList.take j)).1 = l) ∧ Hid (l < L ∨ (beginL s.data.toList)[L - 1]? = some j)) (fun a _ _ => s.size - (intOf a).toNat)
        case atStart => exact ⟨0, 1, rfl, rfl, rfl, Nat.zero_le _, hL1, Lib.hid rfl, Lib.hid (by rcases Nat.lt_or_ge 1 L with h | h; exact .inl h; exact .inr (by rw [show L = 1 by omega]; rfl))⟩
        case round =>
          obtain ⟨j, l, rfl, rfl, rfl, hj, hlL, hs1, hs2⟩ := hrel
          by_cases hlt : l < L
          · have hjm : j < m := by
              rcases Nat.lt_or_ge j m with h | h
              · exact h
              · have := spot_mono s.data.toList h
                rw [hsp.out, hs1.out] at this
                have this : L ≤ l := this
                omega
            have hjs : j < s.size := by omega
            have i1 : (l : Int) < (L : Int) := by omega
            have i2 : (j : Int) < (s.size : Int) := by omega
            have hst := from_step hjs hm hsp.out hs1.out hlt
            by_cases hb10 : s[j] = 10
            · have e3 : ((s[j].toNat : Int) == 10) = true := by rw [hb10]; rfl
              obtain ⟨y1, y2, y3⟩ := hst.1 hb10
              replace y1 := Lib.hid y1
              replace y3 := Lib.hid y3
              clear hst hb10 hs1 hs2
              go_wp2_with fail
              exact ⟨⟨j + 1, l + 1, by go_num, by go_num, (by first | rfl | trivial), by omega, y2, y1, Lib.hid (by rcases Nat.lt_or_ge (l + 1) L with h | h; exact .inl h; exact .inr (by rw [show L = l + 1 by omega]; exact y3.out))⟩, by simp [intOf]; omega⟩
            · have e3 : ((s[j].toNat : Int) == 10) = false := by rw [show ((s[j].toNat : Int) == 10) = (s[j] == 10) from eqB s[j] 10]; simpa using hb10
              have y1 := hst.2 hb10
              replace y1 := Lib.hid y1
              clear hst hb10 hs1 hs2
              go_wp2_with fail
              exact ⟨⟨j + 1, l, by go_num, rfl, (by first | rfl | trivial), by omega, hlL, y1, Lib.hid (.inl hlt)⟩, by simp [intOf]; omega⟩
          · obtain rfl : l = L := by omega
            have hjx : j = x := by
              rcases hs2.out with h | h
              · omega
              · rw [hx1.out] at h
                injection h with h
                exact h.symm
            subst hjx
            have e3 : (j : Int) + (C : Int) - 1 = (m : Int) := by omega
            have i2 : (m : Int) ≤ (s.size : Int) := by omega
            have wr1 : IntKind.i64.wrap ((j : Int) + (C : Int)) = (j : Int) + (C : Int) := wrap_small _ (by omega) (by omega)
            have wr2 : IntKind.i64.wrap (m : Int) = (m : Int) := wrap_small _ (by omega) (by omega)
            have hend' := hend.out
            rw [errR_eq] at hend'
            clear hs1 hs2 hx1 hsp hend hlt
            go_wp2_with fail
            refine (k3.out _).mono ?_
            intro e w5 h5
            obtain ⟨va, n1, vc, rfl, hb5, -, -⟩ := post_all h5
            have hb6 : ∀ A B : Obj, Below w.heap.size w ((w5.alloc A).alloc B) := fun A B => by
              have t1 := hBx.out.trans (hb5.mono hBx.out.size)
              exact (t1.alloc t1.size A).alloc (by have := t1.size; simp; omega) B
            replace hb6 := Lib.hid hb6
            generalize (errR (parseL (List.take m s.data.toList))).2.2 = er at *
            generalize (errR (parseL (List.take m s.data.toList))).1 = el at *
            generalize (errR (parseL (List.take m s.data.toList))).2.1 = ec at *
            have q5 : ((er : Int) == 41) = true ∨ ((er : Int) == 41) = false ∧ ((er : Int) == 0) = true := by
              rcases hend' with h | h <;> subst h
              · exact .inl rfl
              · exact .inr ⟨rfl, rfl⟩
            clear h5 hb5 hend'
            rcases q5 with q5 | ⟨q5, q6⟩
            all_goals
              go_wp2_with fail
              refine reads_any.mono ?_
              rintro e w7 ⟨rfl, hb7⟩
              replace hb7 := Lib.hid hb7
              go_wp2_with fail
              go_ret
              exact ⟨rfl, (hb6.out _ _).trans (hb7.out.mono (hb6.out _ _).size)⟩
      · have hq : ∀ w, (Op.equalIn 10000 26 (.agg #[.int .i64 u.line, .int .i64 u.col]) (.agg #[.int .i64 L, .int .i64 C])).run Tryd.prog w = .ok false w := fun w => by
          rw [eq_spotT, beq_nat, beq_nat]
          by_cases h1 : u.line = L <;> by_cases h2 : u.col = C <;> simp [h1, h2] <;> exact he ⟨h1, h2⟩
        have hne : k ≠ i0 := fun e => he (by subst e; have := hu.symm.trans hi0.out; injection this with this; rw [this]; exact ⟨hL.out.symm, hC.out.symm⟩)
        clear he d0
        replace hu := Lib.hid hu
        go_upto_region 12 with fail
        go_quiet (fail)
        go_wp2_with fail
        exact ⟨⟨k + 1, _, by omega, by go_num, rfl, rfl⟩, by simp [intOf]; omega⟩
end
section
open Go.RowKit Go.Maps

theorem errors_law {w : World} {s : ByteArray} : Calls Tryd.prog 5 #[.string s] w fun e w' => e = .returned (.bool true) ∧ Below w.heap.size w w' := by
  by_cases h : 1500 < s.size
  · exact errors_great h
  · have h : s.size ≤ 1500 := by omega
    cases hl : lex s.data.toList 1 1 with
    | error f => exact errors_lex h hl
    | ok T =>
      cases hp : parseL s.data.toList with
      | ok P => exact errors_ok h hp
      | error f => exact errors_syn h hl hp
end
end Go.Proofs.YtgcanabckogmmaaDoor
