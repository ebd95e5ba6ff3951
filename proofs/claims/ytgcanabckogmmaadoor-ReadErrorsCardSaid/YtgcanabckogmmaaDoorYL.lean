/- RdG1, RdG2, RdG3, RdG4, RdG5, RdG6, RdG7. -/
import Derived.Test.YtgcanabckogmmaaDoorYK
namespace Go.Proofs.YtgcanabckogmmaaDoor
set_option linter.unusedVariables false
set_option linter.unusedSimpArgs false
section
theorem take_ten (p : UInt8 → Bool) (hp : p 10 = false) (b : List UInt8) : ∀ l : List UInt8, (l ++ 10 :: b).takeWhile p = l.takeWhile p
  | [] => by simp [hp]
  | c :: r => by
    rw [List.cons_append, List.takeWhile_cons, List.takeWhile_cons, take_ten p hp b r]
theorem drop_ten (p q : UInt8 → Bool) (hp : p 10 = false) (hq : q 10 = false) (b : List UInt8) : ∀ l : List UInt8, ((l ++ 10 :: b).dropWhile p).head?.any q = (l.dropWhile p).head?.any q
  | [] => by simp [hp, hq]
  | c :: r => by
    rw [List.cons_append, List.dropWhile_cons, List.dropWhile_cons]
    cases hc : p c with
    | true => rw [if_pos rfl, if_pos rfl]; exact drop_ten p q hp hq b r
    | false => rw [if_neg (by simp), if_neg (by simp)]; rfl
theorem step_ten (c : UInt8) (r b : List UInt8) (ln cl : Nat) : stepL (c :: (r ++ 10 :: b)) ln cl = stepL (c :: r) ln cl := by
  have e := fun (p : UInt8 → Bool) (hp : p 10 = false) => take_ten p hp b (c :: r)
  have d := fun (p q : UInt8 → Bool) (hp : p 10 = false) (hq : q 10 = false) => drop_ten p q hp hq b (c :: r)
  simp only [List.cons_append] at e d
  unfold stepL
  dsimp only
  rw [e blankB (by decide), e (· != 10) (by decide), e partB (by decide), e digitB (by decide), d digitB partB (by decide) (by decide)]
def addL (l : List Tok) (r : Except Bad (List Tok)) : Except Bad (List Tok) :=
  match r with
  | .error e => .error e
  | .ok l' => .ok (l ++ l')
def endT (T : List Tok) : Nat := (T.getLast?.map Tok.line).getD 0
def joinR (b : List UInt8) (r : Except Bad (List Tok)) : Except Bad (List Tok) :=
  match r with
  | .error e => .error e
  | .ok T => addL T.dropLast (lex b (endT T + 1) 1)
theorem lex_join : ∀ (n : Nat) (a b : List UInt8) (ln cl : Nat), a.length ≤ n → lex (a ++ 10 :: b) ln cl = joinR b (lex a ln cl)
  | _, [], b, ln, cl, _ => by
    rw [List.nil_append, lex_nil, lex_went (by simp) (show stepL (10 :: b) ln cl = .ok (1, ln + 1, 1, none) from rfl)]
    show add none (lex b (ln + 1) 1) = addL [] (lex b (ln + 1) 1)
    cases lex b (ln + 1) 1 <;> rfl
  | 0, c :: r, b, ln, cl, h => by simp at h
  | n + 1, c :: r, b, ln, cl, h => by
    cases hs : stepL (c :: r) ln cl with
    | error e =>
      have h1 : lex (c :: r) ln cl = .error e := lex_bad (by simp) hs
      have h2 : lex (c :: r ++ 10 :: b) ln cl = .error e := lex_bad (by simp) (by rw [List.cons_append, step_ten]; exact hs)
      rw [h1, h2]
      rfl
    | ok x =>
      obtain ⟨k, ln2, cl2, t⟩ := x
      have hp := step_pos hs
      rw [lex_went (by simp) hs, lex_went (l := c :: r ++ 10 :: b) (by simp) (by rw [List.cons_append, step_ten]; exact hs), List.drop_append_of_le_length hp.2, lex_join n _ b ln2 cl2 (by rw [List.length_drop]; omega)]
      cases hr : lex ((c :: r).drop k) ln2 cl2 with
      | error e => rfl
      | ok T =>
        have hT : T ≠ [] := by
          obtain ⟨-, -, l', tt, e, -⟩ := lexN_ok _ _ _ _ _ hr
          rw [e]
          simp
        show add t (addL T.dropLast (lex b (endT T + 1) 1)) = addL (t.toList ++ T).dropLast (lex b (endT (t.toList ++ T) + 1) 1)
        have e1 : (t.toList ++ T).dropLast = t.toList ++ T.dropLast := List.dropLast_append_of_ne_nil hT
        have e2 : endT (t.toList ++ T) = endT T := by
          obtain ⟨y, hy⟩ : ∃ y, T.getLast? = some y := ⟨_, List.getLast?_eq_some_getLast hT⟩
          unfold endT
          rw [List.getLast?_append, hy]
          rfl
        rw [e1, e2]
        cases lex b (endT T + 1) 1 with
        | error e => rfl
        | ok l => show Except.ok _ = Except.ok _; rw [List.append_assoc]
/-- Lines further down. -/
def downT (k : Nat) (t : Tok) : Tok := { t with line := t.line + k }
def downR (k : Nat) : Except Bad (List Tok) → Except Bad (List Tok)
  | .error (l, c, e) => .error (l + k, c, e)
  | .ok T => .ok (T.map (downT k))
theorem step_down (l : List UInt8) (ln cl k : Nat) : stepL l (ln + k) cl = (match stepL l ln cl with | .error (a, b, e) => .error (a + k, b, e) | .ok (j, a, b, t) => .ok (j, a + k, b, t.map (downT k))) := by
  unfold stepL
  split
  · rfl
  · split
    · simp only [Option.map_none]; congr 3; omega
    · split
      · rfl
      · split
        · rfl
        · split
          · rfl
          · split
            · split <;> rfl
            · split <;> rfl
theorem lex_down : ∀ (n : Nat) (a : List UInt8) (ln cl k : Nat), a.length ≤ n → lex a (ln + k) cl = downR k (lex a ln cl)
  | _, [], ln, cl, k, _ => by rw [lex_nil, lex_nil]; rfl
  | 0, c :: r, ln, cl, k, h => by simp at h
  | n + 1, c :: r, ln, cl, k, h => by
    have hd := step_down (c :: r) ln cl k
    cases hs : stepL (c :: r) ln cl with
    | error e =>
      obtain ⟨x, y, z⟩ := e
      rw [hs] at hd
      rw [lex_bad (by simp) hs, lex_bad (by simp) hd]
      rfl
    | ok x =>
      obtain ⟨j, ln2, cl2, t⟩ := x
      rw [hs] at hd
      have hp := step_pos hs
      rw [lex_went (by simp) hs, lex_went (by simp) hd, lex_down n _ ln2 cl2 k (by rw [List.length_drop]; omega)]
      cases lex ((c :: r).drop j) ln2 cl2 with
      | error e => obtain ⟨x, y, z⟩ := e; rfl
      | ok T =>
        show Except.ok _ = Except.ok _
        cases t <;> simp
end
section
section
variable {α β : Type} {E r0 : Tok} {R : List Tok}
/-- Words of a piece ahead of the end. -/
def OkL (E : Tok) (l : List Tok) : Prop := ∀ t ∈ l, t.kind ≠ 4 ∧ t.line ≤ E.line
theorem OkL.tail {t : Tok} {l : List Tok} (h : OkL E (t :: l)) : OkL E l := fun x hx => h x (List.mem_cons_of_mem _ hx)
/-- What is told with the end behind is told with more lines behind, unless it is the end that is refused. -/
def Sim (E : Tok) (R : List Tok) (r1 r2 : Except Flt (α × List Tok)) : Prop :=
  match r1 with
  | .ok (x, l1) => ∃ l', l1 = l' ++ [E] ∧ OkL E l' ∧ r2 = .ok (x, l' ++ R)
  | .error e => e.2.2 = 41 ∨ e.2.2 = 40 ∧ r2 = .error e
def SimL (E : Tok) (R : List Tok) (r1 r2 : Except Flt (List Tok)) : Prop :=
  match r1 with
  | .ok l1 => ∃ l', l1 = l' ++ [E] ∧ OkL E l' ∧ r2 = .ok (l' ++ R)
  | .error e => e.2.2 = 41 ∨ e.2.2 = 40 ∧ r2 = .error e
def bindE (r : Except Flt (α × List Tok)) (g : α → List Tok → Except Flt (β × List Tok)) : Except Flt (β × List Tok) :=
  match r with
  | .error e => .error e
  | .ok p => g p.1 p.2
theorem Sim.bind {r1 r2 : Except Flt (α × List Tok)} {g : α → List Tok → Except Flt (β × List Tok)} (h : Sim E R r1 r2) (hg : ∀ x l, OkL E l → Sim E R (g x (l ++ [E])) (g x (l ++ R))) : Sim E R (bindE r1 g) (bindE r2 g) := by
  cases r1 with
  | error e =>
    rcases h with h | h
    · exact .inl h
    · obtain ⟨h0, h⟩ := h
      subst h
      exact .inr ⟨h0, rfl⟩
  | ok p =>
    obtain ⟨x, l1⟩ := p
    obtain ⟨l', rfl, hk, rfl⟩ := h
    exact hg x l' hk
theorem nameP_b (l : List Tok) (ln : Nat) : nameP l ln = bindE (takeP 1 l ln) (fun t l => .ok (nmT t, l)) := by
  unfold nameP bindE
  cases takeP 1 l ln <;> rfl
theorem oneName_b (x : List ByteArray) (l : List Tok) (ln : Nat) : oneName x l ln = bindE (nameP l ln) (fun s l => .ok (x ++ [s], l)) := by
  unfold oneName bindE
  cases nameP l ln <;> rfl
theorem thenP_b (f g : Ins → List Tok → Nat → Except Flt (Ins × List Tok)) (x : Ins) (l : List Tok) (ln : Nat) : thenP f g x l ln = bindE (f x l ln) (fun x l => g x l ln) := by
  unfold thenP bindE
  cases f x l ln <;> rfl
theorem fieldsP_b (x : Ins) (l : List Tok) (ln : Nat) : fieldsP x l ln = bindE (takeP 2 l ln) (fun t l => .ok ({ x with n := t.num }, l)) := by
  unfold fieldsP bindE
  cases takeP 2 l ln <;> rfl
theorem argsP_b (x : Ins) (l : List Tok) (ln : Nat) : argsP x l ln = bindE (namesP l ln) (fun ss l => .ok ({ x with args := ss }, l)) := by
  unfold argsP bindE
  cases namesP l ln <;> rfl
theorem SimL.bind {r1 r2 : Except Flt (List Tok)} {g : List Tok → Except Flt (β × List Tok)} (h : SimL E R r1 r2) (hg : ∀ l, OkL E l → Sim E R (g (l ++ [E])) (g (l ++ R))) :
    Sim E R (match (generalizing := false) r1 with | .error e => .error e | .ok l => g l) (match (generalizing := false) r2 with | .error e => .error e | .ok l => g l) := by
  cases r1 with
  | error e =>
    rcases h with h | h
    · exact .inl h
    · obtain ⟨h0, h⟩ := h
      subst h
      exact .inr ⟨h0, rfl⟩
  | ok l1 =>
    obtain ⟨l', rfl, hk, rfl⟩ := h
    exact hg l' hk
theorem Sim.ok {x : α} {l : List Tok} (h : OkL E l) : Sim E R (.ok (x, l ++ [E])) (.ok (x, l ++ R)) := ⟨l, rfl, h, rfl⟩
theorem flt_word {t : Tok} {l l2 : List Tok} (hk : OkL E (t :: l)) : (fltL (t :: l2)).2.2 = 40 := by
  show (if t.kind = 4 then 41 else 40) = 40
  rw [if_neg (hk t (List.mem_cons_self ..)).1]
/-- The end of the first text, and the words of the second. -/
structure Ctx (E : Tok) (R : List Tok) : Prop where
  kind : E.kind = 4
  far : ∃ r R', R = r :: R' ∧ E.line < r.line
theorem more_sim (h : Ctx E R) {ln : Nat} (hl : ln ≤ E.line) (l : List Tok) : moreB (l ++ R) ln = moreB (l ++ [E]) ln := by
  obtain ⟨hk, r, R', rfl, hf⟩ := h
  cases l with
  | nil =>
    show (!(r.kind == 4) && r.line == ln) = (!(E.kind == 4) && E.line == ln)
    have e1 : (r.line == ln) = false := by simp; omega
    rw [hk, e1]
    simp
  | cons t l => rfl
theorem isB_sim (h : Ctx E R) {ln : Nat} (hl : ln ≤ E.line) (l : List Tok) (c : UInt8) : isB (l ++ R) ln c = isB (l ++ [E]) ln c := by
  unfold isB
  rw [more_sim h hl]
  cases l with
  | nil =>
    have : moreB ([] ++ [E]) ln = false := by show (!(E.kind == 4) && E.line == ln) = false; rw [h.kind]; rfl
    rw [this]
    rfl
  | cons t l => rfl
theorem take_sim (h : Ctx E R) {ln : Nat} (hl : ln ≤ E.line) {l : List Tok} (hk : OkL E l) (k : Nat) : Sim E R (takeP k (l ++ [E]) ln) (takeP k (l ++ R) ln) := by
  cases l with
  | nil =>
    have : takeP k ([] ++ [E]) ln = .error (fltL [E]) := by
      show (if (moreB [E] ln && E.kind == k) = true then _ else _) = _
      have e : moreB [E] ln = false := by show (!(E.kind == 4) && E.line == ln) = false; rw [h.kind]; rfl
      rw [e]
      rfl
    rw [this]
    refine .inl ?_
    show (if E.kind = 4 then 41 else 40) = 41
    rw [if_pos h.kind]
  | cons t l =>
    show Sim E R (if (moreB (t :: (l ++ [E])) ln && t.kind == k) = true then .ok (t, l ++ [E]) else .error (fltL (t :: (l ++ [E])))) (if (moreB (t :: (l ++ R)) ln && t.kind == k) = true then .ok (t, l ++ R) else .error (fltL (t :: (l ++ R))))
    have e : moreB (t :: (l ++ R)) ln = moreB (t :: (l ++ [E])) ln := rfl
    rw [e]
    by_cases hc : (moreB (t :: (l ++ [E])) ln && t.kind == k) = true
    · rw [if_pos hc, if_pos hc]
      exact Sim.ok hk.tail
    · rw [if_neg hc, if_neg hc]
      exact .inr ⟨flt_word hk, rfl⟩
theorem name_sim (h : Ctx E R) {ln : Nat} (hl : ln ≤ E.line) {l : List Tok} (hk : OkL E l) : Sim E R (nameP (l ++ [E]) ln) (nameP (l ++ R) ln) := by
  rw [nameP_b, nameP_b]
  exact (take_sim h hl hk 1).bind fun _ _ hk => Sim.ok hk
theorem sign_sim (h : Ctx E R) {ln : Nat} (hl : ln ≤ E.line) {l : List Tok} (hk : OkL E l) (c : UInt8) : SimL E R (signP c (l ++ [E]) ln) (signP c (l ++ R) ln) := by
  unfold signP
  rw [isB_sim h hl]
  by_cases hc : isB (l ++ [E]) ln c = true
  · rw [if_pos hc, if_pos hc]
    cases l with
    | nil =>
      exfalso
      have : moreB ([] ++ [E]) ln = false := by show (!(E.kind == 4) && E.line == ln) = false; rw [h.kind]; rfl
      unfold isB at hc
      rw [this] at hc
      cases hc
    | cons t l => exact ⟨l, rfl, hk.tail, rfl⟩
  · rw [if_neg hc, if_neg hc]
    cases l with
    | nil =>
      refine .inl ?_
      show (if E.kind = 4 then 41 else 40) = 41
      rw [if_pos h.kind]
    | cons t l => exact .inr ⟨flt_word hk, rfl⟩
/-- A reader that goes along. -/
def SimP (E : Tok) (R : List Tok) (f : α → List Tok → Nat → Except Flt (α × List Tok)) : Prop := ∀ x l ln, ln ≤ E.line → OkL E l → Sim E R (f x (l ++ [E]) ln) (f x (l ++ R) ln)
theorem list_sim (h : Ctx E R) {one : α → List Tok → Nat → Except Flt (α × List Tok)} {c : UInt8} (hone : SimP E R one) (hle : ∀ x l ln x' l', one x l ln = .ok (x', l') → l'.length ≤ l.length) :
    ∀ (n1 n2 : Nat) (x : α) (l : List Tok) (ln : Nat), ln ≤ E.line → OkL E l → l.length + 1 ≤ n1 → l.length + 1 ≤ n2 → Sim E R (listP one c n1 x (l ++ [E]) ln) (listP one c n2 x (l ++ R) ln)
  | 0, _, _, _, _, _, _, h1, _ => by omega
  | _, 0, _, _, _, _, _, _, h2 => by omega
  | n1 + 1, n2 + 1, x, l, ln, hl, hk, h1, h2 => by
    unfold listP
    have ho := hone x l ln hl hk
    cases hr : one x (l ++ [E]) ln with
    | error e =>
      rw [hr] at ho
      rcases ho with ho | ho
      · exact .inl ho
      · rw [ho.2]; exact .inr ⟨ho.1, rfl⟩
    | ok p =>
      obtain ⟨x1, l1⟩ := p
      rw [hr] at ho
      obtain ⟨l', rfl, hk', ho⟩ := ho
      have hlen := hle _ _ _ _ _ hr
      simp only [List.length_append, List.length_singleton] at hlen
      rw [ho]
      dsimp only
      rw [isB_sim h hl]
      by_cases hc : isB (l' ++ [E]) ln c = true
      · rw [if_pos hc, if_pos hc]
        exact (sign_sim h hl hk' c).bind (g := fun l => .ok (x1, l)) fun _ hk => Sim.ok hk
      · rw [if_neg hc, if_neg hc]
        have hs := sign_sim h hl hk' 44
        cases hq : signP 44 (l' ++ [E]) ln with
        | error e =>
          rw [hq] at hs
          rcases hs with hs | hs
          · exact .inl hs
          · rw [hs.2]; exact .inr ⟨hs.1, rfl⟩
        | ok l2 =>
          rw [hq] at hs
          obtain ⟨l3, rfl, hk3, hs⟩ := hs
          have hlen2 := sign_le hq
          simp only [List.length_append, List.length_singleton] at hlen2
          rw [hs]
          exact list_sim h hone hle n1 n2 x1 l3 ln hl hk3 (by omega) (by omega)
theorem oneName_sim (h : Ctx E R) : SimP E R oneName := fun x _ _ hl hk => by
  rw [oneName_b, oneName_b]
  exact (name_sim h hl hk).bind fun _ _ hk => Sim.ok hk
theorem oneName_le (x : List ByteArray) (l : List Tok) (ln : Nat) (x' : List ByteArray) (l' : List Tok) (h : oneName x l ln = .ok (x', l')) : l'.length ≤ l.length := by
  have := oneName_len h
  omega
theorem names_sim (h : Ctx E R) {ln : Nat} (hl : ln ≤ E.line) {l : List Tok} (hk : OkL E l) : Sim E R (namesP (l ++ [E]) ln) (namesP (l ++ R) ln) := by
  unfold namesP
  refine (sign_sim h hl hk 40).bind (g := fun l => if isB l ln 41 = true then (match signP 41 l ln with | .error e => .error e | .ok l => .ok ([], l)) else listP oneName 41 (l.length + 1) [] l ln) fun l hk => ?_
  rw [isB_sim h hl]
  by_cases hc : isB (l ++ [E]) ln 41 = true
  · rw [if_pos hc, if_pos hc]
    exact (sign_sim h hl hk 41).bind (g := fun l => .ok ([], l)) fun _ hk => Sim.ok hk
  · rw [if_neg hc, if_neg hc]
    exact list_sim h (oneName_sim h) oneName_le _ _ _ _ _ hl hk (by simp) (by obtain ⟨-, r, R', rfl, -⟩ := h; simp)
theorem then_sim {f g : Ins → List Tok → Nat → Except Flt (Ins × List Tok)} (hf : SimP E R f) (hg : SimP E R g) : SimP E R (thenP f g) := fun x l ln hl hk => by
  rw [thenP_b, thenP_b]
  exact (hf x l ln hl hk).bind fun x l hk => hg x l ln hl hk
theorem skip_sim (h : Ctx E R) (c : UInt8) : SimP E R (skipP c) := fun x _ _ hl hk => (sign_sim h hl hk c).bind (g := fun l => .ok (x, l)) fun _ hk => Sim.ok hk
theorem byName_sim (h : Ctx E R) {f : Ins → List Tok → Nat → Except Flt (Ins × List Tok)} (put : Ins → ByteArray → Ins) (hf : ∀ x l ln, f x l ln = match nameP l ln with | .error e => .error e | .ok (s, l) => .ok (put x s, l)) : SimP E R f := fun x l ln hl hk => by
  have e : ∀ x l ln, f x l ln = bindE (nameP l ln) (fun s l => .ok (put x s, l)) := fun x l ln => by
    rw [hf]
    unfold bindE
    cases nameP l ln <;> rfl
  rw [e, e]
  exact (name_sim h hl hk).bind fun _ _ hk => Sim.ok hk
theorem operand_sim (h : Ctx E R) : SimP E R operandP := byName_sim h (fun x s => { x with a := s }) (fun _ _ _ => rfl)
theorem label_sim (h : Ctx E R) : SimP E R labelP := byName_sim h (fun x s => { x with labels := x.labels ++ [s] }) (fun _ _ _ => rfl)
theorem fn_sim (h : Ctx E R) : SimP E R fnP := byName_sim h (fun x s => { x with fn := s }) (fun _ _ _ => rfl)
theorem arg_sim (h : Ctx E R) : SimP E R argP := byName_sim h (fun x s => { x with args := x.args ++ [s] }) (fun _ _ _ => rfl)
theorem val_sim (h : Ctx E R) : SimP E R valP := byName_sim h (fun x s => { x with b := s }) (fun _ _ _ => rfl)
theorem fields_sim (h : Ctx E R) : SimP E R fieldsP := fun x _ _ hl hk => by
  rw [fieldsP_b, fieldsP_b]
  exact (take_sim h hl hk 2).bind fun _ _ hk => Sim.ok hk
theorem args_sim (h : Ctx E R) : SimP E R argsP := fun x _ _ hl hk => by
  rw [argsP_b, argsP_b]
  exact (names_sim h hl hk).bind fun _ _ hk => Sim.ok hk
theorem pair_sim (h : Ctx E R) : SimP E R pairP := then_sim (label_sim h) (then_sim (skip_sim h 58) (arg_sim h))
theorem pair_leS (x : Ins) (l : List Tok) (ln : Nat) (x' : Ins) (l' : List Tok) (h : pairP x l ln = .ok (x', l')) : l'.length ≤ l.length := thenP_le labelP_le (thenP_le (skipP_le 58) argP_le) x l ln x' l' h
theorem phi_sim (h : Ctx E R) : SimP E R phiP := fun x l ln hl hk =>
  (sign_sim h hl hk 91).bind (g := fun l => listP pairP 93 (l.length + 1) x l ln) fun l hk => list_sim h (pair_sim h) pair_leS _ _ _ _ _ hl hk (by simp) (by obtain ⟨-, r, R', rfl, -⟩ := h; simp)
theorem rest_sim (h : Ctx E R) (r : Rst) : SimP E R (restP r) := by
  cases r with
  | fields => exact fields_sim h
  | nothing => exact fun x l ln hl hk => Sim.ok hk
  | fn => exact fn_sim h
  | operand => exact operand_sim h
  | field => exact then_sim (operand_sim h) (fields_sim h)
  | phi => exact phi_sim h
  | call => exact then_sim (fn_sim h) (args_sim h)
  | icall => exact then_sim (operand_sim h) (args_sim h)
  | store => exact then_sim (operand_sim h) (then_sim (skip_sim h 44) (val_sim h))
  | branch => exact then_sim (label_sim h) (label_sim h)
  | label => exact label_sim h
  | result =>
    intro x l ln hl hk
    show Sim E R (if moreB (l ++ [E]) ln = true then operandP x (l ++ [E]) ln else .ok (x, l ++ [E])) (if moreB (l ++ R) ln = true then operandP x (l ++ R) ln else .ok (x, l ++ R))
    rw [more_sim h hl]
    by_cases hc : moreB (l ++ [E]) ln = true
    · rw [if_pos hc, if_pos hc]; exact operand_sim h x l ln hl hk
    · rw [if_neg hc, if_neg hc]; exact Sim.ok hk
end
end
section
section
variable {E : Tok} {R : List Tok}
theorem flt_end (h : Ctx E R) : (fltL ([] ++ [E])).2.2 = 41 := by
  show (if E.kind = 4 then 41 else 40) = 41
  rw [if_pos h.kind]
theorem nameE_end (h : Ctx E R) (ln : Nat) : nameP ([] ++ [E]) ln = .error (fltL ([] ++ [E])) := by
  unfold nameP
  have : takeP 1 ([] ++ [E]) ln = .error (fltL ([] ++ [E])) := by
    show (if (moreB [E] ln && E.kind == 1) = true then _ else _) = _
    have e : moreB [E] ln = false := by show (!(E.kind == 4) && E.line == ln) = false; rw [h.kind]; rfl
    rw [e]
    rfl
  rw [this]
theorem instr_sim (h : Ctx E R) {ln : Nat} (hl : ln ≤ E.line) {l : List Tok} (hk : OkL E l) (how : Int × Rst) (dst : ByteArray) : Sim E R (instrP how dst (l ++ [E]) ln) (instrP how dst (l ++ R) ln) := rest_sim h how.2 _ l ln hl hk
theorem inside_sim (h : Ctx E R) {ln : Nat} (hl : ln ≤ E.line) {l : List Tok} (hk : OkL E l) (d : Fun) : Sim E R (insideP d (l ++ [E]) ln) (insideP d (l ++ R) ln) := by
  unfold insideP
  have ho := name_sim h hl hk
  cases hr : nameP (l ++ [E]) ln with
  | error e =>
    rw [hr] at ho
    rcases ho with ho | ho
    · exact .inl ho
    · rw [ho.2]; exact .inr ⟨ho.1, rfl⟩
  | ok p =>
    obtain ⟨s, l1⟩ := p
    rw [hr] at ho
    obtain ⟨l', rfl, hk', ho⟩ := ho
    rw [ho]
    dsimp only
    rw [isB_sim h hl, isB_sim h hl]
    by_cases hc : (d.blocks.isEmpty || isB (l' ++ [E]) ln 58) = true
    · rw [if_pos hc, if_pos hc]
      exact (sign_sim h hl hk' 58).bind (g := fun l => .ok (addB d s, l)) fun _ hk => Sim.ok hk
    · rw [if_neg hc, if_neg hc]
      cases (if isB (l' ++ [E]) ln 61 = true then none else bareF s.data.toList) with
      | some how =>
        dsimp only
        have hi := instr_sim h hl hk' how ⟨#[]⟩
        cases hq : instrP how ⟨#[]⟩ (l' ++ [E]) ln with
        | error e =>
          rw [hq] at hi
          rcases hi with hi | hi
          · exact .inl hi
          · rw [hi.2]; exact .inr ⟨hi.1, rfl⟩
        | ok p =>
          obtain ⟨x, l2⟩ := p
          rw [hq] at hi
          obtain ⟨l3, rfl, hk3, hi⟩ := hi
          rw [hi]
          exact Sim.ok hk3
      | none =>
        dsimp only
        have hs := sign_sim h hl hk' 61
        cases hq : signP 61 (l' ++ [E]) ln with
        | error e =>
          rw [hq] at hs
          rcases hs with hs | hs
          · exact .inl hs
          · rw [hs.2]; exact .inr ⟨hs.1, rfl⟩
        | ok l2 =>
          rw [hq] at hs
          obtain ⟨l3, rfl, hk3, hs⟩ := hs
          rw [hs]
          dsimp only
          cases l3 with
          | nil =>
            cases hv : valueF (headT ([] ++ [E])) with
            | none => exact .inl (flt_end h)
            | some how =>
              dsimp only
              rw [nameE_end h]
              exact .inl (flt_end h)
          | cons t l4 =>
            rw [show headT (t :: l4 ++ R) = headT (t :: l4 ++ [E]) from rfl]
            cases valueF (headT (t :: l4 ++ [E])) with
            | none => exact .inr ⟨flt_word hk3, rfl⟩
            | some how =>
              dsimp only
              have hn := name_sim h hl hk3
              cases hq2 : nameP (t :: l4 ++ [E]) ln with
              | error e =>
                rw [hq2] at hn
                rcases hn with hn | hn
                · exact .inl hn
                · rw [hn.2]; exact .inr ⟨hn.1, rfl⟩
              | ok p =>
                obtain ⟨s2, l5⟩ := p
                rw [hq2] at hn
                obtain ⟨l6, rfl, hk6, hn⟩ := hn
                rw [hn]
                dsimp only
                have hi := instr_sim h hl hk6 how s
                cases hq3 : instrP how s (l6 ++ [E]) ln with
                | error e =>
                  rw [hq3] at hi
                  rcases hi with hi | hi
                  · exact .inl hi
                  · rw [hi.2]; exact .inr ⟨hi.1, rfl⟩
                | ok p =>
                  obtain ⟨x, l7⟩ := p
                  rw [hq3] at hi
                  obtain ⟨l8, rfl, hk8, hi⟩ := hi
                  rw [hi]
                  exact Sim.ok hk8
/-- A piece begins: the end alone, or a word that both see. -/
theorem begin_word {t : Tok} {l : List Tok} {ln : Nat} : beginP (t :: l ++ R) ln = beginP (t :: l ++ [E]) ln := rfl
theorem begin_lineE {t : Tok} {l : List Tok} {ln ln' : Nat} (hk : OkL E (t :: l)) (hb : beginP (t :: l ++ [E]) ln = .ok ln') : ln' ≤ E.line := by
  unfold beginP at hb
  split at hb
  · cases hb
  · injection hb with hb
    subst hb
    exact (hk t (List.mem_cons_self ..)).2
theorem begin_err {t : Tok} {l : List Tok} {ln : Nat} {e : Flt} (hk : OkL E (t :: l)) (hb : beginP (t :: l ++ [E]) ln = .error e) : e.2.2 = 40 := by
  unfold beginP at hb
  split at hb
  · injection hb with hb
    subst hb
    exact flt_word hk
  · cases hb
theorem body_end (h : Ctx E R) (n : Nat) (d : Fun) (ln : Nat) (hn : 1 ≤ n) : bodyP n d ([] ++ [E]) ln = .error (fltL ([] ++ [E])) := by
  obtain ⟨m, rfl⟩ : ∃ m, n = m + 1 := ⟨n - 1, by omega⟩
  unfold bodyP
  have hm : moreB ([] ++ [E]) ln = false := by show (!(E.kind == 4) && E.line == ln) = false; rw [h.kind]; rfl
  have hb : isB ([] ++ [E]) ln 125 = false := by unfold isB; rw [hm]; rfl
  rw [hb, if_neg (by simp)]
  unfold insideP
  rw [nameE_end h]
def SimT (E : Tok) (R : List Tok) (r1 r2 : Except Flt (Fun × List Tok × Nat)) : Prop :=
  match r1 with
  | .ok (d, l1, ln) => ∃ l', l1 = l' ++ [E] ∧ OkL E l' ∧ ln ≤ E.line ∧ r2 = .ok (d, l' ++ R, ln)
  | .error e => e.2.2 = 41 ∨ e.2.2 = 40 ∧ r2 = .error e
theorem body_sim (h : Ctx E R) : ∀ (n1 n2 : Nat) (d : Fun) (l : List Tok) (ln : Nat), ln ≤ E.line → OkL E l → l.length + 1 ≤ n1 → l.length + 1 ≤ n2 → SimT E R (bodyP n1 d (l ++ [E]) ln) (bodyP n2 d (l ++ R) ln)
  | 0, _, _, _, _, _, _, h1, _ => by omega
  | _, 0, _, _, _, _, _, _, h2 => by omega
  | n1 + 1, n2 + 1, d, l, ln, hl, hk, h1, h2 => by
    unfold bodyP
    rw [isB_sim h hl]
    by_cases hc : isB (l ++ [E]) ln 125 = true
    · rw [if_pos hc, if_pos hc]
      have hs := sign_sim h hl hk 125
      cases hq : signP 125 (l ++ [E]) ln with
      | error e =>
        rw [hq] at hs
        rcases hs with hs | hs
        · exact .inl hs
        · rw [hs.2]; exact .inr ⟨hs.1, rfl⟩
      | ok l2 =>
        rw [hq] at hs
        obtain ⟨l3, rfl, hk3, hs⟩ := hs
        rw [hs]
        exact ⟨l3, rfl, hk3, hl, rfl⟩
    · rw [if_neg hc, if_neg hc]
      have hi := inside_sim h hl hk d
      cases hq : insideP d (l ++ [E]) ln with
      | error e =>
        rw [hq] at hi
        rcases hi with hi | hi
        · exact .inl hi
        · rw [hi.2]; exact .inr ⟨hi.1, rfl⟩
      | ok p =>
        obtain ⟨d1, l2⟩ := p
        rw [hq] at hi
        obtain ⟨l3, rfl, hk3, hi⟩ := hi
        have hle := inside_le hq
        simp only [List.length_append, List.length_singleton] at hle
        rw [hi]
        dsimp only
        cases l3 with
        | nil =>
          have hb : beginP ([] ++ [E]) ln = .ok E.line := by
            show (if (!(E.kind == 4) && E.line == ln) = true then _ else _) = _
            rw [h.kind]
            rfl
          rw [hb]
          dsimp only
          rw [body_end h n1 d1 E.line (by omega)]
          exact .inl (flt_end h)
        | cons t l4 =>
          rw [begin_word (E := E) (R := R)]
          cases hb : beginP (t :: l4 ++ [E]) ln with
          | error e => exact .inr ⟨begin_err hk3 hb, rfl⟩
          | ok ln3 =>
            dsimp only
            exact body_sim h n1 n2 d1 (t :: l4) ln3 (begin_lineE hk3 hb) hk3 (by omega) (by omega)
theorem func_sim (h : Ctx E R) {ln : Nat} (hl : ln ≤ E.line) {l : List Tok} (hk : OkL E l) : SimT E R (funcP (l ++ [E]) ln) (funcP (l ++ R) ln) := by
  unfold funcP
  cases l with
  | nil =>
    by_cases hh : headT ([] ++ [E]) = funcT
    · rw [if_pos hh, nameE_end h]; exact .inl (flt_end h)
    · rw [if_neg hh]; exact .inl (flt_end h)
  | cons t l0 =>
    rw [show headT (t :: l0 ++ R) = headT (t :: l0 ++ [E]) from rfl]
    by_cases hh : headT (t :: l0 ++ [E]) = funcT
    · rw [if_pos hh, if_pos hh]
      have h1 := name_sim h hl hk
      cases q1 : nameP (t :: l0 ++ [E]) ln with
      | error e =>
        rw [q1] at h1
        rcases h1 with h1 | h1
        · exact .inl h1
        · rw [h1.2]; exact .inr ⟨h1.1, rfl⟩
      | ok p =>
        obtain ⟨s1, l1⟩ := p
        rw [q1] at h1
        obtain ⟨l1, rfl, hk1, h1⟩ := h1
        rw [h1]
        dsimp only
        have h2 := name_sim h hl hk1
        cases q2 : nameP (l1 ++ [E]) ln with
        | error e =>
          rw [q2] at h2
          rcases h2 with h2 | h2
          · exact .inl h2
          · rw [h2.2]; exact .inr ⟨h2.1, rfl⟩
        | ok p =>
          obtain ⟨s2, l2⟩ := p
          rw [q2] at h2
          obtain ⟨l2, rfl, hk2, h2⟩ := h2
          rw [h2]
          dsimp only
          have h3 := names_sim h hl hk2
          cases q3 : namesP (l2 ++ [E]) ln with
          | error e =>
            rw [q3] at h3
            rcases h3 with h3 | h3
            · exact .inl h3
            · rw [h3.2]; exact .inr ⟨h3.1, rfl⟩
          | ok p =>
            obtain ⟨ps, l3⟩ := p
            rw [q3] at h3
            obtain ⟨l3, rfl, hk3, h3⟩ := h3
            rw [h3]
            dsimp only
            have h4 := sign_sim h hl hk3 123
            cases q4 : signP 123 (l3 ++ [E]) ln with
            | error e =>
              rw [q4] at h4
              rcases h4 with h4 | h4
              · exact .inl h4
              · rw [h4.2]; exact .inr ⟨h4.1, rfl⟩
            | ok l4 =>
              rw [q4] at h4
              obtain ⟨l4, rfl, hk4, h4⟩ := h4
              rw [h4]
              dsimp only
              cases l4 with
              | nil =>
                have hb : beginP ([] ++ [E]) ln = .ok E.line := by
                  show (if (!(E.kind == 4) && E.line == ln) = true then _ else _) = _
                  rw [h.kind]
                  rfl
                rw [hb]
                dsimp only
                rw [body_end h _ _ E.line (by simp)]
                exact .inl (flt_end h)
              | cons t l5 =>
                rw [begin_word (E := E) (R := R)]
                cases hb : beginP (t :: l5 ++ [E]) ln with
                | error e => exact .inr ⟨begin_err hk4 hb, rfl⟩
                | ok ln3 =>
                  dsimp only
                  exact body_sim h _ _ _ (t :: l5) ln3 (begin_lineE hk4 hb) hk4 (by simp only [List.length_append]; omega) (by simp only [List.length_append]; omega)
    · rw [if_neg hh, if_neg hh]
      exact .inr ⟨flt_word hk, rfl⟩
end
end
section
section
variable {E : Tok} {R : List Tok}
def SimR (E : Tok) (R : List Tok) (n2 : Nat) (acc : List Fun) (l : List Tok) (r : Except Flt (List Fun)) : Prop :=
  match r with
  | .ok P => ∃ n3, R.length + 1 ≤ n3 ∧ progP n2 acc (l ++ R) (lineAt (l ++ R)) = progP n3 P R (lineAt R)
  | .error e => e.2.2 = 41 ∨ e.2.2 = 40 ∧ progP n2 acc (l ++ R) (lineAt (l ++ R)) = .error e
theorem begin_end (h : Ctx E R) (ln : Nat) : beginP ([] ++ [E]) ln = .ok E.line := by
  show (if (!(E.kind == 4) && E.line == ln) = true then _ else _) = _
  rw [h.kind]
  rfl
theorem begin_more (h : Ctx E R) {ln : Nat} (hl : ln ≤ E.line) : beginP ([] ++ R) ln = .ok (lineAt R) := by
  obtain ⟨-, r, R', rfl, hf⟩ := h
  show (if (!(r.kind == 4) && r.line == ln) = true then _ else _) = _
  have : (r.line == ln) = false := by simp; omega
  rw [this, Bool.and_false, if_neg (by simp)]
  rfl
theorem begin_at {t : Tok} {l : List Tok} {ln ln' : Nat} (hb : beginP (t :: l) ln = .ok ln') : ln' = t.line := by
  unfold beginP at hb
  split at hb
  · cases hb
  · injection hb with hb
    exact hb.symm
theorem prog_sim (h : Ctx E R) : ∀ (n1 n2 : Nat) (acc : List Fun) (l : List Tok), OkL E l → l.length + 1 ≤ n1 → (l ++ R).length + 1 ≤ n2 → SimR E R n2 acc l (progP n1 acc (l ++ [E]) (lineAt (l ++ [E])))
  | 0, _, _, _, _, h1, _ => by omega
  | _, 0, _, _, _, _, h2 => by omega
  | n1 + 1, n2 + 1, acc, [], hk, h1, h2 => by
    have : progP (n1 + 1) acc ([] ++ [E]) (lineAt ([] ++ [E])) = .ok acc := by
      unfold progP
      rw [if_pos (show kindAt ([] ++ [E]) 4 = true by show (E.kind == 4) = true; rw [h.kind]; rfl)]
    rw [this]
    exact ⟨n2 + 1, by simpa using h2, rfl⟩
  | n1 + 1, n2 + 1, acc, t :: l0, hk, h1, h2 => by
    have ht := hk t (List.mem_cons_self ..)
    have k1 : kindAt (t :: l0 ++ [E]) 4 = false := by show (t.kind == 4) = false; simpa using ht.1
    have k2 : kindAt (t :: l0 ++ R) 4 = false := k1
    have hf := func_sim h (ln := t.line) ht.2 hk
    have key : progP (n1 + 1) acc (t :: l0 ++ [E]) (lineAt (t :: l0 ++ [E])) = (match funcP (t :: l0 ++ [E]) t.line with | .error e => .error e | .ok (d, l, ln) => match beginP l ln with | .error e => .error e | .ok ln => progP n1 (acc ++ [d]) l ln) := by
      conv => lhs; unfold progP
      rw [k1, if_neg (by simp)]
      rfl
    have key2 : progP (n2 + 1) acc (t :: l0 ++ R) (lineAt (t :: l0 ++ R)) = (match funcP (t :: l0 ++ R) t.line with | .error e => .error e | .ok (d, l, ln) => match beginP l ln with | .error e => .error e | .ok ln => progP n2 (acc ++ [d]) l ln) := by
      conv => lhs; unfold progP
      rw [k2, if_neg (by simp)]
      rfl
    rw [key]
    cases hq : funcP (t :: l0 ++ [E]) t.line with
    | error e =>
      rw [hq] at hf
      rcases hf with hf | hf
      · exact .inl hf
      · refine .inr ⟨hf.1, ?_⟩
        rw [key2, hf.2]
    | ok p =>
      obtain ⟨d, l1, ln1⟩ := p
      rw [hq] at hf
      obtain ⟨l', rfl, hk', hl1, hf⟩ := hf
      rw [hf] at key2
      dsimp only at key2 ⊢
      have hlen := func_lt hq
      simp only [List.length_append, List.length_singleton] at hlen h2
      cases l' with
      | nil =>
        rw [begin_end h]
        rw [begin_more h hl1] at key2
        dsimp only at key2 ⊢
        have ih := prog_sim h n1 n2 (acc ++ [d]) [] (fun x hx => by cases hx) (by simp only [List.length_nil, List.length_cons] at *; omega) (by simp only [List.nil_append, List.length_cons] at *; omega)
        have e1 : lineAt ([] ++ [E]) = E.line := rfl
        rw [e1] at ih
        cases hp : progP n1 (acc ++ [d]) ([] ++ [E]) E.line with
        | error e =>
          rw [hp] at ih
          rcases ih with ih | ih
          · exact .inl ih
          · exact .inr ⟨ih.1, key2.trans ih.2⟩
        | ok P =>
          rw [hp] at ih
          obtain ⟨n3, h3, ih⟩ := ih
          exact ⟨n3, h3, key2.trans ih⟩
      | cons t2 l2 =>
        rw [begin_word (E := E) (R := R)] at key2
        cases hb : beginP (t2 :: l2 ++ [E]) ln1 with
        | error e =>
          rw [hb] at key2
          exact .inr ⟨begin_err hk' hb, key2⟩
        | ok ln3 =>
          rw [hb] at key2
          dsimp only at key2 ⊢
          obtain rfl := begin_at hb
          have ih := prog_sim h n1 n2 (acc ++ [d]) (t2 :: l2) hk' (by simp only [List.length_cons] at *; omega) (by simp only [List.length_append, List.length_cons] at *; omega)
          have e1 : lineAt (t2 :: l2 ++ [E]) = t2.line := rfl
          rw [e1] at ih
          cases hp : progP n1 (acc ++ [d]) (t2 :: l2 ++ [E]) t2.line with
          | error e =>
            rw [hp] at ih
            rcases ih with ih | ih
            · exact .inl ih
            · exact .inr ⟨ih.1, key2.trans ih.2⟩
          | ok P =>
            rw [hp] at ih
            obtain ⟨n3, h3, ih⟩ := ih
            exact ⟨n3, h3, key2.trans ih⟩
/-- More fuel, the same. -/
theorem prog_fuel : ∀ (n m : Nat) (acc : List Fun) (l : List Tok) (ln : Nat), l.length + 1 ≤ n → l.length + 1 ≤ m → progP n acc l ln = progP m acc l ln
  | 0, _, _, _, _, h, _ => by omega
  | _, 0, _, _, _, _, h => by omega
  | n + 1, m + 1, acc, l, ln, h1, h2 => by
    unfold progP
    by_cases hk : kindAt l 4 = true
    · rw [if_pos hk, if_pos hk]
    · rw [if_neg hk, if_neg hk]
      cases hf : funcP l ln with
      | error e => rfl
      | ok p =>
        obtain ⟨d, l1, ln1⟩ := p
        have := func_lt hf
        dsimp only
        cases hb : beginP l1 ln1 with
        | error e => rfl
        | ok ln2 => exact prog_fuel n m _ _ _ (by omega) (by omega)
/-- What was told stays in front. -/
def frontR (P : List Fun) : Except Flt (List Fun) → Except Flt (List Fun)
  | .error e => .error e
  | .ok Q => .ok (P ++ Q)
theorem prog_acc : ∀ (n : Nat) (P acc : List Fun) (l : List Tok) (ln : Nat), progP n (P ++ acc) l ln = frontR P (progP n acc l ln)
  | 0, _, _, _, _ => rfl
  | n + 1, P, acc, l, ln => by
    unfold progP
    by_cases hk : kindAt l 4 = true
    · rw [if_pos hk, if_pos hk]; rfl
    · rw [if_neg hk, if_neg hk]
      cases hf : funcP l ln with
      | error e => rfl
      | ok p =>
        obtain ⟨d, l1, ln1⟩ := p
        dsimp only
        cases hb : beginP l1 ln1 with
        | error e => rfl
        | ok ln2 =>
          dsimp only
          rw [List.append_assoc]
          exact prog_acc n P (acc ++ [d]) l1 ln2
/-- Two texts' words, one behind the other: the second's line is another than 0. -/
theorem parse_join (h : Ctx E R) {l : List Tok} (hk : OkL E l) (hpos : ∀ t ∈ l, 1 ≤ t.line) : match parseT (l ++ [E]) with | .ok P => parseT (l ++ R) = frontR P (progP (R.length + 1) [] R (lineAt R)) | .error e => e.2.2 = 41 ∨ e.2.2 = 40 ∧ parseT (l ++ R) = .error e := by
  have hb1 : beginP (l ++ [E]) 0 = .ok (lineAt (l ++ [E])) := by
    cases l with
    | nil => exact begin_end h 0
    | cons t l =>
      have := hpos t (List.mem_cons_self ..)
      show (if (!(t.kind == 4) && t.line == 0) = true then _ else _) = _
      have e : (t.line == 0) = false := by simp; omega
      rw [e, Bool.and_false, if_neg (by simp)]
  have hb2 : beginP (l ++ R) 0 = .ok (lineAt (l ++ R)) := by
    cases l with
    | nil => exact begin_more h (Nat.zero_le _)
    | cons t l =>
      have := hpos t (List.mem_cons_self ..)
      show (if (!(t.kind == 4) && t.line == 0) = true then _ else _) = _
      have e : (t.line == 0) = false := by simp; omega
      rw [e, Bool.and_false, if_neg (by simp)]
  have hs := prog_sim h ((l ++ [E]).length + 1) ((l ++ R).length + 1) [] l hk (by simp) (Nat.le_refl _)
  have e1 : parseT (l ++ [E]) = progP ((l ++ [E]).length + 1) [] (l ++ [E]) (lineAt (l ++ [E])) := by unfold parseT; rw [hb1]
  have e2 : parseT (l ++ R) = progP ((l ++ R).length + 1) [] (l ++ R) (lineAt (l ++ R)) := by unfold parseT; rw [hb2]
  rw [e1]
  cases hp : progP ((l ++ [E]).length + 1) [] (l ++ [E]) (lineAt (l ++ [E])) with
  | error e =>
    rw [hp] at hs
    rcases hs with hs | hs
    · exact .inl hs
    · exact .inr ⟨hs.1, e2.trans hs.2⟩
  | ok P =>
    rw [hp] at hs
    obtain ⟨n3, h3, hs⟩ := hs
    show parseT (l ++ R) = _
    rw [e2, hs, prog_fuel n3 (R.length + 1) _ _ _ h3 (Nat.le_refl _)]
    have := prog_acc (R.length + 1) P [] R (lineAt R)
    rwa [List.append_nil] at this
end
end
section
section
variable {α β : Type} {m : Nat}
def downF (m : Nat) (e : Flt) : Flt := (e.1 + m, e.2.1, e.2.2)
/-- What is told, further down (an error 0 is none that is told). -/
def Dn (m : Nat) (r1 r2 : Except Flt (α × List Tok)) : Prop :=
  match r1 with
  | .ok (x, l1) => r2 = .ok (x, l1.map (downT m))
  | .error e => e.2.2 = 0 ∨ r2 = .error (downF m e)
def DnL (m : Nat) (r1 r2 : Except Flt (List Tok)) : Prop :=
  match r1 with
  | .ok l1 => r2 = .ok (l1.map (downT m))
  | .error e => e.2.2 = 0 ∨ r2 = .error (downF m e)
theorem Dn.bind {r1 r2 : Except Flt (α × List Tok)} {g1 g2 : α → List Tok → Except Flt (β × List Tok)} (h : Dn m r1 r2) (hg : ∀ x l, Dn m (g1 x l) (g2 x (l.map (downT m)))) : Dn m (bindE r1 g1) (bindE r2 g2) := by
  cases r1 with
  | error e =>
    rcases h with h | h
    · exact .inl h
    · subst h; exact .inr rfl
  | ok p =>
    obtain ⟨x, l1⟩ := p
    have h : r2 = .ok (x, l1.map (downT m)) := h
    subst h
    exact hg x l1
theorem DnL.bind {r1 r2 : Except Flt (List Tok)} {g1 g2 : List Tok → Except Flt (β × List Tok)} (h : DnL m r1 r2) (hg : ∀ l, Dn m (g1 l) (g2 (l.map (downT m)))) :
    Dn m (match (generalizing := false) r1 with | .error e => .error e | .ok l => g1 l) (match (generalizing := false) r2 with | .error e => .error e | .ok l => g2 l) := by
  cases r1 with
  | error e =>
    rcases h with h | h
    · exact .inl h
    · subst h; exact .inr rfl
  | ok l1 =>
    have h : r2 = .ok (l1.map (downT m)) := h
    subst h
    exact hg l1
theorem Dn.ok {x : α} {l : List Tok} : Dn m (.ok (x, l)) (.ok (x, l.map (downT m))) := rfl
theorem more_dn (l : List Tok) (ln : Nat) : moreB (l.map (downT m)) (ln + m) = moreB l ln := by
  cases l with
  | nil => rfl
  | cons t l =>
    show (!(t.kind == 4) && t.line + m == ln + m) = (!(t.kind == 4) && t.line == ln)
    have : (t.line + m == ln + m) = (t.line == ln) := by rw [Bool.eq_iff_iff]; simp
    rw [this]
theorem isB_dn (l : List Tok) (ln : Nat) (c : UInt8) : isB (l.map (downT m)) (ln + m) c = isB l ln c := by
  unfold isB
  rw [more_dn]
  cases l <;> rfl
theorem take_dn (k : Nat) (l : List Tok) (ln : Nat) : (∃ t l', takeP k l ln = .ok (t, l') ∧ takeP k (l.map (downT m)) (ln + m) = .ok (downT m t, l'.map (downT m))) ∨ ∃ e, takeP k l ln = .error e ∧ (e.2.2 = 0 ∨ takeP k (l.map (downT m)) (ln + m) = .error (downF m e)) := by
  cases l with
  | nil => exact .inr ⟨_, rfl, .inl rfl⟩
  | cons t l =>
    have e1 : takeP k (t :: l) ln = if (moreB (t :: l) ln && t.kind == k) = true then .ok (t, l) else .error (fltL (t :: l)) := rfl
    have e2 : takeP k ((t :: l).map (downT m)) (ln + m) = if (moreB ((t :: l).map (downT m)) (ln + m) && t.kind == k) = true then .ok (downT m t, l.map (downT m)) else .error (fltL ((t :: l).map (downT m))) := rfl
    rw [more_dn] at e2
    by_cases hc : (moreB (t :: l) ln && t.kind == k) = true
    · rw [if_pos hc] at e1 e2
      exact .inl ⟨t, l, e1, e2⟩
    · rw [if_neg hc] at e1 e2
      exact .inr ⟨_, e1, .inr e2⟩
theorem name_dn (l : List Tok) (ln : Nat) : Dn m (nameP l ln) (nameP (l.map (downT m)) (ln + m)) := by
  unfold nameP
  rcases take_dn (m := m) 1 l ln with ⟨t, l', e1, e2⟩ | ⟨e, e1, e2⟩
  · rw [e1, e2]; rfl
  · rw [e1]
    rcases e2 with e2 | e2
    · exact .inl e2
    · rw [e2]; exact .inr rfl
theorem sign_dn (c : UInt8) (l : List Tok) (ln : Nat) : DnL m (signP c l ln) (signP c (l.map (downT m)) (ln + m)) := by
  unfold signP
  rw [isB_dn]
  by_cases hc : isB l ln c = true
  · rw [if_pos hc, if_pos hc]
    show Except.ok _ = Except.ok _
    rw [List.map_tail]
  · rw [if_neg hc, if_neg hc]
    cases l with
    | nil => exact .inl rfl
    | cons t l => exact .inr rfl
def DnP (m : Nat) (f : α → List Tok → Nat → Except Flt (α × List Tok)) : Prop := ∀ x l ln, Dn m (f x l ln) (f x (l.map (downT m)) (ln + m))
theorem list_dn {one : α → List Tok → Nat → Except Flt (α × List Tok)} {c : UInt8} (hone : DnP m one) : ∀ (n : Nat) (x : α) (l : List Tok) (ln : Nat), Dn m (listP one c n x l ln) (listP one c n x (l.map (downT m)) (ln + m))
  | 0, _, _, _ => .inl rfl
  | n + 1, x, l, ln => by
    unfold listP
    have ho := hone x l ln
    cases hr : one x l ln with
    | error e =>
      rw [hr] at ho
      rcases ho with ho | ho
      · exact .inl ho
      · rw [ho]; exact .inr rfl
    | ok p =>
      obtain ⟨x1, l1⟩ := p
      rw [hr] at ho
      have ho : one x (l.map (downT m)) (ln + m) = .ok (x1, l1.map (downT m)) := ho
      rw [ho]
      dsimp only
      rw [isB_dn]
      by_cases hc : isB l1 ln c = true
      · rw [if_pos hc, if_pos hc]
        exact (sign_dn c l1 ln).bind (g1 := fun l => .ok (x1, l)) (g2 := fun l => .ok (x1, l)) fun _ => rfl
      · rw [if_neg hc, if_neg hc]
        exact (sign_dn 44 l1 ln).bind (g1 := fun l => listP one c n x1 l ln) (g2 := fun l => listP one c n x1 l (ln + m)) fun l => list_dn hone n x1 l ln
theorem oneName_dn : DnP m oneName := fun x l ln => by
  rw [oneName_b, oneName_b]
  exact (name_dn l ln).bind fun _ _ => rfl
theorem names_dn (l : List Tok) (ln : Nat) : Dn m (namesP l ln) (namesP (l.map (downT m)) (ln + m)) := by
  unfold namesP
  refine (sign_dn 40 l ln).bind (g1 := fun l => if isB l ln 41 = true then (match signP 41 l ln with | .error e => .error e | .ok l => .ok ([], l)) else listP oneName 41 (l.length + 1) [] l ln) (g2 := fun l => if isB l (ln + m) 41 = true then (match signP 41 l (ln + m) with | .error e => .error e | .ok l => .ok ([], l)) else listP oneName 41 (l.length + 1) [] l (ln + m)) fun l => ?_
  rw [isB_dn, List.length_map]
  by_cases hc : isB l ln 41 = true
  · rw [if_pos hc, if_pos hc]
    exact (sign_dn 41 l ln).bind (g1 := fun l => .ok ([], l)) (g2 := fun l => .ok ([], l)) fun _ => rfl
  · rw [if_neg hc, if_neg hc]
    exact list_dn oneName_dn _ _ _ _
theorem then_dn {f g : Ins → List Tok → Nat → Except Flt (Ins × List Tok)} (hf : DnP m f) (hg : DnP m g) : DnP m (thenP f g) := fun x l ln => by
  rw [thenP_b, thenP_b]
  exact (hf x l ln).bind fun x l => hg x l ln
theorem skip_dn (c : UInt8) : DnP m (skipP c) := fun x l ln => (sign_dn c l ln).bind (g1 := fun l => .ok (x, l)) (g2 := fun l => .ok (x, l)) fun _ => rfl
theorem byName_dn {f : Ins → List Tok → Nat → Except Flt (Ins × List Tok)} (put : Ins → ByteArray → Ins) (hf : ∀ x l ln, f x l ln = match nameP l ln with | .error e => .error e | .ok (s, l) => .ok (put x s, l)) : DnP m f := fun x l ln => by
  have e : ∀ x l ln, f x l ln = bindE (nameP l ln) (fun s l => .ok (put x s, l)) := fun x l ln => by
    rw [hf]
    unfold bindE
    cases nameP l ln <;> rfl
  rw [e, e]
  exact (name_dn l ln).bind fun _ _ => rfl
theorem operand_dn : DnP m operandP := byName_dn (fun x s => { x with a := s }) (fun _ _ _ => rfl)
theorem label_dn : DnP m labelP := byName_dn (fun x s => { x with labels := x.labels ++ [s] }) (fun _ _ _ => rfl)
theorem fn_dn : DnP m fnP := byName_dn (fun x s => { x with fn := s }) (fun _ _ _ => rfl)
theorem arg_dn : DnP m argP := byName_dn (fun x s => { x with args := x.args ++ [s] }) (fun _ _ _ => rfl)
theorem val_dn : DnP m valP := byName_dn (fun x s => { x with b := s }) (fun _ _ _ => rfl)
theorem fields_dn : DnP m fieldsP := fun x l ln => by
  unfold fieldsP
  rcases take_dn (m := m) 2 l ln with ⟨t, l', e1, e2⟩ | ⟨e, e1, e2⟩
  · rw [e1, e2]; rfl
  · rw [e1]
    rcases e2 with e2 | e2
    · exact .inl e2
    · rw [e2]; exact .inr rfl
theorem args_dn : DnP m argsP := fun x l ln => by
  rw [argsP_b, argsP_b]
  exact (names_dn l ln).bind fun _ _ => rfl
theorem pair_dn : DnP m pairP := then_dn label_dn (then_dn (skip_dn 58) arg_dn)
theorem phi_dn : DnP m phiP := fun x l ln => (sign_dn 91 l ln).bind (g1 := fun l => listP pairP 93 (l.length + 1) x l ln) (g2 := fun l => listP pairP 93 (l.length + 1) x l (ln + m)) fun l => by
  rw [List.length_map]
  exact list_dn pair_dn _ _ _ _
theorem rest_dn (r : Rst) : DnP m (restP r) := by
  cases r with
  | fields => exact fields_dn
  | nothing => exact fun x l ln => rfl
  | fn => exact fn_dn
  | operand => exact operand_dn
  | field => exact then_dn operand_dn fields_dn
  | phi => exact phi_dn
  | call => exact then_dn fn_dn args_dn
  | icall => exact then_dn operand_dn args_dn
  | store => exact then_dn operand_dn (then_dn (skip_dn 44) val_dn)
  | branch => exact then_dn label_dn label_dn
  | label => exact label_dn
  | result =>
    intro x l ln
    show Dn m (if moreB l ln = true then operandP x l ln else .ok (x, l)) (if moreB (l.map (downT m)) (ln + m) = true then operandP x (l.map (downT m)) (ln + m) else .ok (x, l.map (downT m)))
    rw [more_dn]
    by_cases hc : moreB l ln = true
    · rw [if_pos hc, if_pos hc]; exact operand_dn x l ln
    · rw [if_neg hc, if_neg hc]; rfl
theorem head_dn (l : List Tok) : headT (l.map (downT m)) = headT l := by cases l <;> rfl
theorem flt_dn (l : List Tok) : (fltL l).2.2 = 0 ∨ fltL (l.map (downT m)) = downF m (fltL l) := by
  cases l with
  | nil => exact .inl rfl
  | cons t l => exact .inr rfl
theorem inside_dn (d : Fun) (l : List Tok) (ln : Nat) : Dn m (insideP d l ln) (insideP d (l.map (downT m)) (ln + m)) := by
  unfold insideP
  have ho := name_dn (m := m) l ln
  cases hr : nameP l ln with
  | error e =>
    rw [hr] at ho
    rcases ho with ho | ho
    · exact .inl ho
    · rw [ho]; exact .inr rfl
  | ok p =>
    obtain ⟨s, l1⟩ := p
    rw [hr] at ho
    have ho : nameP (l.map (downT m)) (ln + m) = .ok (s, l1.map (downT m)) := ho
    rw [ho]
    dsimp only
    rw [isB_dn, isB_dn]
    by_cases hc : (d.blocks.isEmpty || isB l1 ln 58) = true
    · rw [if_pos hc, if_pos hc]
      exact (sign_dn 58 l1 ln).bind (g1 := fun l => .ok (addB d s, l)) (g2 := fun l => .ok (addB d s, l)) fun _ => rfl
    · rw [if_neg hc, if_neg hc]
      cases (if isB l1 ln 61 = true then none else bareF s.data.toList) with
      | some how =>
        dsimp only
        have hi := rest_dn (m := m) how.2 (insOf how.1 ⟨#[]⟩) l1 ln
        unfold instrP
        cases hq : restP how.2 (insOf how.1 ⟨#[]⟩) l1 ln with
        | error e =>
          rw [hq] at hi
          rcases hi with hi | hi
          · exact .inl hi
          · rw [hi]; exact .inr rfl
        | ok p =>
          obtain ⟨x, l2⟩ := p
          rw [hq] at hi
          have hi : restP how.2 (insOf how.1 ⟨#[]⟩) (l1.map (downT m)) (ln + m) = .ok (x, l2.map (downT m)) := hi
          rw [hi]
          rfl
      | none =>
        dsimp only
        have hs := sign_dn (m := m) 61 l1 ln
        cases hq : signP 61 l1 ln with
        | error e =>
          rw [hq] at hs
          rcases hs with hs | hs
          · exact .inl hs
          · rw [hs]; exact .inr rfl
        | ok l2 =>
          rw [hq] at hs
          have hs : signP 61 (l1.map (downT m)) (ln + m) = .ok (l2.map (downT m)) := hs
          rw [hs]
          dsimp only
          rw [head_dn]
          cases valueF (headT l2) with
          | none =>
            rcases flt_dn (m := m) l2 with e | e
            · exact .inl e
            · exact .inr (by rw [← e])
          | some how =>
            dsimp only
            have hn := name_dn (m := m) l2 ln
            cases hq2 : nameP l2 ln with
            | error e =>
              rw [hq2] at hn
              rcases hn with hn | hn
              · exact .inl hn
              · rw [hn]; exact .inr rfl
            | ok p =>
              obtain ⟨s2, l5⟩ := p
              rw [hq2] at hn
              have hn : nameP (l2.map (downT m)) (ln + m) = .ok (s2, l5.map (downT m)) := hn
              rw [hn]
              dsimp only
              have hi := rest_dn (m := m) how.2 (insOf how.1 s) l5 ln
              unfold instrP
              cases hq3 : restP how.2 (insOf how.1 s) l5 ln with
              | error e =>
                rw [hq3] at hi
                rcases hi with hi | hi
                · exact .inl hi
                · rw [hi]; exact .inr rfl
              | ok p =>
                obtain ⟨x, l7⟩ := p
                rw [hq3] at hi
                have hi : restP how.2 (insOf how.1 s) (l5.map (downT m)) (ln + m) = .ok (x, l7.map (downT m)) := hi
                rw [hi]
                rfl
end
end
section
section
variable {m : Nat}
def DnT (m : Nat) (r1 r2 : Except Flt (Fun × List Tok × Nat)) : Prop :=
  match r1 with
  | .ok (d, l1, ln) => r2 = .ok (d, l1.map (downT m), ln + m)
  | .error e => e.2.2 = 0 ∨ r2 = .error (downF m e)
theorem begin_dn {t : Tok} {l : List Tok} {ln : Nat} : beginP ((t :: l).map (downT m)) (ln + m) = match beginP (t :: l) ln with | .ok x => .ok (x + m) | .error e => .error (downF m e) := by
  have e1 : beginP ((t :: l).map (downT m)) (ln + m) = if (!(t.kind == 4) && t.line + m == ln + m) = true then .error (downF m (fltL (t :: l))) else .ok (t.line + m) := rfl
  have e2 : beginP (t :: l) ln = if (!(t.kind == 4) && t.line == ln) = true then .error (fltL (t :: l)) else .ok t.line := rfl
  have : (t.line + m == ln + m) = (t.line == ln) := by rw [Bool.eq_iff_iff]; simp
  rw [e1, e2, this]
  by_cases hc : (!(t.kind == 4) && t.line == ln) = true
  · rw [if_pos hc, if_pos hc]
  · rw [if_neg hc, if_neg hc]
theorem body_nil : ∀ (n : Nat) (d : Fun) (ln : Nat), bodyP n d [] ln = .error (0, 0, 0)
  | 0, _, _ => rfl
  | n + 1, d, ln => rfl
theorem prog_nil : ∀ (n : Nat) (acc : List Fun) (ln : Nat), progP n acc [] ln = .error (0, 0, 0)
  | 0, _, _ => rfl
  | n + 1, d, ln => rfl
theorem begin_nil (ln : Nat) : beginP [] ln = .error (0, 0, 0) ∨ beginP [] ln = .ok 0 := by
  unfold beginP
  split
  · exact .inl rfl
  · exact .inr rfl
theorem body_dn : ∀ (n : Nat) (d : Fun) (l : List Tok) (ln : Nat), DnT m (bodyP n d l ln) (bodyP n d (l.map (downT m)) (ln + m))
  | 0, _, _, _ => .inl rfl
  | n + 1, d, l, ln => by
    unfold bodyP
    rw [isB_dn]
    by_cases hc : isB l ln 125 = true
    · rw [if_pos hc, if_pos hc]
      have hs := sign_dn (m := m) 125 l ln
      cases hq : signP 125 l ln with
      | error e =>
        rw [hq] at hs
        rcases hs with hs | hs
        · exact .inl hs
        · rw [hs]; exact .inr rfl
      | ok l2 =>
        rw [hq] at hs
        have hs : signP 125 (l.map (downT m)) (ln + m) = .ok (l2.map (downT m)) := hs
        rw [hs]
        rfl
    · rw [if_neg hc, if_neg hc]
      have hi := inside_dn (m := m) d l ln
      cases hq : insideP d l ln with
      | error e =>
        rw [hq] at hi
        rcases hi with hi | hi
        · exact .inl hi
        · rw [hi]; exact .inr rfl
      | ok p =>
        obtain ⟨d1, l2⟩ := p
        rw [hq] at hi
        have hi : insideP d (l.map (downT m)) (ln + m) = .ok (d1, l2.map (downT m)) := hi
        rw [hi]
        dsimp only
        cases l2 with
        | nil =>
          rcases begin_nil ln with e | e
          · rw [e]; exact .inl rfl
          · rw [e]; dsimp only; rw [body_nil]; exact .inl rfl
        | cons t l3 =>
          rw [begin_dn]
          cases hb : beginP (t :: l3) ln with
          | error e => exact .inr rfl
          | ok ln3 => exact body_dn n d1 (t :: l3) ln3
theorem func_dn (l : List Tok) (ln : Nat) : DnT m (funcP l ln) (funcP (l.map (downT m)) (ln + m)) := by
  unfold funcP
  rw [head_dn]
  by_cases hh : headT l = funcT
  · rw [if_pos hh, if_pos hh]
    have h1 := name_dn (m := m) l ln
    cases q1 : nameP l ln with
    | error e =>
      rw [q1] at h1
      rcases h1 with h1 | h1
      · exact .inl h1
      · rw [h1]; exact .inr rfl
    | ok p =>
      obtain ⟨s1, l1⟩ := p
      rw [q1] at h1
      have h1 : nameP (l.map (downT m)) (ln + m) = .ok (s1, l1.map (downT m)) := h1
      rw [h1]
      dsimp only
      have h2 := name_dn (m := m) l1 ln
      cases q2 : nameP l1 ln with
      | error e =>
        rw [q2] at h2
        rcases h2 with h2 | h2
        · exact .inl h2
        · rw [h2]; exact .inr rfl
      | ok p =>
        obtain ⟨s2, l2⟩ := p
        rw [q2] at h2
        have h2 : nameP (l1.map (downT m)) (ln + m) = .ok (s2, l2.map (downT m)) := h2
        rw [h2]
        dsimp only
        have h3 := names_dn (m := m) l2 ln
        cases q3 : namesP l2 ln with
        | error e =>
          rw [q3] at h3
          rcases h3 with h3 | h3
          · exact .inl h3
          · rw [h3]; exact .inr rfl
        | ok p =>
          obtain ⟨ps, l3⟩ := p
          rw [q3] at h3
          have h3 : namesP (l2.map (downT m)) (ln + m) = .ok (ps, l3.map (downT m)) := h3
          rw [h3]
          dsimp only
          have h4 := sign_dn (m := m) 123 l3 ln
          cases q4 : signP 123 l3 ln with
          | error e =>
            rw [q4] at h4
            rcases h4 with h4 | h4
            · exact .inl h4
            · rw [h4]; exact .inr rfl
          | ok l4 =>
            rw [q4] at h4
            have h4 : signP 123 (l3.map (downT m)) (ln + m) = .ok (l4.map (downT m)) := h4
            rw [h4]
            dsimp only
            cases l4 with
            | nil =>
              rcases begin_nil ln with e | e
              · rw [e]; exact .inl rfl
              · rw [e]; dsimp only; rw [body_nil]; exact .inl rfl
            | cons t l5 =>
              rw [begin_dn]
              cases hb : beginP (t :: l5) ln with
              | error e => exact .inr rfl
              | ok ln3 =>
                dsimp only
                rw [List.length_map]
                exact body_dn _ _ (t :: l5) ln3
  · rw [if_neg hh, if_neg hh]
    rcases flt_dn (m := m) l with e | e
    · exact .inl e
    · exact .inr (by rw [← e])
def DnR (m : Nat) (r1 r2 : Except Flt (List Fun)) : Prop :=
  match r1 with
  | .ok P => r2 = .ok P
  | .error e => e.2.2 = 0 ∨ r2 = .error (downF m e)
theorem kind_dn (l : List Tok) (k : Nat) : kindAt (l.map (downT m)) k = kindAt l k := by cases l <;> rfl
theorem prog_dn : ∀ (n : Nat) (acc : List Fun) (l : List Tok) (ln : Nat), DnR m (progP n acc l ln) (progP n acc (l.map (downT m)) (ln + m))
  | 0, _, _, _ => .inl rfl
  | n + 1, acc, l, ln => by
    unfold progP
    rw [kind_dn]
    by_cases hk : kindAt l 4 = true
    · rw [if_pos hk, if_pos hk]; rfl
    · rw [if_neg hk, if_neg hk]
      have hf := func_dn (m := m) l ln
      cases hq : funcP l ln with
      | error e =>
        rw [hq] at hf
        rcases hf with hf | hf
        · exact .inl hf
        · rw [hf]; exact .inr rfl
      | ok p =>
        obtain ⟨d, l1, ln1⟩ := p
        rw [hq] at hf
        have hf : funcP (l.map (downT m)) (ln + m) = .ok (d, l1.map (downT m), ln1 + m) := hf
        rw [hf]
        dsimp only
        cases l1 with
        | nil =>
          rcases begin_nil ln1 with e | e
          · rw [e]; exact .inl rfl
          · rw [e]; dsimp only; rw [prog_nil]; exact .inl rfl
        | cons t l2 =>
          rw [begin_dn]
          cases hb : beginP (t :: l2) ln1 with
          | error e => exact .inr rfl
          | ok ln3 => exact prog_dn n _ (t :: l2) ln3
/-- A text's words are read from their first line on. -/
theorem parse_lines {t : Tok} {l : List Tok} (ht : 1 ≤ t.line) : parseT (t :: l) = progP ((t :: l).length + 1) [] (t :: l) t.line := by
  have hb : beginP (t :: l) 0 = .ok t.line := by
    show (if (!(t.kind == 4) && t.line == 0) = true then _ else _) = _
    have e : (t.line == 0) = false := by simp; omega
    rw [e, Bool.and_false, if_neg (by simp)]
    rfl
  unfold parseT
  rw [hb]
end
end
section
theorem step_lines {l : List UInt8} {ln cl k ln' cl' : Nat} {t : Option Tok} (h : stepL l ln cl = .ok (k, ln', cl', t)) : ln ≤ ln' ∧ ∀ x, t = some x → x.line = ln := by
  refine ⟨?_, fun x hx => by subst hx; exact (step_tok h).2.2.1⟩
  unfold stepL at h
  split at h
  · cases h
  · split at h
    · injection h with h; injection h with h1 h; injection h with h2 h; omega
    · split at h
      · injection h with h; injection h with h1 h; injection h with h2 h; omega
      · split at h
        · injection h with h; injection h with h1 h; injection h with h2 h; omega
        · split at h
          · injection h with h; injection h with h1 h; injection h with h2 h; omega
          · split at h
            · split at h
              · cases h
              · injection h with h; injection h with h1 h; injection h with h2 h; omega
            · split at h
              · injection h with h; injection h with h1 h; injection h with h2 h; omega
              · cases h
theorem lex_lines : ∀ (n : Nat) (l : List UInt8) (ln cl : Nat) (T : List Tok), lexN n l ln cl = .ok T → ∃ l' E, T = l' ++ [E] ∧ ln ≤ E.line ∧ ∀ t ∈ l', ln ≤ t.line ∧ t.line ≤ E.line
  | n, [], ln, cl, T, h => by
    rw [lexN.eq_def] at h
    injection h with h
    subst h
    exact ⟨[], _, rfl, Nat.le_refl _, fun t ht => by cases ht⟩
  | 0, c :: r, ln, cl, T, h => by rw [lexN.eq_def] at h; cases h
  | n + 1, c :: r, ln, cl, T, h => by
    rw [lexN] at h
    cases hs : stepL (c :: r) ln cl with
    | error e => rw [hs] at h; cases h
    | ok x =>
      obtain ⟨k, ln', cl', t⟩ := x
      rw [hs] at h
      have hp := step_lines hs
      cases hr : lexN n ((c :: r).drop k) ln' cl' with
      | error e => have h : add t (lexN n ((c :: r).drop k) ln' cl') = .ok T := h; rw [hr] at h; cases h
      | ok T' =>
        have h : add t (lexN n ((c :: r).drop k) ln' cl') = .ok T := h
        rw [hr] at h
        injection h with h
        obtain ⟨l', E, e, h1, h2⟩ := lex_lines n _ _ _ _ hr
        subst h
        subst e
        refine ⟨t.toList ++ l', E, by rw [List.append_assoc], by omega, fun u hu => ?_⟩
        rcases List.mem_append.1 hu with hu | hu
        · cases t with
          | none => cases hu
          | some x =>
            rw [Option.toList_some, List.mem_singleton] at hu
            subst hu
            have := hp.2 u rfl
            omega
        · have := h2 u hu
          omega
theorem parse_joins (a b : List UInt8) : match parseL a with
    | .ok P => ∃ Ta, lex a 1 1 = .ok Ta ∧ (match parseL b with | .ok Q => parseL (a ++ 10 :: b) = .ok (P ++ Q) | .error e => e.2.2 = 0 ∨ parseL (a ++ 10 :: b) = .error (downF (endT Ta) e))
    | .error e => e.2.2 = 41 ∨ e.2.2 ≠ 0 ∧ ∃ e', e'.2.2 ≠ 0 ∧ parseL (a ++ 10 :: b) = .error e' := by
  have hj := lex_join _ a b 1 1 (Nat.le_refl _)
  cases hla : lex a 1 1 with
  | error e =>
    obtain ⟨x, y, z⟩ := e
    have h0 := lexN_err _ _ _ _ _ _ _ (Nat.le_refl _) hla
    have e1 : parseL a = .error (x, y, z) := by unfold parseL; rw [hla]
    rw [e1]
    rw [hla] at hj
    exact .inr ⟨h0, _, h0, by unfold parseL; rw [hj]; rfl⟩
  | ok Ta =>
    rw [hla] at hj
    obtain ⟨l, E, rfl, hE1, hlines⟩ := lex_lines _ _ _ _ _ hla
    obtain ⟨-, -, l2, E2, e2, hE4, hk4⟩ := lexN_ok _ _ _ _ _ hla
    obtain ⟨rfl, e3⟩ := List.append_inj' e2 rfl
    injection e3 with e3 _
    subst e3
    have hend : endT (l ++ [E]) = E.line := by simp [endT]
    have hdrop : (l ++ [E]).dropLast = l := by simp
    have hj : lex (a ++ 10 :: b) 1 1 = addL l (lex b (1 + E.line) 1) := by
      rw [hj]
      show addL (l ++ [E]).dropLast (lex b (endT (l ++ [E]) + 1) 1) = _
      rw [hend, hdrop, Nat.add_comm]
    rw [lex_down _ b 1 1 E.line (Nat.le_refl _)] at hj
    have e1 : parseL a = parseT (l ++ [E]) := by unfold parseL; rw [hla]
    have hk : OkL E l := fun t ht => ⟨hk4 t ht, (hlines t ht).2⟩
    cases hlb : lex b 1 1 with
    | error e =>
      obtain ⟨x, y, z⟩ := e
      have h0 := lexN_err _ _ _ _ _ _ _ (Nat.le_refl _) hlb
      rw [hlb] at hj
      have e4 : parseL (a ++ 10 :: b) = .error (x + E.line, y, z) := by unfold parseL; rw [hj]; rfl
      have e5 : parseL b = .error (x, y, z) := by unfold parseL; rw [hlb]
      rw [e1]
      cases hp : parseT (l ++ [E]) with
      | ok P =>
        refine ⟨_, rfl, ?_⟩
        rw [e5, hend]
        exact .inr e4
      | error e =>
        have hc : e.2.2 = 41 ∨ e.2.2 = 40 := by
          have hC : Ctx E [{ E with line := E.line + 1 }] := ⟨hE4, _, _, rfl, Nat.lt_succ_self _⟩
          have := parse_join hC hk (fun t ht => (hlines t ht).1)
          rw [hp] at this
          rcases this with h | h
          · exact .inl h
          · exact .inr h.1
        rcases hc with h | h
        · exact .inl h
        · exact .inr ⟨by rw [h]; decide, _, h0, e4⟩
    | ok Tb =>
      rw [hlb] at hj
      obtain ⟨lb, Eb, eTb, hEb, hlb2⟩ := lex_lines _ _ _ _ _ hlb
      obtain ⟨t, lt, rfl⟩ : ∃ t lt, Tb = t :: lt := by
        cases Tb with
        | nil => simp at eTb
        | cons t lt => exact ⟨t, lt, rfl⟩
      have ht1 : 1 ≤ t.line := by
        have hm : t ∈ lb ++ [Eb] := by rw [← eTb]; exact List.mem_cons_self ..
        rcases List.mem_append.1 hm with h | h
        · exact (hlb2 t h).1
        · rw [List.mem_singleton] at h; subst h; exact hEb
      have hC : Ctx E ((t :: lt).map (downT E.line)) := ⟨hE4, downT E.line t, lt.map (downT E.line), rfl, by show E.line < t.line + E.line; omega⟩
      have hjn := parse_join hC hk (fun t ht => (hlines t ht).1)
      have e4 : parseL (a ++ 10 :: b) = parseT (l ++ (t :: lt).map (downT E.line)) := by unfold parseL; rw [hj]; rfl
      have e5 : parseL b = progP ((t :: lt).length + 1) [] (t :: lt) t.line := by unfold parseL; rw [hlb]; exact parse_lines ht1
      have hdn := prog_dn (m := E.line) ((t :: lt).length + 1) [] (t :: lt) t.line
      rw [e1]
      cases hp : parseT (l ++ [E]) with
      | ok P =>
        rw [hp] at hjn
        refine ⟨_, rfl, ?_⟩
        have hjn : parseT (l ++ (t :: lt).map (downT E.line)) = frontR P (progP (((t :: lt).map (downT E.line)).length + 1) [] ((t :: lt).map (downT E.line)) (t.line + E.line)) := hjn
        rw [List.length_map] at hjn
        rw [e5, e4, hjn, hend]
        cases hq : progP ((t :: lt).length + 1) [] (t :: lt) t.line with
        | ok Q =>
          rw [hq] at hdn
          have hdn : progP ((t :: lt).length + 1) [] ((t :: lt).map (downT E.line)) (t.line + E.line) = .ok Q := hdn
          rw [hdn]
          rfl
        | error e =>
          rw [hq] at hdn
          rcases hdn with h | h
          · exact .inl h
          · refine .inr ?_
            rw [h]
            rfl
      | error e =>
        rw [hp] at hjn
        rcases hjn with h | h
        · exact .inl h
        · exact .inr ⟨by rw [h.1]; decide, e, by rw [h.1]; decide, e4.trans h.2⟩
end
end Go.Proofs.YtgcanabckogmmaaDoor
