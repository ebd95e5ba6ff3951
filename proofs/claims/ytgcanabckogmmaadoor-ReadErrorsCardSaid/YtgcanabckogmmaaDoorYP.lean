/- RdJ1, RdJ2, RdJ3, RdJ4, RdJ5. -/
import Derived.Test.YtgcanabckogmmaaDoorYL
import Derived.Test.YtgcanabckogmmaaDoorYM
import Derived.Laws.StructEq
namespace Go.Proofs.YtgcanabckogmmaaDoor
set_option linter.unusedVariables false
set_option linter.unusedSimpArgs false
section
open Go.RowKit Go.Maps Go.Shelf
attribute [local go_sem] Oper.semAt_some fld0 fld1 fld2

/-- An outcome of Parse, written out. -/
theorem post_out {w w' : World} {R : Except Flt (List Fun)} {e : Ending} (h : ParsePost w R e w') : ∃ (va : Option Addr) (n vc l c er : Nat), e = .returned (.tuple #[.agg #[.slice va n vc], .agg #[.int .i64 l, .int .i64 c], .int .i64 er]) ∧ Below w.heap.size w w' ∧ (match (generalizing := false) R with | .error f => f = (l, c, er) | .ok P => er = 0 ∧ l = 0 ∧ c = 0 ∧ n = P.length ∧ ∀ w'', Touch w' w'' (fun k => k < w.heap.size) → RdE 3 RdFun w'' (.slice va n vc) P) := by
  obtain ⟨hb, h⟩ := h
  cases R with
  | error f =>
    obtain ⟨l, c, er⟩ := f
    exact ⟨none, 0, 0, l, c, er, h, hb, rfl⟩
  | ok P =>
    obtain ⟨v, rfl, hr⟩ := h
    obtain ⟨va, vc, rfl⟩ := (hr w' (Touch.refl _ _)).1.form
    exact ⟨va, P.length, vc, 0, 0, 0, rfl, hb, rfl, rfl, rfl, rfl, fun w'' t => (hr w'' t).plain⟩
theorem join_bytes (a b : ByteArray) : (a ++ ⟨#[10]⟩ ++ b).data.toList = a.data.toList ++ 10 :: b.data.toList := by
  simp [ByteArray.data_append]
set_option maxRecDepth 20000 in
set_option maxHeartbeats 2000000 in
theorem joins_err {w : World} {a b : ByteArray} (ha : a.size ≤ 1500) (hb : b.size ≤ 1500) {f : Flt} (hA : parseL a.data.toList = .error f) : Calls Tryd.prog 8 #[.string a, .string b] w fun e w' => e = .returned (.bool true) ∧ Below w.heap.size w w' := by
  have g1 : decide ((a.size : Int) > 1500) = false := by simp; omega
  have g2 : decide ((b.size : Int) > 1500) = false := by simp; omega
  have hsz : (a ++ ⟨#[10]⟩ ++ b).size ≤ 1048576 := by simp [ByteArray.size_append]; have : (⟨#[10]⟩ : ByteArray).size = 1 := rfl; omega
  have k1 := Lib.hid (fun w' => parse_any (w := w') (s := a) (by omega))
  have k2 := Lib.hid (fun w' => parse_any (w := w') (s := b) (by omega))
  have k3 := Lib.hid (fun w' => parse_any (w := w') (s := a ++ ⟨#[10]⟩ ++ b) hsz)
  have hj := parse_joins a.data.toList b.data.toList
  rw [hA] at hj
  rw [hA] at k1
  rw [join_bytes] at k3
  have m1 : ¬9223372036854775807 < a.size + 1 := by omega
  have m2 : ¬9223372036854775807 < a.size + 1 + b.size := by omega
  replace hj := Lib.hid hj
  clear hA ha hb hsz
  go_enter Tryd.func8, Tryd.ntmps8
  go_wp2_with fail
  refine (k1.out _).mono ?_
  intro e w1 h1
  obtain ⟨va, n1, vc, l1, c1, er1, rfl, hb1, hf⟩ := post_out h1
  dsimp only at hf
  replace hb1 := Lib.hid hb1
  clear h1
  go_wp2_with fail
  refine (k2.out _).mono ?_
  intro e w2 h2
  obtain ⟨vb, n2, vd, l2, c2, er2, rfl, hb2, -⟩ := post_out h2
  replace hb2 := Lib.hid hb2
  clear h2
  go_wp2_with fail
  refine (k3.out _).mono ?_
  intro e w3 h3
  obtain ⟨ve, n3, vf, l3, c3, er3, rfl, hb3, hf3⟩ := post_out h3
  have hj := hj.out
  rw [hf] at hj
  dsimp only at hj
  have hn1 : er1 ≠ 0 := by rcases hj with h | h; omega; exact h.1
  have q1 : ((er1 : Int) != 0) = true := by simpa using hn1
  replace hb3 := Lib.hid hb3
  clear h3 m1 m2 hf
  have hend : ∀ w4, Below w3.heap.size w3 w4 → Below w.heap.size w w4 := fun w4 h4 => by
    have s1 := hb1.out.size
    have s2 := hb2.out.size
    have s3 := hb3.out.size
    simp only [World.size_alloc] at s2 s3
    have t1 : Below w.heap.size w ((w1.alloc (.cells #[.slice va n1 vc] 24)).alloc (.cells #[.int .i64 l1, .int .i64 c1] 26)) := (hb1.out.alloc s1 _).alloc (by simp; omega) _
    have t2 := t1.trans (hb2.out.mono t1.size)
    have t3 := (t2.alloc t2.size (.cells #[.slice vb n2 vd] 24)).alloc (by have := t2.size; simp; omega) (.cells #[.int .i64 l2, .int .i64 c2] 26)
    have t4 := t3.trans (hb3.out.mono t3.size)
    exact t4.trans (h4.mono t4.size)
  replace hend := Lib.hid hend
  have hb4 : ∀ A B : Obj, Below w3.heap.size w3 ((w3.alloc A).alloc B) := fun A B => ((Below.refl _ _).alloc (Nat.le_refl _) _).alloc (by simp) _
  replace hb4 := Lib.hid hb4
  by_cases h41 : er1 = 41
  · have q2 : ((er1 : Int) == 41) = true := by rw [h41]; rfl
    clear hj h41
    go_wp2_with fail
    refine reads_any.mono ?_
    rintro e w5 ⟨rfl, hb5⟩
    replace hb5 := Lib.hid hb5
    go_wp2_with fail
    go_ret
    exact ⟨rfl, hend.out _ ((hb4.out _ _).trans (hb5.out.mono (hb4.out _ _).size))⟩
  · have q2 : ((er1 : Int) == 41) = false := by
      rw [beq_eq_false_iff_ne]
      omega
    have hn3 : er3 ≠ 0 := by
      rcases hj with h | ⟨-, e', he', h⟩
      · exact absurd h h41
      · rw [h] at hf3
        have hf3 : e' = (l3, c3, er3) := hf3
        rw [hf3] at he'
        exact he'
    have q3 : ((er3 : Int) != 0) = true := by simpa using hn3
    clear hj h41 hn3
    go_wp2_with fail
    refine reads_any.mono ?_
    rintro e w5 ⟨rfl, hb5⟩
    replace hb5 := Lib.hid hb5
    go_wp2_with fail
    go_ret
    exact ⟨rfl, hend.out _ ((hb4.out _ _).trans (hb5.out.mono (hb4.out _ _).size))⟩
end
section
open Go.RowKit Go.Maps Go.Shelf
attribute [local go_sem] Oper.semAt_some fld0 fld1 fld2

set_option maxRecDepth 20000 in
set_option maxHeartbeats 2000000 in
theorem joins_great {w : World} {a b : ByteArray} (h : 1500 < a.size ∨ 1500 < b.size) : Calls Tryd.prog 8 #[.string a, .string b] w fun e w' => e = .returned (.bool true) ∧ Below w.heap.size w w' := by
  by_cases h1 : 1500 < a.size
  · have g1 : decide ((a.size : Int) > 1500) = true := by simp; omega
    clear h
    go_enter Tryd.func8, Tryd.ntmps8
    go_wp2_with fail
    go_ret
    exact ⟨rfl, Below.refl _ _⟩
  · have g1 : decide ((a.size : Int) > 1500) = false := by simp; omega
    have g2 : decide ((b.size : Int) > 1500) = true := by simp; omega
    clear h
    go_enter Tryd.func8, Tryd.ntmps8
    go_wp2_with fail
    go_ret
    exact ⟨rfl, Below.refl _ _⟩
/-- Spots compared. -/
theorem eq_spotR (d : Nat) (w : World) (a b a' b' : Int) : (Op.equalIn (d + 2) 26 (.agg #[.int .i64 a, .int .i64 b]) (.agg #[.int .i64 a', .int .i64 b'])).run Tryd.prog w = .ok (a == a' && b == b') w := by
  have u3 := Tryd.underlying3
  have a3 := Tryd.isAgg3
  have z3 := Tryd.sizeOf3
  have hS : Tryd.prog.underlying 26 = some (.struct (Tryd.prog.fieldsOf 26)) := by kernel_rfl
  have hp : Tryd.prog.stoodInHeld 26 = false := by kernel_rfl
  rw [run_equalIn_agg w (d + 1) 26 _ _ hS hp]
  simp only [Program.fieldsOf, Tryd.underlying26]
  go_simp
  by_cases h1 : a = a' <;> by_cases h2 : b = b' <;> simp [h1, h2]
/-- What no program's text is told as is an error. -/
theorem parse_code {b : List UInt8} {e : Flt} (h : parseL b = .error e) : e.2.2 ≠ 0 := by
  have := parse_joins b []
  rw [h] at this
  rcases this with h | h
  · omega
  · exact h.1
/-- Two texts, the first a program, the second none. -/
theorem join_second {a b : List UInt8} {P : List Fun} {e : Flt} (hA : parseL a = .ok P) (hB : parseL b = .error e) : ∃ Ta, lex a 1 1 = .ok Ta ∧ parseL (a ++ 10 :: b) = .error (e.1 + endT Ta, e.2.1, e.2.2) := by
  have := parse_joins a b
  rw [hA] at this
  obtain ⟨Ta, h1, h2⟩ := this
  rw [hB] at h2
  rcases h2 with h | h
  · exact absurd h (parse_code hB)
  · exact ⟨Ta, h1, h⟩
/-- Two programs. -/
theorem join_both {a b : List UInt8} {P Q : List Fun} (hA : parseL a = .ok P) (hB : parseL b = .ok Q) : parseL (a ++ 10 :: b) = .ok (P ++ Q) := by
  have := parse_joins a b
  rw [hA] at this
  obtain ⟨Ta, -, h2⟩ := this
  rw [hB] at h2
  exact h2
end
section
section
variable {α β : Type} {N : Nat}
def LnB (N : Nat) (l : List Tok) : Prop := ∀ t ∈ l, t.line ≤ N
def Bd (N : Nat) (r : Except Flt (α × List Tok)) : Prop :=
  match r with
  | .ok p => LnB N p.2
  | .error e => e.1 ≤ N
def BdL (N : Nat) (r : Except Flt (List Tok)) : Prop :=
  match r with
  | .ok l => LnB N l
  | .error e => e.1 ≤ N
theorem Bd.bind {r : Except Flt (α × List Tok)} {g : α → List Tok → Except Flt (β × List Tok)} (h : Bd N r) (hg : ∀ x l, LnB N l → Bd N (g x l)) : Bd N (bindE r g) := by
  cases r with
  | error e => exact h
  | ok p => exact hg p.1 p.2 h
theorem BdL.bind {r : Except Flt (List Tok)} {g : List Tok → Except Flt (β × List Tok)} (h : BdL N r) (hg : ∀ l, LnB N l → Bd N (g l)) : Bd N (match (generalizing := false) r with | .error e => .error e | .ok l => g l) := by
  cases r with
  | error e => exact h
  | ok l => exact hg l h
theorem flt_bd {l : List Tok} (h : LnB N l) : (fltL l).1 ≤ N := by
  cases l with
  | nil => exact Nat.zero_le _
  | cons t l => exact h t (List.mem_cons_self ..)
theorem tail_bd {l : List Tok} (h : LnB N l) : LnB N l.tail := fun t ht => h t (List.mem_of_mem_tail ht)
theorem take_bd {l : List Tok} (h : LnB N l) (k ln : Nat) : Bd N (takeP k l ln) := by
  cases l with
  | nil => exact Nat.zero_le _
  | cons t l =>
    show Bd N (if (moreB (t :: l) ln && t.kind == k) = true then .ok (t, l) else .error (fltL (t :: l)))
    split
    · exact tail_bd h
    · exact flt_bd h
theorem name_bd {l : List Tok} (h : LnB N l) (ln : Nat) : Bd N (nameP l ln) := by
  rw [nameP_b]
  exact (take_bd h 1 ln).bind fun _ _ h => h
theorem sign_bd {l : List Tok} (h : LnB N l) (c : UInt8) (ln : Nat) : BdL N (signP c l ln) := by
  unfold signP
  split
  · exact tail_bd h
  · exact flt_bd h
def BdP (N : Nat) (f : α → List Tok → Nat → Except Flt (α × List Tok)) : Prop := ∀ x l ln, LnB N l → Bd N (f x l ln)
theorem list_bd {one : α → List Tok → Nat → Except Flt (α × List Tok)} {c : UInt8} (hone : BdP N one) : ∀ (n : Nat), BdP N (listP one c n)
  | 0, _, _, _, _ => Nat.zero_le _
  | n + 1, x, l, ln, h => by
    unfold listP
    have ho := hone x l ln h
    cases hr : one x l ln with
    | error e => rw [hr] at ho; exact ho
    | ok p =>
      obtain ⟨x1, l1⟩ := p
      rw [hr] at ho
      dsimp only
      split
      · exact (sign_bd ho c ln).bind (g := fun l => .ok (x1, l)) fun _ h => h
      · exact (sign_bd ho 44 ln).bind (g := fun l => listP one c n x1 l ln) fun l h => list_bd hone n x1 l ln h
theorem oneName_bd : BdP N oneName := fun x l ln h => by
  rw [oneName_b]
  exact (name_bd h ln).bind fun _ _ h => h
theorem names_bd {l : List Tok} (h : LnB N l) (ln : Nat) : Bd N (namesP l ln) := by
  unfold namesP
  refine (sign_bd h 40 ln).bind (g := fun l => if isB l ln 41 = true then (match signP 41 l ln with | .error e => .error e | .ok l => .ok ([], l)) else listP oneName 41 (l.length + 1) [] l ln) fun l h => ?_
  split
  · exact (sign_bd h 41 ln).bind (g := fun l => .ok ([], l)) fun _ h => h
  · exact list_bd oneName_bd _ _ _ _ h
theorem then_bd {f g : Ins → List Tok → Nat → Except Flt (Ins × List Tok)} (hf : BdP N f) (hg : BdP N g) : BdP N (thenP f g) := fun x l ln h => by
  rw [thenP_b]
  exact (hf x l ln h).bind fun x l h => hg x l ln h
theorem skip_bd (c : UInt8) : BdP N (skipP c) := fun x l ln h => (sign_bd h c ln).bind (g := fun l => .ok (x, l)) fun _ h => h
theorem byName_bd {f : Ins → List Tok → Nat → Except Flt (Ins × List Tok)} (put : Ins → ByteArray → Ins) (hf : ∀ x l ln, f x l ln = match nameP l ln with | .error e => .error e | .ok (s, l) => .ok (put x s, l)) : BdP N f := fun x l ln h => by
  have e : f x l ln = bindE (nameP l ln) (fun s l => .ok (put x s, l)) := by
    rw [hf]
    unfold bindE
    cases nameP l ln <;> rfl
  rw [e]
  exact (name_bd h ln).bind fun _ _ h => h
theorem operand_bd : BdP N operandP := byName_bd (fun x s => { x with a := s }) (fun _ _ _ => rfl)
theorem label_bd : BdP N labelP := byName_bd (fun x s => { x with labels := x.labels ++ [s] }) (fun _ _ _ => rfl)
theorem fn_bd : BdP N fnP := byName_bd (fun x s => { x with fn := s }) (fun _ _ _ => rfl)
theorem arg_bd : BdP N argP := byName_bd (fun x s => { x with args := x.args ++ [s] }) (fun _ _ _ => rfl)
theorem val_bd : BdP N valP := byName_bd (fun x s => { x with b := s }) (fun _ _ _ => rfl)
theorem fields_bd : BdP N fieldsP := fun x l ln h => by
  rw [fieldsP_b]
  exact (take_bd h 2 ln).bind fun _ _ h => h
theorem args_bd : BdP N argsP := fun x l ln h => by
  rw [argsP_b]
  exact (names_bd h ln).bind fun _ _ h => h
theorem phi_bd : BdP N phiP := fun x l ln h => (sign_bd h 91 ln).bind (g := fun l => listP pairP 93 (l.length + 1) x l ln) fun l h => list_bd (then_bd label_bd (then_bd (skip_bd 58) arg_bd)) _ _ _ _ h
theorem rest_bd (r : Rst) : BdP N (restP r) := by
  cases r with
  | fields => exact fields_bd
  | nothing => exact fun x l ln h => h
  | fn => exact fn_bd
  | operand => exact operand_bd
  | field => exact then_bd operand_bd fields_bd
  | phi => exact phi_bd
  | call => exact then_bd fn_bd args_bd
  | icall => exact then_bd operand_bd args_bd
  | store => exact then_bd operand_bd (then_bd (skip_bd 44) val_bd)
  | branch => exact then_bd label_bd label_bd
  | label => exact label_bd
  | result =>
    intro x l ln h
    show Bd N (if moreB l ln = true then operandP x l ln else .ok (x, l))
    split
    · exact operand_bd x l ln h
    · exact h
end
end
section
section
variable {N : Nat}
def BdT (N : Nat) (r : Except Flt (Fun × List Tok × Nat)) : Prop :=
  match r with
  | .ok p => LnB N p.2.1
  | .error e => e.1 ≤ N
theorem inside_bd (d : Fun) {l : List Tok} (h : LnB N l) (ln : Nat) : Bd N (insideP d l ln) := by
  unfold insideP
  have ho := name_bd h ln
  cases hr : nameP l ln with
  | error e => rw [hr] at ho; exact ho
  | ok p =>
    obtain ⟨s, l1⟩ := p
    rw [hr] at ho
    have ho : LnB N l1 := ho
    dsimp only
    split
    · exact (sign_bd ho 58 ln).bind (g := fun l => .ok (addB d s, l)) fun _ h => h
    · cases (if isB l1 ln 61 = true then none else bareF s.data.toList) with
      | some how =>
        dsimp only
        have hi := rest_bd (N := N) how.2 (insOf how.1 ⟨#[]⟩) l1 ln ho
        unfold instrP
        cases hq : restP how.2 (insOf how.1 ⟨#[]⟩) l1 ln with
        | error e => rw [hq] at hi; exact hi
        | ok p => rw [hq] at hi; exact hi
      | none =>
        dsimp only
        have hs := sign_bd ho 61 ln
        cases hq : signP 61 l1 ln with
        | error e => rw [hq] at hs; exact hs
        | ok l2 =>
          rw [hq] at hs
          have hs : LnB N l2 := hs
          dsimp only
          cases valueF (headT l2) with
          | none => exact flt_bd hs
          | some how =>
            dsimp only
            have hn := name_bd hs ln
            cases hq2 : nameP l2 ln with
            | error e => rw [hq2] at hn; exact hn
            | ok p =>
              obtain ⟨s2, l5⟩ := p
              rw [hq2] at hn
              have hn : LnB N l5 := hn
              dsimp only
              have hi := rest_bd (N := N) how.2 (insOf how.1 s) l5 ln hn
              unfold instrP
              cases hq3 : restP how.2 (insOf how.1 s) l5 ln with
              | error e => rw [hq3] at hi; exact hi
              | ok p => rw [hq3] at hi; exact hi
theorem begin_bd {l : List Tok} (h : LnB N l) {ln : Nat} {e : Flt} (hb : beginP l ln = .error e) : e.1 ≤ N := by
  unfold beginP at hb
  split at hb
  · injection hb with hb
    subst hb
    exact flt_bd h
  · cases hb
theorem body_bd : ∀ (n : Nat) (d : Fun) (l : List Tok) (ln : Nat), LnB N l → BdT N (bodyP n d l ln)
  | 0, _, _, _, _ => Nat.zero_le _
  | n + 1, d, l, ln, h => by
    unfold bodyP
    split
    · have hs := sign_bd h 125 ln
      cases hq : signP 125 l ln with
      | error e => rw [hq] at hs; exact hs
      | ok l2 => rw [hq] at hs; exact hs
    · have hi := inside_bd d h ln
      cases hq : insideP d l ln with
      | error e => rw [hq] at hi; exact hi
      | ok p =>
        obtain ⟨d1, l2⟩ := p
        rw [hq] at hi
        dsimp only
        cases hb : beginP l2 ln with
        | error e => exact begin_bd (l := l2) hi hb
        | ok ln3 => exact body_bd n d1 l2 ln3 hi
theorem func_bd {l : List Tok} (h : LnB N l) (ln : Nat) : BdT N (funcP l ln) := by
  unfold funcP
  split
  · have h1 := name_bd h ln
    cases q1 : nameP l ln with
    | error e => rw [q1] at h1; exact h1
    | ok p =>
      obtain ⟨s1, l1⟩ := p
      rw [q1] at h1
      have h1 : LnB N l1 := h1
      dsimp only
      have h2 := name_bd h1 ln
      cases q2 : nameP l1 ln with
      | error e => rw [q2] at h2; exact h2
      | ok p =>
        obtain ⟨s2, l2⟩ := p
        rw [q2] at h2
        have h2 : LnB N l2 := h2
        dsimp only
        have h3 := names_bd h2 ln
        cases q3 : namesP l2 ln with
        | error e => rw [q3] at h3; exact h3
        | ok p =>
          obtain ⟨ps, l3⟩ := p
          rw [q3] at h3
          have h3 : LnB N l3 := h3
          dsimp only
          have h4 := sign_bd h3 123 ln
          cases q4 : signP 123 l3 ln with
          | error e => rw [q4] at h4; exact h4
          | ok l4 =>
            rw [q4] at h4
            have h4 : LnB N l4 := h4
            dsimp only
            cases hb : beginP l4 ln with
            | error e => exact begin_bd h4 hb
            | ok ln5 => exact body_bd _ _ l4 ln5 h4
  · exact flt_bd h
theorem prog_bd : ∀ (n : Nat) (acc : List Fun) (l : List Tok) (ln : Nat) (e : Flt), LnB N l → progP n acc l ln = .error e → e.1 ≤ N
  | 0, _, _, _, e, _, h => by unfold progP at h; injection h with h; subst h; exact Nat.zero_le _
  | n + 1, acc, l, ln, e, hl, h => by
    unfold progP at h
    split at h
    · cases h
    · have hf := func_bd hl ln
      cases hq : funcP l ln with
      | error f =>
        rw [hq] at h hf
        injection h with h
        subst h
        exact hf
      | ok p =>
        obtain ⟨d, l1, ln1⟩ := p
        rw [hq] at h hf
        have hf : LnB N l1 := hf
        dsimp only at h
        cases hb : beginP l1 ln1 with
        | error f =>
          rw [hb] at h
          injection h with h
          subst h
          exact begin_bd hf hb
        | ok ln2 =>
          rw [hb] at h
          exact prog_bd n _ l1 ln2 e hf h
theorem parseT_bd {T : List Tok} (hT : LnB N T) {e : Flt} (h : parseT T = .error e) : e.1 ≤ N := by
  unfold parseT at h
  cases hb : beginP T 0 with
  | error f => rw [hb] at h; injection h with h; subst h; exact begin_bd hT hb
  | ok ln => rw [hb] at h; exact prog_bd _ _ _ _ _ hT h
end
end
section
open Go.RowKit Go.Maps Go.Shelf
attribute [local go_sem] Oper.semAt_some fld0 fld1 fld2

/-- Words of a text, read: where the last one stands. -/
theorem last_line {w w' : World} {v : Value} {l : List Tok} {E : Tok} (h : RowT w w' v (l ++ [E])) : ∃ g cap, v = .slice (some ⟨g, 0, none⟩) (l.length + 1) cap ∧ g < w'.heap.size ∧ w'.cell? ⟨g, l.length * 5 + 3, none⟩ = some (.int .i64 E.line) := by
  obtain ⟨g, cap, h1, h2, h3, h4, h5, h6, h7⟩ := h.rd.at (i := l.length) (t := E) (by simp)
  exact ⟨g, cap, by simpa using h1, h2, h6⟩
theorem endT_snoc (l : List Tok) (E : Tok) : endT (l ++ [E]) = E.line := by simp [endT]
theorem step_errl {l : List UInt8} {ln cl : Nat} {e : Bad} (h : stepL l ln cl = .error e) : e.1 = ln := by
  unfold stepL at h
  split at h
  · injection h with h; subst h; rfl
  · split at h
    · cases h
    · split at h
      · cases h
      · split at h
        · cases h
        · split at h
          · cases h
          · split at h
            · split at h
              · injection h with h; subst h; rfl
              · cases h
            · split at h
              · cases h
              · injection h with h; subst h; rfl
theorem lexN_line : ∀ (n : Nat) (l : List UInt8) (ln cl : Nat) (e : Bad), l.length ≤ n → lexN n l ln cl = .error e → e.1 ≤ ln + l.length
  | n, [], ln, cl, e, _, h => by rw [lexN.eq_def] at h; cases h
  | 0, c :: r, ln, cl, e, hn, h => by simp at hn
  | n + 1, c :: r, ln, cl, e, hn, h => by
    rw [lexN] at h
    cases hs : stepL (c :: r) ln cl with
    | error e' =>
      rw [hs] at h
      injection h with h
      subst h
      have := step_errl hs
      omega
    | ok x =>
      obtain ⟨k, ln', cl', t⟩ := x
      rw [hs] at h
      have hp := step_pos hs
      have hb := step_bound hs
      cases hr : lexN n ((c :: r).drop k) ln' cl' with
      | ok T => have h : add t (lexN n ((c :: r).drop k) ln' cl') = .error e := h; rw [hr] at h; cases h
      | error e' =>
        have h : add t (lexN n ((c :: r).drop k) ln' cl') = .error e := h
        rw [hr] at h
        injection h with h
        subst h
        have := lexN_line n _ _ _ _ (by rw [List.length_drop]; omega) hr
        rw [List.length_drop] at this
        omega
theorem parse_line {s : List UInt8} {e : Flt} (hs : s.length ≤ 1048576) (h : parseL s = .error e) : e.1 ≤ 4000000 := by
  unfold parseL at h
  cases hl : lex s 1 1 with
  | error f =>
    rw [hl] at h
    injection h with h
    subst h
    have := lexN_line _ s 1 1 f (Nat.le_refl _) hl
    omega
  | ok T =>
    rw [hl] at h
    exact parseT_bd (fun t ht => ((lex_tok hl hs).line t ht).1) h
set_option maxRecDepth 20000 in
set_option maxHeartbeats 2000000 in
theorem joins_second {w : World} {a b : ByteArray} (ha : a.size ≤ 1500) (hb : b.size ≤ 1500) {P : List Fun} {f : Flt} (hA : parseL a.data.toList = .ok P) (hB : parseL b.data.toList = .error f) : Calls Tryd.prog 8 #[.string a, .string b] w fun e w' => e = .returned (.bool true) ∧ Below w.heap.size w w' := by
  have g1 : decide ((a.size : Int) > 1500) = false := by simp; omega
  have g2 : decide ((b.size : Int) > 1500) = false := by simp; omega
  have hsz : (a ++ ⟨#[10]⟩ ++ b).size ≤ 1048576 := by simp [ByteArray.size_append]; have : (⟨#[10]⟩ : ByteArray).size = 1 := rfl; omega
  obtain ⟨Ta, hT, hJ⟩ := join_second hA hB
  have k1 := Lib.hid (fun w' => parse_any (w := w') (s := a) (by omega))
  have k2 := Lib.hid (fun w' => parse_any (w := w') (s := b) (by omega))
  have k3 := Lib.hid (fun w' => parse_any (w := w') (s := a ++ ⟨#[10]⟩ ++ b) hsz)
  have k4 := Lib.hid (fun w' => lex_any (w := w') (s := a) (by omega))
  rw [hA] at k1
  rw [hB] at k2
  rw [join_bytes, hJ] at k3
  rw [hT] at k4
  obtain ⟨l, E, rfl, -, hlines⟩ := lex_lines _ _ _ _ _ hT
  have htok := lex_tok hT (by simp; omega)
  have hlen : l.length ≤ 2000000 := by have := htok.len; simp at this; omega
  have hEl : E.line ≤ 4000000 := (htok.line E (by simp)).1
  have hfl : f.1 ≤ 4000000 := parse_line (by simp; omega) hB
  have hfc : f.2.2 ≠ 0 := parse_code hB
  rw [endT_snoc] at k3
  obtain ⟨fl, fc, fe⟩ := f
  have hfl : fl ≤ 4000000 := hfl
  have hfc : fe ≠ 0 := hfc
  have m1 : ¬9223372036854775807 < a.size + 1 := by omega
  have m2 : ¬9223372036854775807 < a.size + 1 + b.size := by omega
  replace hlines := Lib.hid hlines
  clear hA hB hJ hT ha hb hsz htok
  go_enter Tryd.func8, Tryd.ntmps8
  go_wp2_with fail
  refine (k1.out _).mono ?_
  intro e w1 h1
  obtain ⟨va, n1, vc, l1, c1, er1, rfl, hb1, hf⟩ := post_out h1
  obtain ⟨hf, -⟩ := hf
  have q1 : ((er1 : Int) != 0) = false := by simp [hf]
  replace hb1 := Lib.hid hb1
  clear h1 hf
  go_wp2_with fail
  refine (k2.out _).mono ?_
  intro e w2 h2
  obtain ⟨vb, n2, vd, l2, c2, er2, rfl, hb2, hf2⟩ := post_out h2
  obtain ⟨rfl, rfl, rfl⟩ : fl = l2 ∧ fc = c2 ∧ fe = er2 := by have : (fl, fc, fe) = (l2, c2, er2) := hf2; simpa using this
  have q2 : ((fe : Int) != 0) = true := by simp; omega
  replace hb2 := Lib.hid hb2
  clear h2 hf2
  go_wp2_with fail
  refine (k3.out _).mono ?_
  intro e w3 h3
  obtain ⟨ve, n3, vf, l3, c3, er3, rfl, hb3, hf3⟩ := post_out h3
  obtain ⟨hl3, rfl, rfl⟩ : fl + E.line = l3 ∧ fc = c3 ∧ fe = er3 := by have : (fl + E.line, fc, fe) = (l3, c3, er3) := hf3; simpa using this
  have hl3b : l3 ≤ 8000000 := by omega
  have e2 : (fl : Int) + (E.line : Int) = (l3 : Int) := by omega
  replace hl3 := Lib.hid hl3
  replace hb3 := Lib.hid hb3
  clear h3 m1 m2 hf3
  have s1 := hb1.out.size
  have s2 := hb2.out.size
  have s3 := hb3.out.size
  simp only [World.size_alloc] at s2 s3
  have hend : ∀ w4, Below w3.heap.size w3 w4 → Below w.heap.size w w4 := fun w4 h4 => by
    have t1 : Below w.heap.size w ((w1.alloc (.cells #[.slice va n1 vc] 24)).alloc (.cells #[.int .i64 l1, .int .i64 c1] 26)) := (hb1.out.alloc s1 _).alloc (by simp; omega) _
    have t2 := t1.trans (hb2.out.mono t1.size)
    have t3 := (t2.alloc t2.size (.cells #[.slice vb n2 vd] 24)).alloc (by have := t2.size; simp; omega) (.cells #[.int .i64 fl, .int .i64 fc] 26)
    have t4 := t3.trans (hb3.out.mono t3.size)
    exact t4.trans (h4.mono t4.size)
  replace hend := Lib.hid hend
  have y1 : w3.heap[w2.heap.size + 1]? = some (.cells #[.int .i64 fl, .int .i64 fc] 26) := keepB hb3.out (at_newP (by simp))
  have lt1 : w2.heap.size + 1 < w3.heap.size := by omega
  have hb4 : ∀ A B : Obj, Below w3.heap.size w3 ((w3.alloc A).alloc B) := fun A B => ((Below.refl _ _).alloc (Nat.le_refl _) _).alloc (by simp) _
  replace hb4 := Lib.hid hb4
  replace y1 := Lib.hid y1
  clear s1 s2 s3
  go_wp2_with fail
  refine (k4.out _).mono ?_
  intro e w5 h5
  obtain ⟨⟨v, rfl, hrow⟩, hb5⟩ := h5
  obtain ⟨g, cap, rfl, hg, hcl⟩ := last_line hrow
  have z1 := keepB hb5 (at_newP (w := w3.alloc (.cells #[.slice ve n3 vf] 24)) (b := w3.heap.size + 1) (o := Obj.cells #[.int .i64 (l3 : Int), .int .i64 fc] 26) (by simp))
  have z2 := keepB hb5 (at_oldP (at_oldP y1.out))
  obtain ⟨c10, c11⟩ := cells2P (at_oldP (o := Obj.cells #[.int .i64 0, .int .i64 0] 26) z1)
  obtain ⟨c20, c21⟩ := cells2P (at_oldP (o := Obj.cells #[.int .i64 0, .int .i64 0] 26) z2)
  have lt4 := hb5.size
  simp only [World.size_alloc] at lt4
  have lt5 : w3.heap.size + 1 < w5.heap.size := by omega
  have lt6 : w2.heap.size + 1 < w5.heap.size := by omega
  have c3 : (w5.alloc (.cells #[.int .i64 0, .int .i64 0] 26)).cell? ⟨g, l.length * 5 + 3, none⟩ = some (.int .i64 E.line) := (World.cell?_alloc_past _ _ _ hg).trans hcl
  have hbz : Below w.heap.size w (w5.alloc (.cells #[.int .i64 0, .int .i64 0] 26)) := by
    have h := hend.out _ ((hb4.out (.cells #[.slice ve n3 vf] 24) (.cells #[.int .i64 (l3 : Int), .int .i64 fc] 26)).trans (hb5.mono (by simp; omega)))
    exact h.alloc h.size _
  have wr0 : IntKind.i64.wrap (l.length : Int) = (l.length : Int) := wrap_small _ (by omega) (by omega)
  generalize l.length = j at *
  have hq := fun w => eq_spotT w (l3 : Int) (fc : Int) (l3 : Int) (fc : Int)
  have wr1 : IntKind.i64.wrap (l3 : Int) = (l3 : Int) := wrap_small _ (by omega) (by omega)
  replace hbz := Lib.hid hbz
  clear hrow hb5 z1 z2 hb4 hend y1
  go_wp2_with fail
  refine reads_any.mono ?_
  rintro e w6 ⟨rfl, hb6⟩
  replace hb6 := Lib.hid hb6
  go_wp2_with fail
  go_ret
  exact ⟨rfl, hbz.out.trans (hb6.out.mono hbz.out.size)⟩
end
end Go.Proofs.YtgcanabckogmmaaDoor
