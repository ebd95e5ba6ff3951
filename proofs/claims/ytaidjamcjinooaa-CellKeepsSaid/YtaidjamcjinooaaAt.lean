/- Whether an address leads to a cell; if it does, what is done there. -/
import Derived.Test.YtaidjamcjinooaaHeap
import Derived.StillTailTactics
namespace Go.Proofs.Ytaidjamcjinooaa
open Go.RowKit

theorem wp_tail {P : Program} {id : Nat} {Q : Exit → Act → World → Prop} {a : Act} {w : World} {l : List Oper} (n : Nat) (hm : P.follows .mixedOrders = true) (hB : Region.lexTailB .any l.toArray n = true)
    (h : wpStill P l.toArray w.drew (fun a' => wpList P l.toArray Q (l.drop n) a' w.drew) (l.take n) a) : (Code.region id l.toArray true).wp P Q a w :=
  wp_region_still_tail n hm hB h

def agg3 (p : V3) : Value := .agg #[.int .u8 p.1, .int .i64 p.2.1, .int .i64 p.2.2]

section
variable {A B : Nat} {w : World} {hb : Nat} {v : Value} {os : List Ob} {room : Int}

theorem at_null (p : V3) (hk : p.1 ≠ 1) (fn : Nat) (caps : Array Value) (w : World) (hp : Nat) :
    Calls Try.prog 13 #[.pointer (some ⟨hp, 0, none⟩), .agg #[.int .u8 p.1, .int .i64 p.2.1, .int .i64 p.2.2], .func (Fn.func fn) #[] caps] w fun e w' => e = .returned (.int .u8 2) ∧ Below w.heap.size w w' := by
  have hb1 : (p.1 != 1) = true := by simpa using hk
  go_enter Try.func13, Try.ntmps13
  go_wp2
  go_ret
  exact ⟨rfl, (Below.refl _ _).alloc (Nat.le_refl _) _⟩

theorem at_far (h : Hp A B w hb v os room) (hlen : os.length ≤ 1000) (p : V3) (hk : p.1 = 1) (hf : p.2.1 < 0 ∨ (os.length : Int) ≤ p.2.1) (fn : Nat) (caps : Array Value) :
    Calls Try.prog 13 #[.pointer (some ⟨hb, 0, none⟩), .agg #[.int .u8 p.1, .int .i64 p.2.1, .int .i64 p.2.2], .func (Fn.func fn) #[] caps] w fun e w' => e = .returned (.int .u8 3) ∧ Below w.heap.size w w' := by
  obtain ⟨k, o, n⟩ := p
  simp only at hk hf
  subst hk
  have hb0 : Below w.heap.size w (w.alloc (.cells #[.int .u8 1, .int .i64 o, .int .i64 n] 24)) := (Below.refl _ _).alloc (Nat.le_refl _) _
  have h1 := h.more hb0
  have cO : ∀ n', Calls Try.prog 6 #[.pointer (some ⟨hb, 0, none⟩)] ((w.alloc (.cells #[.int .u8 1, .int .i64 o, .int .i64 n] 24)).drewN n') fun e w'' => e = .returned (.int .i64 os.length) ∧ ∃ m, w'' = (w.alloc (.cells #[.int .u8 1, .int .i64 o, .int .i64 n] 24)).drewN m :=
    fun n' => (objs_any (h1.kept (Touch.drewN _ n' (fun _ => False)) (fun _ _ h => h))).mono fun _ _ ⟨a, b⟩ => ⟨a, n', b.symm⟩
  replace cO := Lib.hid cO
  clear h h1
  rcases hf with hf | hf
  · have hd : decide (o < 0) = true := by simpa using hf
    go_enter Try.func13, Try.ntmps13
    go_wp2_with fail
    go_quiet (with_reducible exact cO.out _)
    go_wp2_with fail
    go_ret
    exact ⟨rfl, below_drawn hb0 _⟩
  · have hd : decide (o < 0) = false := by simp; omega
    have hd2 : decide ((os.length : Int) ≤ o) = true := by simpa using hf
    go_enter Try.func13, Try.ntmps13
    go_wp2_with fail
    go_quiet (with_reducible exact cO.out _)
    go_wp2_with fail
    go_ret
    exact ⟨rfl, below_drawn hb0 _⟩

theorem at_out (h : Hp A B w hb v os room) (hlen : os.length ≤ 1000) (p : V3) (hk : p.1 = 1) {i : Nat} {o : Ob} (hi : os[i]? = some o) (hpi : p.2.1 = i) (hf : p.2.2 < 0 ∨ (o.vals.length : Int) ≤ p.2.2) (fn : Nat) (caps : Array Value) :
    Calls Try.prog 13 #[.pointer (some ⟨hb, 0, none⟩), .agg #[.int .u8 p.1, .int .i64 p.2.1, .int .i64 p.2.2], .func (Fn.func fn) #[] caps] w fun e w' => e = .returned (.int .u8 3) ∧ Below w.heap.size w w' := by
  obtain ⟨k, po, n⟩ := p
  simp only at hk hpi hf
  subst hk
  subst hpi
  have hlt : i < os.length := (List.getElem?_eq_some_iff.1 hi).1
  have hb0 : Below w.heap.size w (w.alloc (.cells #[.int .u8 1, .int .i64 i, .int .i64 n] 24)) := (Below.refl _ _).alloc (Nat.le_refl _) _
  have h1 := h.more hb0
  have cO : ∀ n', Calls Try.prog 6 #[.pointer (some ⟨hb, 0, none⟩)] ((w.alloc (.cells #[.int .u8 1, .int .i64 i, .int .i64 n] 24)).drewN n') fun e w'' => e = .returned (.int .i64 os.length) ∧ ∃ m, w'' = (w.alloc (.cells #[.int .u8 1, .int .i64 i, .int .i64 n] 24)).drewN m :=
    fun n' => (objs_any (h1.kept (Touch.drewN _ n' (fun _ => False)) (fun _ _ h => h))).mono fun _ _ ⟨a, b⟩ => ⟨a, n', b.symm⟩
  replace cO := Lib.hid cO
  obtain ⟨g, cap, rfl, hg, g0, g1⟩ := h1.obj hi
  have c0 := h1.c0
  have hd : decide ((i : Int) < 0) = false := by simp
  have hd2 : decide ((os.length : Int) ≤ (i : Int)) = false := by simp; omega
  have hd3 : decide (os.length ≤ i) = false := by simp; omega
  have cH : ∀ n', Calls Try.prog 17 #[.slice (some ⟨o.blk, 0, none⟩) o.vals.length o.vals.length, .int .i64 n] ((w.alloc (.cells #[.int .u8 1, .int .i64 i, .int .i64 n] 24)).drewN n') fun e w'' => e = .returned (.bool false) ∧ ∃ m, w'' = (w.alloc (.cells #[.int .u8 1, .int .i64 i, .int .i64 n] 24)).drewN m :=
    fun n' => (has_no _ _ _ _ _ hf).mono fun _ _ ⟨a, b⟩ => ⟨a, n', b⟩
  replace cH := Lib.hid cH
  have hnot : ∀ (x : Bool) (w : World), (Op.unary .not (.bool x)).run Try.prog w = .ok (.bool (!x)) w := fun _ _ => rfl
  clear h h1 hf
  go_enter Try.func13, Try.ntmps13
  go_wp2_with fail
  go_quiet (first | (with_reducible exact cO.out _) | (with_reducible exact cH.out _))
  go_wp2_with fail
  go_ret
  exact ⟨rfl, below_drawn hb0 _⟩

/-- It leads to a cell: what is to be done is done, with the object, in a world in which all old blocks are as they were. -/
theorem at_hit (h : Hp A B w hb v os room) (hlen : os.length ≤ 1000) (p : V3) (hk : p.1 = 1) {i n : Nat} {o : Ob} (hi : os[i]? = some o) (hpi : p.2.1 = i) (hpn : p.2.2 = n) (hn : n < o.vals.length) (fn : Nat) (eg : ∀ args w, (callFunc fn args).run Try.prog w = .ok (.enter fn args) w) (caps : Array Value) (R : Int → World → Prop)
    (hcall : ∀ w1, Below w.heap.size w w1 → w.heap.size < w1.heap.size → Calls Try.prog fn (#[.agg #[.slice (some ⟨o.blk, 0, none⟩) o.vals.length o.vals.length, .int .i64 o.base]] ++ caps) w1 fun e w' => ∃ r, e = .returned (.int .u8 r) ∧ R r w') :
    Calls Try.prog 13 #[.pointer (some ⟨hb, 0, none⟩), .agg #[.int .u8 p.1, .int .i64 p.2.1, .int .i64 p.2.2], .func (Fn.func fn) #[] caps] w fun e w' => ∃ r, e = .returned (.int .u8 r) ∧ R r w' := by
  obtain ⟨k, po, pn⟩ := p
  simp only at hk hpi hpn
  subst hk
  subst hpi
  subst hpn
  have hlt : i < os.length := (List.getElem?_eq_some_iff.1 hi).1
  have hb0 : Below w.heap.size w (w.alloc (.cells #[.int .u8 1, .int .i64 i, .int .i64 n] 24)) := (Below.refl _ _).alloc (Nat.le_refl _) _
  have h1 := h.more hb0
  have cO : ∀ n', Calls Try.prog 6 #[.pointer (some ⟨hb, 0, none⟩)] ((w.alloc (.cells #[.int .u8 1, .int .i64 i, .int .i64 n] 24)).drewN n') fun e w'' => e = .returned (.int .i64 os.length) ∧ ∃ m, w'' = (w.alloc (.cells #[.int .u8 1, .int .i64 i, .int .i64 n] 24)).drewN m :=
    fun n' => (objs_any (h1.kept (Touch.drewN _ n' (fun _ => False)) (fun _ _ h => h))).mono fun _ _ ⟨a, b⟩ => ⟨a, n', b.symm⟩
  replace cO := Lib.hid cO
  obtain ⟨g, cap, rfl, hg, g0, g1⟩ := h1.obj hi
  have c0 := h1.c0
  have hd : decide ((i : Int) < 0) = false := by simp
  have hd2 : decide ((os.length : Int) ≤ (i : Int)) = false := by simp; omega
  have hd3 : decide (os.length ≤ i) = false := by simp; omega
  have cH : ∀ n', Calls Try.prog 17 #[.slice (some ⟨o.blk, 0, none⟩) o.vals.length o.vals.length, .int .i64 n] ((w.alloc (.cells #[.int .u8 1, .int .i64 i, .int .i64 n] 24)).drewN n') fun e w'' => e = .returned (.bool true) ∧ ∃ m, w'' = (w.alloc (.cells #[.int .u8 1, .int .i64 i, .int .i64 n] 24)).drewN m :=
    fun n' => (has_yes _ _ _ _ _ (by omega) (by omega)).mono fun _ _ ⟨a, b⟩ => ⟨a, n', b⟩
  replace cH := Lib.hid cH
  have hnot : ∀ (x : Bool) (w : World), (Op.unary .not (.bool x)).run Try.prog w = .ok (.bool (!x)) w := fun _ _ => rfl
  have hcw : ∀ nq, Calls Try.prog fn (#[.agg #[.slice (some ⟨o.blk, 0, none⟩) o.vals.length o.vals.length, .int .i64 o.base]] ++ caps) (((w.alloc (.cells #[.int .u8 1, .int .i64 i, .int .i64 n] 24)).drewN nq).drew) fun e w' => ∃ r, e = .returned (.int .u8 r) ∧ R r w' :=
    fun nq => hcall _ ((below_drawn hb0 nq).trans ⟨rfl, rfl, rfl, Nat.le_refl _, fun _ _ => rfl⟩) (by show w.heap.size < (w.alloc (.cells #[.int .u8 1, .int .i64 i, .int .i64 n] 24)).heap.size; simp)
  replace hcw := Lib.hid hcw
  clear h h1 hcall
  go_enter Try.func13, Try.ntmps13
  go_wp2_with fail
  go_quiet (first | (with_reducible exact cO.out _) | (with_reducible exact cH.out _))
  go_wp2_with fail
  refine wp_tail 9 (by kernel_rfl) (by kernel_rfl) ?_
  simp only [List.take_succ_cons, List.take_zero, List.drop_succ_cons, List.drop_zero]
  repeat still_step
  refine wpStill_nil ?_
  go_wp2_with (refine (hcw.out _).mono ?_; rintro e W' ⟨r, rfl, hr⟩)
  go_ret
  exact ⟨r, rfl, hr⟩
end
end Go.Proofs.Ytaidjamcjinooaa
