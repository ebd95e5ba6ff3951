/- The two calls themselves. -/
import Derived.Test.YtaidjamcjinooaaStore
namespace Go.Proofs.Ytaidjamcjinooaa
open Go.RowKit

section
variable {A B : Nat} {w : World} {hb : Nat} {v : Value} {os : List Ob} {room : Int}

def put (os : List Ob) (p u : V3) : List Ob :=
  match look os p, os[p.2.1.toNat]? with
  | some _, some o => os.set p.2.1.toNat { o with vals := o.vals.set p.2.2.toNat u }
  | _, _ => os

theorem put_none {os : List Ob} {p u : V3} (h : look os p = none) : put os p u = os := by
  unfold put
  rw [h]

theorem flatMap_set {α β : Type} (f : α → List β) (x y : α) (hf : f y = f x) : ∀ (l : List α) (i : Nat), l[i]? = some x → (l.set i y).flatMap f = l.flatMap f
  | [], i, h => by simp at h
  | z :: r, 0, h => by
    simp at h
    subst h
    simp [hf]
  | z :: r, i + 1, h => by
    simp at h
    simp [flatMap_set f x y hf r i h]

theorem map_set_same {α β : Type} (f : α → β) (x y : α) (hf : f y = f x) (l : List α) (i : Nat) (h : l[i]? = some x) : (l.set i y).map f = l.map f := by
  rw [List.map_set, hf]
  apply List.ext_getElem?
  intro j
  by_cases hj : i = j
  · subst hj
    have := (List.getElem?_eq_some_iff.1 h).1
    simp [List.getElem?_set_self, this, h]
    obtain ⟨_, h2⟩ := List.getElem?_eq_some_iff.1 h
    rw [h2]
  · rw [List.getElem?_set_ne hj]

theorem Hp.stored (h : Hp A B w hb v os room) {w' : World} {i n : Nat} {o : Ob} {u : V3} (hi : os[i]? = some o) (ht : Touch w w' (· = o.blk)) {cs : Array Value} (hg : w'.heap[o.blk]? = some (.cells cs 24 (0, 0)))
    (hcs : cs.toList = (o.vals.set n u).flatMap vcells) : Hp A B w' hb v (os.set i { o with vals := o.vals.set n u }) room := by
  have ho : o ∈ os := List.mem_of_getElem? hi
  have hob := h.obl o ho
  have h1 := h.hbB
  have hk : ∀ k, k < w.heap.size → k ≠ o.blk → w'.heap[k]? = w.heap[k]? := fun k a b => ht.block k a b
  have eb : (os.set i { o with vals := o.vals.set n u }).map Ob.blk = os.map Ob.blk := map_set_same Ob.blk o { o with vals := o.vals.set n u } rfl os i hi
  have em : many (os.set i { o with vals := o.vals.set n u }) = many os := by
    unfold many
    rw [map_set_same (fun o => o.vals.length) o _ (by simp) os i hi]
  have ef : (os.set i { o with vals := o.vals.set n u }).flatMap oflat = os.flatMap oflat := flatMap_set oflat o _ (by simp [oflat]) os i hi
  have mem : ∀ x, x ∈ os.set i { o with vals := o.vals.set n u } → x = { o with vals := o.vals.set n u } ∨ (x ∈ os ∧ x.blk ≠ o.blk) := by
    intro x hx
    obtain ⟨j, hj⟩ := List.mem_iff_getElem?.1 hx
    by_cases hij : i = j
    · subst hij
      rw [List.getElem?_set_self (List.getElem?_eq_some_iff.1 hi).1] at hj
      exact Or.inl (Option.some.inj hj).symm
    · rw [List.getElem?_set_ne hij] at hj
      refine Or.inr ⟨List.mem_of_getElem? hj, fun e => hij ?_⟩
      have hli := (List.getElem?_eq_some_iff.1 hi).1
      refine (List.getElem?_inj (l := os.map Ob.blk) (by simpa using hli) h.dist).1 ?_
      rw [List.getElem?_map, List.getElem?_map, hi, hj]
      simp [e]
  refine ⟨?_, ?_, ?_, h.low, h.hbB, Nat.le_trans h.top ht.size, ?_, ?_, ?_⟩
  · rw [em, hk hb (by have := h.top; omega) (by omega)]
    exact h.blk
  · rw [ef, List.length_set]
    exact ownsRow_touch h.row ht (fun b e eo => h.off o ho (by rw [e, eo]))
  · intro x hx
    rcases mem x hx with rfl | ⟨hm, hne⟩
    · exact ⟨cs, hg, hcs⟩
    · obtain ⟨cx, hx1, hx2⟩ := h.obs x hm
      exact ⟨cx, (hk x.blk (Array.getElem?_eq_some_iff.1 hx1).1 hne).trans hx1, hx2⟩
  · intro x hx
    rcases mem x hx with rfl | ⟨hm, _⟩
    · exact hob
    · exact h.obl x hm
  · rw [eb]
    exact h.dist
  · intro x hx
    rcases mem x hx with rfl | ⟨hm, _⟩
    · exact h.off o ho
    · exact h.off x hm

theorem at_store (h : Hp A B w hb v os room) (hlen : os.length ≤ 1000) (p u : V3) {cp cv : Nat} (hcp : box w cp p) (hcv : box w cv u) (hvo : ∀ o ∈ os, o.blk ≠ cv) (hpo : ∀ o ∈ os, o.blk ≠ cp) :
    Calls Try.prog 13 #[.pointer (some ⟨hb, 0, none⟩), .agg #[.int .u8 p.1, .int .i64 p.2.1, .int .i64 p.2.2], .func (Fn.func 14) #[] #[.pointer (some ⟨cv, 0, none⟩), .pointer (some ⟨cp, 0, none⟩)]] w fun e w' =>
      e = .returned (.int .u8 (tells os p)) ∧ Touch w w' (HOwn hb v os) ∧ Hp A B w' hb v (put os p u) room := by
  unfold tells
  rcases look_cases os p with ⟨hk, e⟩ | ⟨hk, hf, e⟩ | ⟨hk, i, o, hi, hpi, hf, e⟩ | ⟨hk, i, n, o, x, hi, hpi, hpn, hu, e⟩
  · rw [put_none e]
    simp only [e, Option.isSome_none, Bool.false_eq_true, if_false, if_neg hk]
    exact (at_null p hk _ _ w hb).mono fun _ _ ⟨a, b⟩ => ⟨a, Touch.of_below b _, h.more b⟩
  · rw [put_none e]
    simp only [e, Option.isSome_none, Bool.false_eq_true, if_false, if_pos hk]
    exact (at_far h hlen p hk hf _ _).mono fun _ _ ⟨a, b⟩ => ⟨a, Touch.of_below b _, h.more b⟩
  · rw [put_none e]
    simp only [e, Option.isSome_none, Bool.false_eq_true, if_false, if_pos hk]
    exact (at_out h hlen p hk hi hpi hf _ _).mono fun _ _ ⟨a, b⟩ => ⟨a, Touch.of_below b _, h.more b⟩
  · simp only [e, Option.isSome_some, if_true]
    have ho : o ∈ os := List.mem_of_getElem? hi
    have ep : put os p u = os.set i { o with vals := o.vals.set n u } := by
      unfold put
      rw [e, hpi, hpn]
      simp only [Int.toNat_natCast, hi]
    rw [ep]
    refine (at_hit h hlen p hk hi hpi hpn (List.getElem?_eq_some_iff.1 hu).1 14 (enters_of Try.func14 (by kernel_rfl) rfl) #[.pointer (some ⟨cv, 0, none⟩), .pointer (some ⟨cp, 0, none⟩)] (fun r w' => r = 0 ∧ Touch w w' (HOwn hb v os) ∧ Hp A B w' hb v (os.set i { o with vals := o.vals.set n u }) room) ?_).mono ?_
    · intro w1 hb1 hsz
      have h1 := h.more hb1
      obtain ⟨cs, hg, hcs⟩ := h1.obs o ho
      refine (store1 hg hcs (List.getElem?_eq_some_iff.1 hu).1 o.base (box_kept hcv (Touch.of_below hb1 (fun _ => False)) (fun h => h)) (box_kept hcp (Touch.of_below hb1 (fun _ => False)) (fun h => h)) hpn (fun h => hvo o ho h.symm) (fun h => hpo o ho h.symm)).mono ?_
      rintro e w' ⟨r, rfl, h0, ht, cs', hc1, hc2⟩
      exact ⟨r, rfl, h0, (Touch.of_below hb1 _).trans (ht.mono fun k _ e => Or.inr (Or.inr ⟨o, ho, e.symm⟩)), h1.stored hi ht hc1 hc2⟩
    · rintro e w' ⟨r, rfl, rfl, ht, hbx⟩
      exact ⟨rfl, ht, hbx⟩

theorem box_facts {w : World} {b : Nat} {p : V3} (h : box w b p) : b < w.heap.size ∧ w.cell? ⟨b, 0, none⟩ = some (.int .u8 p.1) ∧ w.cell? ⟨b, 1, none⟩ = some (.int .i64 p.2.1) ∧ w.cell? ⟨b, 2, none⟩ = some (.int .i64 p.2.2) ∧
    w.frozen? ⟨b, 0, none⟩ = false ∧ w.frozen? ⟨b, 1, none⟩ = false ∧ w.frozen? ⟨b, 2, none⟩ = false := by
  unfold box at h
  refine ⟨(Array.getElem?_eq_some_iff.1 h).1, blk_cell h 0, blk_cell h 1, blk_cell h 2, ?_, ?_, ?_⟩ <;> simp [World.frozen?, h]

theorem box_new (w : World) (p : V3) : box (w.alloc (.cells #[.int .u8 p.1, .int .i64 p.2.1, .int .i64 p.2.2] 24)) w.heap.size p := by
  unfold box World.alloc
  simp

theorem Hp.out (h : Hp A B w hb v os room) : ∀ o ∈ os, o.blk < w.heap.size := fun o ho => (h.lt o.blk (Or.inr (Or.inr ⟨o, ho, rfl⟩))).2

theorem store_any (h : Hp A B w hb v os room) (hlen : os.length ≤ 1000) (p u : V3) :
    Calls Try.prog 8 #[.pointer (some ⟨hb, 0, none⟩), .agg #[.int .u8 p.1, .int .i64 p.2.1, .int .i64 p.2.2], .agg #[.int .u8 u.1, .int .i64 u.2.1, .int .i64 u.2.2]] w fun e w' =>
      e = .returned (.int .u8 (tells os p)) ∧ Touch w w' (HOwn hb v os) ∧ Hp A B w' hb v (put os p u) room := by
  have b1 : Below w.heap.size w (w.alloc (.cells #[.int .u8 p.1, .int .i64 p.2.1, .int .i64 p.2.2] 24)) := (Below.refl _ _).alloc (Nat.le_refl _) _
  have b2 : Below w.heap.size w ((w.alloc (.cells #[.int .u8 p.1, .int .i64 p.2.1, .int .i64 p.2.2] 24)).alloc (.cells #[.int .u8 u.1, .int .i64 u.2.1, .int .i64 u.2.2] 24)) := b1.alloc b1.size _
  have x1 := box_new w p
  have x2 := box_new (w.alloc (.cells #[.int .u8 p.1, .int .i64 p.2.1, .int .i64 p.2.2] 24)) u
  have x3 : box ((w.alloc (.cells #[.int .u8 p.1, .int .i64 p.2.1, .int .i64 p.2.2] 24)).alloc (.cells #[.int .u8 u.1, .int .i64 u.2.1, .int .i64 u.2.2] 24)) w.heap.size p := alloc_blk x1 _
  rw [show (w.alloc (.cells #[.int .u8 p.1, .int .i64 p.2.1, .int .i64 p.2.2] 24)).heap.size = w.heap.size + 1 by simp] at x2
  have cA := at_store (h.more b2) hlen p u x3 x2 (fun o ho => by have := h.out o ho; omega) (fun o ho => by have := h.out o ho; omega)
  replace cA := Lib.hid cA
  have ht : ∀ {w' : World}, Touch ((w.alloc (.cells #[.int .u8 p.1, .int .i64 p.2.1, .int .i64 p.2.2] 24)).alloc (.cells #[.int .u8 u.1, .int .i64 u.2.1, .int .i64 u.2.2] 24)) w' (HOwn hb v os) → Touch w w' (HOwn hb v os) := fun g => (Touch.of_below b2 _).trans g
  clear x1 x2 x3 b1 b2 h
  go_enter Try.func8, Try.ntmps8
  go_wp2_with (refine cA.out.mono ?_; rintro e W' ⟨rfl, hr⟩)
  go_ret
  exact ⟨rfl, ht hr.1, hr.2⟩

theorem load_any (h : Hp A B w hb v os room) (hlen : os.length ≤ 1000) (p : V3) :
    Calls Try.prog 9 #[.pointer (some ⟨hb, 0, none⟩), .agg #[.int .u8 p.1, .int .i64 p.2.1, .int .i64 p.2.2]] w fun e w' =>
      e = .returned (.tuple #[agg3 ((look os p).getD (0, 0, 0)), .int .u8 (tells os p)]) ∧ Below w.heap.size w w' := by
  have b1 : Below w.heap.size w (w.alloc (.cells #[.int .u8 p.1, .int .i64 p.2.1, .int .i64 p.2.2] 24)) := (Below.refl _ _).alloc (Nat.le_refl _) _
  have b2 : Below w.heap.size w ((w.alloc (.cells #[.int .u8 p.1, .int .i64 p.2.1, .int .i64 p.2.2] 24)).alloc (.cells #[.int .u8 0, .int .i64 0, .int .i64 0] 24)) := b1.alloc b1.size _
  have b3 : Below w.heap.size w (((w.alloc (.cells #[.int .u8 p.1, .int .i64 p.2.1, .int .i64 p.2.2] 24)).alloc (.cells #[.int .u8 0, .int .i64 0, .int .i64 0] 24)).alloc (.cells #[.int .u8 0, .int .i64 0, .int .i64 0] 24)) := b2.alloc b2.size _
  have x1 := alloc_blk (alloc_blk (box_new w p) (.cells #[.int .u8 0, .int .i64 0, .int .i64 0] 24)) (.cells #[.int .u8 0, .int .i64 0, .int .i64 0] 24)
  have x2 := alloc_blk (box_new (w.alloc (.cells #[.int .u8 p.1, .int .i64 p.2.1, .int .i64 p.2.2] 24)) (0, 0, 0)) (.cells #[.int .u8 0, .int .i64 0, .int .i64 0] 24)
  have x3 := box_new ((w.alloc (.cells #[.int .u8 p.1, .int .i64 p.2.1, .int .i64 p.2.2] 24)).alloc (.cells #[.int .u8 0, .int .i64 0, .int .i64 0] 24)) (0, 0, 0)
  rw [show (w.alloc (.cells #[.int .u8 p.1, .int .i64 p.2.1, .int .i64 p.2.2] 24)).heap.size = w.heap.size + 1 by simp] at x2
  rw [show ((w.alloc (.cells #[.int .u8 p.1, .int .i64 p.2.1, .int .i64 p.2.2] 24)).alloc (.cells #[.int .u8 0, .int .i64 0, .int .i64 0] 24)).heap.size = w.heap.size + 2 by simp] at x3
  have cA := at_load (h.more b3) hlen p x1 x3 (by omega) (fun o ho => by have := h.out o ho; omega) (fun o ho => by have := h.out o ho; omega)
  generalize (look os p).getD (0, 0, 0) = R at cA ⊢
  obtain ⟨rk, ro, rn⟩ := R
  have cA' := cA.mono (R' := fun e w' => e = .returned (.int .u8 (tells os p)) ∧ box w' (w.heap.size + 2) (rk, ro, rn) ∧ box w' (w.heap.size + 1) (0, 0, 0) ∧ Below w.heap.size w w') (fun e w' ⟨a, b, c⟩ => ⟨a, c, box_kept x2 b (by omega), b3.trans (b.below b3.size (fun k hk => by omega))⟩)
  replace cA' := Lib.hid cA'
  clear x1 x2 x3 b1 b2 b3 h cA
  go_enter Try.func9, Try.ntmps9
  go_wp2_with (refine cA'.out.mono ?_; rintro e W' ⟨rfl, hr, hz, hbl⟩; obtain ⟨i1, i2, i3, i4, _⟩ := box_facts hr; obtain ⟨j1, j2, j3, j4, j5, j6, j7⟩ := box_facts hz; simp only at i2 i3 i4 j2 j3 j4)
  refine bodyPost_ret (v := .tuple #[.agg #[.int .u8 rk, .int .i64 ro, .int .i64 rn], .int .u8 (tells os p)]) ?_ rfl ⟨rfl, ?_⟩
  · simp [results, Try.results9, go_sem, j1, j2, j3, j4]
  · exact ((hbl.setCell (Nat.le_succ _) _).setCell (Nat.le_succ _) _).setCell (Nat.le_succ _) _
end
end Go.Proofs.Ytaidjamcjinooaa
