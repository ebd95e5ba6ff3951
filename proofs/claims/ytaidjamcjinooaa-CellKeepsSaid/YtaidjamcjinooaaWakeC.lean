/- New, Step, Thing, and a heap that is known. -/
import Derived.Test.YtaidjamcjinooaaMake
namespace Go.Proofs.Ytaidjamcjinooaa
open Go.RowKit

section
variable {A B : Nat} {w : World} {hb : Nat} {v : Value} {os : List Ob} {room : Int}

theorem new_at (limit : Int) (h0 : 0 ≤ limit) (h1 : limit ≤ 16384) (w : World) :
    Calls Try.prog 5 #[.int .i64 limit] w fun e w' => e = .returned (.pointer (some ⟨w.heap.size, 0, none⟩)) ∧ Hp w.heap.size (w.heap.size + 1) w' w.heap.size (.slice none 0 0) [] limit ∧ Below w.heap.size w w' := by
  have e1 : max limit 0 = limit := Int.max_eq_left h0
  have e2 : min limit 16384 = limit := Int.min_eq_left h1
  go_enter Try.func5, Try.ntmps5
  go_wp2_with fail
  go_ret
  have hb0 : Below w.heap.size w (w.alloc (.cells #[.slice none 0 0, .int .i64 0, .int .i64 limit] 43)) := (Below.refl _ _).alloc (Nat.le_refl _) _
  refine ⟨rfl, ⟨heap_alloc_new w _, World.ownsRow_nil _ _ _ _, by simp, Nat.le_refl _, by omega, by simp, by simp, by simp, by simp⟩, hb0⟩

theorem int_facts {w : World} {b : Nat} {k : Int} (h : w.heap[b]? = some (.cells #[.int .i64 k] 3 (0, 0))) : b < w.heap.size ∧ w.cell? ⟨b, 0, none⟩ = some (.int .i64 k) ∧ w.frozen? ⟨b, 0, none⟩ = false := by
  refine ⟨(Array.getElem?_eq_some_iff.1 h).1, blk_cell h 0, ?_⟩
  simp [World.frozen?, h]

theorem step1 {g n k len : Nat} (base : Int) {cr cp ck : Nat} {p z : V3} (hr : box w cr z) (hp : box w cp p) (hk : w.heap[ck]? = some (.cells #[.int .i64 k] 3 (0, 0))) (hpn : p.2.2 = n) (hn : n + k < len) (hlen : len ≤ 64) (hpr : cp ≠ cr) (hkr : ck ≠ cr) :
    Calls Try.prog 16 (#[.agg #[.slice (some ⟨g, 0, none⟩) len len, .int .i64 base]] ++ #[.pointer (some ⟨ck, 0, none⟩), .pointer (some ⟨cp, 0, none⟩), .pointer (some ⟨cr, 0, none⟩)]) w fun e w' =>
      ∃ r, e = .returned (.int .u8 r) ∧ r = 0 ∧ Touch w w' (· = cr) ∧ box w' cr (1, p.2.1, (n + k : Nat)) := by
  obtain ⟨pk, po, pn⟩ := p
  obtain ⟨zk, zo, zn⟩ := z
  simp only at hpn
  subst hpn
  obtain ⟨a1, a2, _⟩ := int_facts hk
  obtain ⟨b1, b2, b3, b4, _⟩ := box_facts hp
  obtain ⟨i1, i2, i3, i4, i5, i6, i7⟩ := box_facts hr
  unfold box at hr
  simp only at b2 b3 b4 i2 i3 i4
  have d1 : decide (len < k) = false := by simp; omega
  have hnot : ∀ (x : Bool) (w : World), (Op.unary .not (.bool x)).run Try.prog w = .ok (.bool (!x)) w := fun _ _ => rfl
  go_enter Try.func16, Try.ntmps16
  go_wp2_with (refine (has_yes _ _ _ _ _ (by omega) (by omega)).mono ?_; rintro e w2 ⟨rfl, rfl⟩)
  go_ret
  refine ⟨0, rfl, rfl, ?_, ?_⟩
  · exact touch3' cr 1 po ((n : Int) + k) _
  · unfold box
    refine (alloc_blk (blk_set _ (blk_set _ (blk_set _ hr))) _).trans ?_
    simp

theorem thing1 {g n len : Nat} (base : Int) {cr cp : Nat} {p : V3} {z : Int} (hr : w.heap[cr]? = some (.cells #[.int .i64 z] 3 (0, 0))) (hp : box w cp p) (hpn : p.2.2 = n) (hn : n < 64) (hb0 : 0 ≤ base) (hb1 : base ≤ 1000) (hpr : cp ≠ cr) :
    Calls Try.prog 18 (#[.agg #[.slice (some ⟨g, 0, none⟩) len len, .int .i64 base]] ++ #[.pointer (some ⟨cp, 0, none⟩), .pointer (some ⟨cr, 0, none⟩)]) w fun e w' =>
      ∃ r, e = .returned (.int .u8 r) ∧ r = 0 ∧ Touch w w' (· = cr) ∧ w'.heap[cr]? = some (.cells #[.int .i64 (base + n)] 3 (0, 0)) := by
  obtain ⟨pk, po, pn⟩ := p
  simp only at hpn
  subst hpn
  obtain ⟨a1, a2, a3⟩ := int_facts hr
  obtain ⟨b1, b2, b3, b4, _⟩ := box_facts hp
  simp only at b2 b3 b4
  go_enter Try.func18, Try.ntmps18
  go_wp2_with fail
  go_ret
  refine ⟨0, rfl, rfl, ?_, ?_⟩
  · exact (touch_set (Touch.refl w _) 0 _).alloc _
  · refine (alloc_blk (blk_set _ hr) _).trans ?_
    simp

theorem box_at (w : World) (b : Nat) (h : w.heap.size = b) (p : V3) : box (w.alloc (.cells #[.int .u8 p.1, .int .i64 p.2.1, .int .i64 p.2.2] 24)) b p := h ▸ box_new w p

set_option maxHeartbeats 400000 in
theorem step_hit (h : Hp A B w hb v os room) (hlen : os.length ≤ 1000) (p : V3) (hk1 : p.1 = 1) {i n k : Nat} {o : Ob} (hi : os[i]? = some o) (hpi : p.2.1 = i) (hpn : p.2.2 = n) (hn : n + k < o.vals.length) (hl64 : o.vals.length ≤ 64) :
    Calls Try.prog 11 #[.pointer (some ⟨hb, 0, none⟩), .agg #[.int .u8 p.1, .int .i64 p.2.1, .int .i64 p.2.2], .int .i64 k] w fun e w' =>
      e = .returned (.tuple #[.agg #[.int .u8 1, .int .i64 p.2.1, .int .i64 ((n + k : Nat) : Int)], .int .u8 0]) ∧ Below w.heap.size w w' := by
  have b1 : Below w.heap.size w (w.alloc (.cells #[.int .u8 p.1, .int .i64 p.2.1, .int .i64 p.2.2] 24)) := (Below.refl _ _).alloc (Nat.le_refl _) _
  have b2 : Below w.heap.size w ((w.alloc (.cells #[.int .u8 p.1, .int .i64 p.2.1, .int .i64 p.2.2] 24)).alloc (.cells #[.int .i64 (k : Int)] 3)) := b1.alloc b1.size _
  have b3 : Below w.heap.size w (((w.alloc (.cells #[.int .u8 p.1, .int .i64 p.2.1, .int .i64 p.2.2] 24)).alloc (.cells #[.int .i64 (k : Int)] 3)).alloc (.cells #[.int .u8 0, .int .i64 0, .int .i64 0] 24)) := b2.alloc b2.size _
  have b4 : Below w.heap.size w ((((w.alloc (.cells #[.int .u8 p.1, .int .i64 p.2.1, .int .i64 p.2.2] 24)).alloc (.cells #[.int .i64 (k : Int)] 3)).alloc (.cells #[.int .u8 0, .int .i64 0, .int .i64 0] 24)).alloc (.cells #[.int .u8 0, .int .i64 0, .int .i64 0] 24)) := b3.alloc b3.size _
  have x1 : box ((((w.alloc (.cells #[.int .u8 p.1, .int .i64 p.2.1, .int .i64 p.2.2] 24)).alloc (.cells #[.int .i64 (k : Int)] 3)).alloc (.cells #[.int .u8 0, .int .i64 0, .int .i64 0] 24)).alloc (.cells #[.int .u8 0, .int .i64 0, .int .i64 0] 24)) w.heap.size p := alloc_blk (alloc_blk (alloc_blk (box_new w p) _) _) _
  have x2 : ((((w.alloc (.cells #[.int .u8 p.1, .int .i64 p.2.1, .int .i64 p.2.2] 24)).alloc (.cells #[.int .i64 (k : Int)] 3)).alloc (.cells #[.int .u8 0, .int .i64 0, .int .i64 0] 24)).alloc (.cells #[.int .u8 0, .int .i64 0, .int .i64 0] 24)).heap[w.heap.size + 1]? = some (.cells #[.int .i64 (k : Int)] 3) := alloc_blk (alloc_blk (heap_new2 w _ _) _) _
  have x3 : box ((((w.alloc (.cells #[.int .u8 p.1, .int .i64 p.2.1, .int .i64 p.2.2] 24)).alloc (.cells #[.int .i64 (k : Int)] 3)).alloc (.cells #[.int .u8 0, .int .i64 0, .int .i64 0] 24)).alloc (.cells #[.int .u8 0, .int .i64 0, .int .i64 0] 24)) (w.heap.size + 1 + 1) (0, 0, 0) := alloc_blk (box_at _ _ (by simp only [World.size_alloc]) (0, 0, 0)) _
  have x4 : box ((((w.alloc (.cells #[.int .u8 p.1, .int .i64 p.2.1, .int .i64 p.2.2] 24)).alloc (.cells #[.int .i64 (k : Int)] 3)).alloc (.cells #[.int .u8 0, .int .i64 0, .int .i64 0] 24)).alloc (.cells #[.int .u8 0, .int .i64 0, .int .i64 0] 24)) (w.heap.size + 1 + 1 + 1) (0, 0, 0) := box_at _ _ (by simp only [World.size_alloc]) (0, 0, 0)
  have ho : o ∈ os := List.mem_of_getElem? hi
  have cA := (at_hit (h.more b4) hlen p hk1 hi hpi hpn (by omega) 16 (enters_of Try.func16 (by kernel_rfl) rfl) #[.pointer (some ⟨w.heap.size + 1, 0, none⟩), .pointer (some ⟨w.heap.size, 0, none⟩), .pointer (some ⟨w.heap.size + 1 + 1 + 1, 0, none⟩)]
    (fun r w' => r = 0 ∧ box w' (w.heap.size + 1 + 1 + 1) (1, p.2.1, (n + k : Nat)) ∧ box w' (w.heap.size + 1 + 1) (0, 0, 0) ∧ Below w.heap.size w w') (by
      intro w1 hb1 hsz
      have t1 := Touch.of_below hb1 (fun _ => False)
      refine (step1 (g := o.blk) (len := o.vals.length) o.base (box_kept x4 t1 (fun h => h)) (box_kept x1 t1 (fun h => h)) ((t1.block _ (Array.getElem?_eq_some_iff.1 x2).1 (fun h => h)).trans x2) hpn hn hl64 (by omega) (by omega)).mono ?_
      rintro e w' ⟨r, rfl, h0, ht, hbx⟩
      refine ⟨r, rfl, h0, hbx, box_kept (box_kept x3 t1 (fun h => h)) ht (by omega), ?_⟩
      have hs4 : w.heap.size ≤ w1.heap.size := Nat.le_trans b4.size hb1.size
      exact (b4.trans (hb1.mono b4.size)).trans (ht.below hs4 (fun k hk => by omega))))
  replace cA := Lib.hid cA
  clear x1 x2 x3 x4 b1 b2 b3 b4 h hk1 hpi hpn
  go_enter Try.func11, Try.ntmps11
  go_wp2_with (refine cA.out.mono ?_; rintro e W' ⟨r, rfl, rfl, hr, hz, hbl⟩; obtain ⟨i1, i2, i3, i4, _⟩ := box_facts hr; obtain ⟨j1, j2, j3, j4, j5, j6, j7⟩ := box_facts hz; simp only at i2 i3 i4 j2 j3 j4)
  refine bodyPost_ret (v := .tuple #[.agg #[.int .u8 1, .int .i64 p.2.1, .int .i64 ((n + k : Nat) : Int)], .int .u8 0]) ?_ rfl ⟨rfl, ?_⟩
  · simp [results, Try.results11, go_sem, j1, j2, j3, j4]
  · exact ((hbl.setCell (by simp; omega) _).setCell (by simp; omega) _).setCell (by simp; omega) _

theorem thing_hit (h : Hp A B w hb v os room) (hlen : os.length ≤ 1000) (p : V3) (hk1 : p.1 = 1) {i n : Nat} {o : Ob} (hi : os[i]? = some o) (hpi : p.2.1 = i) (hpn : p.2.2 = n) (hn : n < o.vals.length) (hl64 : o.vals.length ≤ 64) (hb0 : 0 ≤ o.base) (hb1 : o.base ≤ 1000) :
    Calls Try.prog 12 #[.pointer (some ⟨hb, 0, none⟩), .agg #[.int .u8 p.1, .int .i64 p.2.1, .int .i64 p.2.2]] w fun e w' =>
      e = .returned (.tuple #[.int .i64 (o.base + n), .bool true]) ∧ Below w.heap.size w w' := by
  have b1 : Below w.heap.size w (w.alloc (.cells #[.int .u8 p.1, .int .i64 p.2.1, .int .i64 p.2.2] 24)) := (Below.refl _ _).alloc (Nat.le_refl _) _
  have b2 : Below w.heap.size w ((w.alloc (.cells #[.int .u8 p.1, .int .i64 p.2.1, .int .i64 p.2.2] 24)).alloc (.cells #[.int .i64 0] 3)) := b1.alloc b1.size _
  have x1 : box ((w.alloc (.cells #[.int .u8 p.1, .int .i64 p.2.1, .int .i64 p.2.2] 24)).alloc (.cells #[.int .i64 0] 3)) w.heap.size p := alloc_blk (box_new w p) _
  have x2 := heap_new2 w (.cells #[.int .u8 p.1, .int .i64 p.2.1, .int .i64 p.2.2] 24) (.cells #[.int .i64 0] 3)
  have ho : o ∈ os := List.mem_of_getElem? hi
  have cA := (at_hit (h.more b2) hlen p hk1 hi hpi hpn (by omega) 18 (enters_of Try.func18 (by kernel_rfl) rfl) #[.pointer (some ⟨w.heap.size, 0, none⟩), .pointer (some ⟨w.heap.size + 1, 0, none⟩)]
    (fun r w' => r = 0 ∧ w'.heap[w.heap.size + 1]? = some (.cells #[.int .i64 (o.base + n)] 3 (0, 0)) ∧ Below w.heap.size w w') (by
      intro w1 hb1' hsz
      have t1 := Touch.of_below hb1' (fun _ => False)
      refine (thing1 (g := o.blk) (len := o.vals.length) o.base ((t1.block _ (Array.getElem?_eq_some_iff.1 x2).1 (fun h => h)).trans x2) (box_kept x1 t1 (fun h => h)) hpn (by omega) hb0 hb1 (by omega)).mono ?_
      rintro e w' ⟨r, rfl, h0, ht, hbx⟩
      refine ⟨r, rfl, h0, hbx, ?_⟩
      have hs4 : w.heap.size ≤ w1.heap.size := Nat.le_trans b2.size hb1'.size
      exact (b2.trans (hb1'.mono b2.size)).trans (ht.below hs4 (fun k hk => by omega))))
  replace cA := Lib.hid cA
  clear x1 x2 b1 b2 h hk1 hpi hpn
  go_enter Try.func12, Try.ntmps12
  go_wp2_with (refine cA.out.mono ?_; rintro e W' ⟨r, rfl, rfl, hr, hbl⟩; obtain ⟨i1, i2, i3⟩ := int_facts hr)
  go_ret2
  exact ⟨by simp, hbl⟩

theorem isStruct : Try.prog.underlying 24 = some (.struct (Try.prog.fieldsOf 24)) := by kernel_rfl
theorem noStood : Try.prog.stoodInHeld 24 = false := by kernel_rfl
theorem eq_agg (y k : V3) (w : World) : (binOp .eql 24 (.agg #[.int .u8 y.1, .int .i64 y.2.1, .int .i64 y.2.2]) (.agg #[.int .u8 k.1, .int .i64 k.2.1, .int .i64 k.2.2])).run Try.prog w = .ok (.bool (decide (y = k))) w := by
  rw [run_eql_struct, run_equalIn_agg (w := w) 9999 24 _ _ isStruct noStood]
  have hf := isStruct.symm.trans Try.underlying24
  simp only [Option.some.injEq, TypeDesc.struct.injEq] at hf
  rw [hf]
  have h1 : ∀ (a b : Int) (w : World) (d : Nat), (Op.equalIn (d + 1) 3 (.int .i64 a) (.int .i64 b)).run Try.prog w = .ok (a == b) w := fun a b w d => run_equalIn_int w d 3 .i64 .i64 a b Try.underlying3
  have h3 : ∀ (a b : Int) (w : World) (d : Nat), (Op.equalIn (d + 1) 5 (.int .u8 a) (.int .u8 b)).run Try.prog w = .ok (a == b) w := fun a b w d => run_equalIn_int w d 5 .u8 .u8 a b Try.underlying5
  have h2 : decide (y = k) = (y.1 == k.1 && (y.2.1 == k.2.1 && y.2.2 == k.2.2)) := by
    rw [Bool.eq_iff_iff]
    simp [Prod.ext_iff]
  rw [h2]
  cases e0 : y.1 == k.1 <;> cases e1 : y.2.1 == k.2.1 <;> cases e2 : y.2.2 == k.2.2 <;> simp [Op.eqFields, go_sem, h1, h3, e0, e1, e2]

theorem flatzero : List.replicate 2 ((0, 0, 0) : V3) = [(0, 0, 0), (0, 0, 0)] := rfl

theorem Hp.belowT (h : Hp A B w hb v os room) {a w' : World} (hbl : Below A a w) (ht : Touch w w' (HOwn hb v os)) : Below A a w' :=
  hbl.trans (ht.below (by have := h.low; have := h.hbB; have := h.top; omega) (fun k hk e => absurd (h.lt k e).1 (by omega)))
theorem Hp.belowB (h : Hp A B w hb v os room) {a w' : World} (hbl : Below A a w) (ht : Below w.heap.size w w') : Below A a w' :=
  hbl.trans (ht.mono (by have := h.low; have := h.hbB; have := h.top; omega))

set_option maxHeartbeats 400000 in
theorem wakes_any (w : World) : Calls Try.prog 4 #[] w fun e w' => e = .returned (.bool true) ∧ Below w.heap.size w w' := by
  go_enter Try.func4, Try.ntmps4
  go_wp2_with fail
  refine (new_at 3 (by decide) (by decide) _).mono ?_
  rintro e w1 ⟨rfl, h1, hb1⟩
  generalize hhb : w.heap.size = hb at *
  go_wp2_with fail
  refine (make_new h1 (by decide) (by decide) (by decide) 5 (n := 2) (by decide) (by decide) (by decide)).mono ?_
  rintro e w2 ⟨rfl, v2, k2, h2, t2⟩
  have g2 := Lib.hid (h1.belowT hb1 t2)
  simp only [List.nil_append, List.length_nil, flatzero] at h2 ⊢
  clear t2 hb1 h1
  go_wp2_with fail
  generalize hw3 : w2.alloc (.cells #[.int .u8 1, .int .i64 0, .int .i64 0] 24) = w3
  have hb3 : Below w2.heap.size w2 w3 := hw3 ▸ (Below.refl _ _).alloc (Nat.le_refl _) _
  have hx3 : box w3 w2.heap.size (1, 0, 0) := hw3 ▸ box_new w2 (1, 0, 0)
  have h3 := h2.more hb3
  have g3 := Lib.hid (h2.belowB g2.out hb3)
  refine (make_full h3 (by decide) (by simp [many]) 9 2 (Or.inr (Or.inr (by simp [many])))).mono ?_
  rintro e w4 ⟨rfl, hb4⟩
  have h4 := h3.more hb4
  have hx4 := box_kept hx3 (Touch.of_below hb4 (fun _ => False)) (fun h => h)
  obtain ⟨i1, i2, i3, i4, _⟩ := box_facts hx4
  have g4 := Lib.hid (h3.belowB g3.out hb4)
  simp only at i2 i3 i4
  clear hb3 hb4 hw3 hx3 h3 h2 g2 g3
  go_wp2_with fail
  generalize hw5 : w4.alloc (.cells #[.int .u8 0, .int .i64 0, .int .i64 0] 24) = w5
  have hb5 : Below w4.heap.size w4 w5 := hw5 ▸ (Below.refl _ _).alloc (Nat.le_refl _) _
  have h5 := h4.more hb5
  refine (step_hit h5 (by simp) (1, 0, 0) rfl (i := 0) (n := 0) (k := 1) rfl rfl rfl (by simp) (by simp)).mono ?_
  rintro e w6 ⟨rfl, hb6⟩
  have h6 := h5.more hb6
  have g6 := Lib.hid (h5.belowB (h4.belowB g4.out hb5) hb6)
  clear hb5 hb6 hw5 h5 h4 i1 i2 i3 i4 g4 hx4
  go_wp2_with fail
  generalize hw7 : w6.alloc (.cells #[.int .u8 1, .int .i64 0, .int .i64 1] 24) = w7
  have hb7 : Below w6.heap.size w6 w7 := hw7 ▸ (Below.refl _ _).alloc (Nat.le_refl _) _
  have hx7 : box w7 w6.heap.size (1, 0, 1) := hw7 ▸ box_new w6 (1, 0, 1)
  have h7 := h6.more hb7
  refine (store_any h7 (by simp) (1, 0, 1) (2, 0, 4)).mono ?_
  rintro e w8 ⟨rfl, t8, h8⟩
  have et : tells [⟨k2, 5, [(0, 0, 0), (0, 0, 0)]⟩] (1, 0, 1) = 0 := by simp [tells, look]
  have ep : put [⟨k2, 5, [(0, 0, 0), (0, 0, 0)]⟩] (1, 0, 1) (2, 0, 4) = [⟨k2, 5, [(0, 0, 0), (2, 0, 4)]⟩] := by simp [put, look]
  rw [ep] at h8
  rw [et]
  have hx8 := box_kept hx7 t8 (fun hk => by have := (h6.lt _ hk).2; omega)
  have g8 := Lib.hid (h7.belowT (h6.belowB g6.out hb7) t8)
  obtain ⟨i1, i2, i3, i4, _⟩ := box_facts hx8
  simp only at i2 i3 i4
  clear ep et hb7 hw7 hx7 h7 h6 t8 g6
  go_wp2_with fail
  refine (load_any h8 (by simp) (1, 0, 1)).mono ?_
  rintro e w9 ⟨rfl, hb9⟩
  have h9 := h8.more hb9
  have g9 := Lib.hid (h8.belowB g8.out hb9)
  have hx9 := box_kept hx8 (Touch.of_below hb9 (fun _ => False)) (fun h => h)
  have el : look [⟨k2, 5, [(0, 0, 0), (2, 0, 4)]⟩] (1, 0, 1) = some (2, 0, 4) := by simp [look]
  have et : tells [⟨k2, 5, [(0, 0, 0), (2, 0, 4)]⟩] (1, 0, 1) = 0 := by simp [tells, look]
  rw [el, et]
  simp only [Option.getD_some, agg3]
  clear i1 i2 i3 i4 el et hx8 hb9 g8 h8
  obtain ⟨i1, i2, i3, i4, _⟩ := box_facts hx9
  simp only at i2 i3 i4
  go_wp2_with fail
  generalize hw10 : w9.alloc (.cells #[.int .u8 2, .int .i64 0, .int .i64 4] 24) = w10
  have hb10 : Below w9.heap.size w9 w10 := hw10 ▸ (Below.refl _ _).alloc (Nat.le_refl _) _
  have hx10 : box w10 w9.heap.size (2, 0, 4) := hw10 ▸ box_new w9 (2, 0, 4)
  have h10 := h9.more hb10
  have g10 := Lib.hid (h9.belowB g9.out hb10)
  refine (thing_hit h10 (by simp) (1, 0, 1) rfl (i := 0) (n := 1) rfl rfl rfl (by simp) (by simp) (by simp) (by simp)).mono ?_
  rintro e w11 ⟨rfl, hb11⟩
  have h11 := h10.more hb11
  have g11 := Lib.hid (h10.belowB g10.out hb11)
  have hx11 := box_kept hx10 (Touch.of_below hb11 (fun _ => False)) (fun h => h)
  clear i1 i2 i3 i4 h10 h9 g9 g10 hx9 hx10 hb10 hb11 hw10
  obtain ⟨i1, i2, i3, i4, _⟩ := box_facts hx11
  simp only at i2 i3 i4
  have hq := eq_agg (2, 0, 4) (2, 0, 4)
  have hm : many [⟨k2, 5, [(0, 0, 0), (2, 0, 4)]⟩] = 2 := by simp [many]
  simp only [decide_true] at hq
  go_wp2_with (first | (go_at_call 6; refine (objs_any h11).mono ?_; rintro e w12 ⟨rfl, rfl⟩) | (go_at_call 10; refine (cells_any h11).mono ?_; rintro e w12 ⟨rfl, rfl⟩; rw [hm]))
  go_ret
  exact ⟨by simp, by rw [hhb]; exact g11.out⟩
end
end Go.Proofs.Ytaidjamcjinooaa
