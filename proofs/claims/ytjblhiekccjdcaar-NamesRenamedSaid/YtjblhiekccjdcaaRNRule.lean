/- names: the rules that ask each part by itself. -/
import Derived.Test.YtjblhiekccjdcaaRNWhere
namespace Go.Proofs.YtjblhiekccjdcaaR
open Go.RowKit Go.Maps

section
variable {w : World} {i1 i2 i3 : Int} {q1 q2 q3 : Option Addr}
theorem isFunc_v : Calls Try.prog 42 #[.agg #[.int .i64 i1, .int .i64 i2, .int .i64 i3, .pointer q1, .pointer q2, .pointer q3]] w fun e w' => e = .returned (.bool q2.isNone) ∧ Below w.heap.size w w' := by
  cases q2 <;> (go_enter Try.func42, Try.ntmps42; go_wp2; go_ret; exact ⟨rfl, (Below.refl _ _).alloc (Nat.le_refl _) _⟩)
theorem isBlock_v : Calls Try.prog 44 #[.agg #[.int .i64 i1, .int .i64 i2, .int .i64 i3, .pointer q1, .pointer q2, .pointer q3]] w fun e w' => e = .returned (.bool (!q2.isNone && q3.isNone)) ∧ Below w.heap.size w w' := by
  cases q2 <;> cases q3 <;> (go_enter Try.func44, Try.ntmps44; go_wp2; go_ret; exact ⟨rfl, (Below.refl _ _).alloc (Nat.le_refl _) _⟩)
theorem op_none : Calls Try.prog 51 #[.agg #[.int .i64 i1, .int .i64 i2, .int .i64 i3, .pointer q1, .pointer q2, .pointer none]] w fun e w' => e = .returned (.int .u8 0) ∧ Below w.heap.size w w' := by
  go_enter Try.func51, Try.ntmps51
  go_wp2
  go_ret
  exact ⟨rfl, (Below.refl _ _).alloc (Nat.le_refl _) _⟩
theorem op_some {b o : Nat} {k : Int} (h : w.cell? ⟨b, o, none⟩ = some (.int .u8 k)) : Calls Try.prog 51 #[.agg #[.int .i64 i1, .int .i64 i2, .int .i64 i3, .pointer q1, .pointer q2, .pointer (some ⟨b, o, none⟩)]] w fun e w' => e = .returned (.int .u8 k) ∧ Below w.heap.size w w' := by
  have hb := cell_size h
  go_enter Try.func51, Try.ntmps51
  go_wp2
  go_ret
  exact ⟨rfl, (Below.refl _ _).alloc (Nat.le_refl _) _⟩
end
def isCallB (k : Int) : Bool := (k == 10) || (k == 11)
theorem isCall_any (k : Int) (w : World) : Calls Try.prog 50 #[.int .u8 k] w fun e w' => e = .returned (.bool (isCallB k)) ∧ w = w' := by
  unfold isCallB
  generalize h1 : (k == 10) = p
  generalize h2 : (k == 11) = q
  cases p <;> cases q <;> (go_enter Try.func50, Try.ntmps50; go_wp2; go_ret; exact ⟨rfl, rfl⟩)
def endsB (k : Int) : Bool := ((k == 12) || (k == 13)) || (k == 14)
theorem ends_any (k : Int) (w : World) : Calls Try.prog 58 #[.int .u8 k] w fun e w' => e = .returned (.bool (endsB k)) ∧ w = w' := by
  unfold endsB
  generalize h1 : (k == 12) = p
  generalize h2 : (k == 13) = q
  generalize h3 : (k == 14) = r
  cases p <;> cases q <;> cases r <;> (go_enter Try.func58, Try.ntmps58; go_wp2; go_ret; exact ⟨rfl, rfl⟩)

def Prt.Fits : Prt → Prop
  | .fn _ d => d.Fits
  | .blk _ _ d x => d.Fits ∧ x.Fits
  | .ins _ _ i d x c => d.Fits ∧ x.Fits ∧ c.Fits ∧ x.code[i]? = some c
theorem mem_cat {α β : Type} {g : Nat → α → List β} {l : List α} {y : β} (h : y ∈ cat g l) : ∃ i z, l[i]? = some z ∧ y ∈ g i z := by
  unfold cat at h
  obtain ⟨r, hr, hy⟩ := List.mem_flatten.1 h
  obtain ⟨i, hi, rfl⟩ := List.mem_mapIdx.1 hr
  exact ⟨i, _, List.getElem?_eq_getElem hi, hy⟩
theorem parts_fits {P : List Fun} (h : ∀ d ∈ P, d.Fits) {x : Prt} (hx : x ∈ partsL P) : x.Fits := by
  obtain ⟨f, d, hd, hx⟩ := mem_cat hx
  have hf := h d (List.mem_of_getElem? hd)
  unfold funL at hx
  rcases List.mem_cons.1 hx with rfl | hx
  · exact hf
  · obtain ⟨b, y, hy, hx⟩ := mem_cat hx
    have hg := hf.2.2.1 y (List.mem_of_getElem? hy)
    unfold blkL at hx
    rcases List.mem_cons.1 hx with rfl | hx
    · exact ⟨hf, hg⟩
    · obtain ⟨i, c, hc, hx⟩ := mem_cat hx
      rw [List.mem_singleton.1 hx]
      exact ⟨hf, hg, hg.2.1 c (List.mem_of_getElem? hc), hc⟩
theorem FunAt.name {w : World} {b o : Nat} {d : Fun} (h : FunAt w b o d) : w.cell? ⟨b, o, none⟩ = some (.string d.name) := by
  obtain ⟨-, vp, vb, -, -, h3, -⟩ := h
  exact h3
theorem FunAt.params {w : World} {b o : Nat} {d : Fun} (h : FunAt w b o d) : ∃ a c, w.cell? ⟨b, o + 1, none⟩ = some (.slice a d.params.length c) ∧ RdS w (.slice a d.params.length c) d.params := by
  obtain ⟨-, vp, vb, h1, -, -, h4, -⟩ := h
  obtain ⟨a, c, rfl⟩ := h1.shape
  exact ⟨a, c, h4, h1⟩

theorem keepC {W W' : World} (hb : Below W.heap.size W W') {p : Addr} {v : Value} (h : W.cell? p = some v) : W'.cell? p = some v := (hb.cell (p := p) (cell_size h)).trans h
/-- A part in its box. -/
structure FnBox (W : World) (S b o f : Nat) (d : Fun) (pa ba : Option Addr) (pc bc : Nat) : Prop where
  s0 : W.cell? ⟨S, 0, none⟩ = some (.int .i64 f)
  s1 : W.cell? ⟨S, 1, none⟩ = some (.int .i64 0)
  s2 : W.cell? ⟨S, 2, none⟩ = some (.int .i64 0)
  s3 : W.cell? ⟨S, 3, none⟩ = some (.pointer (some ⟨b, o, none⟩))
  s4 : W.cell? ⟨S, 4, none⟩ = some (.pointer none)
  s5 : W.cell? ⟨S, 5, none⟩ = some (.pointer none)
  f0 : W.cell? ⟨b, o, none⟩ = some (.string d.name)
  f1 : W.cell? ⟨b, o + 1, none⟩ = some (.slice pa d.params.length pc)
  f2 : W.cell? ⟨b, o + 2, none⟩ = some (.slice ba d.blocks.length bc)
  rp : RdS W (.slice pa d.params.length pc) d.params
  rb : RdE 2 RdBlk W (.slice ba d.blocks.length bc) d.blocks
theorem FnBox.keep {W W' : World} {S b o f : Nat} {d : Fun} {pa ba : Option Addr} {pc bc : Nat} (h : FnBox W S b o f d pa ba pc bc) (hb : Below W.heap.size W W') : FnBox W' S b o f d pa ba pc bc :=
  ⟨keepC hb h.s0, keepC hb h.s1, keepC hb h.s2, keepC hb h.s3, keepC hb h.s4, keepC hb h.s5, keepC hb h.f0, keepC hb h.f1, keepC hb h.f2, Rd.below h.rp hb, RdE.below (fun _ _ h => h.below hb) h.rb hb⟩
theorem FnBox.mk' {w : World} {f : Nat} {d : Fun} {vs : Array Value} (h : PrtV w (.fn f d) vs) : ∃ b o pa ba pc bc, vs = #[.int .i64 f, .int .i64 0, .int .i64 0, .pointer (some ⟨b, o, none⟩), .pointer none, .pointer none] ∧ FnBox (w.alloc (.cells vs 65)) w.heap.size b o f d pa ba pc bc := by
  obtain ⟨b, o, rfl, hF⟩ := h
  have hb : Below w.heap.size w (w.alloc (.cells #[.int .i64 f, .int .i64 0, .int .i64 0, .pointer (some ⟨b, o, none⟩), .pointer none, .pointer none] 65)) := (Below.refl _ _).alloc (Nat.le_refl _) _
  obtain ⟨pa, pc, hp, rp⟩ := hF.params
  obtain ⟨ba, bc, hq, rq⟩ := hF.blocks
  have hN : (w.alloc (.cells #[.int .i64 f, .int .i64 0, .int .i64 0, .pointer (some ⟨b, o, none⟩), .pointer none, .pointer none] 65)).heap[w.heap.size]? = _ := at_newN rfl
  exact ⟨b, o, pa, ba, pc, bc, rfl, by rw [blk_cell hN]; rfl, by rw [blk_cell hN]; rfl, by rw [blk_cell hN]; rfl, by rw [blk_cell hN]; rfl, by rw [blk_cell hN]; rfl, by rw [blk_cell hN]; rfl, keepC hb hF.name, keepC hb hp, keepC hb hq, Rd.below rp hb, RdE.below (fun _ _ h => h.below hb) rq hb⟩
structure BlkBox (W : World) (S b o b2 o2 f k : Nat) (x : Blk) (ca : Option Addr) (cc : Nat) : Prop where
  s0 : W.cell? ⟨S, 0, none⟩ = some (.int .i64 f)
  s1 : W.cell? ⟨S, 1, none⟩ = some (.int .i64 k)
  s2 : W.cell? ⟨S, 2, none⟩ = some (.int .i64 0)
  s3 : W.cell? ⟨S, 3, none⟩ = some (.pointer (some ⟨b, o, none⟩))
  s4 : W.cell? ⟨S, 4, none⟩ = some (.pointer (some ⟨b2, o2, none⟩))
  s5 : W.cell? ⟨S, 5, none⟩ = some (.pointer none)
  f0 : W.cell? ⟨b2, o2, none⟩ = some (.string x.label)
  f1 : W.cell? ⟨b2, o2 + 1, none⟩ = some (.slice ca x.code.length cc)
theorem BlkBox.keep {W W' : World} {S b o b2 o2 f k : Nat} {x : Blk} {ca : Option Addr} {cc : Nat} (h : BlkBox W S b o b2 o2 f k x ca cc) (hb : Below W.heap.size W W') : BlkBox W' S b o b2 o2 f k x ca cc :=
  ⟨keepC hb h.s0, keepC hb h.s1, keepC hb h.s2, keepC hb h.s3, keepC hb h.s4, keepC hb h.s5, keepC hb h.f0, keepC hb h.f1⟩
theorem BlkBox.mk' {w : World} {f k : Nat} {d : Fun} {x : Blk} {vs : Array Value} (h : PrtV w (.blk f k d x) vs) : ∃ b o b2 o2 ca cc, vs = #[.int .i64 f, .int .i64 k, .int .i64 0, .pointer (some ⟨b, o, none⟩), .pointer (some ⟨b2, o2, none⟩), .pointer none] ∧ BlkBox (w.alloc (.cells vs 65)) w.heap.size b o b2 o2 f k x ca cc := by
  obtain ⟨b, o, b2, o2, rfl, hF, hB⟩ := h
  have hb : Below w.heap.size w (w.alloc (.cells #[.int .i64 f, .int .i64 k, .int .i64 0, .pointer (some ⟨b, o, none⟩), .pointer (some ⟨b2, o2, none⟩), .pointer none] 65)) := (Below.refl _ _).alloc (Nat.le_refl _) _
  obtain ⟨ca, cc, hq, rq⟩ := hB.code
  obtain ⟨-, vc, -, hl, -⟩ := hB
  have hN : (w.alloc (.cells #[.int .i64 f, .int .i64 k, .int .i64 0, .pointer (some ⟨b, o, none⟩), .pointer (some ⟨b2, o2, none⟩), .pointer none] 65)).heap[w.heap.size]? = _ := at_newN rfl
  exact ⟨b, o, b2, o2, ca, cc, rfl, by rw [blk_cell hN]; rfl, by rw [blk_cell hN]; rfl, by rw [blk_cell hN]; rfl, by rw [blk_cell hN]; rfl, by rw [blk_cell hN]; rfl, by rw [blk_cell hN]; rfl, keepC hb hl, keepC hb hq⟩
structure InsBox (W : World) (S b o b2 o2 b3 o3 f k i : Nat) (x : Blk) (c : Ins) (ca aa la : Option Addr) (cc ac lc : Nat) : Prop where
  s0 : W.cell? ⟨S, 0, none⟩ = some (.int .i64 f)
  s1 : W.cell? ⟨S, 1, none⟩ = some (.int .i64 k)
  s2 : W.cell? ⟨S, 2, none⟩ = some (.int .i64 i)
  s3 : W.cell? ⟨S, 3, none⟩ = some (.pointer (some ⟨b, o, none⟩))
  s4 : W.cell? ⟨S, 4, none⟩ = some (.pointer (some ⟨b2, o2, none⟩))
  s5 : W.cell? ⟨S, 5, none⟩ = some (.pointer (some ⟨b3, o3, none⟩))
  f1 : W.cell? ⟨b2, o2 + 1, none⟩ = some (.slice ca x.code.length cc)
  c0 : W.cell? ⟨b3, o3, none⟩ = some (.int .u8 c.op)
  c1 : W.cell? ⟨b3, o3 + 1, none⟩ = some (.string c.dst)
  c5 : W.cell? ⟨b3, o3 + 5, none⟩ = some (.string c.fn)
  c6 : W.cell? ⟨b3, o3 + 6, none⟩ = some (.slice aa c.args.length ac)
  c7 : W.cell? ⟨b3, o3 + 7, none⟩ = some (.slice la c.labels.length lc)
  at_ : InsAt W b3 o3 c
  ra : RdS W (.slice aa c.args.length ac) c.args
  rl : RdS W (.slice la c.labels.length lc) c.labels
  rc : RdE 8 RdIns W (.slice ca x.code.length cc) x.code
theorem InsBox.keep {W W' : World} {S b o b2 o2 b3 o3 f k i : Nat} {x : Blk} {c : Ins} {ca aa la : Option Addr} {cc ac lc : Nat} (h : InsBox W S b o b2 o2 b3 o3 f k i x c ca aa la cc ac lc) (hb : Below W.heap.size W W') : InsBox W' S b o b2 o2 b3 o3 f k i x c ca aa la cc ac lc :=
  ⟨keepC hb h.s0, keepC hb h.s1, keepC hb h.s2, keepC hb h.s3, keepC hb h.s4, keepC hb h.s5, keepC hb h.f1, keepC hb h.c0, keepC hb h.c1, keepC hb h.c5, keepC hb h.c6, keepC hb h.c7, h.at_.below hb, Rd.below h.ra hb, Rd.below h.rl hb, RdE.below (fun _ _ h => h.below hb) h.rc hb⟩
theorem InsBox.mk' {w : World} {f k i : Nat} {d : Fun} {x : Blk} {c : Ins} {vs : Array Value} (h : PrtV w (.ins f k i d x c) vs) : ∃ b o b2 o2 b3 o3 ca aa la cc ac lc, vs = #[.int .i64 f, .int .i64 k, .int .i64 i, .pointer (some ⟨b, o, none⟩), .pointer (some ⟨b2, o2, none⟩), .pointer (some ⟨b3, o3, none⟩)] ∧ InsBox (w.alloc (.cells vs 65)) w.heap.size b o b2 o2 b3 o3 f k i x c ca aa la cc ac lc := by
  obtain ⟨b, o, b2, o2, b3, o3, rfl, hF, hB, hI⟩ := h
  have hb : Below w.heap.size w (w.alloc (.cells #[.int .i64 f, .int .i64 k, .int .i64 i, .pointer (some ⟨b, o, none⟩), .pointer (some ⟨b2, o2, none⟩), .pointer (some ⟨b3, o3, none⟩)] 65)) := (Below.refl _ _).alloc (Nat.le_refl _) _
  obtain ⟨ca, cc, hq, rq⟩ := hB.code
  obtain ⟨aa, ac, la, lc, r1, r2, c0, c1, -, -, -, c5, c6, c7⟩ := hI.cells
  have hN : (w.alloc (.cells #[.int .i64 f, .int .i64 k, .int .i64 i, .pointer (some ⟨b, o, none⟩), .pointer (some ⟨b2, o2, none⟩), .pointer (some ⟨b3, o3, none⟩)] 65)).heap[w.heap.size]? = _ := at_newN rfl
  exact ⟨b, o, b2, o2, b3, o3, ca, aa, la, cc, ac, lc, rfl, by rw [blk_cell hN]; rfl, by rw [blk_cell hN]; rfl, by rw [blk_cell hN]; rfl, by rw [blk_cell hN]; rfl, by rw [blk_cell hN]; rfl, by rw [blk_cell hN]; rfl, keepC hb hq, keepC hb c0, keepC hb c1, keepC hb c5, keepC hb c6, keepC hb c7, hI.below hb, Rd.below r1 hb, Rd.below r2 hb, RdE.below (fun _ _ h => h.below hb) rq hb⟩
theorem box_below (w : World) (o : Obj) : Below w.heap.size w (w.alloc o) := (Below.refl _ _).alloc (Nat.le_refl _) _
end Go.Proofs.YtjblhiekccjdcaaR
