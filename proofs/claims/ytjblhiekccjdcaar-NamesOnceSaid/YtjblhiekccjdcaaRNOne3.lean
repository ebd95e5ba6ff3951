/- names: NamesOnce: boxes, arguments, labels. -/
import Derived.Test.YtjblhiekccjdcaaRNOne2
import Derived.Test.YtjblhiekccjdcaaRFindB
import Derived.Deep.RegionHeld3
namespace Go.Proofs.YtjblhiekccjdcaaR
open Go.RowKit Go.Maps Go.Shelf
attribute [local go_sem] Oper.semAt_some

/-- A function's copy in a box. -/
structure FBx (W : World) (S : Nat) (d : Fun) (ap : Option Addr) (np cp : Nat) (ab : Option Addr) (nb cb : Nat) : Prop where
  f0 : W.cell? ⟨S, 0, none⟩ = some (.string d.name)
  f1 : W.cell? ⟨S, 1, none⟩ = some (.slice ap np cp)
  f2 : W.cell? ⟨S, 2, none⟩ = some (.slice ab nb cb)
  hp : RdS W (.slice ap np cp) d.params
  hb : RdE 2 RdBlk W (.slice ab nb cb) d.blocks
theorem FBx.keep {W W' : World} {S : Nat} {d : Fun} {ap ab : Option Addr} {np cp nb cb : Nat} (h : FBx W S d ap np cp ab nb cb) (hb : Below W.heap.size W W') : FBx W' S d ap np cp ab nb cb :=
  ⟨keepC hb h.f0, keepC hb h.f1, keepC hb h.f2, Rd.below h.hp hb, RdE.below (fun _ _ h => h.below hb) h.hb hb⟩
theorem FBx.np {W : World} {S : Nat} {d : Fun} {ap ab : Option Addr} {np cp nb cb : Nat} (h : FBx W S d ap np cp ab nb cb) : np = d.params.length := by
  obtain ⟨a, k, e⟩ := RdS.shape h.hp
  simp only [Value.slice.injEq] at e
  exact e.2.1
theorem FBx.nb {W : World} {S : Nat} {d : Fun} {ap ab : Option Addr} {np cp nb cb : Nat} (h : FBx W S d ap np cp ab nb cb) : nb = d.blocks.length := by
  obtain ⟨a, k, e⟩ := h.hb.form
  simp only [Value.slice.injEq] at e
  exact e.2.1
/-- An instruction's copy in a box. -/
structure XBx (W : World) (S : Nat) (y : Ins) (aa : Option Addr) (na ca : Nat) (al : Option Addr) (nl cl : Nat) : Prop where
  x0 : W.cell? ⟨S, 0, none⟩ = some (.int .u8 y.op)
  x1 : W.cell? ⟨S, 1, none⟩ = some (.string y.dst)
  x2 : W.cell? ⟨S, 2, none⟩ = some (.string y.a)
  x3 : W.cell? ⟨S, 3, none⟩ = some (.string y.b)
  x5 : W.cell? ⟨S, 5, none⟩ = some (.string y.fn)
  x6 : W.cell? ⟨S, 6, none⟩ = some (.slice aa na ca)
  x7 : W.cell? ⟨S, 7, none⟩ = some (.slice al nl cl)
  ra : RdS W (.slice aa na ca) y.args
  rl : RdS W (.slice al nl cl) y.labels
theorem XBx.keep {W W' : World} {S : Nat} {y : Ins} {aa al : Option Addr} {na ca nl cl : Nat} (h : XBx W S y aa na ca al nl cl) (hb : Below W.heap.size W W') : XBx W' S y aa na ca al nl cl :=
  ⟨keepC hb h.x0, keepC hb h.x1, keepC hb h.x2, keepC hb h.x3, keepC hb h.x5, keepC hb h.x6, keepC hb h.x7, Rd.below h.ra hb, Rd.below h.rl hb⟩
theorem XBx.na {W : World} {S : Nat} {y : Ins} {aa al : Option Addr} {na ca nl cl : Nat} (h : XBx W S y aa na ca al nl cl) : na = y.args.length := by
  obtain ⟨a, k, e⟩ := RdS.shape h.ra
  simp only [Value.slice.injEq] at e
  exact e.2.1
theorem XBx.nl {W : World} {S : Nat} {y : Ins} {aa al : Option Addr} {na ca nl cl : Nat} (h : XBx W S y aa na ca al nl cl) : nl = y.labels.length := by
  obtain ⟨a, k, e⟩ := RdS.shape h.rl
  simp only [Value.slice.injEq] at e
  exact e.2.1
theorem FBx.used {W : World} {S : Nat} {d : Fun} {ap ab : Option Addr} {np cp nb cb : Nat} (h : FBx W S d ap np cp ab nb cb) (hd : LightF d) {s : ByteArray} (hs : okU d s) : Calls Try.prog 16 #[.agg #[.string d.name, .slice ap np cp, .slice ab nb cb], .string s] W fun e w' => e = .returned (.bool true) ∧ Below W.heap.size W w' := used_ok hd h.hp h.hb hs
theorem FBx.blocks {W : World} {S : Nat} {d : Fun} {ap ab : Option Addr} {np cp nb cb : Nat} (h : FBx W S d ap np cp ab nb cb) (hd : LightF d) {s : ByteArray} (hs : lblC d s = 1) : Calls Try.prog 14 #[.agg #[.string d.name, .slice ap np cp, .slice ab nb cb], .string s] W fun e w' => e = .returned (.int .i64 1) ∧ Below W.heap.size W w' := by
  have := blocks_any (d := d) (by have := hd.2.1; omega) h.hb (vp := .slice ap np cp) ⟨_, _, _, rfl⟩ s
  rwa [hs] at this
theorem FBx.defs {W : World} {S : Nat} {d : Fun} {ap ab : Option Addr} {np cp nb cb : Nat} (h : FBx W S d ap np cp ab nb cb) (hd : LightF d) {s : ByteArray} (hs : defN d s = 1) : Calls Try.prog 15 #[.agg #[.string d.name, .slice ap np cp, .slice ab nb cb], .string s] W fun e w' => e = .returned (.int .i64 1) ∧ Below W.heap.size W w' := by
  have := defs_any hd h.hp h.hb s
  rwa [hs] at this
set_option maxRecDepth 20000 in
set_option maxHeartbeats 2000000 in
theorem once8 {c : Code} (hc : Func.blockOf Try.f4 8 = some c) {Q : Exit → Act → World → Prop} {w : World} {Sd Sx : Nat} {d : Fun} {y : Ins} {ap ab aa al : Option Addr} {np cp nb cb na ca nl cl : Nat} {u0 u1 u2 u3 u4 u5 u6 u7 u8 u9 u10 u12 u13 u14 u16 u18 u19 u20 u21 u22 u23 u24 u25 u26 u27 u28 u29 u30 u31 u32 u33 u34 u35 u36 u37 u38 u39 u40 u41 u42 u43 u44 u45 u46 u47 u48 u49 u50 u51 u52 u53 u54 u55 u56 u57 u58 u59 u60 u61 u62 u63 u64 u65 u66 u67 u68 u69 u70 u71 u72 u73 u74 u75 u76 u77 u78 u79 u80 u81 u82 u83 u84 u85 u86 u87 u88 u89 u90 u91 u92 u93 u94 u95 u96 u97 u98 u99 u100 u101 u102 u103 u104 u105 u106 u107 u108 u109 u110 u111 u112 u113 u114 u115 u116 u117 u118 u119 u120 u121 u122 u123 u124 u125 u126 u127 u128 u129 u130 u131 u132 u133 u134 u135 u136 u137 u138 u139 u140 u141 u142 u143 u144 u145 u146 u147 u148 u149 u150 u151 u152 u153 u154 u155 u156 u157 u158 u159 u160 u161 u162 u163 u164 u165 u166 u167 u168 u169 u170 u171 u172 u173 u174 u175 u176 u177 u178 u179 u180 u181 u182 u183 u184 u185 u186 u187 u188 u189 u190 u191 u192 u193 u194 u195 u196 u197 u198 u199 u200 u201 u202 u203 u204 u205 u206 u207 u208 u209 u210 u211 u212 u213 u214 u215 u216 u217 u218 u219 u220 u221 u222 u223 u224 u225 u226 u227 u228 u229 u230 u231 u232 u233 u234 u235 u236 u237 u238 u239 u240 u241 u242 u243 u244 u245 u246 u247 u248 u249 u250 u251 u252 u253 u254 u255 u256 u257 u258 u259 u260 u261 u262 u263 : Value}
    (hf : FBx w Sd d ap np cp ab nb cb) (hx : XBx w Sx y aa na ca al nl cl) (hd : LightF d) (hPn : ∀ {x} {a a1 : Act} {w1 : World}, Q (.panic x) a w1 → a.defers = a1.defers → Q (.panic x) a1 w1) (hU : ∀ s ∈ y.args, okU d s ∧ s.toList.isEmpty = false) (hna : y.args.length ≤ 1000000)
    (hQ : Hid (∀ {wx : World} {v2 v17 v178 v179 v180 v181 v182 v183 v184 v185 v186 v187 v188 v189 v190 v191 v192 v193 v194 v195 v196 v197 v198 v199 v200 : Value}, Below w.heap.size w wx → Q .normal { tmps := #[u0, u1, v2, u3, u4, u5, u6, u7, u8, u9, u10, .pointer (some ⟨Sd, 0, none⟩), u12, u13, u14, .pointer (some ⟨Sx, 0, none⟩), u16, v17, u18, u19, u20, u21, u22, u23, u24, u25, u26, u27, u28, u29, u30, u31, u32, u33, u34, u35, u36, u37, u38, u39, u40, u41, u42, u43, u44, u45, u46, u47, u48, u49, u50, u51, u52, u53, u54, u55, u56, u57, u58, u59, u60, u61, u62, u63, u64, u65, u66, u67, u68, u69, u70, u71, u72, u73, u74, u75, u76, u77, u78, u79, u80, u81, u82, u83, u84, u85, u86, u87, u88, u89, u90, u91, u92, u93, u94, u95, u96, u97, u98, u99, u100, u101, u102, u103, u104, u105, u106, u107, u108, u109, u110, u111, u112, u113, u114, u115, u116, u117, u118, u119, u120, u121, u122, u123, u124, u125, u126, u127, u128, u129, u130, u131, u132, u133, u134, u135, u136, u137, u138, u139, u140, u141, u142, u143, u144, u145, u146, u147, u148, u149, u150, u151, u152, u153, u154, u155, u156, u157, u158, u159, u160, u161, u162, u163, u164, u165, u166, u167, u168, u169, u170, u171, u172, u173, u174, u175, u176, u177, v178, v179, v180, v181, v182, v183, v184, v185, v186, v187, v188, v189, v190, v191, v192, v193, v194, v195, v196, v197, v198, v199, v200, u201, u202, u203, u204, u205, u206, u207, u208, u209, u210, u211, u212, u213, u214, u215, u216, u217, u218, u219, u220, u221, u222, u223, u224, u225, u226, u227, u228, u229, u230, u231, u232, u233, u234, u235, u236, u237, u238, u239, u240, u241, u242, u243, u244, u245, u246, u247, u248, u249, u250, u251, u252, u253, u254, u255, u256, u257, u258, u259, u260, u261, u262, u263], defers := [] } wx)) :
    c.wp Try.prog Q { tmps := #[u0, u1, u2, u3, u4, u5, u6, u7, u8, u9, u10, .pointer (some ⟨Sd, 0, none⟩), u12, u13, u14, .pointer (some ⟨Sx, 0, none⟩), u16, .int .i64 0, u18, u19, u20, u21, u22, u23, u24, u25, u26, u27, u28, u29, u30, u31, u32, u33, u34, u35, u36, u37, u38, u39, u40, u41, u42, u43, u44, u45, u46, u47, u48, u49, u50, u51, u52, u53, u54, u55, u56, u57, u58, u59, u60, u61, u62, u63, u64, u65, u66, u67, u68, u69, u70, u71, u72, u73, u74, u75, u76, u77, u78, u79, u80, u81, u82, u83, u84, u85, u86, u87, u88, u89, u90, u91, u92, u93, u94, u95, u96, u97, u98, u99, u100, u101, u102, u103, u104, u105, u106, u107, u108, u109, u110, u111, u112, u113, u114, u115, u116, u117, u118, u119, u120, u121, u122, u123, u124, u125, u126, u127, u128, u129, u130, u131, u132, u133, u134, u135, u136, u137, u138, u139, u140, u141, u142, u143, u144, u145, u146, u147, u148, u149, u150, u151, u152, u153, u154, u155, u156, u157, u158, u159, u160, u161, u162, u163, u164, u165, u166, u167, u168, u169, u170, u171, u172, u173, u174, u175, u176, u177, u178, u179, u180, u181, u182, u183, u184, u185, u186, u187, u188, u189, u190, u191, u192, u193, u194, u195, u196, u197, u198, u199, u200, u201, u202, u203, u204, u205, u206, u207, u208, u209, u210, u211, u212, u213, u214, u215, u216, u217, u218, u219, u220, u221, u222, u223, u224, u225, u226, u227, u228, u229, u230, u231, u232, u233, u234, u235, u236, u237, u238, u239, u240, u241, u242, u243, u244, u245, u246, u247, u248, u249, u250, u251, u252, u253, u254, u255, u256, u257, u258, u259, u260, u261, u262, u263], defers := [] } w := by
  conv at hc => lhs; whnf
  simp only [Option.some.injEq] at hc
  subst hc
  have hnm : na ≤ 1000000 := by rw [hx.na]; exact hna
  have hn8 := Lib.hid hx.na
  replace hf := Lib.hid hf
  replace hx := Lib.hid hx
  replace hU := Lib.hid hU
  replace hd := Lib.hid hd
  go_wp2_with fail
  go_loopw [17] (fun i wr => ∃ k : Nat, k ≤ na ∧ i = .int .i64 k ∧ Hid (Below w.heap.size w wr)) (fun i _ => na - (intOf i).toNat)
  case atStart => exact ⟨0, Nat.zero_le _, rfl, Lib.hid (Below.refl _ _)⟩
  case round =>
    obtain ⟨k, hk, rfl, hB⟩ := hrel
    have hx2 := hx.out.keep hB.out
    have hf2 := hf.out.keep hB.out
    have x6 := hx2.x6
    by_cases hlt : k < na
    · have j1 : decide ((k : Int) < (na : Int)) = true := by simpa using hlt
      have j2 : (k : Int) < (na : Int) := by omega
      obtain ⟨s, hs⟩ : ∃ s, y.args[k]? = some s := ⟨_, List.getElem?_eq_getElem (by rw [← hn8.out]; exact hlt)⟩
      obtain ⟨ga, oa, ca', e, hcl⟩ := RdS.cell hx2.ra hs
      rw [← hn8.out] at e
      simp only [Value.slice.injEq] at e
      obtain ⟨rfl, -, rfl⟩ := e
      have hsm := hU.out s (List.mem_of_getElem? hs)
      have hse := hsm.2
      have hud := Lib.hid (fun w' (hb : Below wr.heap.size wr w') => (hf2.keep hb).used hd.out hsm.1)
      have hC : wr.drew.cell? ⟨Sd, 0, none⟩ = some (.string d.name) ∧ wr.drew.cell? ⟨Sd, 1, none⟩ = some (.slice ap np cp) ∧ wr.drew.cell? ⟨Sd, 2, none⟩ = some (.slice ab nb cb) ∧ wr.drew.cell? ⟨Sx, 6, none⟩ = some (.slice (some ⟨ga, oa, none⟩) na ca) ∧ wr.drew.cell? ⟨ga, oa + k, none⟩ = some (.string s) := ⟨hf2.f0, hf2.f1, hf2.f2, x6, hcl⟩
      have hb0 : Hid (Below wr.heap.size wr wr.drew) := Lib.hid (Below.refl _ _).drew
      replace hB := Lib.hid (hB.out.drew)
      clear hf2 hx2 hs hsm hcl
      go_upto_region 40 with fail
      clear x6
      refine wp_region_held_drew (S := (fun w' => w'.cell? ⟨Sd, 0, none⟩ = some (.string d.name) ∧ w'.cell? ⟨Sd, 1, none⟩ = some (.slice ap np cp) ∧ w'.cell? ⟨Sd, 2, none⟩ = some (.slice ab nb cb) ∧ w'.cell? ⟨Sx, 6, none⟩ = some (.slice (some ⟨ga, oa, none⟩) na ca) ∧ w'.cell? ⟨ga, oa + k, none⟩ = some (.string s))) (by kernel_rfl) hC (fun hHeld => ?_)
      clear hHeld
      refine wpAnyH_take (i := 0) (oi := (Oper.mk (some 185) (Op.load 39 (Operand.tmp 11)) 39 "outright.go:50" #[] none)) (v := ?_) rfl (by kernel_rfl) (by kernel_rfl) (by kernel_rfl) (fun _ _ _ h => hPn h rfl) (Or.inl ⟨by rfl, ?_⟩) hC ?_
      rotate_left
      · (intro w hSw; (try dsimp only at hSw); go_simp; try with_reducible rfl)
      try simp only [Act.put, List.setIfInBounds_toArray, List.set_cons_zero, List.set_cons_succ]
      refine wpAnyH_take (i := 1) (oi := (Oper.mk (some 186) (Op.fieldAddr 47 (Operand.tmp 15) 6) 0 "outright.go:50" #[] none)) (v := ?_) rfl (by kernel_rfl) (by kernel_rfl) (by kernel_rfl) (fun _ _ _ h => hPn h rfl) (Or.inl ⟨by rfl, ?_⟩) hC ?_
      rotate_left
      · (intro w hSw; (try dsimp only at hSw); go_simp; try with_reducible rfl)
      try simp only [Act.put, List.setIfInBounds_toArray, List.set_cons_zero, List.set_cons_succ]
      refine wpAnyH_take (i := 2) (oi := (Oper.mk (some 187) (Op.load 36 (Operand.tmp 186)) 36 "outright.go:50" #[(Edge.mk 1 Ground.data)] none)) (v := ?_) rfl (by kernel_rfl) (by kernel_rfl) (by kernel_rfl) (fun _ _ _ h => hPn h rfl) (Or.inl ⟨by rfl, ?_⟩) hC ?_
      rotate_left
      · (intro w hSw; (try dsimp only at hSw); go_simp; try with_reducible rfl)
      try simp only [Act.put, List.setIfInBounds_toArray, List.set_cons_zero, List.set_cons_succ]
      refine wpAnyH_take (i := 3) (oi := (Oper.mk (some 188) (Op.move (Operand.tmp 17)) 3 "outright.go:50" #[] none)) (v := ?_) rfl (by kernel_rfl) (by kernel_rfl) (by kernel_rfl) (fun _ _ _ h => hPn h rfl) (Or.inl ⟨by rfl, ?_⟩) hC ?_
      rotate_left
      · (intro w hSw; (try dsimp only at hSw); go_simp; try with_reducible rfl)
      try simp only [Act.put, List.setIfInBounds_toArray, List.set_cons_zero, List.set_cons_succ]
      refine wpAnyH_take (i := 4) (oi := (Oper.mk (some 189) (Op.indexAddr 36 (Operand.tmp 187) (Operand.tmp 188)) 0 "outright.go:50" #[(Edge.mk 2 Ground.data), (Edge.mk 3 Ground.data)] none)) (v := ?_) rfl (by kernel_rfl) (by kernel_rfl) (by kernel_rfl) (fun _ _ _ h => hPn h rfl) (Or.inl ⟨by rfl, ?_⟩) hC ?_
      rotate_left
      · (intro w hSw; (try dsimp only at hSw); go_simp; try with_reducible rfl)
      try simp only [Act.put, List.setIfInBounds_toArray, List.set_cons_zero, List.set_cons_succ]
      refine wpAnyH_take (i := 5) (oi := (Oper.mk (some 190) (Op.load 9 (Operand.tmp 189)) 9 "outright.go:50" #[(Edge.mk 4 Ground.data)] none)) (v := ?_) rfl (by kernel_rfl) (by kernel_rfl) (by kernel_rfl) (fun _ _ _ h => hPn h rfl) (Or.inl ⟨by rfl, ?_⟩) hC ?_
      rotate_left
      · (intro w hSw; (try dsimp only at hSw); go_simp; try with_reducible rfl)
      try simp only [Act.put, List.setIfInBounds_toArray, List.set_cons_zero, List.set_cons_succ]
      refine wpAnyH_ready (rs := [6]) (by kernel_rfl) (by simp) (AllReadyH.cons (o := (Oper.mk (some 191) (Op.call (Call.mk (Callee.value (Operand.func 16)) #[(Operand.tmp 185), (Operand.tmp 190)] #[39, 9])) 4 "outright.go:50" #[(Edge.mk 0 Ground.data), (Edge.mk 5 Ground.data)] none)) rfl (fun K hK => ?_) AllReadyH.nil)
      go_simp
      (go_at_call 16; refine (hud.out _ hb0.out).mono ?_; rintro e w3 ⟨rfl, hb3⟩; replace hC : w3.cell? ⟨Sd, 0, none⟩ = some (.string d.name) ∧ w3.cell? ⟨Sd, 1, none⟩ = some (.slice ap np cp) ∧ w3.cell? ⟨Sd, 2, none⟩ = some (.slice ab nb cb) ∧ w3.cell? ⟨Sx, 6, none⟩ = some (.slice (some ⟨ga, oa, none⟩) na ca) ∧ w3.cell? ⟨ga, oa + k, none⟩ = some (.string s) := ⟨keepC hb3 hC.1, keepC hb3 hC.2.1, keepC hb3 hC.2.2.1, keepC hb3 hC.2.2.2.1, keepC hb3 hC.2.2.2.2⟩; replace hB := Lib.hid (hB.out.trans (hb3.mono hB.out.size)))
      refine hK.out _ _ hC (fun hHeld => ?_)
      clear hK K hHeld
      try simp only [Act.put, List.setIfInBounds_toArray, List.set_cons_zero, List.set_cons_succ]
      refine wpAnyH_take (i := 7) (oi := (Oper.mk (some 192) (Op.unOp UnOp.not 4 (Operand.tmp 191)) 4 "outright.go:50" #[(Edge.mk 6 Ground.data)] none)) (v := ?_) rfl (by kernel_rfl) (by kernel_rfl) (by kernel_rfl) (fun _ _ _ h => hPn h rfl) (Or.inl ⟨by rfl, ?_⟩) hC ?_
      rotate_left
      · (intro w hSw; (try dsimp only at hSw); go_simp; try with_reducible rfl)
      try simp only [Act.put, List.setIfInBounds_toArray, List.set_cons_zero, List.set_cons_succ]
      refine wpAnyH_take (i := 8) (oi := (Oper.mk (some 193) (Op.move (Operand.tmp 192)) 4 "outright.go:50" #[(Edge.mk 7 Ground.data), (Edge.mk 6 Ground.chain)] none)) (v := ?_) rfl (by kernel_rfl) (by kernel_rfl) (by kernel_rfl) (fun _ _ _ h => hPn h rfl) (Or.inl ⟨by rfl, ?_⟩) hC ?_
      rotate_left
      · (intro w hSw; (try dsimp only at hSw); go_simp; try with_reducible rfl)
      try simp only [Act.put, List.setIfInBounds_toArray, List.set_cons_zero, List.set_cons_succ]
      refine wpAnyH_take (i := 9) (oi := (Oper.mk (some 194) (Op.fieldAddr 47 (Operand.tmp 15) 6) 0 "outright.go:50" #[(Edge.mk 8 Ground.guard)] (some (8, false)))) (v := ?_) rfl (by kernel_rfl) (by kernel_rfl) (by kernel_rfl) (fun _ _ _ h => hPn h rfl) (Or.inl ⟨by rfl, ?_⟩) hC ?_
      rotate_left
      · (intro w hSw; (try dsimp only at hSw); go_simp; try with_reducible rfl)
      try simp only [Act.put, List.setIfInBounds_toArray, List.set_cons_zero, List.set_cons_succ]
      refine wpAnyH_take (i := 10) (oi := (Oper.mk (some 195) (Op.load 36 (Operand.tmp 194)) 36 "outright.go:50" #[(Edge.mk 9 Ground.data), (Edge.mk 8 Ground.guard)] (some (8, false)))) (v := ?_) rfl (by kernel_rfl) (by kernel_rfl) (by kernel_rfl) (fun _ _ _ h => hPn h rfl) (Or.inl ⟨by rfl, ?_⟩) hC ?_
      rotate_left
      · (intro w hSw; (try dsimp only at hSw); go_simp; try with_reducible rfl)
      try simp only [Act.put, List.setIfInBounds_toArray, List.set_cons_zero, List.set_cons_succ]
      refine wpAnyH_take (i := 11) (oi := (Oper.mk (some 196) (Op.move (Operand.tmp 17)) 3 "outright.go:50" #[(Edge.mk 8 Ground.guard)] (some (8, false)))) (v := ?_) rfl (by kernel_rfl) (by kernel_rfl) (by kernel_rfl) (fun _ _ _ h => hPn h rfl) (Or.inl ⟨by rfl, ?_⟩) hC ?_
      rotate_left
      · (intro w hSw; (try dsimp only at hSw); go_simp; try with_reducible rfl)
      try simp only [Act.put, List.setIfInBounds_toArray, List.set_cons_zero, List.set_cons_succ]
      refine wpAnyH_take (i := 12) (oi := (Oper.mk (some 197) (Op.indexAddr 36 (Operand.tmp 195) (Operand.tmp 196)) 0 "outright.go:50" #[(Edge.mk 10 Ground.data), (Edge.mk 11 Ground.data), (Edge.mk 8 Ground.guard)] (some (8, false)))) (v := ?_) rfl (by kernel_rfl) (by kernel_rfl) (by kernel_rfl) (fun _ _ _ h => hPn h rfl) (Or.inl ⟨by rfl, ?_⟩) hC ?_
      rotate_left
      · (intro w hSw; (try dsimp only at hSw); go_simp; try with_reducible rfl)
      try simp only [Act.put, List.setIfInBounds_toArray, List.set_cons_zero, List.set_cons_succ]
      refine wpAnyH_take (i := 13) (oi := (Oper.mk (some 198) (Op.load 9 (Operand.tmp 197)) 9 "outright.go:50" #[(Edge.mk 12 Ground.data), (Edge.mk 8 Ground.guard)] (some (8, false)))) (v := ?_) rfl (by kernel_rfl) (by kernel_rfl) (by kernel_rfl) (fun _ _ _ h => hPn h rfl) (Or.inl ⟨by rfl, ?_⟩) hC ?_
      rotate_left
      · (intro w hSw; (try dsimp only at hSw); go_simp; try with_reducible rfl)
      try simp only [Act.put, List.setIfInBounds_toArray, List.set_cons_zero, List.set_cons_succ]
      refine wpAnyH_take (i := 14) (oi := (Oper.mk (some 199) (Op.binOp BinOp.eql 9 (Operand.tmp 198) (Operand.const (Value.string (ByteArray.mk #[]))) 9) 4 "outright.go:50" #[(Edge.mk 13 Ground.data), (Edge.mk 8 Ground.guard)] (some (8, false)))) (v := ?_) rfl (by kernel_rfl) (by kernel_rfl) (by kernel_rfl) (fun _ _ _ h => hPn h rfl) (Or.inl ⟨by rfl, ?_⟩) hC ?_
      rotate_left
      · (intro w hSw; (try dsimp only at hSw); go_simp; try with_reducible rfl)
      try simp only [Act.put, List.setIfInBounds_toArray, List.set_cons_zero, List.set_cons_succ]
      refine wpAnyH_take (i := 15) (oi := (Oper.mk (some 200) (Op.pick (Operand.tmp 193) (Operand.const (Value.bool true)) (Operand.tmp 199)) 4 "outright.go:50" #[(Edge.mk 8 Ground.data), (Edge.mk 14 Ground.data)] none)) (v := ?_) rfl (by kernel_rfl) (by kernel_rfl) (by kernel_rfl) (fun _ _ _ h => hPn h rfl) (Or.inl ⟨by rfl, ?_⟩) hC ?_
      rotate_left
      · (intro w hSw; (try dsimp only at hSw); go_simp; try with_reducible rfl)
      try simp only [Act.put, List.setIfInBounds_toArray, List.set_cons_zero, List.set_cons_succ]
      refine wpAnyH_done (by kernel_rfl) ?_ _
      go_wp2_with fail
      go_round
      case rel => exact ⟨k + 1, by omega, by go_num, hB⟩
      case measure => simp [intOf]; omega
    · obtain rfl : k = na := by omega
      have j1 : decide ((k : Int) < (k : Int)) = false := by simp
      clear hf2 hx2
      go_wp2_with fail
      exact hQ.out hB.out

set_option maxRecDepth 20000 in
set_option maxHeartbeats 2000000 in
theorem once10 {c : Code} (hc : Func.blockOf Try.f4 10 = some c) {Q : Exit → Act → World → Prop} {w : World} {Sd Sx : Nat} {d : Fun} {y : Ins} {ap ab aa al : Option Addr} {np cp nb cb na ca nl cl : Nat} {u0 u1 u2 u3 u4 u5 u6 u7 u8 u9 u10 u12 u13 u14 u16 u17 u19 u20 u21 u22 u23 u24 u25 u26 u27 u28 u29 u30 u31 u32 u33 u34 u35 u36 u37 u38 u39 u40 u41 u42 u43 u44 u45 u46 u47 u48 u49 u50 u51 u52 u53 u54 u55 u56 u57 u58 u59 u60 u61 u62 u63 u64 u65 u66 u67 u68 u69 u70 u71 u72 u73 u74 u75 u76 u77 u78 u79 u80 u81 u82 u83 u84 u85 u86 u87 u88 u89 u90 u91 u92 u93 u94 u95 u96 u97 u98 u99 u100 u101 u102 u103 u104 u105 u106 u107 u108 u109 u110 u111 u112 u113 u114 u115 u116 u117 u118 u119 u120 u121 u122 u123 u124 u125 u126 u127 u128 u129 u130 u131 u132 u133 u134 u135 u136 u137 u138 u139 u140 u141 u142 u143 u144 u145 u146 u147 u148 u149 u150 u151 u152 u153 u154 u155 u156 u157 u158 u159 u160 u161 u162 u163 u164 u165 u166 u167 u168 u169 u170 u171 u172 u173 u174 u175 u176 u177 u178 u179 u180 u181 u182 u183 u184 u185 u186 u187 u188 u189 u190 u191 u192 u193 u194 u195 u196 u197 u198 u199 u200 u201 u202 u203 u204 u205 u206 u207 u208 u209 u210 u211 u212 u213 u214 u215 u216 u217 u218 u219 u220 u221 u222 u223 u224 u225 u226 u227 u228 u229 u230 u231 u232 u233 u234 u235 u236 u237 u238 u239 u240 u241 u242 u243 u244 u245 u246 u247 u248 u249 u250 u251 u252 u253 u254 u255 u256 u257 u258 u259 u260 u261 u262 u263 : Value}
    (hf : FBx w Sd d ap np cp ab nb cb) (hx : XBx w Sx y aa na ca al nl cl) (hd : LightF d) (hPn : ∀ {x} {a a1 : Act} {w1 : World}, Q (.panic x) a w1 → a.defers = a1.defers → Q (.panic x) a1 w1) (hU : ∀ s ∈ y.labels, lblC d s = 1) (hna : y.labels.length ≤ 1000000)
    (hQ : Hid (∀ {wx : World} {v2 v18 v201 v202 v203 v204 v205 v206 v207 v208 v209 v210 v211 v212 v213 v214 v215 : Value}, Below w.heap.size w wx → Q .normal { tmps := #[u0, u1, v2, u3, u4, u5, u6, u7, u8, u9, u10, .pointer (some ⟨Sd, 0, none⟩), u12, u13, u14, .pointer (some ⟨Sx, 0, none⟩), u16, u17, v18, u19, u20, u21, u22, u23, u24, u25, u26, u27, u28, u29, u30, u31, u32, u33, u34, u35, u36, u37, u38, u39, u40, u41, u42, u43, u44, u45, u46, u47, u48, u49, u50, u51, u52, u53, u54, u55, u56, u57, u58, u59, u60, u61, u62, u63, u64, u65, u66, u67, u68, u69, u70, u71, u72, u73, u74, u75, u76, u77, u78, u79, u80, u81, u82, u83, u84, u85, u86, u87, u88, u89, u90, u91, u92, u93, u94, u95, u96, u97, u98, u99, u100, u101, u102, u103, u104, u105, u106, u107, u108, u109, u110, u111, u112, u113, u114, u115, u116, u117, u118, u119, u120, u121, u122, u123, u124, u125, u126, u127, u128, u129, u130, u131, u132, u133, u134, u135, u136, u137, u138, u139, u140, u141, u142, u143, u144, u145, u146, u147, u148, u149, u150, u151, u152, u153, u154, u155, u156, u157, u158, u159, u160, u161, u162, u163, u164, u165, u166, u167, u168, u169, u170, u171, u172, u173, u174, u175, u176, u177, u178, u179, u180, u181, u182, u183, u184, u185, u186, u187, u188, u189, u190, u191, u192, u193, u194, u195, u196, u197, u198, u199, u200, v201, v202, v203, v204, v205, v206, v207, v208, v209, v210, v211, v212, v213, v214, v215, u216, u217, u218, u219, u220, u221, u222, u223, u224, u225, u226, u227, u228, u229, u230, u231, u232, u233, u234, u235, u236, u237, u238, u239, u240, u241, u242, u243, u244, u245, u246, u247, u248, u249, u250, u251, u252, u253, u254, u255, u256, u257, u258, u259, u260, u261, u262, u263], defers := [] } wx)) :
    c.wp Try.prog Q { tmps := #[u0, u1, u2, u3, u4, u5, u6, u7, u8, u9, u10, .pointer (some ⟨Sd, 0, none⟩), u12, u13, u14, .pointer (some ⟨Sx, 0, none⟩), u16, u17, .int .i64 0, u19, u20, u21, u22, u23, u24, u25, u26, u27, u28, u29, u30, u31, u32, u33, u34, u35, u36, u37, u38, u39, u40, u41, u42, u43, u44, u45, u46, u47, u48, u49, u50, u51, u52, u53, u54, u55, u56, u57, u58, u59, u60, u61, u62, u63, u64, u65, u66, u67, u68, u69, u70, u71, u72, u73, u74, u75, u76, u77, u78, u79, u80, u81, u82, u83, u84, u85, u86, u87, u88, u89, u90, u91, u92, u93, u94, u95, u96, u97, u98, u99, u100, u101, u102, u103, u104, u105, u106, u107, u108, u109, u110, u111, u112, u113, u114, u115, u116, u117, u118, u119, u120, u121, u122, u123, u124, u125, u126, u127, u128, u129, u130, u131, u132, u133, u134, u135, u136, u137, u138, u139, u140, u141, u142, u143, u144, u145, u146, u147, u148, u149, u150, u151, u152, u153, u154, u155, u156, u157, u158, u159, u160, u161, u162, u163, u164, u165, u166, u167, u168, u169, u170, u171, u172, u173, u174, u175, u176, u177, u178, u179, u180, u181, u182, u183, u184, u185, u186, u187, u188, u189, u190, u191, u192, u193, u194, u195, u196, u197, u198, u199, u200, u201, u202, u203, u204, u205, u206, u207, u208, u209, u210, u211, u212, u213, u214, u215, u216, u217, u218, u219, u220, u221, u222, u223, u224, u225, u226, u227, u228, u229, u230, u231, u232, u233, u234, u235, u236, u237, u238, u239, u240, u241, u242, u243, u244, u245, u246, u247, u248, u249, u250, u251, u252, u253, u254, u255, u256, u257, u258, u259, u260, u261, u262, u263], defers := [] } w := by
  conv at hc => lhs; whnf
  simp only [Option.some.injEq] at hc
  subst hc
  have hnm : nl ≤ 1000000 := by rw [hx.nl]; exact hna
  have hn8 := Lib.hid hx.nl
  replace hf := Lib.hid hf
  replace hx := Lib.hid hx
  replace hU := Lib.hid hU
  replace hd := Lib.hid hd
  go_wp2_with fail
  go_loopw [18] (fun i wr => ∃ k : Nat, k ≤ nl ∧ i = .int .i64 k ∧ Hid (Below w.heap.size w wr)) (fun i _ => nl - (intOf i).toNat)
  case atStart => exact ⟨0, Nat.zero_le _, rfl, Lib.hid (Below.refl _ _)⟩
  case round =>
    obtain ⟨k, hk, rfl, hB⟩ := hrel
    have hx2 := hx.out.keep hB.out
    have hf2 := hf.out.keep hB.out
    have x6 := hx2.x7
    by_cases hlt : k < nl
    · have j1 : decide ((k : Int) < (nl : Int)) = true := by simpa using hlt
      have j2 : (k : Int) < (nl : Int) := by omega
      obtain ⟨s, hs⟩ : ∃ s, y.labels[k]? = some s := ⟨_, List.getElem?_eq_getElem (by rw [← hn8.out]; exact hlt)⟩
      obtain ⟨ga, oa, ca', e, hcl⟩ := RdS.cell hx2.rl hs
      rw [← hn8.out] at e
      simp only [Value.slice.injEq] at e
      obtain ⟨rfl, -, rfl⟩ := e
      have hsm := hU.out s (List.mem_of_getElem? hs)
      have hud := Lib.hid (fun w' (hb : Below wr.heap.size wr w') => (hf2.keep hb).blocks hd.out hsm)
      have hC : wr.drew.cell? ⟨Sd, 0, none⟩ = some (.string d.name) ∧ wr.drew.cell? ⟨Sd, 1, none⟩ = some (.slice ap np cp) ∧ wr.drew.cell? ⟨Sd, 2, none⟩ = some (.slice ab nb cb) ∧ wr.drew.cell? ⟨Sx, 7, none⟩ = some (.slice (some ⟨ga, oa, none⟩) nl cl) ∧ wr.drew.cell? ⟨ga, oa + k, none⟩ = some (.string s) := ⟨hf2.f0, hf2.f1, hf2.f2, x6, hcl⟩
      have hb0 : Hid (Below wr.heap.size wr wr.drew) := Lib.hid (Below.refl _ _).drew
      replace hB := Lib.hid (hB.out.drew)
      clear hf2 hx2 hs hsm hcl
      go_upto_region 45 with fail
      clear x6
      refine wp_region_held_drew (S := (fun w' => w'.cell? ⟨Sd, 0, none⟩ = some (.string d.name) ∧ w'.cell? ⟨Sd, 1, none⟩ = some (.slice ap np cp) ∧ w'.cell? ⟨Sd, 2, none⟩ = some (.slice ab nb cb) ∧ w'.cell? ⟨Sx, 7, none⟩ = some (.slice (some ⟨ga, oa, none⟩) nl cl) ∧ w'.cell? ⟨ga, oa + k, none⟩ = some (.string s))) (by kernel_rfl) hC (fun hHeld => ?_)
      clear hHeld
      refine wpAnyH_take (i := 0) (oi := (Oper.mk (some 208) (Op.load 39 (Operand.tmp 11)) 39 "outright.go:55" #[] none)) (v := ?_) rfl (by kernel_rfl) (by kernel_rfl) (by kernel_rfl) (fun _ _ _ h => hPn h rfl) (Or.inl ⟨by rfl, ?_⟩) hC ?_
      rotate_left
      · (intro w hSw; (try dsimp only at hSw); go_simp; try with_reducible rfl)
      try simp only [Act.put, List.setIfInBounds_toArray, List.set_cons_zero, List.set_cons_succ]
      refine wpAnyH_take (i := 1) (oi := (Oper.mk (some 209) (Op.fieldAddr 47 (Operand.tmp 15) 7) 0 "outright.go:55" #[] none)) (v := ?_) rfl (by kernel_rfl) (by kernel_rfl) (by kernel_rfl) (fun _ _ _ h => hPn h rfl) (Or.inl ⟨by rfl, ?_⟩) hC ?_
      rotate_left
      · (intro w hSw; (try dsimp only at hSw); go_simp; try with_reducible rfl)
      try simp only [Act.put, List.setIfInBounds_toArray, List.set_cons_zero, List.set_cons_succ]
      refine wpAnyH_take (i := 2) (oi := (Oper.mk (some 210) (Op.load 36 (Operand.tmp 209)) 36 "outright.go:55" #[(Edge.mk 1 Ground.data)] none)) (v := ?_) rfl (by kernel_rfl) (by kernel_rfl) (by kernel_rfl) (fun _ _ _ h => hPn h rfl) (Or.inl ⟨by rfl, ?_⟩) hC ?_
      rotate_left
      · (intro w hSw; (try dsimp only at hSw); go_simp; try with_reducible rfl)
      try simp only [Act.put, List.setIfInBounds_toArray, List.set_cons_zero, List.set_cons_succ]
      refine wpAnyH_take (i := 3) (oi := (Oper.mk (some 211) (Op.move (Operand.tmp 18)) 3 "outright.go:55" #[] none)) (v := ?_) rfl (by kernel_rfl) (by kernel_rfl) (by kernel_rfl) (fun _ _ _ h => hPn h rfl) (Or.inl ⟨by rfl, ?_⟩) hC ?_
      rotate_left
      · (intro w hSw; (try dsimp only at hSw); go_simp; try with_reducible rfl)
      try simp only [Act.put, List.setIfInBounds_toArray, List.set_cons_zero, List.set_cons_succ]
      refine wpAnyH_take (i := 4) (oi := (Oper.mk (some 212) (Op.indexAddr 36 (Operand.tmp 210) (Operand.tmp 211)) 0 "outright.go:55" #[(Edge.mk 2 Ground.data), (Edge.mk 3 Ground.data)] none)) (v := ?_) rfl (by kernel_rfl) (by kernel_rfl) (by kernel_rfl) (fun _ _ _ h => hPn h rfl) (Or.inl ⟨by rfl, ?_⟩) hC ?_
      rotate_left
      · (intro w hSw; (try dsimp only at hSw); go_simp; try with_reducible rfl)
      try simp only [Act.put, List.setIfInBounds_toArray, List.set_cons_zero, List.set_cons_succ]
      refine wpAnyH_take (i := 5) (oi := (Oper.mk (some 213) (Op.load 9 (Operand.tmp 212)) 9 "outright.go:55" #[(Edge.mk 4 Ground.data)] none)) (v := ?_) rfl (by kernel_rfl) (by kernel_rfl) (by kernel_rfl) (fun _ _ _ h => hPn h rfl) (Or.inl ⟨by rfl, ?_⟩) hC ?_
      rotate_left
      · (intro w hSw; (try dsimp only at hSw); go_simp; try with_reducible rfl)
      try simp only [Act.put, List.setIfInBounds_toArray, List.set_cons_zero, List.set_cons_succ]
      refine wpAnyH_ready (rs := [6]) (by kernel_rfl) (by simp) (AllReadyH.cons (o := (Oper.mk (some 214) (Op.call (Call.mk (Callee.value (Operand.func 14)) #[(Operand.tmp 208), (Operand.tmp 213)] #[39, 9])) 3 "outright.go:55" #[(Edge.mk 0 Ground.data), (Edge.mk 5 Ground.data)] none)) rfl (fun K hK => ?_) AllReadyH.nil)
      go_simp
      (go_at_call 14; refine (hud.out _ hb0.out).mono ?_; rintro e w3 ⟨rfl, hb3⟩; replace hC : w3.cell? ⟨Sd, 0, none⟩ = some (.string d.name) ∧ w3.cell? ⟨Sd, 1, none⟩ = some (.slice ap np cp) ∧ w3.cell? ⟨Sd, 2, none⟩ = some (.slice ab nb cb) ∧ w3.cell? ⟨Sx, 7, none⟩ = some (.slice (some ⟨ga, oa, none⟩) nl cl) ∧ w3.cell? ⟨ga, oa + k, none⟩ = some (.string s) := ⟨keepC hb3 hC.1, keepC hb3 hC.2.1, keepC hb3 hC.2.2.1, keepC hb3 hC.2.2.2.1, keepC hb3 hC.2.2.2.2⟩; replace hB := Lib.hid (hB.out.trans (hb3.mono hB.out.size)))
      refine hK.out _ _ hC (fun hHeld => ?_)
      clear hK K hHeld
      try simp only [Act.put, List.setIfInBounds_toArray, List.set_cons_zero, List.set_cons_succ]
      refine wpAnyH_take (i := 7) (oi := (Oper.mk (some 215) (Op.binOp BinOp.neq 3 (Operand.tmp 214) (Operand.const (Value.int IntKind.i64 1)) 3) 4 "outright.go:55" #[(Edge.mk 6 Ground.data)] none)) (v := ?_) rfl (by kernel_rfl) (by kernel_rfl) (by kernel_rfl) (fun _ _ _ h => hPn h rfl) (Or.inl ⟨by rfl, ?_⟩) hC ?_
      rotate_left
      · (intro w hSw; (try dsimp only at hSw); go_simp; try with_reducible rfl)
      try simp only [Act.put, List.setIfInBounds_toArray, List.set_cons_zero, List.set_cons_succ]
      refine wpAnyH_done (by kernel_rfl) ?_ _
      go_wp2_with fail
      go_round
      case rel => exact ⟨k + 1, by omega, by go_num, hB⟩
      case measure => simp [intOf]; omega
    · obtain rfl : k = nl := by omega
      have j1 : decide ((k : Int) < (k : Int)) = false := by simp
      clear hf2 hx2
      go_wp2_with fail
      exact hQ.out hB.out

end Go.Proofs.YtjblhiekccjdcaaR
namespace Go.Proofs.YtjblhiekccjdcaaR
open Go.RowKit Go.Maps Go.Shelf
attribute [local go_sem] Oper.semAt_some

/-- A program in a box. -/
structure PBx (W : World) (S : Nat) (P : List Fun) (a0 : Option Addr) (p0 c0 : Nat) : Prop where
  s0 : W.cell? ⟨S, 0, none⟩ = some (.slice a0 p0 c0)
  hP : RdE 3 RdFun W (.slice a0 p0 c0) P
theorem PBx.keep {W W' : World} {S : Nat} {P : List Fun} {a0 : Option Addr} {p0 c0 : Nat} (h : PBx W S P a0 p0 c0) (hb : Below W.heap.size W W') : PBx W' S P a0 p0 c0 :=
  ⟨keepC hb h.s0, RdE.below (fun _ _ h => h.below hb) h.hP hb⟩
theorem PBx.funcs {W : World} {S : Nat} {P : List Fun} {a0 : Option Addr} {p0 c0 : Nat} (h : PBx W S P a0 p0 c0) (hL : LightP P) {s : ByteArray} (hs : nameN P s = 1) : Calls Try.prog 13 #[.agg #[.slice a0 p0 c0], .string s] W fun e w' => e = .returned (.int .i64 1) ∧ Below W.heap.size W w' := by
  have := funcs_any (by have := hL.1; omega) h.hP s
  rwa [hs] at this
theorem PBx.params {W : World} {S : Nat} {P : List Fun} {a0 : Option Addr} {p0 c0 : Nat} (h : PBx W S P a0 p0 c0) (hL : LightP P) {s : ByteArray} {n : Nat} (hs : lastN P s = (n : Int)) : Calls Try.prog 17 #[.agg #[.slice a0 p0 c0], .string s] W fun e w' => e = .returned (.int .i64 n) ∧ Below W.heap.size W w' := by
  have := params_any (by have := hL.1; omega) h.hP s
  rwa [hs] at this
set_option maxRecDepth 20000 in
set_option maxHeartbeats 2000000 in
theorem once12 {c : Code} (hc : Func.blockOf Try.f4 12 = some c) {Q : Exit → Act → World → Prop} {w : World} {Sd : Nat} {d : Fun} {ap ab : Option Addr} {np cp nb cb : Nat} {u0 u1 u2 u3 u4 u5 u6 u7 u8 u9 u10 u12 u13 u14 u15 u16 u17 u18 u20 u21 u22 u23 u24 u25 u26 u27 u28 u29 u30 u31 u32 u33 u34 u35 u36 u37 u38 u39 u40 u41 u42 u43 u44 u45 u46 u47 u48 u49 u50 u51 u52 u53 u54 u55 u56 u57 u58 u59 u60 u61 u62 u63 u64 u65 u66 u67 u68 u69 u70 u71 u72 u73 u74 u75 u76 u77 u78 u79 u80 u81 u82 u83 u84 u85 u86 u87 u88 u89 u90 u91 u92 u93 u94 u95 u96 u97 u98 u99 u100 u101 u102 u103 u104 u105 u106 u107 u108 u109 u110 u111 u112 u113 u114 u115 u116 u117 u118 u119 u120 u121 u122 u123 u124 u125 u126 u127 u128 u129 u130 u131 u132 u133 u134 u135 u136 u137 u138 u139 u140 u141 u142 u143 u144 u145 u146 u147 u148 u149 u150 u151 u152 u153 u154 u155 u156 u157 u158 u159 u160 u161 u162 u163 u164 u165 u166 u167 u168 u169 u170 u171 u172 u173 u174 u175 u176 u177 u178 u179 u180 u181 u182 u183 u184 u185 u186 u187 u188 u189 u190 u191 u192 u193 u194 u195 u196 u197 u198 u199 u200 u201 u202 u203 u204 u205 u206 u207 u208 u209 u210 u211 u212 u213 u214 u215 u216 u217 u218 u219 u220 u221 u222 u223 u224 u225 u226 u227 u228 u229 u230 u231 u232 u233 u234 u235 u236 u237 u238 u239 u240 u241 u242 u243 u244 u245 u246 u247 u248 u249 u250 u251 u252 u253 u254 u255 u256 u257 u258 u259 u260 u261 u262 u263 : Value}
    (hf : FBx w Sd d ap np cp ab nb cb) (hd : LightF d) (hPn : ∀ {x} {a a1 : Act} {w1 : World}, Q (.panic x) a w1 → a.defers = a1.defers → Q (.panic x) a1 w1) (hU : ∀ s ∈ d.params, defN d s = 1)
    (hQ : Hid (∀ {wx : World} {v2 v19 v244 v245 v246 v247 v248 v249 v250 v251 v252 v253 v254 v255 v256 v257 v258 : Value}, Below w.heap.size w wx → Q .normal { tmps := #[u0, u1, v2, u3, u4, u5, u6, u7, u8, u9, u10, .pointer (some ⟨Sd, 0, none⟩), u12, u13, u14, u15, u16, u17, u18, v19, u20, u21, u22, u23, u24, u25, u26, u27, u28, u29, u30, u31, u32, u33, u34, u35, u36, u37, u38, u39, u40, u41, u42, u43, u44, u45, u46, u47, u48, u49, u50, u51, u52, u53, u54, u55, u56, u57, u58, u59, u60, u61, u62, u63, u64, u65, u66, u67, u68, u69, u70, u71, u72, u73, u74, u75, u76, u77, u78, u79, u80, u81, u82, u83, u84, u85, u86, u87, u88, u89, u90, u91, u92, u93, u94, u95, u96, u97, u98, u99, u100, u101, u102, u103, u104, u105, u106, u107, u108, u109, u110, u111, u112, u113, u114, u115, u116, u117, u118, u119, u120, u121, u122, u123, u124, u125, u126, u127, u128, u129, u130, u131, u132, u133, u134, u135, u136, u137, u138, u139, u140, u141, u142, u143, u144, u145, u146, u147, u148, u149, u150, u151, u152, u153, u154, u155, u156, u157, u158, u159, u160, u161, u162, u163, u164, u165, u166, u167, u168, u169, u170, u171, u172, u173, u174, u175, u176, u177, u178, u179, u180, u181, u182, u183, u184, u185, u186, u187, u188, u189, u190, u191, u192, u193, u194, u195, u196, u197, u198, u199, u200, u201, u202, u203, u204, u205, u206, u207, u208, u209, u210, u211, u212, u213, u214, u215, u216, u217, u218, u219, u220, u221, u222, u223, u224, u225, u226, u227, u228, u229, u230, u231, u232, u233, u234, u235, u236, u237, u238, u239, u240, u241, u242, u243, v244, v245, v246, v247, v248, v249, v250, v251, v252, v253, v254, v255, v256, v257, v258, u259, u260, u261, u262, u263], defers := [] } wx)) :
    c.wp Try.prog Q { tmps := #[u0, u1, u2, u3, u4, u5, u6, u7, u8, u9, u10, .pointer (some ⟨Sd, 0, none⟩), u12, u13, u14, u15, u16, u17, u18, .int .i64 0, u20, u21, u22, u23, u24, u25, u26, u27, u28, u29, u30, u31, u32, u33, u34, u35, u36, u37, u38, u39, u40, u41, u42, u43, u44, u45, u46, u47, u48, u49, u50, u51, u52, u53, u54, u55, u56, u57, u58, u59, u60, u61, u62, u63, u64, u65, u66, u67, u68, u69, u70, u71, u72, u73, u74, u75, u76, u77, u78, u79, u80, u81, u82, u83, u84, u85, u86, u87, u88, u89, u90, u91, u92, u93, u94, u95, u96, u97, u98, u99, u100, u101, u102, u103, u104, u105, u106, u107, u108, u109, u110, u111, u112, u113, u114, u115, u116, u117, u118, u119, u120, u121, u122, u123, u124, u125, u126, u127, u128, u129, u130, u131, u132, u133, u134, u135, u136, u137, u138, u139, u140, u141, u142, u143, u144, u145, u146, u147, u148, u149, u150, u151, u152, u153, u154, u155, u156, u157, u158, u159, u160, u161, u162, u163, u164, u165, u166, u167, u168, u169, u170, u171, u172, u173, u174, u175, u176, u177, u178, u179, u180, u181, u182, u183, u184, u185, u186, u187, u188, u189, u190, u191, u192, u193, u194, u195, u196, u197, u198, u199, u200, u201, u202, u203, u204, u205, u206, u207, u208, u209, u210, u211, u212, u213, u214, u215, u216, u217, u218, u219, u220, u221, u222, u223, u224, u225, u226, u227, u228, u229, u230, u231, u232, u233, u234, u235, u236, u237, u238, u239, u240, u241, u242, u243, u244, u245, u246, u247, u248, u249, u250, u251, u252, u253, u254, u255, u256, u257, u258, u259, u260, u261, u262, u263], defers := [] } w := by
  conv at hc => lhs; whnf
  simp only [Option.some.injEq] at hc
  subst hc
  have hnm : np ≤ 1000000 := by rw [hf.np]; have := hd.1; omega
  have hn8 := Lib.hid hf.np
  replace hf := Lib.hid hf
  replace hU := Lib.hid hU
  replace hd := Lib.hid hd
  go_wp2_with fail
  go_loopw [19] (fun i wr => ∃ k : Nat, k ≤ np ∧ i = .int .i64 k ∧ Hid (Below w.heap.size w wr)) (fun i _ => np - (intOf i).toNat)
  case atStart => exact ⟨0, Nat.zero_le _, rfl, Lib.hid (Below.refl _ _)⟩
  case round =>
    obtain ⟨k, hk, rfl, hB⟩ := hrel
    have hx2 := hf.out.keep hB.out
    have hf2 := hf.out.keep hB.out
    have x6 := hx2.f1
    by_cases hlt : k < np
    · have j1 : decide ((k : Int) < (np : Int)) = true := by simpa using hlt
      have j2 : (k : Int) < (np : Int) := by omega
      obtain ⟨s, hs⟩ : ∃ s, d.params[k]? = some s := ⟨_, List.getElem?_eq_getElem (by rw [← hn8.out]; exact hlt)⟩
      obtain ⟨ga, oa, ca', e, hcl⟩ := RdS.cell hx2.hp hs
      rw [← hn8.out] at e
      simp only [Value.slice.injEq] at e
      obtain ⟨rfl, -, rfl⟩ := e
      have hsm := hU.out s (List.mem_of_getElem? hs)
      have hud := Lib.hid (fun w' (hb : Below wr.heap.size wr w') => (hf2.keep hb).defs hd.out hsm)
      have hC : wr.drew.cell? ⟨Sd, 0, none⟩ = some (.string d.name) ∧ wr.drew.cell? ⟨Sd, 1, none⟩ = some (.slice (some ⟨ga, oa, none⟩) np cp) ∧ wr.drew.cell? ⟨Sd, 2, none⟩ = some (.slice ab nb cb) ∧ wr.drew.cell? ⟨ga, oa + k, none⟩ = some (.string s) := ⟨hf2.f0, x6, hf2.f2, hcl⟩
      have hb0 : Hid (Below wr.heap.size wr wr.drew) := Lib.hid (Below.refl _ _).drew
      replace hB := Lib.hid (hB.out.drew)
      clear hf2 hx2 hs hsm hcl
      go_upto_region 54 with fail
      clear x6
      refine wp_region_held_drew (S := (fun w' => w'.cell? ⟨Sd, 0, none⟩ = some (.string d.name) ∧ w'.cell? ⟨Sd, 1, none⟩ = some (.slice (some ⟨ga, oa, none⟩) np cp) ∧ w'.cell? ⟨Sd, 2, none⟩ = some (.slice ab nb cb) ∧ w'.cell? ⟨ga, oa + k, none⟩ = some (.string s))) (by kernel_rfl) hC (fun hHeld => ?_)
      clear hHeld
      refine wpAnyH_take (i := 0) (oi := (Oper.mk (some 251) (Op.load 39 (Operand.tmp 11)) 39 "outright.go:68" #[] none)) (v := ?_) rfl (by kernel_rfl) (by kernel_rfl) (by kernel_rfl) (fun _ _ _ h => hPn h rfl) (Or.inl ⟨by rfl, ?_⟩) hC ?_
      rotate_left
      · (intro w hSw; (try dsimp only at hSw); go_simp; try with_reducible rfl)
      try simp only [Act.put, List.setIfInBounds_toArray, List.set_cons_zero, List.set_cons_succ]
      refine wpAnyH_take (i := 1) (oi := (Oper.mk (some 252) (Op.fieldAddr 39 (Operand.tmp 11) 1) 0 "outright.go:68" #[] none)) (v := ?_) rfl (by kernel_rfl) (by kernel_rfl) (by kernel_rfl) (fun _ _ _ h => hPn h rfl) (Or.inl ⟨by rfl, ?_⟩) hC ?_
      rotate_left
      · (intro w hSw; (try dsimp only at hSw); go_simp; try with_reducible rfl)
      try simp only [Act.put, List.setIfInBounds_toArray, List.set_cons_zero, List.set_cons_succ]
      refine wpAnyH_take (i := 2) (oi := (Oper.mk (some 253) (Op.load 36 (Operand.tmp 252)) 36 "outright.go:68" #[(Edge.mk 1 Ground.data)] none)) (v := ?_) rfl (by kernel_rfl) (by kernel_rfl) (by kernel_rfl) (fun _ _ _ h => hPn h rfl) (Or.inl ⟨by rfl, ?_⟩) hC ?_
      rotate_left
      · (intro w hSw; (try dsimp only at hSw); go_simp; try with_reducible rfl)
      try simp only [Act.put, List.setIfInBounds_toArray, List.set_cons_zero, List.set_cons_succ]
      refine wpAnyH_take (i := 3) (oi := (Oper.mk (some 254) (Op.move (Operand.tmp 19)) 3 "outright.go:68" #[] none)) (v := ?_) rfl (by kernel_rfl) (by kernel_rfl) (by kernel_rfl) (fun _ _ _ h => hPn h rfl) (Or.inl ⟨by rfl, ?_⟩) hC ?_
      rotate_left
      · (intro w hSw; (try dsimp only at hSw); go_simp; try with_reducible rfl)
      try simp only [Act.put, List.setIfInBounds_toArray, List.set_cons_zero, List.set_cons_succ]
      refine wpAnyH_take (i := 4) (oi := (Oper.mk (some 255) (Op.indexAddr 36 (Operand.tmp 253) (Operand.tmp 254)) 0 "outright.go:68" #[(Edge.mk 2 Ground.data), (Edge.mk 3 Ground.data)] none)) (v := ?_) rfl (by kernel_rfl) (by kernel_rfl) (by kernel_rfl) (fun _ _ _ h => hPn h rfl) (Or.inl ⟨by rfl, ?_⟩) hC ?_
      rotate_left
      · (intro w hSw; (try dsimp only at hSw); go_simp; try with_reducible rfl)
      try simp only [Act.put, List.setIfInBounds_toArray, List.set_cons_zero, List.set_cons_succ]
      refine wpAnyH_take (i := 5) (oi := (Oper.mk (some 256) (Op.load 9 (Operand.tmp 255)) 9 "outright.go:68" #[(Edge.mk 4 Ground.data)] none)) (v := ?_) rfl (by kernel_rfl) (by kernel_rfl) (by kernel_rfl) (fun _ _ _ h => hPn h rfl) (Or.inl ⟨by rfl, ?_⟩) hC ?_
      rotate_left
      · (intro w hSw; (try dsimp only at hSw); go_simp; try with_reducible rfl)
      try simp only [Act.put, List.setIfInBounds_toArray, List.set_cons_zero, List.set_cons_succ]
      refine wpAnyH_ready (rs := [6]) (by kernel_rfl) (by simp) (AllReadyH.cons (o := (Oper.mk (some 257) (Op.call (Call.mk (Callee.value (Operand.func 15)) #[(Operand.tmp 251), (Operand.tmp 256)] #[39, 9])) 3 "outright.go:68" #[(Edge.mk 0 Ground.data), (Edge.mk 5 Ground.data)] none)) rfl (fun K hK => ?_) AllReadyH.nil)
      go_simp
      (go_at_call 15; refine (hud.out _ hb0.out).mono ?_; rintro e w3 ⟨rfl, hb3⟩; replace hC : w3.cell? ⟨Sd, 0, none⟩ = some (.string d.name) ∧ w3.cell? ⟨Sd, 1, none⟩ = some (.slice (some ⟨ga, oa, none⟩) np cp) ∧ w3.cell? ⟨Sd, 2, none⟩ = some (.slice ab nb cb) ∧ w3.cell? ⟨ga, oa + k, none⟩ = some (.string s) := ⟨keepC hb3 hC.1, keepC hb3 hC.2.1, keepC hb3 hC.2.2.1, keepC hb3 hC.2.2.2⟩; replace hB := Lib.hid (hB.out.trans (hb3.mono hB.out.size)))
      refine hK.out _ _ hC (fun hHeld => ?_)
      clear hK K hHeld
      try simp only [Act.put, List.setIfInBounds_toArray, List.set_cons_zero, List.set_cons_succ]
      refine wpAnyH_take (i := 7) (oi := (Oper.mk (some 258) (Op.binOp BinOp.neq 3 (Operand.tmp 257) (Operand.const (Value.int IntKind.i64 1)) 3) 4 "outright.go:68" #[(Edge.mk 6 Ground.data)] none)) (v := ?_) rfl (by kernel_rfl) (by kernel_rfl) (by kernel_rfl) (fun _ _ _ h => hPn h rfl) (Or.inl ⟨by rfl, ?_⟩) hC ?_
      rotate_left
      · (intro w hSw; (try dsimp only at hSw); go_simp; try with_reducible rfl)
      try simp only [Act.put, List.setIfInBounds_toArray, List.set_cons_zero, List.set_cons_succ]
      refine wpAnyH_done (by kernel_rfl) ?_ _
      go_wp2_with fail
      go_round
      case rel => exact ⟨k + 1, by omega, by go_num, hB⟩
      case measure => simp [intOf]; omega
    · obtain rfl : k = np := by omega
      have j1 : decide ((k : Int) < (k : Int)) = false := by simp
      clear hf2 hx2
      go_wp2_with fail
      exact hQ.out hB.out

end Go.Proofs.YtjblhiekccjdcaaR
