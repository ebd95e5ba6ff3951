/- RdP2, RdP3, RdP4, RdP5, RdT1, RdT2, RdT3. -/
import Derived.Test.YtgcanabckogmmaaDoorZR19
import Derived.Test.YtgcanabckogmmaaDoorZR1
import Derived.Laws.EntriesVeiled
import Derived.DataReads
import Derived.Deep.Strs
import Derived.Deep.Slices
import Derived.Deep.RegionHeld3
namespace Go.Proofs.YtgcanabckogmmaaDoor
set_option linter.unusedVariables false
set_option linter.unusedSimpArgs false
section
open Go.RowKit Go.Maps Go.Shelf
attribute [local go_sem] Oper.semAt_some fld0 fld1 fld2
theorem lexN_err:∀(n:Nat) (l:List UInt8) (ln cl a b er:Nat),l.length≤n→lexN n l ln cl=.error (a,b,er)→er≠0
 | n,[],ln,cl,a,b,er,_,h=>by rw [lexN.eq_def] at h;cases h
 | 0,c::r,ln,cl,a,b,er,hn,h=>by simp at hn
 | n+1,c::r,ln,cl,a,b,er,hn,h=>by
  rw [lexN] at h
  cases hs:stepL (c::r) ln cl with
  | error e=>
   rw [hs] at h
   injection h with h
   subst h
   exact step_err hs
  | ok x=>
   obtain⟨k,ln',cl',t⟩:=x
   rw [hs] at h
   have hp:=step_pos hs
   cases hr:lexN n ((c::r).drop k) ln' cl' with
   | ok T=>have h:add t (lexN n ((c::r).drop k) ln' cl')=.error (a,b,er):=h;rw [hr] at h;cases h
   | error e=>
    have h:add t (lexN n ((c::r).drop k) ln' cl')=.error (a,b,er):=h
    rw [hr] at h
    injection h with h
    subst h
    exact lexN_err n _ _ _ _ _ _ (by rw [List.length_drop];omega) hr
def ParsePost (w:World)(R:Except Flt (List Fun))(e:Ending)(w':World):Prop:=
 Below w.heap.size w w'∧match R with
 | .error (l,c,er)=>e=.returned (.tuple #[.agg #[.slice none 0 0],.agg #[.int .i64 l,.int .i64 c],.int .i64 er])
 | .ok P=>∃v,e=.returned (.tuple #[.agg #[v],.agg #[.int .i64 0,.int .i64 0],.int .i64 0])∧∀w'',Touch w' w'' (fun k=>k<w.heap.size)→REU 3 RdFunU w'' v P
section
variable {w:World} {s:ByteArray}
def boxes (w:World):World:=((w.alloc (.cells #[.slice none 0 0] 24)).alloc (.cells #[.int .i64 0,.int .i64 0] 26)).alloc (.cells #[.int .i64 0] 27)
theorem boxes_facts (w:World):(boxes w).heap.size=w.heap.size+3∧(boxes w).heap[w.heap.size]?=some (.cells #[.slice none 0 0] 24 (0,0))∧(boxes w).heap[w.heap.size+1]?=some (.cells #[.int .i64 0,.int .i64 0] 26 (0,0))∧(boxes w).heap[w.heap.size+2]?=some (.cells #[.int .i64 0] 27 (0,0))∧Below w.heap.size w (boxes w):=by
 unfold boxes
 refine⟨by simp,at_oldP (at_oldP (at_newP rfl)),at_oldP (at_newP (by simp)),at_newP (by simp),(((Below.refl _ _).alloc (by simp) _).alloc (by simp) _).alloc (by simp;omega) _⟩
structure Bxs (w0 w:World) (b2 b3 b4:Nat):Prop where
 e2:b2=w0.heap.size
 e3:b3=b2+1
 e4:b4=b2+2
 top:b2+3≤w.heap.size
 bel:Below w0.heap.size w0 w
theorem boxes_all (w:World):∃b2 b3 b4,Bxs w (boxes w) b2 b3 b4∧b2=w.heap.size∧b3=w.heap.size+1∧b4=w.heap.size+1+1∧(boxes w).heap[b2]?=some (.cells #[.slice none 0 0] 24 (0,0))∧(boxes w).heap[b3]?=some (.cells #[.int .i64 0,.int .i64 0] 26 (0,0))∧(boxes w).heap[b4]?=some (.cells #[.int .i64 0] 27 (0,0)):=by
 obtain⟨h1,h2,h3,h4,h5⟩:=boxes_facts w
 exact⟨_,_,_,⟨rfl,rfl,rfl,Nat.le_of_eq h1.symm,h5⟩,rfl,rfl,rfl,h2,h3,h4⟩
set_option maxRecDepth 20000 in
set_option maxHeartbeats 2000000 in
theorem parse_bad {l c er:Nat}(hne:er≠0)(hk:∀w',Calls Tryd.prog 13 #[.string s] w' fun e w''=>e=.returned (.tuple #[.slice none 0 0,.agg #[.int .i64 l,.int .i64 c],.int .i64 er])∧Below w'.heap.size w' w''):Calls Tryd.prog 9 #[.string s] w (ParsePost w (.error (l,c,er))):=by
 obtain⟨b2,b3,b4,hX,q2,q3,q4,x2,x3,x4⟩:=boxes_all w
 have hk2:=Lib.hid (hk (boxes w))
 have g1:((er:Int) != 0)=true:=by simpa using hne
 replace hX:=Lib.hid hX
 replace x2:=Lib.hid x2
 replace x3:=Lib.hid x3
 replace x4:=Lib.hid x4
 replace q2:=Lib.hid q2
 replace q3:=Lib.hid q3
 replace q4:=Lib.hid q4
 clear hk
 go_enter_defers Tryd.func9,Tryd.ntmps9
 go_upto_region 1 with fail
 rw [←q4.out,←q3.out,←q2.out]
 change Code.wp _ _ _ _ (boxes w)
 go_wp2_with fail
 refine hk2.out.mono ?_
 rintro e w2 ⟨rfl,hb2⟩
 have y2:=keepB hb2 x2.out
 have y3:=keepB hb2 x3.out
 have y4:=keepB hb2 x4.out
 have hX:=hX.out
 have n23:b2≠b3:=by have:=hX.e3;omega
 have n24:b2≠b4:=by have:=hX.e4;omega
 have n34:b3≠b4:=by have:=hX.e3;have:=hX.e4;omega
 have c2:w2.cell? ⟨b2,0,none⟩=some (.slice none 0 0):=by rw [blk_cell y2];rfl
 obtain⟨c30,c31⟩:=cells2P y3
 have c4:w2.cell? ⟨b4,0,none⟩=some (.int .i64 0):=by rw [blk_cell y4];rfl
 have f2:=frozB y2 0
 have f3:=frozB y3 0
 have f31:=frozB y3 1
 have f4:=frozB y4 0
 have hbel:=Lib.hid (hX.bel.trans (hb2.mono (by have:=hX.top;have:=hX.e2;omega)))
 have hX:=Lib.hid hX
 have y2:=Lib.hid y2
 have y3:=Lib.hid y3
 have y4:=Lib.hid y4
 clear hb2 hk2
 go_upto_region 3 with fail
 have z2:(((w2.setCell ⟨b3,0,none⟩ (.int .i64 l)).setCell ⟨b3,1,none⟩ (.int .i64 c)).setCell ⟨b4,0,none⟩ (.int .i64 er)).heap[b2]?=some (.cells #[.slice none 0 0] 24 (0,0)):=by
  rw [heap_setCell_other _ _ _ _ n24,heap_setCell_other _ _ _ _ n23,heap_setCell_other _ _ _ _ n23]
  exact y2.out
 have z3:(((w2.setCell ⟨b3,0,none⟩ (.int .i64 l)).setCell ⟨b3,1,none⟩ (.int .i64 c)).setCell ⟨b4,0,none⟩ (.int .i64 er)).heap[b3]?=some (.cells #[.int .i64 l,.int .i64 c] 26 (0,0)):=by
  rw [heap_setCell_other _ _ _ _ n34,heap_setCell_same _ _ _ _ _ _ (heap_setCell_same _ _ _ _ _ _ y3.out)]
  rfl
 have z4:(((w2.setCell ⟨b3,0,none⟩ (.int .i64 l)).setCell ⟨b3,1,none⟩ (.int .i64 c)).setCell ⟨b4,0,none⟩ (.int .i64 er)).heap[b4]?=some (.cells #[.int .i64 er] 27 (0,0)):=by
  rw [heap_setCell_same _ _ _ _ _ _ ((heap_setCell_other _ _ _ _ n34.symm).trans ((heap_setCell_other _ _ _ _ n34.symm).trans y4.out))]
  rfl
 have hx:=hX.out
 have hbz:Below w.heap.size w (((w2.setCell ⟨b3,0,none⟩ (.int .i64 l)).setCell ⟨b3,1,none⟩ (.int .i64 c)).setCell ⟨b4,0,none⟩ (.int .i64 er)):=((hbel.out.setCell (p:=⟨b3,0,none⟩) (by have:=hx.e2;have:=hx.e3;show w.heap.size≤b3;omega) _).setCell (p:=⟨b3,1,none⟩) (by have:=hx.e2;have:=hx.e3;show w.heap.size≤b3;omega) _).setCell (p:=⟨b4,0,none⟩) (by have:=hx.e2;have:=hx.e4;show w.heap.size≤b4;omega) _
 generalize (((w2.setCell ⟨b3,0,none⟩ (.int .i64 l)).setCell ⟨b3,1,none⟩ (.int .i64 c)).setCell ⟨b4,0,none⟩ (.int .i64 er))=w3 at z2 z3 z4 hbz ⊢
 clear c2 c30 c31 c4 f2 f3 f31 f4 y2 y3 y4 hbel hx
 have c2:w3.cell? ⟨b2,0,none⟩=some (.slice none 0 0):=by rw [blk_cell z2];rfl
 obtain⟨c30,c31⟩:=cells2P z3
 have c4:w3.cell? ⟨b4,0,none⟩=some (.int .i64 er):=by rw [blk_cell z4];rfl
 have f2:=frozB z2 0
 have f3:=frozB z3 0
 have f31:=frozB z3 1
 have f4:=frozB z4 0
 have hS:w3.cell? ⟨b3,0,none⟩=some (.int .i64 l)∧w3.cell? ⟨b3,1,none⟩=some (.int .i64 c)∧w3.cell? ⟨b4,0,none⟩=some (.int .i64 er):=⟨c30,c31,c4⟩
 replace z2:=Lib.hid z2
 replace z3:=Lib.hid z3
 replace z4:=Lib.hid z4
 replace hbz:=Lib.hid hbz
 refine wp_region_noPanic ?_
 go_region_held3 (fun w'=>w'.cell? ⟨b3,0,none⟩=some (.int .i64 l)∧w'.cell? ⟨b3,1,none⟩=some (.int .i64 c)∧w'.cell? ⟨b4,0,none⟩=some (.int .i64 er)) (simp [go_sem, *]) (go_simp)
 all_goals
  refine NoPanic.normal ?_
  go_wp2_with fail
  refine⟨.tuple #[.agg #[.slice none 0 0],.agg #[.int .i64 l,.int .i64 c],.int .i64 er],by simp [results,Tryd.results9,go_sem, *],?_,rfl⟩
  have hx:=hX.out
  exact ((((hbz.out.setCell (p:=⟨b2,0,none⟩) (by have:=hx.e2;show w.heap.size≤b2;omega) _).setCell (p:=⟨b3,0,none⟩) (by have:=hx.e2;have:=hx.e3;show w.heap.size≤b3;omega) _).setCell (p:=⟨b3,1,none⟩) (by have:=hx.e2;have:=hx.e3;show w.heap.size≤b3;omega) _).setCell (p:=⟨b4,0,none⟩) (by have:=hx.e2;have:=hx.e4;show w.heap.size≤b4;omega) _).drew
end
end
section
open Go.RowKit Go.Maps Go.Shelf
attribute [local go_sem] Oper.semAt_some fld0 fld1 fld2
theorem VMap.ltP {w:World}{k:TypeId}{b n:Nat}{f:Lit→Option Value}(h:VMap w k b n f):b<w.heap.size:=by
 obtain⟨D,⟨es,clock,h1,h2⟩,h3⟩:=h
 exact (Array.getElem?_eq_some_iff.1 h1).1
theorem flatT_at:∀(out:List Tok) (i:Nat) (t:Tok),out[i]?=some t→∀j,j<5→(out.flatMap cellsT)[i*5+j]?=(cellsT t)[j]?
 | [],i,t,h,j,hj=>by simp at h
 | x::r,0,t,h,j,hj=>by
  simp at h
  subst h
  rw [List.flatMap_cons,List.getElem?_append_left (by simpa [cellsT] using hj),Nat.zero_mul,Nat.zero_add]
 | x::r,i+1,t,h,j,hj=>by
  rw [List.flatMap_cons,List.getElem?_append_right (by simp [cellsT];omega)]
  have:=flatT_at r i t (by simpa using h) j hj
  rw [←this]
  congr 1
  simp [cellsT]
  omega
def defP (b2 b3 b4:Nat):Deferred:={target:=.fn (.func 15) #[.pointer (some ⟨b2,0,none⟩),.pointer (some ⟨b3,0,none⟩),.pointer (some ⟨b4,0,none⟩)],args:=#[]}
section
variable {w0 w:World} {b2 b3 b4:Nat} {tmps:Array Value}
theorem res_any {x:Value}{l c er:Int}(h2:tmps[2]?=some (.pointer (some ⟨b2,0,none⟩)))(h3:tmps[3]?=some (.pointer (some ⟨b3,0,none⟩)))(h4:tmps[4]?=some (.pointer (some ⟨b4,0,none⟩)))
  (k2:w.heap[b2]?=some (.cells #[x] 24 (0,0))) (k3:w.heap[b3]?=some (.cells #[.int .i64 l,.int .i64 c] 26 (0,0))) (k4:w.heap[b4]?=some (.cells #[.int .i64 er] 27 (0,0))):
  (results Tryd.f9 tmps).run Tryd.prog w=.ok (.tuple #[.agg #[x],.agg #[.int .i64 l,.int .i64 c],.int .i64 er]) w:=by
 have c2:w.cell? ⟨b2,0,none⟩=some x:=by rw [blk_cell k2];rfl
 obtain⟨c30,c31⟩:=cells2P k3
 have c4:w.cell? ⟨b4,0,none⟩=some (.int .i64 er):=by rw [blk_cell k4];rfl
 have e2:tmps.getD 2 undef=.pointer (some ⟨b2,0,none⟩):=by rw [Array.getD_eq_getD_getElem?,h2];rfl
 have e3:tmps.getD 3 undef=.pointer (some ⟨b3,0,none⟩):=by rw [Array.getD_eq_getD_getElem?,h3];rfl
 have e4:tmps.getD 4 undef=.pointer (some ⟨b4,0,none⟩):=by rw [Array.getD_eq_getD_getElem?,h4];rfl
 simp [results,Tryd.results9,go_sem, *]
theorem leaves_bad {f:Flt}{x y0 y1 z:Value}(h2:tmps[2]?=some (.pointer (some ⟨b2,0,none⟩)))(h3:tmps[3]?=some (.pointer (some ⟨b3,0,none⟩)))(h4:tmps[4]?=some (.pointer (some ⟨b4,0,none⟩)))
  (k2:w.heap[b2]?=some (.cells #[x] 24 (0,0))) (k3:w.heap[b3]?=some (.cells #[y0,y1] 26 (0,0))) (k4:w.heap[b4]?=some (.cells #[z] 27 (0,0)))
  (n23:b2≠b3) (n24:b2≠b4) (n34:b3≠b4) (e2:w0.heap.size≤b2) (e3:w0.heap.size≤b3) (e4:w0.heap.size≤b4) (hb:Below w0.heap.size w0 w):
  Leaves Tryd.prog Tryd.f9 tmps (ParsePost w0 (.error f)) [defP b2 b3 b4] (.panicking (chF f)) w:=by
 refine leaves_cons (f:=15) (args:=#[.pointer (some ⟨b2,0,none⟩),.pointer (some ⟨b3,0,none⟩),.pointer (some ⟨b4,0,none⟩)]) (by simp) (by simp [go_sem]) ?_
 refine (catch_yes (older:=[]) k2 k3 k4 n23 n24 n34).mono ?_
 rintro e u' w' ⟨rfl,rfl,m2,m3,m4,t⟩
 refine⟨_,res_any h2 h3 h4 m2 m3 m4,hb.trans (t.below hb.size fun k hk e=>?_),rfl⟩
 rcases e with e | e | e<;>omega
theorem leaves_ok {P:List Fun}{x:Value}(h2:tmps[2]?=some (.pointer (some ⟨b2,0,none⟩)))(h3:tmps[3]?=some (.pointer (some ⟨b3,0,none⟩)))(h4:tmps[4]?=some (.pointer (some ⟨b4,0,none⟩)))
  (k2:w.heap[b2]?=some (.cells #[x] 24 (0,0))) (k3:w.heap[b3]?=some (.cells #[.int .i64 0,.int .i64 0] 26 (0,0))) (k4:w.heap[b4]?=some (.cells #[.int .i64 0] 27 (0,0)))
  (hb:Below w0.heap.size w0 w) (hr:∀w'',Touch w w'' (fun k=>k<w0.heap.size)→REU 3 RdFunU w'' x P):
  Leaves Tryd.prog Tryd.f9 tmps (ParsePost w0 (.ok P)) [defP b2 b3 b4] .returning w:=by
 refine leaves_cons (f:=15) (args:=#[.pointer (some ⟨b2,0,none⟩),.pointer (some ⟨b3,0,none⟩),.pointer (some ⟨b4,0,none⟩)]) (by simp) (by simp [go_sem]) ?_
 refine catch_idle.mono ?_
 rintro e u' w' ⟨rfl,rfl,hb'⟩
 refine⟨_,res_any h2 h3 h4 (keepB hb' k2) (keepB hb' k3) (keepB hb' k4),hb.trans (hb'.mono hb.size),x,rfl,fun w'' t=>hr w'' ((Touch.of_below hb' _).trans t)⟩
end
end
section
open Go.RowKit Go.Maps Go.Shelf
attribute [local go_sem] Oper.semAt_some fld0 fld1 fld2
section
variable {w:World} {s:ByteArray} {T:List Tok}
theorem leaves_tmps {P:Program}{fn:Func}{Q:Ending→World→Prop}{A A2:Array Value}(h:results fn A=results fn A2):∀(ds:List Deferred) (u:FrameMode) (w:World),Leaves P fn A Q ds u w→Leaves P fn A2 Q ds u w
 | [],.returning,w,hx=>by
  obtain⟨v,h1,h2⟩:=hx
  exact⟨v,h ▸ h1,h2⟩
 | [],.panicking _,w,hx=>hx
 | [],.run,_,hx=>hx
 | d::ds,u,w,hx=>by
  obtain⟨hu,fv,cap,f,args,e1,e2,hc⟩:=hx
  refine⟨hu,fv,cap,f,args,e1,e2,hc.mono fun e u' w' hy=>?_⟩
  cases e with
  | returned v=>exact leaves_tmps h ds _ _ hy
  | panicked c=>exact leaves_tmps h ds _ _ hy
  | outgrown=>exact hy
theorem res_tmps {A A2:Array Value}(h2:A[2]?=A2[2]?)(h3:A[3]?=A2[3]?)(h4:A[4]?=A2[4]?):results Tryd.f9 A=results Tryd.f9 A2:=by
 have e2:A.getD 2 undef=A2.getD 2 undef:=by rw [Array.getD_eq_getD_getElem?,Array.getD_eq_getD_getElem?,h2]
 have e3:A.getD 3 undef=A2.getD 3 undef:=by rw [Array.getD_eq_getD_getElem?,Array.getD_eq_getD_getElem?,h3]
 have e4:A.getD 4 undef=A2.getD 4 undef:=by rw [Array.getD_eq_getD_getElem?,Array.getD_eq_getD_getElem?,h4]
 simp [results,Tryd.results9,-Array.getD_eq_getD_getElem?,e2,e3,e4]
set_option maxRecDepth 20000 in
set_option maxHeartbeats 4000000 in
theorem parse_good (hT:TokOk T)(hk:∀w',Calls Tryd.prog 13 #[.string s] w' fun e w''=>(∃v,e=.returned (.tuple #[v,.agg #[.int .i64 0,.int .i64 0],.int .i64 0])∧RowT w' w'' v T)∧Below w'.heap.size w' w''):Calls Tryd.prog 9 #[.string s] w (ParsePost w (parseT T)):=by
 obtain⟨b2,b3,b4,hX,q2,q3,q4,x2,x3,x4⟩:=boxes_all w
 have hk2:=Lib.hid (hk (boxes w))
 replace hX:=Lib.hid hX
 replace x2:=Lib.hid x2
 replace x3:=Lib.hid x3
 replace x4:=Lib.hid x4
 replace q2:=Lib.hid q2
 replace q3:=Lib.hid q3
 replace q4:=Lib.hid q4
 obtain⟨R,hR⟩:∃R,parseT T=R:=⟨_,rfl⟩
 rw [hR]
 replace hR:=Lib.hid hR
 replace hT:=Lib.hid hT
 clear hk
 go_enter_defers Tryd.func9,Tryd.ntmps9
 go_upto_region 1 with fail
 rw [←q4.out,←q3.out,←q2.out]
 change Code.wp _ _ _ _ (boxes w)
 go_wp2_with fail
 refine hk2.out.mono ?_
 rintro e w2 ⟨⟨vt,rfl,hrow⟩,hb2⟩
 have hTne:0<T.length:=by
  obtain⟨l,t,e,-⟩:=hT.out.last
  rw [e]
  simp
 obtain⟨gw,cw,rfl,hgwB,hgwl⟩:∃gw cw,vt=.slice (some ⟨gw,0,none⟩) T.length cw∧(boxes w).heap.size≤gw∧gw<w2.heap.size:=by
  rcases hrow.2 with ⟨e,h0⟩ | ⟨g,cap,cur,e,-⟩
  ·omega
  ·have:=hrow.lt g (by rw [e];rfl)
   exact⟨g,cap,e,this.1,this.2⟩
 have y2:=keepB hb2 x2.out
 have y3:=keepB hb2 x3.out
 have y4:=keepB hb2 x4.out
 have hX:=hX.out
 have n23:b2≠b3:=by have:=hX.e3;omega
 have n24:b2≠b4:=by have:=hX.e4;omega
 have n34:b3≠b4:=by have:=hX.e3;have:=hX.e4;omega
 have c2:w2.cell? ⟨b2,0,none⟩=some (.slice none 0 0):=by rw [blk_cell y2];rfl
 obtain⟨c30,c31⟩:=cells2P y3
 have c4:w2.cell? ⟨b4,0,none⟩=some (.int .i64 0):=by rw [blk_cell y4];rfl
 have f2:=frozB y2 0
 have f3:=frozB y3 0
 have f31:=frozB y3 1
 have f4:=frozB y4 0
 have hbel:=Lib.hid (hX.bel.trans (hb2.mono (by have:=hX.top;have:=hX.e2;omega)))
 have htopb:=Lib.hid hX.top
 have he2:=Lib.hid hX.e2
 have he3:=Lib.hid hX.e3
 have he4:=Lib.hid hX.e4
 have y2:=Lib.hid y2
 have y3:=Lib.hid y3
 have y4:=Lib.hid y4
 replace hrow:=Lib.hid hrow
 replace hgwB:=Lib.hid hgwB
 replace hgwl:=Lib.hid hgwl
 replace hTne:=Lib.hid hTne
 clear hb2 hk2 hX x2 x3 x4
 go_upto_region 4 with fail
 have z2:(((w2.setCell ⟨b3,0,none⟩ (.int .i64 0)).setCell ⟨b3,1,none⟩ (.int .i64 0)).setCell ⟨b4,0,none⟩ (.int .i64 0)).heap[b2]?=some (.cells #[.slice none 0 0] 24 (0,0)):=by
  rw [heap_setCell_other _ _ _ _ n24,heap_setCell_other _ _ _ _ n23,heap_setCell_other _ _ _ _ n23]
  exact y2.out
 have z3:(((w2.setCell ⟨b3,0,none⟩ (.int .i64 0)).setCell ⟨b3,1,none⟩ (.int .i64 0)).setCell ⟨b4,0,none⟩ (.int .i64 0)).heap[b3]?=some (.cells #[.int .i64 0,.int .i64 0] 26 (0,0)):=by
  rw [heap_setCell_other _ _ _ _ n34,heap_setCell_same _ _ _ _ _ _ (heap_setCell_same _ _ _ _ _ _ y3.out)]
  rfl
 have z4:(((w2.setCell ⟨b3,0,none⟩ (.int .i64 0)).setCell ⟨b3,1,none⟩ (.int .i64 0)).setCell ⟨b4,0,none⟩ (.int .i64 0)).heap[b4]?=some (.cells #[.int .i64 0] 27 (0,0)):=by
  rw [heap_setCell_same _ _ _ _ _ _ ((heap_setCell_other _ _ _ _ n34.symm).trans ((heap_setCell_other _ _ _ _ n34.symm).trans y4.out))]
  rfl
 have hbz:Below w.heap.size w (((w2.setCell ⟨b3,0,none⟩ (.int .i64 0)).setCell ⟨b3,1,none⟩ (.int .i64 0)).setCell ⟨b4,0,none⟩ (.int .i64 0)):=((hbel.out.setCell (p:=⟨b3,0,none⟩) (by have:=he2.out;have:=he3.out;show w.heap.size≤b3;omega) _).setCell (p:=⟨b3,1,none⟩) (by have:=he2.out;have:=he3.out;show w.heap.size≤b3;omega) _).setCell (p:=⟨b4,0,none⟩) (by have:=he2.out;have:=he4.out;show w.heap.size≤b4;omega) _
 have hT3:Touch w2 (((w2.setCell ⟨b3,0,none⟩ (.int .i64 0)).setCell ⟨b3,1,none⟩ (.int .i64 0)).setCell ⟨b4,0,none⟩ (.int .i64 0)) (fun k=>k=b3∨k=b4):=(((Touch.refl w2 (fun k=>k=b3∨k=b4)).setCell (a:=⟨b3,0,none⟩) (fun _=>.inl rfl) _).setCell (a:=⟨b3,1,none⟩) (fun _=>.inl rfl) _).setCell (a:=⟨b4,0,none⟩) (fun _=>.inr rfl) _
 have hrow3:=ownsRow_touch hrow.out hT3 (fun g hg e=>by have hg:gw=g:=Option.some.inj hg;have:=hgwB.out;have:=htopb.out;have:=he3.out;have:=he4.out;omega)
 have hgw3:gw<(((w2.setCell ⟨b3,0,none⟩ (.int .i64 0)).setCell ⟨b3,1,none⟩ (.int .i64 0)).setCell ⟨b4,0,none⟩ (.int .i64 0)).heap.size:=Nat.lt_of_lt_of_le hgwl.out hT3.size
 have hsz3:b2+3≤(((w2.setCell ⟨b3,0,none⟩ (.int .i64 0)).setCell ⟨b3,1,none⟩ (.int .i64 0)).setCell ⟨b4,0,none⟩ (.int .i64 0)).heap.size:=by have:=hgwB.out;have:=htopb.out;omega
 generalize (((w2.setCell ⟨b3,0,none⟩ (.int .i64 0)).setCell ⟨b3,1,none⟩ (.int .i64 0)).setCell ⟨b4,0,none⟩ (.int .i64 0))=w3 at z2 z3 z4 hbz hrow3 hgw3 hsz3 ⊢
 have htk:∀k t,T[k]?=some t→w3.cell? ⟨gw,k*5,none⟩=some (.int .u8 t.kind)∧w3.cell? ⟨gw,k*5+1,none⟩=some (.string (nmT t))∧w3.cell? ⟨gw,k*5+2,none⟩=some (.int .i64 t.num)∧w3.cell? ⟨gw,k*5+3,none⟩=some (.int .i64 t.line)∧w3.cell? ⟨gw,k*5+4,none⟩=some (.int .i64 t.col):=fun k t ht=>by
  have key:∀j u,j<5→(cellsT t)[j]?=some u→w3.cell? ⟨gw,k*5+j,none⟩=some u:=fun j u hj hu=>by
   have:=hrow3.cells (g:=gw) rfl _ u ((flatT_at T k t ht j hj).trans hu)
   rw [add0] at this
   exact this
  exact⟨key 0 _ (by omega) rfl,key 1 _ (by omega) rfl,key 2 _ (by omega) rfl,key 3 _ (by omega) rfl,key 4 _ (by omega) rfl⟩
 replace htk:=Lib.hid htk
 replace z2:=Lib.hid z2
 replace z3:=Lib.hid z3
 replace z4:=Lib.hid z4
 replace hbz:=Lib.hid hbz
 replace hgw3:=Lib.hid hgw3
 replace hsz3:=Lib.hid hsz3
 clear c2 c30 c31 c4 f2 f3 f31 f4 y2 y3 y4 hbel hT3 hrow hrow3 hgwl
 have hmf:∀(fn:Fn) (first cap:Array Value) (w:World),(Instr.makeFunc fn first cap).run Tryd.prog w=.ok (.func fn first cap) w:=fun _ _ _ _=>rfl
 go_wp2_with fail
 refine (values_any _).mono ?_
 rintro e w4 ⟨vb,rfl,hvb,hV,hb4⟩
 replace hV:=Lib.hid hV
 replace hb4:=Lib.hid hb4
 replace hvb:=Lib.hid hvb
 go_wp2_with fail
 refine (bares_any _).mono ?_
 rintro e w5 ⟨bb,rfl,hbb,hB,hb5⟩
 replace hB:=Lib.hid hB
 replace hb5:=Lib.hid hb5
 replace hbb:=Lib.hid hbb
 go_upto_region 6 with fail
 have hL:LAt (w5.heap.size+1) (w5.alloc (.cells #[.slice (some ⟨gw,0,none⟩) T.length cw,.int .i64 0,.int .i64 0,.map (some vb),.map (some bb)] 63)) b2 w5.heap.size gw cw T 0 0 vb bb [] (.slice none 0 0):=by
  have g3:=hgw3.out
  have s3:=hsz3.out
  have s4:=hb4.out.size
  have s5:=hb5.out.size
  have v1:=hV.out.ltP
  have v2:=hB.out.ltP
  have v3:=hvb.out
  have v4:=hbb.out
  have g2:=hgwB.out
  have h7:=htopb.out
  have b35:Below w3.heap.size w3 w5:=hb4.out.trans (hb5.out.mono s4)
  have b36:=b35.alloc (Nat.le_trans s4 s5) (.cells #[.slice (some ⟨gw,0,none⟩) T.length cw,.int .i64 0,.int .i64 0,.map (some vb),.map (some bb)] 63)
  have b56:Below w5.heap.size w5 (w5.alloc (.cells #[.slice (some ⟨gw,0,none⟩) T.length cw,.int .i64 0,.int .i64 0,.map (some vb),.map (some bb)] 63)):=(Below.refl _ _).alloc (Nat.le_refl _) _
  have hc:∀o u,w3.cell? ⟨gw,o,none⟩=some u→(w5.alloc (.cells #[.slice (some ⟨gw,0,none⟩) T.length cw,.int .i64 0,.int .i64 0,.map (some vb),.map (some bb)] 63)).cell? ⟨gw,o,none⟩=some u:=fun o u hu=>by
   rw [←hu]
   unfold World.cell?
   rw [b36.block gw g3]
  refine⟨⟨at_newP rfl,fun k t ht=>?_,hV.out.block ((b56.block vb (by omega)).trans (hb5.out.block vb v1)),hB.out.block (b56.block bb v2),hT.out,hTne.out,Nat.zero_le _,by omega,by omega,by omega,by omega,by omega,by omega,by omega,by simp⟩,(b36.block b2 (by omega)).trans z2.out,OwnE.nil _ _ _,Nat.le_refl _,by omega,by omega,by omega,by omega,by omega⟩
  obtain⟨h0,h1,h2,h3,h4⟩:=htk.out k t ht
  exact⟨hc _ _ h0,hc _ _ h1,hc _ _ h2,hc _ _ h3,hc _ _ h4⟩
 have hbz6:Below w.heap.size w (w5.alloc (.cells #[.slice (some ⟨gw,0,none⟩) T.length cw,.int .i64 0,.int .i64 0,.map (some vb),.map (some bb)] 63)):=hbz.out.trans (((hb4.out.trans (hb5.out.mono hb4.out.size)).alloc (Nat.le_trans hb4.out.size hb5.out.size) _).mono hbz.out.size)
 have z36:(w5.alloc (.cells #[.slice (some ⟨gw,0,none⟩) T.length cw,.int .i64 0,.int .i64 0,.map (some vb),.map (some bb)] 63)).heap[b3]?=some (.cells #[.int .i64 0,.int .i64 0] 26 (0,0)):=at_oldP (keepB hb5.out (keepB hb4.out z3.out))
 have z46:(w5.alloc (.cells #[.slice (some ⟨gw,0,none⟩) T.length cw,.int .i64 0,.int .i64 0,.map (some vb),.map (some bb)] 63)).heap[b4]?=some (.cells #[.int .i64 0] 27 (0,0)):=at_oldP (keepB hb5.out (keepB hb4.out z4.out))
 have hBl:b2+3≤w5.heap.size:=by
  have:=hsz3.out
  have:=hb4.out.size
  have:=hb5.out.size
  omega
 generalize (w5.alloc (.cells #[.slice (some ⟨gw,0,none⟩) T.length cw,.int .i64 0,.int .i64 0,.map (some vb),.map (some bb)] 63))=w6 at hL hbz6 z36 z46 ⊢
 obtain⟨pb,hpb⟩:∃pb,pb=w5.heap.size:=⟨_,rfl⟩
 rw [←hpb] at hL hBl ⊢
 replace hL:=Lib.hid hL
 replace hbz6:=Lib.hid hbz6
 replace z36:=Lib.hid z36
 replace z46:=Lib.hid z46
 replace hBl:=Lib.hid hBl
 clear hpb hV hB hb4 hb5 hvb hbb htk z2 z3 z4 hbz hgw3 hsz3 hgwB htopb hmf
 have hRx:=hR.out
 unfold parseT at hRx
 cases hbg:beginP T 0 with
 | error f=>
  rw [hbg] at hRx
  dsimp only at hRx
  have hk7:=Lib.hid (begin_bad hL.out.p (by rw [List.drop_zero];exact hbg))
  replace hRx:=Lib.hid hRx
  clear hbg
  go_wp2_with (go_at_call 18;refine hk7.out.mono ?_;rintro e w7 ⟨rfl,hb7⟩)
  rw [←hRx.out]
  have e2:=he2.out
  have e3:=he3.out
  have e4:=he4.out
  exact leaves_bad rfl rfl rfl (keepB hb7 hL.out.blk) (keepB hb7 z36.out) (keepB hb7 z46.out) n23 n24 n34 (by omega) (by omega) (by omega) (hbz6.out.trans (hb7.mono hbz6.out.size))
 | ok ln=>
  rw [hbg] at hRx
  dsimp only at hRx
  have hk7:=Lib.hid (begin_ok hL.out.p (by rw [List.drop_zero];exact hbg))
  replace hRx:=Lib.hid hRx
  clear hbg
  go_upto_block 0 with (go_at_call 18;refine hk7.out.mono ?_;rintro e w7 ⟨rfl,hP7,hT7⟩)
  have e2:=he2.out
  have e3:=he3.out
  have e4:=he4.out
  have hl:=hBl.out
  have hL7:=hL.out.on hT7 hP7 (Nat.le_refl _)
  have l2:w.heap.size≤w6.heap.size:=hbz6.out.size
  have hb7:Below w.heap.size w w7:=hbz6.out.trans (hT7.below l2 fun k hk e=>by omega)
  have l6:pb+1≤w6.heap.size:=hL.out.p.top
  have k37:w7.heap[b3]?=some (.cells #[.int .i64 0,.int .i64 0] 26 (0,0)):=(hT7.block b3 (by omega) (by omega)).trans z36.out
  have k47:w7.heap[b4]?=some (.cells #[.int .i64 0] 27 (0,0)):=(hT7.block b4 (by omega) (by omega)).trans z46.out
  have hend:∀wx,Touch w7 wx (fun k=>k=pb∨k=b2∨pb+1≤k)→wx.heap[b3]?=some (.cells #[.int .i64 0,.int .i64 0] 26 (0,0))∧wx.heap[b4]?=some (.cells #[.int .i64 0] 27 (0,0))∧Below w.heap.size w wx:=fun wx t=>by
   have l7:=hT7.size
   exact⟨(t.block b3 (by omega) (by omega)).trans k37,(t.block b4 (by omega) (by omega)).trans k47,hb7.trans (t.below hb7.size fun k hk e=>by omega)⟩
  replace hend:=Lib.hid hend
  clear k37 k47 hb7 l2 l6 hP7 hT7 hk7
  refine prog_blk (by kernel_rfl) hL7 (n:=T.length+1) (by rw [List.drop_zero];exact Nat.le_refl _) (R:=R) (by rw [List.drop_zero];exact hRx.out) (fun {x a a1 wx} hq hd h2 h3 h4=>?_) (Lib.hid ?_) (Lib.hid ?_)
  ·exact leaves_tmps (res_tmps h2 h3 h4) _ _ _ (hd ▸ hq)
  ·intros
   rename_i hx8
   rename World=>w8
   obtain⟨hT8,i8,ln8,acc8,vf8,hL8,hR8⟩:=hx8
   obtain⟨k3,k4,hb8⟩:=hend.out w8 hT8
   obtain⟨av,cv,rfl⟩:=hL8.row.form
   have c2:w8.cell? ⟨b2,0,none⟩=some (.slice av acc8.length cv):=by rw [blk_cell hL8.blk];rfl
   obtain⟨c30,c31⟩:=cells2P k3
   have c4:w8.cell? ⟨b4,0,none⟩=some (.int .i64 0):=by rw [blk_cell k4];rfl
   have f2:=frozB hL8.blk 0
   have f3:=frozB k3 0
   have f31:=frozB k3 1
   have f4:=frozB k4 0
   replace hL8:=Lib.hid hL8
   replace k3:=Lib.hid k3
   replace k4:=Lib.hid k4
   replace hb8:=Lib.hid hb8
   replace hR8:=Lib.hid hR8
   replace hl:=Lib.hid hl
   clear hT8 e2 e3 e4 hL7
   go_wp2_with fail
   have e2:=he2.out
   have e3:=he3.out
   have e4:=he4.out
   have hl:=hl.out
   rw [hR8.out]
   have tF:Touch w8 ((((w8.setCell ⟨b2,0,none⟩ (.slice av acc8.length cv)).setCell ⟨b3,0,none⟩ (.int .i64 0)).setCell ⟨b3,1,none⟩ (.int .i64 0)).setCell ⟨b4,0,none⟩ (.int .i64 0)) (fun k=>k=b2∨k=b3∨k=b4):=((((Touch.refl w8 (fun k=>k=b2∨k=b3∨k=b4)).setCell (a:=⟨b2,0,none⟩) (fun _=>.inl rfl) _).setCell (a:=⟨b3,0,none⟩) (fun _=>.inr (.inl rfl)) _).setCell (a:=⟨b3,1,none⟩) (fun _=>.inr (.inl rfl)) _).setCell (a:=⟨b4,0,none⟩) (fun _=>.inr (.inr rfl)) _
   refine leaves_ok rfl rfl rfl (x:=.slice av acc8.length cv) ?_ ?_ ?_ (hb8.out.trans (tF.below hb8.out.size fun k hk e=>by omega)) fun w'' t''=>?_
   ·rw [heap_setCell_other _ _ _ _ n24,heap_setCell_other _ _ _ _ n23,heap_setCell_other _ _ _ _ n23,heap_setCell_same _ _ _ _ _ _ hL8.out.blk]
    rfl
   ·rw [heap_setCell_other _ _ _ _ n34,heap_setCell_same _ _ _ _ _ _ (heap_setCell_same _ _ _ _ _ _ ((heap_setCell_other _ _ _ _ n23.symm).trans k3.out))]
    rfl
   ·rw [heap_setCell_same _ _ _ _ _ _ ((heap_setCell_other _ _ _ _ n34.symm).trans ((heap_setCell_other _ _ _ _ n34.symm).trans ((heap_setCell_other _ _ _ _ n24.symm).trans k4.out)))]
    rfl
   ·exact hL8.out.row.toU (No:=fun k=>k<pb) ((tF.mono fun k _ e=>by show k<pb;omega).trans (t''.mono fun k _ e=>by show k<pb;omega)) (fun g hg e=>by have:=(hL8.out.row.lt g hg).1;omega) (fun k _ e=>by show k<pb+1;have e:k<pb:=e;omega)
  ·intros
   rename_i hd h2 h3 h4 hT8 k2 hR8
   rename World=>w8
   obtain⟨k3,k4,hb8⟩:=hend.out w8 hT8
   have l7:=hL7.p.top
   obtain⟨x,k2⟩:=k2
   rw [hR8]
   show Leaves _ _ _ _ (Act.defers _) _ _
   rw [hd]
   exact leaves_bad h2 h3 h4 k2 k3 k4 n23 n24 n34 (by omega) (by omega) (by omega) hb8
end
end
section
open Go.RowKit Go.Maps Go.Shelf
theorem parse_any {w:World}{s:ByteArray}(hs:s.size≤1048576):Calls Tryd.prog 9 #[.string s] w (ParsePost w (parseL s.data.toList)):=by
 unfold parseL
 cases hl:lex s.data.toList 1 1 with
 | error e=>
  obtain⟨l,c,er⟩:=e
  refine parse_bad (lexN_err _ _ _ _ _ _ _ (Nat.le_refl _) hl) fun w'=>?_
  have:=lex_any (w:=w') hs
  rw [hl] at this
  exact this
 | ok T=>
  refine parse_good (lex_tok hl (by simpa using hs)) fun w'=>?_
  have:=lex_any (w:=w') hs
  rw [hl] at this
  exact this
theorem parse_long {w:World}{s:ByteArray}(hs:1048576<s.size)(h63:s.size≤maxLen):Calls Tryd.prog 9 #[.string s] w (ParsePost w (.error (0,0,2))):=
 parse_bad (by decide) fun w'=>lex_long hs h63
end
section
open Go.RowKit Go.Maps
theorem toList_neR {x y:ByteArray}(h:x≠y):(x.toList==y.toList)=false:=by
 rw [beq_eq_false_iff_ne]
 intro e
 rw [ByteArray.toList_eq,ByteArray.toList_eq] at e
 exact h (ByteArray.ext (Array.toList_inj.1 e))
theorem textsR_any {w:World}{va vb:Value}{xs ys:List ByteArray}(ha:RdS w va xs)(hb:RdS w vb ys)(hl0':xs.length≤maxLen):
  Calls Tryd.prog 26 #[va,vb] w fun e w'=>e=.returned (.bool (decide (xs=ys)))∧∃n,w'=w.drewN n:=by
 obtain⟨aa,ca,rfl⟩:=ha.form
 obtain⟨ab,cb,rfl⟩:=hb.form
 rw [List.length_map,List.length_map] at *
 have hl:xs.length≤9223372036854775807:=hl0'
 clear hl0'
 by_cases hl0:xs.length=ys.length
 ·have hne:((xs.length:Int) != (ys.length:Int))=false:=by simp [hl0]
  have hlb:=hl
  have hl:=Lib.hid hl0
  have hle:xs.length≤ys.length∧ys.length≤xs.length:=by omega
  clear hl0
  go_enter Tryd.func26,Tryd.ntmps26
  go_wp2
  go_loopw [5] (fun i wr=>∃j n:Nat,j≤xs.length∧i=.int .i64 j∧wr=w.drewN n∧Hid (xs.take j=ys.take j)) (fun i _=>xs.length-(intOf i).toNat)
  case atStart=>exact⟨0,0,Nat.zero_le _,rfl,rfl,Lib.hid rfl⟩
  case round=>
   obtain⟨j,n,hj,rfl,rfl,ht⟩:=hrel
   by_cases hlt:j<xs.length
   ·have hlt':j<ys.length:=by omega
    obtain⟨x,hx⟩:∃k,xs[j]?=some k:=⟨_,List.getElem?_eq_getElem hlt⟩
    obtain⟨y,hy⟩:∃k,ys[j]?=some k:=⟨_,List.getElem?_eq_getElem hlt'⟩
    obtain⟨p,o,cap,e,_,hc⟩:=ha.at (i:=j) (u:=.string x) (by simp [hx])
    obtain⟨p',o',cap',e',_,hc'⟩:=hb.at (i:=j) (u:=.string y) (by simp [hy])
    simp only [Value.slice.injEq] at e e'
    obtain⟨rfl,-,rfl⟩:=e
    obtain⟨rfl,-,rfl⟩:=e'
    have htx:=Lib.hid (take_snoc hx)
    have hty:=Lib.hid (take_snoc hy)
    have hnex0:xs=ys→x=y:=fun e=>by subst e;rw [hx] at hy;exact (Option.some.inj hy)
    have hnex:=Lib.hid hnex0
    clear hnex0 hx hy ha hb hle
    by_cases hxy:x=y
    ·subst hxy
     go_wp2
     go_quiet (fail)
     go_wp2
     exact⟨⟨j+1,n+nq,by omega,by go_num,rfl,Lib.hid (by rw [htx.out,hty.out,ht.out])⟩,by simp [intOf];omega⟩
    ·have hb:(x.toList==y.toList)=false:=toList_neR hxy
     go_wp2
     go_quiet (fail)
     go_wp2
     go_ret
     have hf:¬xs=ys:=fun e=>hxy (hnex.out e)
     exact⟨by simp [hf],n+nq,World.drewN_drewN _ _ _⟩
   ·have:j=xs.length:=by omega
    subst this
    have he:xs=ys:=by
     have h1:=ht.out
     rw [List.take_length,hl.out,List.take_length] at h1
     exact h1
    clear ht hle hl
    go_wp2
    go_ret
    exact⟨by simp [he],n,rfl⟩
 ·have hne:((xs.length:Int) != (ys.length:Int))=true:=by simp;omega
  go_enter Tryd.func26,Tryd.ntmps26
  go_wp2
  go_ret
  refine⟨?_,0,rfl⟩
  have:¬xs=ys:=fun e=>hl0 (by rw [e])
  simp [this]
end
section
open Go.RowKit Go.Maps Go.Shelf
attribute [local go_sem] Oper.semAt_some fld0 fld1 fld2
def exB:List UInt8:=[102,117,110,99,32,109,97,105,110,40,112,41,32,123,10,97,58,32,59,32,120,10,32,32,120,32,61,32,102,105,101,108,100,32,112,32,51,10,32,32,114,101,116,10,125,10]
def exP:List Fun:=[⟨⟨#[109,97,105,110]⟩,[⟨#[112]⟩],[⟨⟨#[97]⟩,[⟨7,⟨#[120]⟩,⟨#[112]⟩,⟨#[]⟩,3,⟨#[]⟩,[],[]⟩,⟨14,⟨#[]⟩,⟨#[]⟩,⟨#[]⟩,0,⟨#[]⟩,[],[]⟩]⟩]⟩]
set_option maxRecDepth 100000 in
theorem ex_parse:parseL exB=.ok exP:=by kernel_rfl
set_option maxRecDepth 20000 in
set_option maxHeartbeats 2000000 in
theorem reads_any {w:World}:Calls Tryd.prog 12 #[] w fun e w'=>e=.returned (.bool true)∧Below w.heap.size w w':=by
 have hk:Calls Tryd.prog 9 #[.string ⟨exB.toArray⟩] w (ParsePost w (.ok exP)):=by
  have h:=parse_any (w:=w) (s:=⟨exB.toArray⟩) (by decide)
  rw [show (⟨exB.toArray⟩:ByteArray).data.toList=exB from rfl,ex_parse] at h
  exact h
 unfold exB at hk
 replace hk:=Lib.hid hk
 go_enter Tryd.func12,Tryd.ntmps12
 go_wp2_with fail
 refine hk.out.mono ?_
 rintro e w1 ⟨hb1,v,rfl,hrd⟩
 have h0:=(hrd w1 (Touch.refl _ _)).plain
 obtain⟨g,off,cap,cs,rfl,hgl,⟨vp,vb,rfl,rp,rb⟩,-,hc⟩:=h0.at (i:=0) rfl
 obtain⟨ap,cp,rfl⟩:=rp.form
 obtain⟨g2,off2,cap2,cs2,rfl,hgl2,⟨vc,rfl,rc⟩,-,hc2⟩:=rb.at (i:=0) rfl
 obtain⟨g3,off3,cap3,cs3,rfl,hgl3,⟨va,vl,rfl,ra,rl⟩,-,hc3⟩:=rc.at (i:=0) rfl
 have c1:w1.cell? ⟨g,off+0*3+1,none⟩=some (.slice ap 1 cp):=hc 1 _ rfl
 have c2:w1.cell? ⟨g,off+0*3+2,none⟩=some (.slice (some ⟨g2,off2,none⟩) 1 cap2):=hc 2 _ rfl
 have c3:w1.cell? ⟨g2,off2+0*2+1,none⟩=some (.slice (some ⟨g3,off3,none⟩) 2 cap3):=hc2 1 _ rfl
 have c4:w1.cell? ⟨g3,off3+0*8+4,none⟩=some (.int .i64 3):=hc3 4 _ rfl
 have c5:w1.cell? ⟨g3,off3+0*8+2,none⟩=some (.string ⟨#[112]⟩):=hc3 2 _ rfl
 replace hb1:=hb1
 have hP:exP.length=1:=rfl
 simp only [Nat.zero_mul,Nat.add_zero,hP] at c1 c2 c3 c4 c5 ⊢
 clear hc hc2 hc3 hrd h0 rp rb rc ra rl hk
 replace hb1:=Lib.hid hb1
 go_wp2_with fail
 go_ret
 exact⟨rfl,(hb1.out.alloc hb1.out.size _).alloc (by have:=hb1.out.size;simp;omega) _⟩
end
section
open Go.RowKit Go.Maps Go.Shelf
attribute [local go_sem] Oper.semAt_some
set_option maxRecDepth 20000 in
set_option maxHeartbeats 4000000 in
theorem same5 {c:Code}(hc:Func.blockOf Tryd.f11 5=some c){Q:Exit→Act→World→Prop}{w:World}{y1 y2 g1 g2 o1 o2 n c1 c2 j ca cl da dl:Nat}{xa xl ya yl:Option Addr}{d:Ins}{u0 u1 u2 u3 u4 u5 u6 u7 u8 u12 u13 u14 u15 u16 u17 u18 u19 u20 u21 u22 u23 u24 u25 u26 u27 u28 u29 u30 u31 u32 u33 u34 u35 u36 u37 u38 u39 u40 u41 u42 u43 u44 u45 u46 u47 u48 u49 u50 u51 u52 u53 u54 u55 u56 u57 u58 u59 u60 u61 u62 u63 u64 u65 u66 u67 u68 u69 u70 u71 u72 u73 u74 u75 u76 u77 u78 u79 u80 u81 u82 u83 u84 u85 u86 u87 u88 u89 u90 u91 u92 u93 u94 u95 u96 u97 u98 u99 u100 u101 u102 u103 u104 u105 u106 u107 u108 u109 u110 u111 u112 u113 u114 u115 u116 u117 u118 u119 u120 u121 u122 u123 u124 u125 u126 u127 u128 u129 u130 u131 u132 u133 u134 u135 u136 u137 u138 u139 u140 u141 u142 u143 u144 u145 u146 u147 u148 u149 u150 u151 u152 u153 u154 u155 u156 u157 u158 u159 u160 u161 u162 u163:Value}
  (hy1:w.cell? ⟨y1,1,none⟩=some (.slice (some ⟨g1,o1,none⟩) n c1)) (hy2:w.cell? ⟨y2,1,none⟩=some (.slice (some ⟨g2,o2,none⟩) n c2)) (hj:(j:Int)<(n:Int)) (a0:w.cell? ⟨g1,o1+j*8,none⟩=some (.int .u8 d.op)) (a1:w.cell? ⟨g1,o1+j*8+1,none⟩=some (.string d.dst)) (a2:w.cell? ⟨g1,o1+j*8+2,none⟩=some (.string d.a)) (a3:w.cell? ⟨g1,o1+j*8+3,none⟩=some (.string d.b)) (a4:w.cell? ⟨g1,o1+j*8+4,none⟩=some (.int .i64 d.n)) (a5:w.cell? ⟨g1,o1+j*8+5,none⟩=some (.string d.fn)) (a6:w.cell? ⟨g1,o1+j*8+6,none⟩=some (.slice xa d.args.length ca)) (a7:w.cell? ⟨g1,o1+j*8+7,none⟩=some (.slice xl d.labels.length cl)) (b0:w.cell? ⟨g2,o2+j*8,none⟩=some (.int .u8 d.op)) (b1:w.cell? ⟨g2,o2+j*8+1,none⟩=some (.string d.dst)) (b2:w.cell? ⟨g2,o2+j*8+2,none⟩=some (.string d.a)) (b3:w.cell? ⟨g2,o2+j*8+3,none⟩=some (.string d.b)) (b4:w.cell? ⟨g2,o2+j*8+4,none⟩=some (.int .i64 d.n)) (b5:w.cell? ⟨g2,o2+j*8+5,none⟩=some (.string d.fn)) (b6:w.cell? ⟨g2,o2+j*8+6,none⟩=some (.slice ya d.args.length da)) (b7:w.cell? ⟨g2,o2+j*8+7,none⟩=some (.slice yl d.labels.length dl)) (l1:y1<w.heap.size) (l2:y2<w.heap.size) (l3:g1<w.heap.size) (l4:g2<w.heap.size) (ra:Hid (RdS w (.slice xa d.args.length ca) d.args)) (rl:Hid (RdS w (.slice xl d.labels.length cl) d.labels)) (sa:Hid (RdS w (.slice ya d.args.length da) d.args)) (sl:Hid (RdS w (.slice yl d.labels.length dl) d.labels)) (h1:d.args.length≤maxLen) (h2:d.labels.length≤maxLen) (hPn:∀{x:List PanicEntry} {a a1:Act} {w:World},Q (.panic x) a w→a.defers=a1.defers→Q (.panic x) a1 w)
  (hQ:Hid (∀{wx:World} {v4 v12 v13 v98 v99 v100 v101 v102 v103 v104 v105 v106 v107 v108 v109 v110 v111 v112 v113 v114 v115 v116 v117 v118 v119 v120 v121 v122 v123 v124 v125 v126 v127 v128 v129 v130 v131 v132 v133 v134 v135 v136 v137 v138 v139 v140 v141 v142 v143 v144 v145 v146 v147 v148 v149 v150 v151 v152 v153 v154 v155 v156 v157 v158 v159 v160 v161 v162 v163:Value},Below w.heap.size w wx→Q .normal {tmps:=#[u0,u1,u2,u3,v4,u5,u6,u7,u8,.pointer (some ⟨y1,0,none⟩),.pointer (some ⟨y2,0,none⟩),.int .i64 j,v12,v13,u14,u15,u16,u17,u18,u19,u20,u21,u22,u23,u24,u25,u26,u27,u28,u29,u30,u31,u32,u33,u34,u35,u36,u37,u38,u39,u40,u41,u42,u43,u44,u45,u46,u47,u48,u49,u50,u51,u52,u53,u54,u55,u56,u57,u58,u59,u60,u61,u62,u63,u64,u65,u66,u67,u68,u69,u70,u71,u72,u73,u74,u75,u76,u77,u78,u79,u80,u81,u82,u83,u84,u85,u86,u87,u88,u89,u90,u91,u92,u93,u94,u95,u96,u97,v98,v99,v100,v101,v102,v103,v104,v105,v106,v107,v108,v109,v110,v111,v112,v113,v114,v115,v116,v117,v118,v119,v120,v121,v122,v123,v124,v125,v126,v127,v128,v129,v130,v131,v132,v133,v134,v135,v136,v137,v138,v139,v140,v141,v142,v143,v144,v145,v146,v147,v148,v149,v150,v151,v152,v153,v154,v155,v156,v157,v158,v159,v160,v161,v162,v163],defers:=[]} wx)):
  c.wp Tryd.prog Q {tmps:=#[u0,u1,u2,u3,u4,u5,u6,u7,u8,.pointer (some ⟨y1,0,none⟩),.pointer (some ⟨y2,0,none⟩),.int .i64 j,u12,u13,u14,u15,u16,u17,u18,u19,u20,u21,u22,u23,u24,u25,u26,u27,u28,u29,u30,u31,u32,u33,u34,u35,u36,u37,u38,u39,u40,u41,u42,u43,u44,u45,u46,u47,u48,u49,u50,u51,u52,u53,u54,u55,u56,u57,u58,u59,u60,u61,u62,u63,u64,u65,u66,u67,u68,u69,u70,u71,u72,u73,u74,u75,u76,u77,u78,u79,u80,u81,u82,u83,u84,u85,u86,u87,u88,u89,u90,u91,u92,u93,u94,u95,u96,u97,u98,u99,u100,u101,u102,u103,u104,u105,u106,u107,u108,u109,u110,u111,u112,u113,u114,u115,u116,u117,u118,u119,u120,u121,u122,u123,u124,u125,u126,u127,u128,u129,u130,u131,u132,u133,u134,u135,u136,u137,u138,u139,u140,u141,u142,u143,u144,u145,u146,u147,u148,u149,u150,u151,u152,u153,u154,u155,u156,u157,u158,u159,u160,u161,u162,u163],defers:=[]} w:=by
 conv at hc=>lhs;whnf
 simp only [Option.some.injEq] at hc
 subst hc
 go_upto_region 18 with fail
 have hS:w.cell? ⟨y1,1,none⟩=some (.slice (some ⟨g1,o1,none⟩) n c1)∧w.cell? ⟨y2,1,none⟩=some (.slice (some ⟨g2,o2,none⟩) n c2)∧w.cell? ⟨g1,o1+j*8,none⟩=some (.int .u8 d.op)∧w.cell? ⟨g1,o1+j*8+1,none⟩=some (.string d.dst)∧w.cell? ⟨g1,o1+j*8+2,none⟩=some (.string d.a)∧w.cell? ⟨g1,o1+j*8+3,none⟩=some (.string d.b)∧w.cell? ⟨g1,o1+j*8+4,none⟩=some (.int .i64 d.n)∧w.cell? ⟨g1,o1+j*8+5,none⟩=some (.string d.fn)∧w.cell? ⟨g1,o1+j*8+6,none⟩=some (.slice xa d.args.length ca)∧w.cell? ⟨g1,o1+j*8+7,none⟩=some (.slice xl d.labels.length cl)∧w.cell? ⟨g2,o2+j*8,none⟩=some (.int .u8 d.op)∧w.cell? ⟨g2,o2+j*8+1,none⟩=some (.string d.dst)∧w.cell? ⟨g2,o2+j*8+2,none⟩=some (.string d.a)∧w.cell? ⟨g2,o2+j*8+3,none⟩=some (.string d.b)∧w.cell? ⟨g2,o2+j*8+4,none⟩=some (.int .i64 d.n)∧w.cell? ⟨g2,o2+j*8+5,none⟩=some (.string d.fn)∧w.cell? ⟨g2,o2+j*8+6,none⟩=some (.slice ya d.args.length da)∧w.cell? ⟨g2,o2+j*8+7,none⟩=some (.slice yl d.labels.length dl):=⟨hy1,hy2,a0,a1,a2,a3,a4,a5,a6,a7,b0,b1,b2,b3,b4,b5,b6,b7⟩
 refine wp_region_noPanic ?_
 go_region_held3 (fun w'=>w'.cell? ⟨y1,1,none⟩=some (.slice (some ⟨g1,o1,none⟩) n c1)∧w'.cell? ⟨y2,1,none⟩=some (.slice (some ⟨g2,o2,none⟩) n c2)∧w'.cell? ⟨g1,o1+j*8,none⟩=some (.int .u8 d.op)∧w'.cell? ⟨g1,o1+j*8+1,none⟩=some (.string d.dst)∧w'.cell? ⟨g1,o1+j*8+2,none⟩=some (.string d.a)∧w'.cell? ⟨g1,o1+j*8+3,none⟩=some (.string d.b)∧w'.cell? ⟨g1,o1+j*8+4,none⟩=some (.int .i64 d.n)∧w'.cell? ⟨g1,o1+j*8+5,none⟩=some (.string d.fn)∧w'.cell? ⟨g1,o1+j*8+6,none⟩=some (.slice xa d.args.length ca)∧w'.cell? ⟨g1,o1+j*8+7,none⟩=some (.slice xl d.labels.length cl)∧w'.cell? ⟨g2,o2+j*8,none⟩=some (.int .u8 d.op)∧w'.cell? ⟨g2,o2+j*8+1,none⟩=some (.string d.dst)∧w'.cell? ⟨g2,o2+j*8+2,none⟩=some (.string d.a)∧w'.cell? ⟨g2,o2+j*8+3,none⟩=some (.string d.b)∧w'.cell? ⟨g2,o2+j*8+4,none⟩=some (.int .i64 d.n)∧w'.cell? ⟨g2,o2+j*8+5,none⟩=some (.string d.fn)∧w'.cell? ⟨g2,o2+j*8+6,none⟩=some (.slice ya d.args.length da)∧w'.cell? ⟨g2,o2+j*8+7,none⟩=some (.slice yl d.labels.length dl)) (simp [go_sem, *]) (go_simp)
 all_goals
  refine NoPanic.normal ?_
  rename_i hH
  clear hH hS hy1 hy2 hj a0 a1 a2 a3 a4 a5 a6 a7 b0 b1 b2 b3 b4 b5 b6 b7
  have hbe:∀a b:Array Value,Below w.heap.size w (((w.alloc (.cells a 49)).alloc (.cells b 49)).drew):=fun a b=>(((Below.refl _ _).alloc (Nat.le_refl _) _).alloc (by simp) _).drew
  go_wp2_with fail
  refine (textsR_any (Rd.below ra.out (hbe _ _)) (Rd.below sa.out (hbe _ _)) h1).mono ?_
  rintro e w2 ⟨rfl,k,rfl⟩
  have d1:decide (d.args=d.args)=true:=decide_eq_true rfl
  have hb0:∀a b:Array Value,Below w.heap.size w ((w.alloc (.cells a 49)).alloc (.cells b 49)):=fun a b=>((Below.refl _ _).alloc (Nat.le_refl _) _).alloc (by simp) _
  have hbd:=fun a b=>below_drawn (hb0 a b) (1+k)
  go_wp2_with fail
  refine (textsR_any (Rd.below rl.out (hbd _ _)) (Rd.below sl.out (hbd _ _)) h2).mono ?_
  rintro e w2 ⟨rfl,m,rfl⟩
  have d2:decide (d.labels=d.labels)=true:=decide_eq_true rfl
  go_wp2_with fail
  exact hQ.out (below_drawn (hb0 _ _) _)
end
end Go.Proofs.YtgcanabckogmmaaDoor
