/- RdB, RdC, RdD. -/
import Derived.Test.YtgcanabckogmmaaDoorZR5
namespace Go.Proofs.YtgcanabckogmmaaDoor
set_option linter.unusedVariables false
set_option linter.unusedSimpArgs false
section
open Go.RowKit Go.Maps Go.Shelf
attribute [local go_sem] Oper.semAt_some
section
variable {B:Nat} {w w':World} {pb gw cw:Nat} {T:List Tok} {i ln vb bb:Nat}
theorem kindB (k m:Nat):((k:Int)==(m:Int))=(k==m):=by
 rw [Bool.eq_iff_iff]
 simp
 omega
theorem more_any (h:PAt B w pb gw cw T i ln vb bb){q:Bool}(hq:moreB (T.drop i) ln=q):Calls Tryd.prog 65 #[.pointer (some ⟨pb,0,none⟩)] w fun e w'=>e=.returned (.bool q)∧Below w.heap.size w w':=by
 obtain⟨t,ht,hd⟩:=h.at
 have hw:=Lib.hid (word_any h ht)
 have hc2:=Lib.hid (fun (w':World) (hb:Below w.heap.size w w')=>(show w'.cell? ⟨pb,2,none⟩=some (.int .i64 ln)∧pb<w'.heap.size from ⟨by rw [blk_cell (h.below hb).blk];rfl,Nat.lt_of_lt_of_le h.ltP (h.below hb).top⟩))
 rw [hd] at hq
 simp only [moreB] at hq
 have g1:((t.kind:Int) != 4)=!(t.kind==4):=by rw [show ((4:Int))=((4:Nat):Int) from rfl,bne,kindB]
 have g2:((t.line:Int)==(ln:Int))=(t.line==ln):=kindB _ _
 unfold tokV at hw
 generalize (t.kind==4)=x1 at hq g1
 generalize (t.line==ln)=x2 at hq g2
 clear hd ht h
 subst hq
 cases x1<;>cases x2<;>(
  simp only [Bool.not_true,Bool.not_false] at g1
  go_enter Tryd.func65,Tryd.ntmps65
  go_upto_region 2 with (go_at_call 19;refine hw.out.mono ?_;rintro e w2 ⟨rfl,hb2⟩)
  obtain⟨c2,lp⟩:=hc2.out _ hb2
  go_quiet (fail)
  go_wp2_with fail
  go_ret
  exact⟨rfl,below_drawn (hb2.alloc hb2.size _) _⟩)
theorem fld0 (t:Tok)(w:World):(Instr.field 38 (.agg #[.int .u8 t.kind,.string (nmT t),.int .i64 t.num,.int .i64 t.line,.int .i64 t.col]) 0).run Tryd.prog w=.ok (.int .u8 t.kind) w:=by kernel_rfl
theorem fld1 (t:Tok)(w:World):(Instr.field 38 (.agg #[.int .u8 t.kind,.string (nmT t),.int .i64 t.num,.int .i64 t.line,.int .i64 t.col]) 1).run Tryd.prog w=.ok (.string (nmT t)) w:=by kernel_rfl
theorem fld2 (t:Tok)(w:World):(Instr.field 38 (.agg #[.int .u8 t.kind,.string (nmT t),.int .i64 t.num,.int .i64 t.line,.int .i64 t.col]) 2).run Tryd.prog w=.ok (.int .i64 t.num) w:=by kernel_rfl
attribute [local go_sem] fld0 fld1 fld2
theorem nm_list (t:Tok):(nmT t).toList=t.text:=by unfold nmT;rw [Lib.toList_data]
set_option maxRecDepth 20000 in
theorem is_any (h:PAt B w pb gw cw T i ln vb bb)(c:UInt8){q:Bool}(hq:isB (T.drop i) ln c=q):Calls Tryd.prog 44 #[.pointer (some ⟨pb,0,none⟩),.string ⟨#[c]⟩] w fun e w'=>e=.returned (.bool q)∧Below w.heap.size w w':=by
 obtain⟨t,ht,hd⟩:=h.at
 obtain⟨m,hm⟩:∃m,moreB (T.drop i) ln=m:=⟨_,rfl⟩
 have hmo:=Lib.hid (more_any h hm)
 have hw:=Lib.hid (fun (w':World) (hb:Below w.heap.size w w')=>word_any (h.below hb) ht)
 unfold isB at hq
 rw [hm,hd] at hq
 simp only [signAt] at hq
 have g1:((t.kind:Int)==3)=(t.kind==3):=kindB _ 3
 have g2:((nmT t).toList==[c])=(t.text==[c]):=by rw [nm_list]
 unfold tokV at hw
 generalize (t.kind==3)=x1 at hq g1
 generalize (t.text==[c])=x2 at hq g2
 clear hd ht h hm
 subst hq
 cases m with
 | false=>
  go_enter Tryd.func44,Tryd.ntmps44
  go_wp2_with (go_at_call 65;refine hmo.out.mono ?_;rintro e w2 ⟨rfl,hb2⟩)
  go_ret
  exact⟨rfl,hb2⟩
 | true=>
  cases x1 with
  | false=>
   go_enter Tryd.func44,Tryd.ntmps44
   go_wp2_with (go_at_call 65;refine hmo.out.mono ?_;rintro e w2 ⟨rfl,hb2⟩)
   go_wp2_with (go_at_call 19;refine (hw.out _ hb2).mono ?_;rintro e w3 ⟨rfl,hb3⟩)
   go_ret
   exact⟨rfl,hb2.trans (hb3.mono hb2.size)⟩
  | true=>
   cases x2<;>(
    go_enter Tryd.func44,Tryd.ntmps44
    go_wp2_with (go_at_call 65;refine hmo.out.mono ?_;rintro e w2 ⟨rfl,hb2⟩)
    go_wp2_with (go_at_call 19;refine (hw.out _ hb2).mono ?_;rintro e w3 ⟨rfl,hb3⟩;replace hb2:=hb2.trans (hb3.mono hb2.size);clear hb3)
    go_ret
    exact⟨rfl,hb2⟩)
def chF (f:Flt):List PanicEntry:=[{v:=.iface 57 (.agg #[.int .i64 f.1,.int .i64 f.2.1,.int .i64 f.2.2]),recovered:=false,goexit:=false}]
set_option maxRecDepth 20000 in
theorem refuse_any (h:PAt B w pb gw cw T i ln vb bb):Calls Tryd.prog 40 #[.pointer (some ⟨pb,0,none⟩)] w fun e w'=>e=.panicked (chF (fltL (T.drop i)))∧Below w.heap.size w w':=by
 obtain⟨t,ht,hd⟩:=h.at
 have hw:=Lib.hid (word_any h ht)
 rw [hd]
 unfold tokV at hw
 clear h ht hd
 by_cases h4:t.kind=4
 ·have g1:((t.kind:Int)==4)=true:=by simp;omega
  rw [show fltL (t::T.drop (i+1))=(t.line,t.col,41) by simp only [fltL];rw [if_pos h4]]
  clear h4
  unfold chF
  go_enter Tryd.func40,Tryd.ntmps40
  go_wp2_with (go_at_call 19;refine hw.out.mono ?_;rintro e w2 ⟨rfl,hb2⟩)
  exact⟨rfl,rfl,hb2.alloc hb2.size _⟩
 ·have g1:((t.kind:Int)==4)=false:=by simp;omega
  rw [show fltL (t::T.drop (i+1))=(t.line,t.col,40) by simp only [fltL];rw [if_neg h4]]
  clear h4
  unfold chF
  go_enter Tryd.func40,Tryd.ntmps40
  go_wp2_with (go_at_call 19;refine hw.out.mono ?_;rintro e w2 ⟨rfl,hb2⟩)
  exact⟨rfl,rfl,hb2.alloc hb2.size _⟩
theorem keepB {w w':World}{b:Nat}{x:Obj}(hb:Below w.heap.size w w')(h:w.heap[b]?=some x):w'.heap[b]?=some x:=(hb.block b (Array.getElem?_eq_some_iff.1 h).1).trans h
theorem cells5 {w:World}{b:Nat}{x0 x1 x2 x3 x4:Value}{t:TypeId}(h:w.heap[b]?=some (.cells #[x0,x1,x2,x3,x4] t (0,0))):w.cell? ⟨b,0,none⟩=some x0∧w.cell? ⟨b,1,none⟩=some x1∧w.cell? ⟨b,2,none⟩=some x2∧w.cell? ⟨b,3,none⟩=some x3∧w.cell? ⟨b,4,none⟩=some x4:=by
 refine⟨?_,?_,?_,?_,?_⟩<;>(rw [blk_cell h];rfl)
theorem frozB {w:World}{b:Nat}{cs:Array Value}{t:TypeId}(h:w.heap[b]?=some (.cells cs t (0,0)))(o:Nat):w.frozen? ⟨b,o,none⟩=false:=by simp [World.frozen?,h]
theorem at_newP {w:World}{o:Obj}{b:Nat}(h:b=w.heap.size):(w.alloc o).heap[b]?=some o:=by
 subst h
 exact heap_alloc_new _ _
theorem at_oldP {w:World}{o:Obj}{b:Nat}{x:Obj}(h:w.heap[b]?=some x):(w.alloc o).heap[b]?=some x:=by
 have hb:=(Array.getElem?_eq_some_iff.1 h).1
 simp only [World.alloc]
 rw [Array.getElem?_push,if_neg (by omega)]
 exact h
theorem heap_set5 {w:World}{b k:Nat}(h:k≠b)(x0 x1 x2 x3 x4:Value):(((((w.setCell ⟨b,0,none⟩ x0).setCell ⟨b,1,none⟩ x1).setCell ⟨b,2,none⟩ x2).setCell ⟨b,3,none⟩ x3).setCell ⟨b,4,none⟩ x4).heap[k]?=w.heap[k]?:=by
 rw [Below.heap_setCell _ _ _ _ h,Below.heap_setCell _ _ _ _ h,Below.heap_setCell _ _ _ _ h,Below.heap_setCell _ _ _ _ h,Below.heap_setCell _ _ _ _ h]
theorem next_in {T:List Tok}{i:Nat}{t:Tok}(h:TokOk T)(ht:T[i]?=some t)(h4:t.kind≠4):i+1<T.length:=by
 obtain⟨l,x,rfl,hx,-⟩:=h.last
 rcases Nat.lt_or_ge i l.length with hi | hi
 ·rw [List.length_append,List.length_singleton];omega
 ·exfalso
  have hl:=(List.getElem?_eq_some_iff.1 ht).1
  rw [List.length_append,List.length_singleton] at hl
  rw [List.getElem?_append_right hi,show i-l.length=0 by omega] at ht
  simp at ht
  exact h4 (ht ▸ hx)
set_option maxRecDepth 20000 in
theorem take_ok (h:PAt B w pb gw cw T i ln vb bb){k:Nat}{t:Tok}{r:List Tok}(hr:takeP k (T.drop i) ln=.ok (t,r)):Calls Tryd.prog 62 #[.pointer (some ⟨pb,0,none⟩),.int .u8 k] w fun e w'=>e=.returned (tokV t)∧PAt B w' pb gw cw T (i+1) ln vb bb∧Touch w w' (fun k=>k=pb):=by
 obtain⟨t',ht,hd⟩:=h.at
 have hm:moreB (T.drop i) ln=true:=by
  unfold takeP at hr
  rw [hd] at hr ⊢
  dsimp only at hr
  split at hr
  ·rename_i h1;rw [Bool.and_eq_true] at h1;exact h1.1
  ·cases hr
 obtain⟨e1,e2,-,e4⟩:=take_len hr
 rw [hd] at e1
 obtain⟨rfl,rfl⟩:=List.cons.inj e1
 have hw:=Lib.hid (word_any (h.below ((Below.refl w.heap.size w).alloc (Nat.le_refl _) (.cells #[.int .u8 0,.string ⟨#[]⟩,.int .i64 0,.int .i64 0,.int .i64 0] 38))) ht)
 have hmo:=Lib.hid (fun (w':World) (hb:Below w.heap.size w w')=>more_any (h.below hb) hm)
 have hnx:=next_in h.ok ht e4
 have g1:((t'.kind:Int) != (k:Int))=false:=by rw [bne,kindB];simpa using e2
 have hi:=h.here
 have hlen:=h.ok.len
 have hP:=Lib.hid h
 have lp:pb<w.heap.size:=Nat.lt_of_lt_of_le h.ltP h.top
 unfold tokV at hw ⊢
 clear h ht hd hr hm e1 e2 e4
 go_enter Tryd.func62,Tryd.ntmps62
 go_wp2_with (go_at_call 19;refine hw.out.mono ?_;rintro e w2 ⟨rfl,hb2⟩)
 have hN1:=keepB hb2 (at_newP (w:=w) rfl)
 have hb3:Below w.heap.size w w2:=((Below.refl w.heap.size w).alloc (Nat.le_refl _) _).trans (hb2.mono (by simp))
 have hb4:=hb3.alloc hb3.size (.cells #[.int .u8 t'.kind,.string (nmT t'),.int .i64 t'.num,.int .i64 t'.line,.int .i64 t'.col] 38)
 have hN2:=at_oldP (o:=.cells #[.int .u8 t'.kind,.string (nmT t'),.int .i64 t'.num,.int .i64 t'.line,.int .i64 t'.col] 38) hN1
 have hN3:=at_newP (w:=w2) (o:=.cells #[.int .u8 t'.kind,.string (nmT t'),.int .i64 t'.num,.int .i64 t'.line,.int .i64 t'.col] 38) rfl
 refine (hmo.out _ hb4).mono ?_
 rintro e w5 ⟨rfl,hb5⟩
 replace hN2:=keepB hb5 hN2
 replace hN3:=keepB hb5 hN3
 have hb6:=hb4.trans (hb5.mono hb4.size)
 have hP6:=hP.out.below hb6
 have p1:w5.cell? ⟨pb,1,none⟩=some (.int .i64 i):=by rw [blk_cell hP6.blk];rfl
 have y1:=frozB hP6.blk 1
 obtain⟨k0,k1,k2,k3,k4⟩:=cells5 hN3
 obtain⟨r0,r1,r2,r3,r4⟩:=cells5 hN2
 have z0:=frozB hN2 0
 have z1:=frozB hN2 1
 have z2:=frozB hN2 2
 have z3:=frozB hN2 3
 have z4:=frozB hN2 4
 have l2:w.heap.size<w2.heap.size:=by have:=hb2.size;simp at this;omega
 have l5:w2.heap.size<w5.heap.size:=by have:=hb5.size;simp at this;omega
 replace hb6:=Lib.hid hb6
 replace hP6:=Lib.hid hP6
 replace hN2:=Lib.hid hN2
 clear hN1 hN3 hb2 hb3 hb4 hb5
 go_wp2_with fail
 have hT:Touch w (((((w5.setCell ⟨pb,1,none⟩ (.int .i64 ((i:Int)+1))).setCell ⟨w.heap.size,0,none⟩ (.int .u8 t'.kind)).setCell ⟨w.heap.size,1,none⟩ (.string (nmT t'))).setCell ⟨w.heap.size,2,none⟩ (.int .i64 t'.num)).setCell ⟨w.heap.size,3,none⟩ (.int .i64 t'.line) |>.setCell ⟨w.heap.size,4,none⟩ (.int .i64 t'.col)) (fun k=>k=pb):=
  ((((((Touch.of_below hb6.out (fun k=>k=pb)).setCell (a:=⟨pb,1,none⟩) (fun _=>rfl) _).setCell (a:=⟨w.heap.size,0,none⟩) (fun h=>absurd h (Nat.lt_irrefl _)) _).setCell (a:=⟨w.heap.size,1,none⟩) (fun h=>absurd h (Nat.lt_irrefl _)) _).setCell (a:=⟨w.heap.size,2,none⟩) (fun h=>absurd h (Nat.lt_irrefl _)) _).setCell (a:=⟨w.heap.size,3,none⟩) (fun h=>absurd h (Nat.lt_irrefl _)) _).setCell (a:=⟨w.heap.size,4,none⟩) (fun h=>absurd h (Nat.lt_irrefl _)) _
 refine bodyPost_ret (v:=.agg #[.int .u8 t'.kind,.string (nmT t'),.int .i64 t'.num,.int .i64 t'.line,.int .i64 t'.col]) (by simp [results,Tryd.results62,go_sem, *]) rfl ⟨rfl,hP.out.set hT ?_ hnx hP.out.line,hT⟩
 rw [heap_set5 (by omega)]
 exact blk_set (i:=1) _ hP6.out.blk
set_option maxRecDepth 20000 in
theorem take_bad (h:PAt B w pb gw cw T i ln vb bb){k:Nat}{f:Flt}(hr:takeP k (T.drop i) ln=.error f):Calls Tryd.prog 62 #[.pointer (some ⟨pb,0,none⟩),.int .u8 k] w fun e w'=>e=.panicked (chF f)∧Below w.heap.size w w':=by
 obtain⟨t',ht,hd⟩:=h.at
 have hf:f=fltL (T.drop i):=by
  unfold takeP at hr
  rw [hd] at hr ⊢
  dsimp only at hr
  split at hr
  ·cases hr
  ·injection hr with hr;exact hr.symm
 have hq:(moreB (T.drop i) ln&&t'.kind==k)=false:=by
  unfold takeP at hr
  rw [hd] at hr ⊢
  dsimp only at hr
  split at hr
  ·cases hr
  ·rename_i h1;simpa using h1
 obtain⟨m,hm⟩:∃m,moreB (T.drop i) ln=m:=⟨_,rfl⟩
 rw [hm] at hq
 have hw:=Lib.hid (word_any (h.below ((Below.refl w.heap.size w).alloc (Nat.le_refl _) (.cells #[.int .u8 0,.string ⟨#[]⟩,.int .i64 0,.int .i64 0,.int .i64 0] 38))) ht)
 have hmo:=Lib.hid (fun (w':World) (hb:Below w.heap.size w w')=>more_any (h.below hb) hm)
 have hre:=Lib.hid (fun (w':World) (hb:Below w.heap.size w w')=>refuse_any (h.below hb))
 rw [←hf] at hre
 have hg:m=true→((t'.kind:Int) != (k:Int))=true:=fun e=>by rw [bne,kindB];rw [e] at hq;simpa using hq
 unfold tokV at hw
 clear h ht hd hr hm hf hq
 cases m with
 | false=>
  clear hg
  go_enter Tryd.func62,Tryd.ntmps62
  go_wp2_with (go_at_call 19;refine hw.out.mono ?_;rintro e w2 ⟨rfl,hb2⟩)
  have hb3:Below w.heap.size w w2:=((Below.refl w.heap.size w).alloc (Nat.le_refl _) _).trans (hb2.mono (by simp))
  have hb4:=hb3.alloc hb3.size (.cells #[.int .u8 t'.kind,.string (nmT t'),.int .i64 t'.num,.int .i64 t'.line,.int .i64 t'.col] 38)
  refine (hmo.out _ hb4).mono ?_
  rintro e w5 ⟨rfl,hb5⟩
  have hb6:=hb4.trans (hb5.mono hb4.size)
  clear hb2 hb3 hb4 hb5
  go_wp2_with (go_at_call 40;refine (hre.out _ hb6).mono ?_;rintro e w6 ⟨rfl,hb7⟩)
  exact⟨rfl,rfl,hb6.trans (hb7.mono hb6.size)⟩
 | true=>
  have g1:=hg rfl
  clear hg
  go_enter Tryd.func62,Tryd.ntmps62
  go_wp2_with (go_at_call 19;refine hw.out.mono ?_;rintro e w2 ⟨rfl,hb2⟩)
  have hb3:Below w.heap.size w w2:=((Below.refl w.heap.size w).alloc (Nat.le_refl _) _).trans (hb2.mono (by simp))
  have hb4:=hb3.alloc hb3.size (.cells #[.int .u8 t'.kind,.string (nmT t'),.int .i64 t'.num,.int .i64 t'.line,.int .i64 t'.col] 38)
  have hN3:=at_newP (w:=w2) (o:=.cells #[.int .u8 t'.kind,.string (nmT t'),.int .i64 t'.num,.int .i64 t'.line,.int .i64 t'.col] 38) rfl
  refine (hmo.out _ hb4).mono ?_
  rintro e w5 ⟨rfl,hb5⟩
  replace hN3:=keepB hb5 hN3
  obtain⟨k0,-,-,-,-⟩:=cells5 hN3
  have hb6:=hb4.trans (hb5.mono hb4.size)
  clear hb2 hb3 hb4 hb5 hN3
  go_wp2_with (go_at_call 40;refine (hre.out _ hb6).mono ?_;rintro e w6 ⟨rfl,hb7⟩)
  exact⟨rfl,rfl,hb6.trans (hb7.mono hb6.size)⟩
theorem name_ok (h:PAt B w pb gw cw T i ln vb bb){s:ByteArray}{r:List Tok}(hr:nameP (T.drop i) ln=.ok (s,r)):Calls Tryd.prog 41 #[.pointer (some ⟨pb,0,none⟩)] w fun e w'=>e=.returned (.string s)∧PAt B w' pb gw cw T (i+1) ln vb bb∧Touch w w' (fun k=>k=pb):=by
 unfold nameP at hr
 cases ht:takeP 1 (T.drop i) ln with
 | error f=>rw [ht] at hr;cases hr
 | ok x=>
  obtain⟨t,r'⟩:=x
  rw [ht] at hr
  injection hr with hr
  injection hr with e1 e2
  subst e1
  have ht2:=Lib.hid (take_ok h ht)
  unfold tokV at ht2
  clear h ht
  go_enter Tryd.func41,Tryd.ntmps41
  go_wp2_with (go_at_call 62;refine ht2.out.mono ?_;rintro e w2 ⟨rfl,hP,hT⟩)
  go_ret
  exact⟨rfl,hP,hT⟩
theorem name_bad (h:PAt B w pb gw cw T i ln vb bb){f:Flt}(hr:nameP (T.drop i) ln=.error f):Calls Tryd.prog 41 #[.pointer (some ⟨pb,0,none⟩)] w fun e w'=>e=.panicked (chF f)∧Below w.heap.size w w':=by
 unfold nameP at hr
 cases ht:takeP 1 (T.drop i) ln with
 | ok x=>rw [ht] at hr;cases hr
 | error g=>
  rw [ht] at hr
  injection hr with e1
  subst e1
  have ht2:=Lib.hid (take_bad h ht)
  clear h ht
  go_enter Tryd.func41,Tryd.ntmps41
  go_wp2_with (go_at_call 62;refine ht2.out.mono ?_;rintro e w2 ⟨rfl,hb⟩)
  exact⟨rfl,rfl,hb⟩
set_option maxRecDepth 20000 in
theorem sign_ok (h:PAt B w pb gw cw T i ln vb bb){c:UInt8}{r:List Tok}(hr:signP c (T.drop i) ln=.ok r):Calls Tryd.prog 43 #[.pointer (some ⟨pb,0,none⟩),.string ⟨#[c]⟩] w fun e w'=>e=.returned (.tuple #[])∧PAt B w' pb gw cw T (i+1) ln vb bb∧Touch w w' (fun k=>k=pb):=by
 obtain⟨t,ht,hd⟩:=h.at
 have hq:isB (T.drop i) ln c=true:=by
  unfold signP at hr
  split at hr
  ·assumption
  ·cases hr
 obtain⟨t',e1,e2,-,-⟩:=sign_len hr
 rw [hd] at e1
 obtain⟨rfl,-⟩:=List.cons.inj e1
 have hnx:=next_in h.ok ht (by omega)
 have his:=Lib.hid (is_any h c hq)
 have hi:=h.here
 have hlen:=h.ok.len
 have lp:pb<w.heap.size:=Nat.lt_of_lt_of_le h.ltP h.top
 have hP:=Lib.hid h
 clear h ht hd hr hq e1 e2
 go_enter Tryd.func43,Tryd.ntmps43
 go_wp2_with fail
 refine his.out.mono ?_
 rintro e w2 ⟨rfl,hb2⟩
 have hP2:=hP.out.below hb2
 have p1:w2.cell? ⟨pb,1,none⟩=some (.int .i64 i):=by rw [blk_cell hP2.blk];rfl
 have y1:=frozB hP2.blk 1
 replace hb2:=Lib.hid hb2
 replace hP2:=Lib.hid hP2
 go_wp2_with fail
 have hT:Touch w (w2.setCell ⟨pb,1,none⟩ (.int .i64 ((i:Int)+1))) (fun k=>k=pb):=(Touch.of_below hb2.out (fun k=>k=pb)).setCell (a:=⟨pb,1,none⟩) (fun _=>rfl) _
 go_end0
 exact⟨rfl,hP.out.set hT (blk_set (i:=1) _ hP2.out.blk) hnx hP.out.line,hT⟩
theorem sign_bad (h:PAt B w pb gw cw T i ln vb bb){c:UInt8}{f:Flt}(hr:signP c (T.drop i) ln=.error f):Calls Tryd.prog 43 #[.pointer (some ⟨pb,0,none⟩),.string ⟨#[c]⟩] w fun e w'=>e=.panicked (chF f)∧Below w.heap.size w w':=by
 have hq:isB (T.drop i) ln c=false∧f=fltL (T.drop i):=by
  unfold signP at hr
  split at hr
  ·cases hr
  ·rename_i h1
   injection hr with hr
   exact⟨by simpa using h1,hr.symm⟩
 have his:=Lib.hid (is_any h c hq.1)
 have hre:=Lib.hid (fun (w':World) (hb:Below w.heap.size w w')=>refuse_any (h.below hb))
 rw [←hq.2] at hre
 clear h hr hq
 go_enter Tryd.func43,Tryd.ntmps43
 go_wp2_with (go_at_call 44;refine his.out.mono ?_;rintro e w2 ⟨rfl,hb2⟩)
 go_wp2_with (go_at_call 40;refine (hre.out _ hb2).mono ?_;rintro e w6 ⟨rfl,hb7⟩)
 exact⟨rfl,rfl,hb2.trans (hb7.mono hb2.size)⟩
end
end
section
open Go.RowKit Go.Maps Go.Shelf
attribute [local go_sem] Oper.semAt_some
section
variable {B:Nat} {w w':World} {pb gw cw:Nat} {T:List Tok} {i ln vb bb:Nat}
theorem begin_cons (t:Tok)(r:List Tok)(ln:Nat):beginP (t::r) ln=if (!(t.kind==4)&&t.line==ln)=true then .error (fltL (t::r)) else .ok t.line:=rfl
set_option maxRecDepth 20000 in
theorem begin_ok (h:PAt B w pb gw cw T i ln vb bb){ln':Nat}(hr:beginP (T.drop i) ln=.ok ln'):Calls Tryd.prog 18 #[.pointer (some ⟨pb,0,none⟩)] w fun e w'=>e=.returned (.tuple #[])∧PAt B w' pb gw cw T i ln' vb bb∧Touch w w' (fun k=>k=pb):=by
 obtain⟨t,ht,hd⟩:=h.at
 have hq:(!(t.kind==4)&&t.line==ln)=false∧ln'=t.line:=by
  rw [hd,begin_cons] at hr
  by_cases h1:(!(t.kind==4)&&t.line==ln)=true
  ·rw [if_pos h1] at hr;cases hr
  ·rw [if_neg h1] at hr
   injection hr with hr
   exact⟨by simpa using h1,hr.symm⟩
 have hw:=Lib.hid (word_any h ht)
 obtain⟨hq,rfl⟩:=hq
 have hln:=(h.ok.line t (List.mem_of_getElem? ht)).1
 have g1:((t.kind:Int) != 4)=!(t.kind==4):=by rw [show ((4:Int))=((4:Nat):Int) from rfl,bne,kindB]
 have g2:((t.line:Int)==(ln:Int))=(t.line==ln):=kindB _ _
 generalize (t.kind==4)=x1 at hq g1
 generalize (t.line==ln)=x2 at hq g2
 have hP:=Lib.hid h
 unfold tokV at hw
 clear h ht hd hr
 go_enter Tryd.func18,Tryd.ntmps18
 go_upto_region 1 with (go_at_call 19;refine hw.out.mono ?_;rintro e w2 ⟨rfl,hb2⟩)
 have hN:=at_newP (w:=w2) (o:=.cells #[.int .u8 t.kind,.string (nmT t),.int .i64 t.num,.int .i64 t.line,.int .i64 t.col] 38) rfl
 have hb3:=hb2.alloc hb2.size (.cells #[.int .u8 t.kind,.string (nmT t),.int .i64 t.num,.int .i64 t.line,.int .i64 t.col] 38)
 generalize (w2.alloc (.cells #[.int .u8 t.kind,.string (nmT t),.int .i64 t.num,.int .i64 t.line,.int .i64 t.col] 38))=w3 at hN hb3 ⊢
 generalize w2.heap.size=tb at hN ⊢
 obtain⟨k0,k1,k2,k3,k4⟩:=cells5 hN
 have hP3:=hP.out.below hb3
 have c2:w3.cell? ⟨pb,2,none⟩=some (.int .i64 ln):=by rw [blk_cell hP3.blk];rfl
 have y2:=frozB hP3.blk 2
 replace hN:=Lib.hid hN
 replace hb3:=Lib.hid hb3
 replace hP3:=Lib.hid hP3
 clear hb2
 have hfin:∀w4,w4.heap=w3.heap→Below w3.heap.size w3 w4→PAt B (w4.setCell ⟨pb,2,none⟩ (.int .i64 t.line)) pb gw cw T i t.line vb bb∧Touch w (w4.setCell ⟨pb,2,none⟩ (.int .i64 t.line)) (fun k=>k=pb):=fun w4 e4 hb4=>by
  have hT:Touch w (w4.setCell ⟨pb,2,none⟩ (.int .i64 t.line)) (fun k=>k=pb):=(Touch.of_below (hb3.out.trans (hb4.mono hb3.out.size)) (fun k=>k=pb)).setCell (a:=⟨pb,2,none⟩) (fun _=>rfl) _
  exact⟨hP.out.set hT (blk_set (i:=2) _ (by rw [e4];exact hP3.out.blk)) hP.out.here (by omega),hT⟩
 replace hfin:=Lib.hid hfin
 cases x1 with
 | true=>
  simp only [Bool.not_true] at g1
  go_quiet (fail)
  go_wp2_with fail
  go_end0
  exact⟨rfl,hfin.out _ rfl (below_drawn (Below.refl _ _) _)⟩
 | false=>
  obtain rfl:x2=false:=by simpa using hq
  simp only [Bool.not_false] at g1
  go_quiet (fail)
  go_wp2_with fail
  go_end0
  exact⟨rfl,hfin.out _ rfl (below_drawn (Below.refl _ _) _)⟩
set_option maxRecDepth 20000 in
theorem begin_bad (h:PAt B w pb gw cw T i ln vb bb){f:Flt}(hr:beginP (T.drop i) ln=.error f):Calls Tryd.prog 18 #[.pointer (some ⟨pb,0,none⟩)] w fun e w'=>e=.panicked (chF f)∧Below w.heap.size w w':=by
 obtain⟨t,ht,hd⟩:=h.at
 have hq:t.kind≠4∧t.line=ln∧f=fltL (T.drop i):=by
  rw [hd,begin_cons] at hr
  rw [hd]
  by_cases h1:(!(t.kind==4)&&t.line==ln)=true
  ·rw [if_pos h1] at hr
   injection hr with hr
   simp at h1
   exact⟨h1.1,h1.2,hr.symm⟩
  ·rw [if_neg h1] at hr;cases hr
 have hw:=Lib.hid (word_any h ht)
 have hre:=Lib.hid (fun (w':World) (hb:Below w.heap.size w w')=>refuse_any (h.below hb))
 rw [←hq.2.2] at hre
 have g1:((t.kind:Int) != 4)=true:=by have:=hq.1;simp;omega
 have g2:((t.line:Int)==(ln:Int))=true:=by have:=hq.2.1;simp;omega
 have hP:=Lib.hid h
 unfold tokV at hw
 clear h ht hd hr hq
 go_enter Tryd.func18,Tryd.ntmps18
 go_upto_region 1 with (go_at_call 19;refine hw.out.mono ?_;rintro e w2 ⟨rfl,hb2⟩)
 have hN:=at_newP (w:=w2) (o:=.cells #[.int .u8 t.kind,.string (nmT t),.int .i64 t.num,.int .i64 t.line,.int .i64 t.col] 38) rfl
 have hb3:=hb2.alloc hb2.size (.cells #[.int .u8 t.kind,.string (nmT t),.int .i64 t.num,.int .i64 t.line,.int .i64 t.col] 38)
 generalize (w2.alloc (.cells #[.int .u8 t.kind,.string (nmT t),.int .i64 t.num,.int .i64 t.line,.int .i64 t.col] 38))=w3 at hN hb3 ⊢
 generalize w2.heap.size=tb at hN ⊢
 obtain⟨k0,k1,k2,k3,k4⟩:=cells5 hN
 have hP3:=hP.out.below hb3
 have c2:w3.cell? ⟨pb,2,none⟩=some (.int .i64 ln):=by rw [blk_cell hP3.blk];rfl
 replace hN:=Lib.hid hN
 replace hb3:=Lib.hid hb3
 replace hP3:=Lib.hid hP3
 clear hb2
 go_quiet (fail)
 go_wp2_with (go_at_call 40;refine (hre.out _ (below_drawn hb3.out _)).mono ?_;rintro e w6 ⟨rfl,hb7⟩)
 exact⟨rfl,rfl,(below_drawn hb3.out _).trans (hb7.mono (below_drawn hb3.out _).size)⟩
end
end
section
open Go.RowKit Go.Maps Go.Shelf
attribute [local go_sem] Oper.semAt_some fld0 fld1 fld2
structure XAt (Bx:Nat) (w:World) (Sx:Nat) (y:Ins) (va vl:Value):Prop where
 blk:w.heap[Sx]?=some (.cells #[.int .u8 y.op,.string y.dst,.string y.a,.string y.b,.int .i64 y.n,.string y.fn,va,vl] 49 (0,0))
 ra:w.ownsRow Bx 9 1 va y.args.length (y.args.map Value.string)
 rl:w.ownsRow Bx 9 1 vl y.labels.length (y.labels.map Value.string)
 ne:∀g,va.ownBlock=some g→¬vl.ownBlock=some g
 lt:Sx<Bx
 top:Bx≤w.heap.size
theorem XAt.keep {Bx:Nat}{w w':World}{Sx:Nat}{y:Ins}{va vl:Value}{No:Nat→Prop}(h:XAt Bx w Sx y va vl)(t:Touch w w' No)(hn:∀k,No k→k<Bx∧k≠Sx):XAt Bx w' Sx y va vl:=
 ⟨(t.block Sx (Nat.lt_of_lt_of_le h.lt h.top) (fun e=>(hn _ e).2 rfl)).trans h.blk,ownsRow_touch h.ra t (fun g hg e=>by have:=(h.ra.lt g hg).1;have:=(hn g e).1;omega),ownsRow_touch h.rl t (fun g hg e=>by have:=(h.rl.lt g hg).1;have:=(hn g e).1;omega),h.ne,h.lt,Nat.le_trans h.top t.size⟩
theorem XAt.set {Bx:Nat}{w:World}{Sx:Nat}{y:Ins}{va vl:Value}(h:XAt Bx w Sx y va vl)(j:Nat)(u:Value):((w.setCell ⟨Sx,j,none⟩ u).heap[Sx]?=some (.cells (#[.int .u8 y.op,.string y.dst,.string y.a,.string y.b,.int .i64 y.n,.string y.fn,va,vl].setIfInBounds j u) 49 (0,0)))∧(w.setCell ⟨Sx,j,none⟩ u).ownsRow Bx 9 1 va y.args.length (y.args.map Value.string)∧(w.setCell ⟨Sx,j,none⟩ u).ownsRow Bx 9 1 vl y.labels.length (y.labels.map Value.string):=by
 have t:Touch w (w.setCell ⟨Sx,j,none⟩ u) (fun k=>k=Sx):=(Touch.refl w (fun k=>k=Sx)).setCell (a:=⟨Sx,j,none⟩) (fun _=>rfl) u
 have hlt:=h.lt
 exact⟨blk_set _ h.blk,ownsRow_touch h.ra t (fun g hg e=>by have:=(h.ra.lt g hg).1;omega),ownsRow_touch h.rl t (fun g hg e=>by have:=(h.rl.lt g hg).1;omega)⟩
structure SAt (B Bx pb gw cw:Nat) (T:List Tok) (ln vb bb Sx:Nat) (w:World) (i:Nat) (y:Ins) (va vl:Value):Prop where
 p:PAt B w pb gw cw T i ln vb bb
 x:XAt Bx w Sx y va vl
 ba:y.args.length≤i
 bl:y.labels.length≤i
 lo:B≤Sx
def RPost (B Bx pb gw cw:Nat)(T:List Tok)(ln vb bb Sx:Nat)(w:World)(r:Except Flt (Ins × List Tok))(e:Ending)(w':World):Prop:=
 Touch w w' (fun k=>k=pb∨k=Sx∨Bx≤k)∧match r with
 | .error f=>e=.panicked (chF f)
 | .ok (y',l')=>e=.returned (.tuple #[])∧∃va' vl' i',l'=T.drop i'∧SAt B Bx pb gw cw T ln vb bb Sx w' i' y' va' vl'
theorem drop_next {T:List Tok}{i:Nat}{t:Tok}{r:List Tok}(h:T.drop i=t::r):r=T.drop (i+1):=by
 have:(T.drop i).drop 1=r:=by rw [h];rfl
 rw [←this,List.drop_drop]
section
variable {B Bx pb gw cw:Nat} {T:List Tok} {ln vb bb Sx:Nat} {w w2:World} {i:Nat} {y:Ins} {va vl:Value}
theorem SAt.on (h:SAt B Bx pb gw cw T ln vb bb Sx w i y va vl){i':Nat}(hi:i≤i')(hP:PAt B w2 pb gw cw T i' ln vb bb)(t:Touch w w2 (fun k=>k=pb)):SAt B Bx pb gw cw T ln vb bb Sx w2 i' y va vl:=by
 have h1:=h.p.ltP
 have h2:=h.lo
 have h3:=h.x.lt
 exact⟨hP,h.x.keep t (fun k e=>by subst e;omega),Nat.le_trans h.ba hi,Nat.le_trans h.bl hi,h.lo⟩
theorem touch_pb {w':World}(t:Touch w w' (fun k=>k=pb)):Touch w w' (fun k=>k=pb∨k=Sx∨Bx≤k):=t.mono (fun _ _ h=>.inl h)
set_option maxRecDepth 20000 in
theorem operand_any (h:SAt B Bx pb gw cw T ln vb bb Sx w i y va vl):Calls Tryd.prog 31 #[.pointer (some ⟨pb,0,none⟩),.pointer (some ⟨Sx,0,none⟩)] w (RPost B Bx pb gw cw T ln vb bb Sx w (operandP y (T.drop i) ln)):=by
 unfold operandP
 cases hn:nameP (T.drop i) ln with
 | error f=>
  have hk:=Lib.hid (name_bad h.p hn)
  clear hn
  go_enter Tryd.func31,Tryd.ntmps31
  go_wp2_with (go_at_call 41;refine hk.out.mono ?_;rintro e w2 ⟨rfl,hb⟩)
  exact⟨rfl,touch_pb (Touch.of_below hb _),rfl⟩
 | ok x=>
  obtain⟨s,r⟩:=x
  have hk:=Lib.hid (name_ok h.p hn)
  have hr:r=T.drop (i+1):=by
   obtain⟨t,e,-⟩:=name_len hn
   exact drop_next e
  have hS:=Lib.hid h
  clear hn h
  go_enter Tryd.func31,Tryd.ntmps31
  go_wp2_with fail
  refine hk.out.mono ?_
  rintro e w2 ⟨rfl,hP,hT⟩
  have hS2:=hS.out.on (Nat.le_succ i) hP hT
  have z:w2.cell? ⟨Sx,2,none⟩=some (.string y.a):=by rw [blk_cell hS2.x.blk];rfl
  have f:w2.frozen? ⟨Sx,2,none⟩=false:=frozB hS2.x.blk 2
  have hS2:=Lib.hid hS2
  have hT2:=Lib.hid hT
  clear hP hT
  go_wp2_with fail
  go_end0
  have t2:Touch w2 (w2.setCell ⟨Sx,2,none⟩ (.string s)) (fun k=>k=Sx):=(Touch.refl w2 (fun k=>k=Sx)).setCell (a:=⟨Sx,2,none⟩) (fun _=>rfl) _
  obtain⟨g1,g2,g3⟩:=hS2.out.x.set 2 (.string s)
  refine⟨(touch_pb hT2.out).trans (t2.mono (fun _ _ h=>.inr (.inl h))),rfl,va,vl,i+1,hr,?_⟩
  have hlo:=hS2.out.lo
  exact⟨hS2.out.p.keep t2 (fun k e=>by subst e;exact hlo),⟨g1,g2,g3,hS2.out.x.ne,hS2.out.x.lt,by simpa using hS2.out.x.top⟩,hS2.out.ba,hS2.out.bl,hlo⟩
set_option maxRecDepth 20000 in
theorem fn_any (h:SAt B Bx pb gw cw T ln vb bb Sx w i y va vl):Calls Tryd.prog 30 #[.pointer (some ⟨pb,0,none⟩),.pointer (some ⟨Sx,0,none⟩)] w (RPost B Bx pb gw cw T ln vb bb Sx w (fnP y (T.drop i) ln)):=by
 unfold fnP
 cases hn:nameP (T.drop i) ln with
 | error f=>
  have hk:=Lib.hid (name_bad h.p hn)
  clear hn
  go_enter Tryd.func30,Tryd.ntmps30
  go_wp2_with (go_at_call 41;refine hk.out.mono ?_;rintro e w2 ⟨rfl,hb⟩)
  exact⟨rfl,touch_pb (Touch.of_below hb _),rfl⟩
 | ok x=>
  obtain⟨s,r⟩:=x
  have hk:=Lib.hid (name_ok h.p hn)
  have hr:r=T.drop (i+1):=by
   obtain⟨t,e,-⟩:=name_len hn
   exact drop_next e
  have hS:=Lib.hid h
  clear hn h
  go_enter Tryd.func30,Tryd.ntmps30
  go_wp2_with fail
  refine hk.out.mono ?_
  rintro e w2 ⟨rfl,hP,hT⟩
  have hS2:=hS.out.on (Nat.le_succ i) hP hT
  have z:w2.cell? ⟨Sx,5,none⟩=some (.string y.fn):=by rw [blk_cell hS2.x.blk];rfl
  have f:w2.frozen? ⟨Sx,5,none⟩=false:=frozB hS2.x.blk 5
  have hS2:=Lib.hid hS2
  have hT2:=Lib.hid hT
  clear hP hT
  go_wp2_with fail
  go_end0
  have t2:Touch w2 (w2.setCell ⟨Sx,5,none⟩ (.string s)) (fun k=>k=Sx):=(Touch.refl w2 (fun k=>k=Sx)).setCell (a:=⟨Sx,5,none⟩) (fun _=>rfl) _
  obtain⟨g1,g2,g3⟩:=hS2.out.x.set 5 (.string s)
  refine⟨(touch_pb hT2.out).trans (t2.mono (fun _ _ h=>.inr (.inl h))),rfl,va,vl,i+1,hr,?_⟩
  have hlo:=hS2.out.lo
  exact⟨hS2.out.p.keep t2 (fun k e=>by subst e;exact hlo),⟨g1,g2,g3,hS2.out.x.ne,hS2.out.x.lt,by simpa using hS2.out.x.top⟩,hS2.out.ba,hS2.out.bl,hlo⟩
set_option maxRecDepth 20000 in
theorem fields_any (h:SAt B Bx pb gw cw T ln vb bb Sx w i y va vl):Calls Tryd.prog 28 #[.pointer (some ⟨pb,0,none⟩),.pointer (some ⟨Sx,0,none⟩)] w (RPost B Bx pb gw cw T ln vb bb Sx w (fieldsP y (T.drop i) ln)):=by
 unfold fieldsP
 cases hn:takeP 2 (T.drop i) ln with
 | error f=>
  have hk:=Lib.hid (take_bad h.p hn)
  clear hn
  go_enter Tryd.func28,Tryd.ntmps28
  go_wp2_with (go_at_call 62;refine hk.out.mono ?_;rintro e w2 ⟨rfl,hb⟩)
  exact⟨rfl,touch_pb (Touch.of_below hb _),rfl⟩
 | ok x=>
  obtain⟨s,r⟩:=x
  have hk:=Lib.hid (take_ok h.p hn)
  have hr:r=T.drop (i+1):=by
   exact drop_next (take_len hn).1
  have hS:=Lib.hid h
  unfold tokV at hk
  clear hn h
  go_enter Tryd.func28,Tryd.ntmps28
  go_wp2_with fail
  refine hk.out.mono ?_
  rintro e w2 ⟨rfl,hP,hT⟩
  have hS2:=hS.out.on (Nat.le_succ i) hP hT
  have z:w2.cell? ⟨Sx,4,none⟩=some (.int .i64 y.n):=by rw [blk_cell hS2.x.blk];rfl
  have f:w2.frozen? ⟨Sx,4,none⟩=false:=frozB hS2.x.blk 4
  have hS2:=Lib.hid hS2
  have hT2:=Lib.hid hT
  clear hP hT
  go_wp2_with fail
  go_end0
  have t2:Touch w2 (w2.setCell ⟨Sx,4,none⟩ (.int .i64 s.num)) (fun k=>k=Sx):=(Touch.refl w2 (fun k=>k=Sx)).setCell (a:=⟨Sx,4,none⟩) (fun _=>rfl) _
  obtain⟨g1,g2,g3⟩:=hS2.out.x.set 4 (.int .i64 s.num)
  refine⟨(touch_pb hT2.out).trans (t2.mono (fun _ _ h=>.inr (.inl h))),rfl,va,vl,i+1,hr,?_⟩
  have hlo:=hS2.out.lo
  exact⟨hS2.out.p.keep t2 (fun k e=>by subst e;exact hlo),⟨g1,g2,g3,hS2.out.x.ne,hS2.out.x.lt,by simpa using hS2.out.x.top⟩,hS2.out.ba,hS2.out.bl,hlo⟩
end
end
end Go.Proofs.YtgcanabckogmmaaDoor
