/- SwT, SwN, NVars. -/
import Derived.Test.YtknkiaedgeejiaaGreatDoorSP14
import Derived.Test.YtknkiaedgeejiaaGreatDoorSP10
import Derived.Maps.RangeWalk
namespace Go.Proofs.YtknkiaedgeejiaaGreatDoor
set_option linter.unusedVariables false
set_option linter.unusedSimpArgs false
section
open Go.RowKit Go.Maps Go.Shelf
theorem bL_app (a b:ByteArray):bL (a++b)=bL a++bL b:=by
 unfold bL
 rw [ByteArray.data_append,Array.toList_append]
theorem bL_jn (ws:List ByteArray)(sep:ByteArray):bL (jnB ws sep)=Lib.join (ws.map bL) (bL sep):=rfl
theorem bL_brk (o c:UInt8)(ws:List ByteArray):bL ((⟨#[o]⟩:ByteArray)++jnB ws ⟨#[44,32]⟩++⟨#[c]⟩)=brkT o c (ws.map bL):=by
 rw [bL_app,bL_app,bL_jn]
 rfl
theorem call_T (s:ByteArray)(d:Ins):bL (callB s d)=bL s++brkT 40 41 (d.args.map bL):=by
 unfold callB
 rw [bL_app,bL_brk]
theorem phi_T (d:Ins):bL (phiW d)=brkT 91 93 (pairT d):=by
 unfold phiW
 rw [bL_brk,pairB_T]
theorem formR_10 (d:Ins):formR 10 d=(if bL d.dst=[] then [⟨#[99,97,108,108]⟩]++[callB d.fn d] else [d.dst,⟨#[61]⟩,⟨#[99,97,108,108]⟩]++[callB d.fn d]):=rfl
theorem formR_11 (d:Ins):formR 11 d=(if bL d.dst=[] then [⟨#[105,99,97,108,108]⟩]++[callB d.a d] else [d.dst,⟨#[61]⟩,⟨#[105,99,97,108,108]⟩]++[callB d.a d]):=rfl
theorem formR_14 (d:Ins):formR 14 d=[⟨#[114,101,116]⟩]++(if bL d.a=[] then [] else [d.a]):=rfl
theorem formR_T {d:Ins}{κ:Nat}(h1:1≤κ)(h2:κ≤14)(e:d.op=κ):(formR κ d).map bL=wordsT d:=by
 rcases (by omega:κ=1∨κ=2∨κ=3∨κ=4∨κ=5∨κ=6∨κ=7∨κ=8∨κ=9∨κ=10∨κ=11∨κ=12∨κ=13∨κ=14) with rfl | rfl | rfl | rfl | rfl | rfl | rfl | rfl | rfl | rfl | rfl | rfl | rfl | rfl
 ·rw [words_val e rfl,rest_1 e];rfl
 ·rw [words_val e rfl,rest_2 e];rfl
 ·rw [words_val e rfl,rest_3 e];rfl
 ·rw [words_val e rfl,rest_4 e];rfl
 ·rw [words_val e rfl,rest_5 e];rfl
 ·rw [words_val e rfl,rest_6 e,←phi_T];rfl
 ·rw [words_val e rfl,rest_7 e];rfl
 ·rw [words_val e rfl,rest_8 e];rfl
 ·rw [words_bare e rfl,rest_9 e]
  show [_,bL (d.a++⟨#[44]⟩),_]=_
  rw [bL_app]
  rfl
 ·rw [formR_10]
  by_cases hx:bL d.dst=[]
  ·rw [words_bare e (by rw [hx];rfl),rest_10 e,if_pos hx,←call_T];rfl
  ·rw [words_val e (by cases hq:bL d.dst with | nil=>exact absurd hq hx | cons _ _=>rfl),rest_10 e,if_neg hx,←call_T];rfl
 ·rw [formR_11]
  by_cases hx:bL d.dst=[]
  ·rw [words_bare e (by rw [hx];rfl),rest_11 e,if_pos hx,←call_T];rfl
  ·rw [words_val e (by cases hq:bL d.dst with | nil=>exact absurd hq hx | cons _ _=>rfl),rest_11 e,if_neg hx,←call_T];rfl
 ·rw [words_bare e rfl,rest_12 e];rfl
 ·rw [words_bare e rfl,rest_13 e];rfl
 ·rw [words_bare e rfl,rest_14 e]
  rw [formR_14]
  by_cases hx:bL d.a=[]
  ·rw [if_pos hx,if_pos hx];rfl
  ·rw [if_neg hx,if_neg hx];rfl
theorem brk_len (o c:UInt8)(ws:List (List UInt8)):(brkT o c ws).length=(Lib.join ws [44,32]).length+2:=by
 unfold brkT
 simp
theorem dec_len:∀n:Nat,n<100→(Lib.decDigits n).length≤2:=by
 intro n hn
 rw [Lib.decDigits]
 split
 ·simp
 ·rename_i h
  rw [Lib.decDigits,dif_pos (by omega)]
  simp
theorem word_len (op:Int):(wordT op).length≤6:=by
 unfold wordT
 by_cases h1:op=1
 ·rw [if_pos h1];decide
 rw [if_neg h1]
 by_cases h2:op=2
 ·rw [if_pos h2];decide
 rw [if_neg h2]
 by_cases h3:op=3
 ·rw [if_pos h3];decide
 rw [if_neg h3]
 by_cases h4:op=4
 ·rw [if_pos h4];decide
 rw [if_neg h4]
 by_cases h5:op=5
 ·rw [if_pos h5];decide
 rw [if_neg h5]
 by_cases h6:op=6
 ·rw [if_pos h6];decide
 rw [if_neg h6]
 by_cases h7:op=7
 ·rw [if_pos h7];decide
 rw [if_neg h7]
 by_cases h8:op=8
 ·rw [if_pos h8];decide
 rw [if_neg h8]
 by_cases h9:op=9
 ·rw [if_pos h9];decide
 rw [if_neg h9]
 by_cases h10:op=10
 ·rw [if_pos h10];decide
 rw [if_neg h10]
 by_cases h11:op=11
 ·rw [if_pos h11];decide
 rw [if_neg h11]
 by_cases h12:op=12
 ·rw [if_pos h12];decide
 rw [if_neg h12]
 by_cases h13:op=13
 ·rw [if_pos h13];decide
 rw [if_neg h13]
 decide
theorem ref_len {d:Ins}(hk:InsOk d)(hv:badFieldsB d=false):(refT d).length≤6800000:=by
 have hp:(preT d).length≤1603:=by
  unfold preT
  have:=hk.sd
  split
  ·simp
  ·rw [List.length_append]
   show d.dst.size+3≤_
   omega
 have hw:=word_len
 have hn:(Lib.decDigits d.n.toNat).length≤2:=dec_len _ (by have:=hk.n0;have:=hk.n1;omega)
 have ha:(bL d.a).length≤1600:=hk.sa
 have hb:(bL d.b).length≤1600:=hk.sb
 have hf:(bL d.fn).length≤1600:=hk.sf
 have h1:(brkT 40 41 (d.args.map bL)).length≤3300002:=by rw [brk_len];have:=args_join hk;omega
 have h2:(brkT 91 93 (pairT d)).length≤6700002:=by rw [brk_len,←pairB_T];have:=(pairs_join hk).1;omega
 have hl:∀i,(bL (d.labels.getD i ⟨#[]⟩)).length≤1600:=by
  intro i
  rw [List.getD_eq_getElem?_getD]
  cases e:d.labels[i]? with
  | none=>exact Nat.zero_le _
  | some s=>exact hk.gl s (List.mem_of_getElem? e)
 have l0:=hl 0
 have l1:=hl 1
 obtain⟨s,hs,-⟩:=fields_ok hv
 rcases ops_ok hs with e | e | e | e | e | e | e | e | e | e | e | e | e | e
 ·rw [ref_1 e];have:=hw 1;simp only [List.length_append,List.length_cons,List.length_nil];omega
 ·rw [ref_2 e];have:=hw 2;simp only [List.length_append,List.length_cons,List.length_nil];omega
 ·rw [ref_3 e];have:=hw 3;simp only [List.length_append,List.length_cons,List.length_nil];omega
 ·rw [ref_4 e];have:=hw 4;simp only [List.length_append,List.length_cons,List.length_nil];omega
 ·rw [ref_5 e];have:=hw 5;simp only [List.length_append,List.length_cons,List.length_nil];omega
 ·rw [ref_6 e];have:=hw 6;simp only [List.length_append,List.length_cons,List.length_nil];omega
 ·rw [ref_7 e];have:=hw 7;simp only [List.length_append,List.length_cons,List.length_nil];omega
 ·rw [ref_8 e];have:=hw 8;simp only [List.length_append,List.length_cons,List.length_nil];omega
 ·rw [ref_9 e];have:=hw 9;simp only [List.length_append,List.length_cons,List.length_nil];omega
 ·rw [ref_10 e];have:=hw 10;simp only [List.length_append,List.length_cons,List.length_nil];omega
 ·rw [ref_11 e];have:=hw 11;simp only [List.length_append,List.length_cons,List.length_nil];omega
 ·rw [ref_12 e];have:=hw 12;simp only [List.length_append,List.length_cons,List.length_nil];omega
 ·rw [ref_13 e];have:=hw 13;simp only [List.length_append,List.length_cons,List.length_nil];omega
 ·rw [ref_14 e]
  have:=hw 14
  by_cases hx:bL d.a=[]
  ·rw [if_pos hx];omega
  ·rw [if_neg hx];simp only [List.length_append,List.length_cons,List.length_nil];omega
theorem ins_line {d:Ins}(J:ByteArray)(e:bL J=Lib.join (wordsT d) [32]):Lib.join ([⟨#[32]⟩,J].map bL) [32]++[10]=insT d:=by
 show Lib.join ([32]::bL J::[]) [32]++[10]=_
 rw [join_cons2,join1,e]
 rfl
theorem head_line (d:Fun):Lib.join ([⟨#[102,117,110,99]⟩,d.name++((⟨#[40]⟩:ByteArray)++jnB d.params ⟨#[44,32]⟩++⟨#[41]⟩),⟨#[123]⟩].map bL) [32]++[10]=headT d:=by
 show Lib.join ([102,117,110,99]::bL (d.name++_)::[123]::[]) [32]++[10]=_
 rw [join_cons2,join_cons2,join1,bL_app,bL_brk]
 unfold headT
 simp
theorem label_line (s:ByteArray):Lib.join ([s++⟨#[58]⟩].map bL) [32]++[10]=bL s++[58,10]:=by
 show Lib.join (bL (s++⟨#[58]⟩)::[]) [32]++[10]=_
 rw [join1,bL_app]
 simp
 rfl
structure FunOk (d:Fun):Prop where
 np:d.params.length≤1000
 gp:∀s∈d.params,s.size≤1600
 sn:d.name.size≤1600
 nb:d.blocks.length≤1000
 code:∀x∈d.blocks,x.label.size≤1600∧x.code.length≤1000000∧∀c∈x.code,InsOk c∧badFieldsB c=false
theorem params_join {d:Fun}(h:FunOk d):(Lib.join (d.params.map bL) [44,32]).length≤3300000:=by
 have:=join_len [44,32] 1600 (by decide) (d.params.map bL) (fun x hx=>by
  obtain⟨s,hs,rfl⟩:=List.mem_map.1 hx
  exact h.gp s hs)
 rw [List.length_map] at this
 have:=h.np
 omega
theorem head_len {d:Fun}(h:FunOk d):(headT d).length≤3310000:=by
 have h1:(brkT 40 41 (d.params.map bL)).length≤3300002:=by rw [brk_len];have:=params_join h;omega
 have h2:(bL d.name).length≤1600:=h.sn
 unfold headT
 simp only [List.length_append,List.length_cons,List.length_nil]
 omega
def RdInsC (w:World)(cs:List Value)(d:Ins):Prop:=∃va vl,cs=insV d va vl∧RdC w va d.args∧RdC w vl d.labels
def RdBlkC (w:World)(cs:List Value)(d:Blk):Prop:=∃vc,cs=[.string d.label,vc]∧RdE 8 RdInsC w vc d.code
def RdFunC (w:World)(cs:List Value)(d:Fun):Prop:=∃vp vb,cs=[.string d.name,vp,vb]∧RdC w vp d.params∧RdE 2 RdBlkC w vb d.blocks
theorem VMap.nu {w w':World}{k:TypeId}{b n:Nat}{f:Lit→Option Value}(h:VMap w k b n f)(hn:Nu w w'):VMap w' k b n f:=by
 have h0:=h
 obtain⟨D,⟨es,clock,h1,-⟩,-⟩:=h
 exact h0.block ((hn.2 _ _ _ h1).trans h1.symm)
theorem zeroForm (w:World):(zeroValue 93).run Tryz.prog w=.ok .nilFunc w:=by kernel_rfl
theorem vmap_look {w:World}{k:TypeId}{b n:Nat}{f:Lit→Option Value}{t e:TypeId}{z u:Value}(hz:(zeroValue e).run Tryz.prog w=.ok z w)(K:Keyed Tryz.prog k)(ht:Tryz.prog.underlying t=some (.map k e))(h:VMap w k b n f){key:Value}{kl:Lit}(hkey:keyOf Tryz.prog k key=some kl)(hf:f kl=some u):(Instr.lookup t (.map (some b)) key false).run Tryz.prog w=.ok u w:=by
 obtain⟨D,hown,hD⟩:=h
 obtain⟨v,ps,hrun,hv⟩:=hown.lookup K ht hz (zd:=.held z) (zp:=[]) rfl hkey
 rw [hD.at_ kl u (K.key hkey) hf] at hv
 simp only [heldE,Option.some.injEq,Prod.mk.injEq] at hv
 obtain⟨e1,-⟩:=hv
 cases e1
 exact hrun
end
section
open Go.RowKit Go.Maps Go.Shelf Go.WideMaps
attribute [local go_sem] Oper.semAt_some
structure FL (wP W0:World) (b mb:Nat) (L:List UInt8) (N:Nat) (wr:World):Prop where
 us:WrUs wP.heap.size b L (.map (some mb)) wr
 bel:Below wP.heap.size wP wr
 nu:Nu W0 wr
 len:L.length≤N
def Told (wP w:World)(b mb:Nat)(M:List UInt8)(w':World):Prop:=∃L',FL wP w b mb L' 10000000 w'∧(L'=M∨(1048576<L'.length∧∃R,M=L'++R))
theorem WrUs.below {B b:Nat}{L:List UInt8}{m:Value}{w W:World}(h:WrUs B b L m w)(hb:Below w.heap.size w W):WrUs B b L m W:=by
 obtain⟨⟨v,h1,h2,h3,h4⟩,hB⟩:=h
 have hlt:b<w.heap.size:=(Array.getElem?_eq_some_iff.1 h1).1
 refine⟨⟨v,(hb.block _ hlt).trans h1,?_,h3,h4⟩,hB⟩
 refine ownsRow_touch (S:=fun k=>w.heap.size≤k) h2 (Touch.of_below hb _) (fun k e1 e2=>?_)
 have:=(h2.lt k e1).2
 exact absurd this (by simpa using e2)
theorem take_snocT {α:Type}{l:List α}{k:Nat}{x:α}(h:l[k]?=some x):l.take (k+1)=l.take k++[x]:=by
 rw [List.take_add_one,h]
 rfl
theorem flat_rest {α:Type}(g:α→List UInt8)(l:List α)(k:Nat):∃R,(l.map g).flatten=((l.take k).map g).flatten++R:=
 ⟨((l.drop k).map g).flatten,by rw [←List.flatten_append,←List.map_append,List.take_append_drop]⟩
theorem keepB {wP wr:World}{g o:Nat}{u:Value}(hb:Below wP.heap.size wP wr)(hg:g<wP.heap.size)(h:wP.cell? ⟨g,o,none⟩=some u):wr.cell? ⟨g,o,none⟩=some u:=(hb.cell (p:=⟨g,o,none⟩) hg).trans h
set_option maxRecDepth 20000 in
set_option maxHeartbeats 16000000 in
theorem func_any {wP w:World}{b mb:Nat}{f:Lit→Option Value}{L:List UInt8}{d:Fun}{vp vb:Value}(hB:Below wP.heap.size wP w)(h:WrAt wP.heap.size b L (.map (some mb)) w)(hM:VMap w 44 mb 54 f)(hall:∀κ,1≤κ→κ≤14→∃v,f (.int .u8 (κ:Nat))=some v∧FormAt w v (formG κ) (formR κ) 2010)(hp:RdC wP vp d.params)(hb:RdE 2 RdBlkC wP vb d.blocks)(hk:FunOk d)(hL:L.length≤1048576):Calls Tryz.prog 18 #[.pointer (some ⟨b,0,none⟩),.agg #[.string d.name,vp,vb]] w fun e w'=>e=.returned (.tuple #[])∧Told wP w b mb (L++funT d) w':=by
 obtain⟨ap,cp,rfl,hcp,-⟩:=hp.cells
 obtain⟨ab,cb,rfl⟩:=hb.form
 obtain⟨W2,hW2⟩:∃W2,w.alloc (.cells #[.string d.name,.slice ap d.params.length cp,.slice ab d.blocks.length cb] 40)=W2:=⟨_,rfl⟩
 have hX:W2.heap[w.heap.size]?=some (.cells #[.string d.name,.slice ap d.params.length cp,.slice ab d.blocks.length cb] 40 (0,0)):=by rw [←hW2];exact at_newN rfl
 have hw2:Below w.heap.size w W2:=by rw [←hW2];exact (Below.refl _ _).alloc (Nat.le_refl _) _
 have hB2:Below wP.heap.size wP W2:=hB.trans (hw2.mono hB.size)
 have hN2:Nu w W2:=Nu.of_below hw2
 have h2:=h.below hw2
 obtain⟨np,hnp⟩:∃n,n=d.params.length:=⟨_,rfl⟩
 obtain⟨nb,hnb⟩:∃n,n=d.blocks.length:=⟨_,rfl⟩
 obtain⟨J,hJ⟩:∃J,J=(⟨#[40]⟩:ByteArray)++jnB d.params ⟨#[44,32]⟩++⟨#[41]⟩:=⟨_,rfl⟩
 have hJz:J.size≤3300002:=by rw [hJ,brk_size];have:=params_join hk;omega
 have hbr:=Lib.hid (fun (W:World) (hw:Below wP.heap.size wP W)=>(by
  have h:=brack_any (hp.below hw) ⟨#[40]⟩ ⟨#[41]⟩ (by have:=hk.np;omega) (by have:=params_join hk;omega) (by decide) (by decide)
  rw [←hJ,←hnp] at h
  exact h:Calls Tryz.prog 47 #[.string ⟨#[40]⟩,.string ⟨#[41]⟩,.slice ap np cp] W fun e w'=>e=.returned (.string J)∧Below W.heap.size W w'))
 have hhl:=head_line d
 rw [←hJ] at hhl
 have hhn:=head_len hk
 rw [←hnp,←hnb] at hX ⊢
 have hCS:=Lib.hid (fun (W:World) (hn:Nu W2 W)=>(by
  have e:=hn.1.lies hX (by decide)
  exact⟨by rw [blk_cell e];rfl,by rw [blk_cell e];rfl⟩:W.cell? ⟨w.heap.size,0,none⟩=some (.string d.name)∧W.cell? ⟨w.heap.size,1,none⟩=some (.slice ap np cp)))
 have hC2:=Lib.hid (fun (W:World) (hn:Nu W2 W)=>(by
  have e:=hn.1.lies hX (by decide)
  rw [blk_cell e]
  rfl:W.cell? ⟨w.heap.size,2,none⟩=some (.slice ab nb cb)))
 have hnbl:nb≤1000:=by rw [hnb];exact hk.nb
 have q1:¬9223372036854775807<d.name.size+J.size:=by have:=hk.sn;omega
 have hC:=hCS.out W2 (Nu.refl _)
 rw [←hnb] at hb hW2
 rw [←hnp] at hW2
 replace hW2:=Lib.hid hW2
 replace hB2:=Lib.hid hB2
 replace hN2:=Lib.hid hN2
 replace h2:=Lib.hid h2
 replace hM:=Lib.hid hM
 replace hall:=Lib.hid hall
 replace hb:=Lib.hid hb
 replace hk:=Lib.hid hk
 replace hhl:=Lib.hid hhl
 replace hnb:=Lib.hid hnb
 replace hnp:=Lib.hid hnp
 clear hp h hB hX hw2 hcp hJ
 go_enter Tryz.func18,Tryz.ntmps18
 go_upto_region 1 with fail
 rw [hW2.out]
 clear hW2
 refine wp_region_held_drew (S:=(fun w'=>w'.cell? ⟨w.heap.size,0,none⟩=some (.string d.name)∧w'.cell? ⟨w.heap.size,1,none⟩=some (.slice ap np cp))) (by kernel_rfl) hC (fun hHeld=>?_)
 clear hHeld
 refine wpAnyH_take (i:=0) (oi:=(.mk (some 8) (.move (.tmp 0)) 56 "show.go:43" #[] none)) (v:=?_) rfl (by kernel_rfl) (by kernel_rfl) (by kernel_rfl) (fun _ _ _ h=>h) (Or.inl ⟨by rfl,?_⟩) hC ?_
 rotate_left
 ·(intro w hSw;(try dsimp only at hSw);go_simp;try with_reducible rfl)
 try simp only [Act.put,List.setIfInBounds_toArray,List.set_cons_zero,List.set_cons_succ]
 refine wpAnyH_take (i:=1) (oi:=(.mk (some 9) (.fieldAddr 40 (.tmp 3) 0) 0 "show.go:43" #[] none)) (v:=?_) rfl (by kernel_rfl) (by kernel_rfl) (by kernel_rfl) (fun _ _ _ h=>h) (Or.inl ⟨by rfl,?_⟩) hC ?_
 rotate_left
 ·(intro w hSw;(try dsimp only at hSw);go_simp;try with_reducible rfl)
 try simp only [Act.put,List.setIfInBounds_toArray,List.set_cons_zero,List.set_cons_succ]
 refine wpAnyH_take (i:=2) (oi:=(.mk (some 10) (.load 9 (.tmp 9)) 9 "show.go:43" #[.mk 1 .data] none)) (v:=?_) rfl (by kernel_rfl) (by kernel_rfl) (by kernel_rfl) (fun _ _ _ h=>h) (Or.inl ⟨by rfl,?_⟩) hC ?_
 rotate_left
 ·(intro w hSw;(try dsimp only at hSw);go_simp;try with_reducible rfl)
 try simp only [Act.put,List.setIfInBounds_toArray,List.set_cons_zero,List.set_cons_succ]
 refine wpAnyH_take (i:=3) (oi:=(.mk (some 11) (.fieldAddr 40 (.tmp 3) 1) 0 "show.go:43" #[] none)) (v:=?_) rfl (by kernel_rfl) (by kernel_rfl) (by kernel_rfl) (fun _ _ _ h=>h) (Or.inl ⟨by rfl,?_⟩) hC ?_
 rotate_left
 ·(intro w hSw;(try dsimp only at hSw);go_simp;try with_reducible rfl)
 try simp only [Act.put,List.setIfInBounds_toArray,List.set_cons_zero,List.set_cons_succ]
 refine wpAnyH_take (i:=4) (oi:=(.mk (some 12) (.load 37 (.tmp 11)) 37 "show.go:43" #[.mk 3 .data] none)) (v:=?_) rfl (by kernel_rfl) (by kernel_rfl) (by kernel_rfl) (fun _ _ _ h=>h) (Or.inl ⟨by rfl,?_⟩) hC ?_
 rotate_left
 ·(intro w hSw;(try dsimp only at hSw);go_simp;try with_reducible rfl)
 try simp only [Act.put,List.setIfInBounds_toArray,List.set_cons_zero,List.set_cons_succ]
 refine wpAnyH_ready (rs:=[5]) (by kernel_rfl) (by simp) (AllReadyH.cons (o:=(.mk (some 13) (.call (.mk (.value (.func 47)) #[(.const (Value.string (ByteArray.mk #[40]))),(.const (Value.string (ByteArray.mk #[41]))),(.tmp 12)] #[9,9,37])) 9 "show.go:43" #[.mk 4 .data] none)) rfl (fun K hK=>?_) AllReadyH.nil)
 go_simp
 (go_at_call 47;refine Calls.mono (hbr.out _ (hB2.out.drew)) ?_;rintro e w3 ⟨rfl,hbb⟩)
 have hB3:=Lib.hid (show Below W2.heap.size W2 w3 from (Below.drew (Below.refl W2.heap.size W2)).trans hbb)
 replace hC:=hCS.out w3 (Nu.of_below hB3.out)
 clear hbb
 refine hK.out _ _ hC (fun hHeld=>?_)
 clear hK K hHeld
 try simp only [Act.put,List.setIfInBounds_toArray,List.set_cons_zero,List.set_cons_succ]
 refine wpAnyH_take (i:=6) (oi:=(.mk (some 14) (.binOp BinOp.add 9 (.tmp 10) (.tmp 13) 9) 9 "show.go:43" #[.mk 2 .data,.mk 5 .data] none)) (v:=?_) rfl (by kernel_rfl) (by kernel_rfl) (by kernel_rfl) (fun _ _ _ h=>h) (Or.inl ⟨by rfl,?_⟩) hC ?_
 rotate_left
 ·(intro w hSw;(try dsimp only at hSw);go_simp;try with_reducible rfl)
 try simp only [Act.put,List.setIfInBounds_toArray,List.set_cons_zero,List.set_cons_succ]
 refine wpAnyH_ready (rs:=[7]) (by kernel_rfl) (by simp) (AllReadyH.cons (o:=(.mk (some 15) (.buildSlice 37 3 #[(0,(.const (Value.string (ByteArray.mk #[102,117,110,99])))),(1,(.tmp 14)),(2,(.const (Value.string (ByteArray.mk #[123]))))]) 37 "show.go:43" #[.mk 6 .data] none)) rfl (fun K hK=>?_) AllReadyH.nil)
 go_simp
 have hB4:=Lib.hid (hB3.out.alloc hB3.out.size (.cells #[.string ⟨#[102,117,110,99]⟩,.string (d.name++J),.string ⟨#[123]⟩] 9))
 replace hC:=hCS.out _ (Nu.of_below hB4.out)
 have hR4:=Lib.hid (rdc_new (w:=w3) [⟨#[102,117,110,99]⟩,d.name++J,⟨#[123]⟩])
 refine hK.out _ _ hC (fun hHeld=>?_)
 clear hK K hHeld
 try simp only [Act.put,List.setIfInBounds_toArray,List.set_cons_zero,List.set_cons_succ]
 refine wpAnyH_ready (rs:=[8]) (by kernel_rfl) (by simp) (AllReadyH.cons (o:=(.mk (some 16) (.call (.mk (.value (.func 54)) #[(.tmp 8),(.tmp 15)] #[56,37])) 0 "show.go:43" #[.mk 0 .data,.mk 7 .data,.mk 5 .chain] none)) rfl (fun K hK=>?_) AllReadyH.nil)
 go_simp
 (go_at_call 54;refine Calls.mono (line_any (h2.out.below hB4.out) hR4.out (by simp) (by have:=congrArg List.length hhl.out;rw [List.length_append] at this;simp only [List.length_cons,List.length_nil] at this;omega) (fun e0=>by have h1:=hhl.out;rw [e0] at h1;exact absurd (congrArg List.length h1) (by unfold headT;simp)) (by omega) (Nat.le_trans hB2.out.size hB4.out.size)) ?_;rintro e w5 ⟨rfl,hU,hbb,hnn⟩)
 have hN5:=(Nu.of_below hB4.out).trans hnn
 replace hC:=hCS.out w5 hN5
 have hF5:=Lib.hid (show FL wP W2 b mb (L++headT d) 4400000 w5 from ⟨by have h1:=hU;rw [List.append_assoc,hhl.out] at h1;exact h1,hB2.out.trans ((hB4.out.mono hB2.out.size).trans hbb),hN5,by rw [List.length_append];omega⟩)
 clear hU hbb hnn hN5 hR4
 refine hK.out _ _ hC (fun hHeld=>?_)
 clear hK K hHeld
 try simp only [Act.put,List.setIfInBounds_toArray,List.set_cons_zero,List.set_cons_succ]
 refine wpAnyH_done (by kernel_rfl) ?_ _
 have c2:=hC2.out w5 hF5.out.nu
 clear hC hbr hB3 hB4 q1 hJz hhn
 go_upto_block 0 with fail
 go_wp2_with fail
 clear c2
 go_loopw [20] (fun i wr=>∃j:Nat,i=.int .i64 j∧j≤nb∧Hid (FL wP W2 b mb (L++headT d++((d.blocks.take j).map blkT).flatten) (7900000+j*2000) wr)) (fun i _=>nb-(intOf i).toNat)
 case atStart=>exact⟨0,rfl,Nat.zero_le _,Lib.hid ⟨by simpa using hF5.out.us,hF5.out.bel,hF5.out.nu,by have:=hF5.out.len;simp at this ⊢;omega⟩⟩
 case round=>
  clear hF5
  obtain⟨j,rfl,hj,hI⟩:=hrel
  by_cases hjn:j<nb
  ·have i1:(j:Int)<(nb:Int):=by omega
   obtain⟨x,hx⟩:∃x,d.blocks[j]?=some x:=⟨_,List.getElem?_eq_getElem (by rw [←hnb.out];exact hjn)⟩
   obtain⟨g,off,cap,cs,e,hgl,⟨vc,rfl,rc⟩,-,hcell⟩:=hb.out.at hx
   rw [←hnb.out] at e
   simp only [Value.slice.injEq] at e
   obtain⟨rfl,-,rfl⟩:=e
   obtain⟨ac,cc,rfl⟩:=rc.form
   obtain⟨nc,hnc⟩:∃n,n=x.code.length:=⟨_,rfl⟩
   rw [←hnc] at rc hcell
   have e0:wr.cell? ⟨g,off+j*2,none⟩=some (.string x.label):=keepB hI.out.bel hgl (hcell 0 _ rfl)
   have e1:=keepB hI.out.bel hgl (hcell 1 _ rfl)
   have hgl2:g<wr.heap.size:=Nat.lt_of_lt_of_le hgl hI.out.bel.size
   obtain⟨hxl,hxc,hxi⟩:=hk.out.code x (List.mem_of_getElem? hx)
   have hncl:nc≤1000000:=by rw [hnc];exact hxc
   have q1:¬9223372036854775807<x.label.size+1:=by omega
   obtain⟨L1,hL1⟩:∃L1,L1=L++headT d++((d.blocks.take j).map blkT).flatten++(bL x.label++[58,10]):=⟨_,rfl⟩
   have hlab:=label_line x.label
   have hYb:(wr.alloc (.cells #[.string x.label,.slice ac nc cc] 43)).heap[wr.heap.size]?=some (.cells #[.string x.label,.slice ac nc cc] 43 (0,0)):=heap_alloc_new _ _
   have hba:Below wr.heap.size wr (wr.alloc (.cells #[.string x.label,.slice ac nc cc] 43)):=(Below.refl _ _).alloc (Nat.le_refl _) _
   replace hnc:=Lib.hid hnc
   replace rc:=Lib.hid rc
   replace hxi:=Lib.hid hxi
   replace hx:=Lib.hid hx
   replace hlab:=Lib.hid hlab
   replace hL1:=Lib.hid hL1
   clear hcell hgl hxc
   go_upto_region 5 with fail
   clear e0 e1 hgl2
   obtain⟨Y,hY⟩:∃Y,Y=wr.heap.size:=⟨_,rfl⟩
   rw [←hY] at hYb ⊢
   generalize (wr.alloc (.cells #[.string x.label,.slice ac nc cc] 43))=Wa at hYb hba ⊢
   have f0:Wa.cell? ⟨Y,0,none⟩=some (.string x.label):=by rw [blk_cell hYb];rfl
   have hNa:=Lib.hid (hI.out.nu.trans (Nu.of_below hba))
   have hBa:=Lib.hid (hI.out.bel.trans (hba.mono hI.out.bel.size))
   have hLn:=Lib.hid (line_any (w:=Wa.alloc (.cells #[.string (x.label++⟨#[58]⟩)] 9)) ((hI.out.us.at_.below hba).below ((Below.refl _ _).alloc (Nat.le_refl _) _)) (rdc_new [x.label++⟨#[58]⟩]) (by simp) (by have:=congrArg List.length hlab.out;simp only [List.length_append,List.length_cons,List.length_nil] at this;have h9:(bL x.label).length=x.label.size:=rfl;omega) (fun e0=>by have h1:=hlab.out;rw [e0] at h1;have:=congrArg List.length h1;simp at this) (by have:=hI.out.len;omega) (by have:=hBa.out.size;simp;omega))
   have hcY:=Lib.hid (fun (W:World) (hn:Nu Wa W)=>(by rw [blk_cell (hn.1.lies hYb (by decide))];rfl:W.cell? ⟨Y,1,none⟩=some (.slice ac nc cc)))
   have hIl:=hI.out.len
   replace hI:=Lib.hid hI
   clear hYb hba hY
   go_wp2_with fail
   refine hLn.out.mono ?_
   rintro e w4 ⟨rfl,hU,hbb,hnn⟩
   have hN4:=(Nu.of_below ((Below.refl _ _).alloc (Nat.le_refl _) (.cells #[.string (x.label++⟨#[58]⟩)] 9))).trans hnn
   have hF4:=Lib.hid (show FL wP Wa b mb L1 (7900000+j*2000+1700) w4 from ⟨by have h1:=hU;rw [List.append_assoc,hlab.out,←hL1.out] at h1;exact h1,(hBa.out.alloc hBa.out.size _).trans hbb,hN4,by rw [hL1.out,List.length_append];have h9:(bL x.label).length=x.label.size:=rfl;simp only [List.length_append,List.length_cons,List.length_nil] at hIl ⊢;omega⟩)
   have c1:=hcY.out w4 hN4
   clear hLn hU hbb hnn hN4 f0 q1
   dsimp only
   go_upto_block 2 with fail
   go_wp2_with fail
   clear c1
   go_loopw [33] (fun i wr=>∃k:Nat,i=.int .i64 k∧k≤nc∧Hid (FL wP Wa b mb (L1++((x.code.take k).map insT).flatten) (7900000+(j+1)*2000) wr)) (fun i _=>nc-(intOf i).toNat)
   case atStart=>exact⟨0,rfl,Nat.zero_le _,Lib.hid ⟨by simpa using hF4.out.us,hF4.out.bel,hF4.out.nu,by have:=hF4.out.len;simp at this ⊢;omega⟩⟩
   case round=>
    clear hF4
    obtain⟨k,rfl,hkl,hI2⟩:=hrel
    by_cases hkn:k<nc
    ·have i2:(k:Int)<(nc:Int):=by omega
     obtain⟨c,hc⟩:∃c,x.code[k]?=some c:=⟨_,List.getElem?_eq_getElem (by rw [←hnc.out];exact hkn)⟩
     obtain⟨g2,off2,cap2,cs2,e2,hg2,⟨va,vl,rfl,ra,rl⟩,-,hcell2⟩:=rc.out.at hc
     rw [←hnc.out] at e2
     simp only [Value.slice.injEq] at e2
     obtain⟨rfl,-,rfl⟩:=e2
     obtain⟨aa,ca,rfl,hca,-⟩:=ra.cells
     obtain⟨al,cl,rfl,hcl,-⟩:=rl.cells
     obtain⟨hok,hval⟩:=hxi.out c (List.mem_of_getElem? hc)
     have z0:wr.cell? ⟨g2,off2+k*8,none⟩=some (.int .u8 c.op):=keepB hI2.out.bel hg2 (hcell2 0 _ rfl)
     have z1:=keepB hI2.out.bel hg2 (hcell2 1 _ rfl)
     have z2:=keepB hI2.out.bel hg2 (hcell2 2 _ rfl)
     have z3:=keepB hI2.out.bel hg2 (hcell2 3 _ rfl)
     have z4:=keepB hI2.out.bel hg2 (hcell2 4 _ rfl)
     have z5:=keepB hI2.out.bel hg2 (hcell2 5 _ rfl)
     have z6:=keepB hI2.out.bel hg2 (hcell2 6 _ rfl)
     have z7:=keepB hI2.out.bel hg2 (hcell2 7 _ rfl)
     have hg2w:g2<wr.heap.size:=Nat.lt_of_lt_of_le hg2 hI2.out.bel.size
     have hZb:(wr.alloc (.cells #[.int .u8 c.op,.string c.dst,.string c.a,.string c.b,.int .i64 c.n,.string c.fn,.slice aa c.args.length ca,.slice al c.labels.length cl] 46)).heap[wr.heap.size]?=some (.cells #[.int .u8 c.op,.string c.dst,.string c.a,.string c.b,.int .i64 c.n,.string c.fn,.slice aa c.args.length ca,.slice al c.labels.length cl] 46 (0,0)):=heap_alloc_new _ _
     have hbc:Below wr.heap.size wr (wr.alloc (.cells #[.int .u8 c.op,.string c.dst,.string c.a,.string c.b,.int .i64 c.n,.string c.fn,.slice aa c.args.length ca,.slice al c.labels.length cl] 46)):=(Below.refl _ _).alloc (Nat.le_refl _) _
     replace hc:=Lib.hid hc
     replace ra:=Lib.hid ra
     replace rl:=Lib.hid rl
     replace hok:=Lib.hid hok
     replace hval:=Lib.hid hval
     clear hcell2 hg2 hca hcl
     go_upto_region 9 with fail
     clear z0 z1 z2 z3 z4 z5 z6 z7 hg2w
     obtain⟨Z,hZ⟩:∃Z,Z=wr.heap.size:=⟨_,rfl⟩
     rw [←hZ] at hZb ⊢
     clear hZ
     generalize (wr.alloc (.cells #[.int .u8 c.op,.string c.dst,.string c.a,.string c.b,.int .i64 c.n,.string c.fn,.slice aa c.args.length ca,.slice al c.labels.length cl] 46))=Wc at hZb hbc ⊢
     have hUc:=hI2.out.us.at_.below hbc
     have hNc:=Lib.hid (hI2.out.nu.trans (Nu.of_below hbc))
     have hBc:=Lib.hid (hI2.out.bel.trans (hbc.mono hI2.out.bel.size))
     have hlg:=Lib.hid (long6_any hUc)
     obtain⟨L2,hL2⟩:∃L2,L2=L1++((x.code.take k).map insT).flatten:=⟨_,rfl⟩
     have hI2l:=hI2.out.len
     have hI2u:=Lib.hid (hI2.out.us.at_)
     rw [←hL2] at hlg hUc hI2l hI2u
     replace hUc:=Lib.hid hUc
     replace hL2:=Lib.hid hL2
     replace hI2:=Lib.hid hI2
     replace hbc:=Lib.hid hbc
     go_wp2_with fail
     refine hlg.out.mono ?_
     rintro e w6 ⟨rfl,hw6⟩
     obtain rfl:=hw6.symm
     clear hw6
     dsimp only
     clear hlg
     by_cases hq:1048576<L2.length
     ·have i3:decide ((1048576:Int)<(L2.length:Int))=true:=by simp;omega
      have hT:=Lib.hid (show Told wP w b mb (L++funT d) Wc from ⟨L2,⟨by
       have h1:=hI2.out.out.us
       rw [←hL2.out] at h1
       exact h1.below hbc.out,hBc.out,hN2.out.trans (hNa.out.trans hNc.out),by omega⟩,.inr ⟨hq,by
       obtain⟨R1,hR1⟩:=flat_rest insT x.code k
       have e3:d.blocks=d.blocks.take j++x::d.blocks.drop (j+1):=by
        obtain⟨hj2,hj3⟩:=List.getElem?_eq_some_iff.1 hx.out
        rw [←hj3,←List.drop_eq_getElem_cons hj2,List.take_append_drop]
       refine⟨R1++((d.blocks.drop (j+1)).map blkT).flatten++[125,10],?_⟩
       rw [hL2.out,hL1.out]
       unfold funT
       conv=>lhs;rw [e3]
       simp only [List.map_append,List.map_cons,List.flatten_append,List.flatten_cons,blkT,hR1,List.append_assoc]⟩⟩)
      clear hI2 hUc hbc hZb
      go_wp2_with fail
      refine bodyPost_ret (v:=.tuple #[]) (by simp [results,Tryz.results18,go_sem]) rfl ?_
      exact⟨rfl,hT.out⟩
     ·have i3:decide ((1048576:Int)<(L2.length:Int))=false:=by simp;omega
      obtain⟨s,hs,-,-,-,-,-,-,-,-,h66⟩:=fields_ok hval.out
      obtain⟨κ,hκ⟩:∃κ:Nat,c.op=κ:=⟨c.op.toNat,by have:=ops_ok hs;omega⟩
      have hκ1:1≤κ:=by have:=ops_ok hs;omega
      have hκ2:κ≤14:=by have:=ops_ok hs;omega
      obtain⟨fv,hfv,F,caps,rfl,hent,hlen,hcall⟩:=hall.out κ hκ1 hκ2
      have hG:formG κ c:=fun e=>(h66 (by rw [hκ,e];rfl)).2
      have hlenc:=hlen c hok.out hG
      have hMc:=hM.out.nu (hN2.out.trans (hNa.out.trans hNc.out))
      have hkey:keyOf Tryz.prog 44 (.int .u8 c.op)=some (.int .u8 c.op):=keyO (by rw [hκ];exact WalkArith.wf_u8 (by omega))
      have hfv2:f (.int .u8 c.op)=some (.func (.func F) #[] caps):=by rw [hκ];exact hfv
      have hcl:=Lib.hid (fun (W:World) (hs:Nu Wc W) (hw:Below wP.heap.size wP W)=>hcall W ((hN2.out.trans (hNa.out.trans hNc.out)).1.trans hs.1) c _ _ (ra.out.below hw) (rl.out.below hw) hok.out hG)
      have hrT:=formR_T (d:=c) hκ1 hκ2 hκ
      have hwr:=words_ref hval.out
      have hrl:=ref_len hok.out hval.out
      obtain⟨Rc,hRc⟩:∃R,R=formR κ c:=⟨_,rfl⟩
      rw [←hRc] at hlenc hcl hrT
      obtain⟨J2,hJ2⟩:∃J,J=jnB Rc ⟨#[32]⟩:=⟨_,rfl⟩
      have hbJ:bL J2=Lib.join (wordsT c) [32]:=by rw [hJ2,bL_jn,hrT];rfl
      have hil:=ins_line J2 hbJ
      have hJl:J2.size≤6800000:=by have h9:(bL J2).length=J2.size:=rfl;rw [←h9,hbJ,hwr];exact hrl
      have hjl:(Lib.join (Rc.map bL) [32]).length≤100000000:=by rw [hrT,hwr];omega
      have hcZ:=Lib.hid (fun (W:World) (hn:Nu Wc W) (hu:W.cell? ⟨b,2,none⟩=some (.map (some mb)))=>(by
       have e:=hn.1.lies hZb (by decide)
       exact⟨hu,by rw [blk_cell e];rfl,by rw [blk_cell e];rfl,by rw [blk_cell e];rfl,by rw [blk_cell e];rfl,by rw [blk_cell e];rfl,by rw [blk_cell e];rfl,by rw [blk_cell e];rfl,by rw [blk_cell e];rfl,vmap_look (zeroForm W) lawOp Tryz.underlying57 (hMc.nu hn) hkey hfv2⟩:W.cell? ⟨b,2,none⟩=some (.map (some mb))∧W.cell? ⟨Z,0,none⟩=some (.int .u8 c.op)∧W.cell? ⟨Z,1,none⟩=some (.string c.dst)∧W.cell? ⟨Z,2,none⟩=some (.string c.a)∧W.cell? ⟨Z,3,none⟩=some (.string c.b)∧W.cell? ⟨Z,4,none⟩=some (.int .i64 c.n)∧W.cell? ⟨Z,5,none⟩=some (.string c.fn)∧W.cell? ⟨Z,6,none⟩=some (.slice aa c.args.length ca)∧W.cell? ⟨Z,7,none⟩=some (.slice al c.labels.length cl)∧(Instr.lookup 57 (.map (some mb)) (.int .u8 c.op) false).run Tryz.prog W=.ok (.func (.func F) #[] caps) W))
      obtain⟨⟨pv,vv,-,hbb2,-⟩,-⟩:=hUc.out
      have hbl2:b<Wc.heap.size:=(Array.getElem?_eq_some_iff.1 hbb2).1
      have hb2c:Wc.cell? ⟨b,2,none⟩=some (.map (some mb)):=by rw [blk_cell hbb2];rfl
      have hC:=hcZ.out Wc.drew (Nu.of_below (Below.drew (Below.refl Wc.heap.size Wc))) hb2c
      replace hil:=Lib.hid hil
      replace hRc:=Lib.hid hRc
      replace hJ2:=Lib.hid hJ2
      replace hrT:=Lib.hid hrT
      replace hwr:=Lib.hid hwr
      replace hbJ:=Lib.hid hbJ
      replace hκ:=Lib.hid hκ
      replace hMc:=Lib.hid hMc
      replace hb2c:=Lib.hid hb2c
      replace hbb2:=Lib.hid hbb2
      clear hlen hcall hkey hfv hfv2 hs hG h66 hZb
      go_upto_region 10 with fail
      refine wp_region_held_drew (S:=(fun W=>W.cell? ⟨b,2,none⟩=some (.map (some mb))∧W.cell? ⟨Z,0,none⟩=some (.int .u8 c.op)∧W.cell? ⟨Z,1,none⟩=some (.string c.dst)∧W.cell? ⟨Z,2,none⟩=some (.string c.a)∧W.cell? ⟨Z,3,none⟩=some (.string c.b)∧W.cell? ⟨Z,4,none⟩=some (.int .i64 c.n)∧W.cell? ⟨Z,5,none⟩=some (.string c.fn)∧W.cell? ⟨Z,6,none⟩=some (.slice aa c.args.length ca)∧W.cell? ⟨Z,7,none⟩=some (.slice al c.labels.length cl)∧(Instr.lookup 57 (.map (some mb)) (.int .u8 c.op) false).run Tryz.prog W=.ok (.func (.func F) #[] caps) W)) (by kernel_rfl) hC (fun hHeld=>?_)
      clear hHeld
      refine wpAnyH_take (i:=0) (oi:=(.mk (some 39) (.move (.tmp 0)) 56 "show.go:50" #[] none)) (v:=?_) rfl (by kernel_rfl) (by kernel_rfl) (by kernel_rfl) (fun _ _ _ h=>h) (Or.inl ⟨by rfl,?_⟩) hC ?_
      rotate_left
      ·(intro w hSw;(try dsimp only at hSw);go_simp;try with_reducible rfl)
      try simp only [Act.put,List.setIfInBounds_toArray,List.set_cons_zero,List.set_cons_succ]
      refine wpAnyH_take (i:=1) (oi:=(.mk (some 40) (.move (.tmp 0)) 56 "show.go:50" #[] none)) (v:=?_) rfl (by kernel_rfl) (by kernel_rfl) (by kernel_rfl) (fun _ _ _ h=>h) (Or.inl ⟨by rfl,?_⟩) hC ?_
      rotate_left
      ·(intro w hSw;(try dsimp only at hSw);go_simp;try with_reducible rfl)
      try simp only [Act.put,List.setIfInBounds_toArray,List.set_cons_zero,List.set_cons_succ]
      refine wpAnyH_take (i:=2) (oi:=(.mk (some 41) (.nilCheck (.tmp 40)) 0 "show.go:50" #[.mk 1 .data] none)) (v:=?_) rfl (by kernel_rfl) (by kernel_rfl) (by kernel_rfl) (fun _ _ _ h=>h) (Or.inl ⟨by rfl,?_⟩) hC ?_
      rotate_left
      ·(intro w hSw;(try dsimp only at hSw);go_simp;try with_reducible rfl)
      try simp only [Act.put,List.setIfInBounds_toArray,List.set_cons_zero,List.set_cons_succ]
      refine wpAnyH_take (i:=3) (oi:=(.mk (some 42) (.fieldAddr 64 (.tmp 41) 1) 0 "show.go:50" #[.mk 2 .data] none)) (v:=?_) rfl (by kernel_rfl) (by kernel_rfl) (by kernel_rfl) (fun _ _ _ h=>h) (Or.inl ⟨by rfl,?_⟩) hC ?_
      rotate_left
      ·(intro w hSw;(try dsimp only at hSw);go_simp;try with_reducible rfl)
      try simp only [Act.put,List.setIfInBounds_toArray,List.set_cons_zero,List.set_cons_succ]
      refine wpAnyH_take (i:=4) (oi:=(.mk (some 43) (.load 57 (.tmp 42)) 57 "show.go:50" #[.mk 3 .data] none)) (v:=?_) rfl (by kernel_rfl) (by kernel_rfl) (by kernel_rfl) (fun _ _ _ h=>h) (Or.inl ⟨by rfl,?_⟩) hC ?_
      rotate_left
      ·(intro w hSw;(try dsimp only at hSw);go_simp;try with_reducible rfl)
      try simp only [Act.put,List.setIfInBounds_toArray,List.set_cons_zero,List.set_cons_succ]
      refine wpAnyH_take (i:=5) (oi:=(.mk (some 44) (.fieldAddr 46 (.tmp 7) 0) 0 "show.go:50" #[] none)) (v:=?_) rfl (by kernel_rfl) (by kernel_rfl) (by kernel_rfl) (fun _ _ _ h=>h) (Or.inl ⟨by rfl,?_⟩) hC ?_
      rotate_left
      ·(intro w hSw;(try dsimp only at hSw);go_simp;try with_reducible rfl)
      try simp only [Act.put,List.setIfInBounds_toArray,List.set_cons_zero,List.set_cons_succ]
      refine wpAnyH_take (i:=6) (oi:=(.mk (some 45) (.load 44 (.tmp 44)) 44 "show.go:50" #[.mk 5 .data] none)) (v:=?_) rfl (by kernel_rfl) (by kernel_rfl) (by kernel_rfl) (fun _ _ _ h=>h) (Or.inl ⟨by rfl,?_⟩) hC ?_
      rotate_left
      ·(intro w hSw;(try dsimp only at hSw);go_simp;try with_reducible rfl)
      try simp only [Act.put,List.setIfInBounds_toArray,List.set_cons_zero,List.set_cons_succ]
      refine wpAnyH_take (i:=8) (oi:=(.mk (some 47) (.load 46 (.tmp 7)) 46 "show.go:50" #[] none)) (v:=?_) rfl (by kernel_rfl) (by kernel_rfl) (by kernel_rfl) (fun _ _ _ h=>h) (Or.inl ⟨by rfl,?_⟩) hC ?_
      rotate_left
      ·(intro w hSw;(try dsimp only at hSw);go_simp;try with_reducible rfl)
      try simp only [Act.put,List.setIfInBounds_toArray,List.set_cons_zero,List.set_cons_succ]
      refine wpAnyH_ready (rs:=[7]) (by kernel_rfl) (by simp) (AllReadyH.cons (o:=(.mk (some 46) (.lookup 57 (.tmp 43) (.tmp 45) false) 93 "show.go:50" #[.mk 4 .data,.mk 6 .data] none)) rfl (fun K hK=>?_) AllReadyH.nil)
      go_simp
      skip
      refine hK.out _ _ hC (fun hHeld=>?_)
      clear hK K hHeld
      try simp only [Act.put,List.setIfInBounds_toArray,List.set_cons_zero,List.set_cons_succ]
      refine wpAnyH_ready (rs:=[9]) (by kernel_rfl) (by simp) (AllReadyH.cons (o:=(.mk (some 48) (.call (.mk (.value (.tmp 46)) #[(.tmp 47)] #[46])) 37 "show.go:50" #[.mk 7 .data,.mk 8 .data] none)) rfl (fun K hK=>?_) AllReadyH.nil)
      go_simp
      (go_at_fn F;refine Calls.mono (hcl.out _ (Nu.of_below (Below.drew (Below.refl Wc.heap.size Wc))) hBc.out.drew) ?_;rintro e w5 ⟨v5,rfl,hR5,hbb⟩)
      obtain⟨a5,k5,rfl,-⟩:=hR5.cells
      have hB5:=Lib.hid (show Below Wc.heap.size Wc w5 from (Below.drew (Below.refl Wc.heap.size Wc)).trans hbb)
      replace hC:=hcZ.out w5 (Nu.of_below hB5.out) ((hB5.out.cell (p:=⟨b,2,none⟩) hbl2).trans hb2c.out)
      have hsp:=Lib.hid (spaced_any hR5 (by omega) hjl)
      rw [←hJ2.out] at hsp
      clear hbb hR5
      refine hK.out _ _ hC (fun hHeld=>?_)
      clear hK K hHeld
      try simp only [Act.put,List.setIfInBounds_toArray,List.set_cons_zero,List.set_cons_succ]
      refine wpAnyH_ready (rs:=[10]) (by kernel_rfl) (by simp) (AllReadyH.cons (o:=(.mk (some 49) (.call (.mk (.value (.func 55)) #[(.tmp 48)] #[37])) 9 "show.go:50" #[.mk 9 .data,.mk 9 .chain] none)) rfl (fun K hK=>?_) AllReadyH.nil)
      go_simp
      (go_at_call 55;refine Calls.mono hsp.out ?_;rintro e w6 ⟨rfl,hbb⟩)
      have hB6:=Lib.hid (hB5.out.trans (hbb.mono hB5.out.size))
      replace hC:=hcZ.out w6 (Nu.of_below hB6.out) ((hB6.out.cell (p:=⟨b,2,none⟩) hbl2).trans hb2c.out)
      clear hbb hsp
      refine hK.out _ _ hC (fun hHeld=>?_)
      clear hK K hHeld
      try simp only [Act.put,List.setIfInBounds_toArray,List.set_cons_zero,List.set_cons_succ]
      refine wpAnyH_ready (rs:=[11]) (by kernel_rfl) (by simp) (AllReadyH.cons (o:=(.mk (some 50) (.buildSlice 37 2 #[(0,(.const (Value.string (ByteArray.mk #[32])))),(1,(.tmp 49))]) 37 "show.go:50" #[.mk 10 .data] none)) rfl (fun K hK=>?_) AllReadyH.nil)
      go_simp
      have hB7:=Lib.hid (hB6.out.alloc hB6.out.size (.cells #[.string ⟨#[32]⟩,.string J2] 9))
      replace hC:=hcZ.out _ (Nu.of_below hB7.out) ((hB7.out.cell (p:=⟨b,2,none⟩) hbl2).trans hb2c.out)
      have hR7:=Lib.hid (rdc_new (w:=w6) [⟨#[32]⟩,J2])
      refine hK.out _ _ hC (fun hHeld=>?_)
      clear hK K hHeld
      try simp only [Act.put,List.setIfInBounds_toArray,List.set_cons_zero,List.set_cons_succ]
      refine wpAnyH_ready (rs:=[12]) (by kernel_rfl) (by simp) (AllReadyH.cons (o:=(.mk (some 51) (.call (.mk (.value (.func 54)) #[(.tmp 39),(.tmp 50)] #[56,37])) 0 "show.go:50" #[.mk 0 .data,.mk 11 .data,.mk 10 .chain] none)) rfl (fun K hK=>?_) AllReadyH.nil)
      go_simp
      (go_at_call 54;refine Calls.mono (line_any (hUc.out.below hB7.out) hR7.out (by simp) (by show (Lib.join ([32]::bL J2::[]) [32]).length≤_;rw [join_cons2,join1];simp;show (bL J2).length≤_;rw [bL_len];omega) (fun e0=>by have h1:Lib.join ([32]::bL J2::[]) [32]=[]:=e0;rw [join_cons2,join1] at h1;simp at h1) (by omega) (Nat.le_trans hBc.out.size hB7.out.size)) ?_;rintro e w8 ⟨rfl,hU,hbb,hnn⟩)
      have hN8:=Lib.hid ((Nu.of_below hB7.out).trans hnn)
      have hB8:=Lib.hid (show Below wP.heap.size Wc w8 from (hB7.out.mono hBc.out.size).trans hbb)
      have hU0:=hU
      obtain⟨⟨v8,hb8,-⟩,-⟩:=hU0
      replace hC:=hcZ.out w8 hN8.out (by rw [blk_cell hb8];rfl)
      have hU8:=Lib.hid hU
      clear hU hb8 hbb hnn
      refine hK.out _ _ hC (fun hHeld=>?_)
      clear hK K hHeld
      try simp only [Act.put,List.setIfInBounds_toArray,List.set_cons_zero,List.set_cons_succ]
      refine wpAnyH_done (by kernel_rfl) ?_ _
      have hF8:=Lib.hid (show FL wP Wa b mb (L1++((x.code.take (k+1)).map insT).flatten) (7900000+(j+1)*2000) w8 from by
       have e1:=take_snocT hc.out
       have e2:L1++((x.code.take (k+1)).map insT).flatten=L2++insT c:=by
        rw [e1,hL2.out]
        simp
       rw [e2]
       have h1:=hU8.out
       rw [List.append_assoc,hil.out] at h1
       exact⟨h1,hBc.out.trans (hB8.out),hNc.out.trans hN8.out,by rw [←hil.out,List.length_append,List.length_append];have h9:(Lib.join ([⟨#[32]⟩,J2].map bL) [32]).length=J2.size+2:=(by show (Lib.join ([32]::bL J2::[]) [32]).length=_;rw [join_cons2,join1];simp;rfl);simp only [List.length_cons,List.length_nil];omega⟩)
      clear hU8 hN8 hB8 hC
      go_wp2_with fail
      go_roundw
      case rel=>exact⟨k+1,by go_num,by omega,hF8⟩
      case measure=>simp [intOf];omega
    ·have i2:decide ((k:Int)<(nc:Int))=false:=by simp;omega
     obtain rfl:k=nc:=by omega
     have hF2:=Lib.hid (show FL wP W2 b mb (L++headT d++((d.blocks.take (j+1)).map blkT).flatten) (7900000+(j+1)*2000) wr from by
      have e1:=take_snocT hx.out
      have e2:L++headT d++((d.blocks.take (j+1)).map blkT).flatten=L1++((x.code.take k).map insT).flatten:=by
       have ec:x.code.take k=x.code:=List.take_of_length_le (by rw [←hnc.out];exact Nat.le_refl _)
       rw [e1,hL1.out,ec]
       simp [blkT]
      rw [e2]
      exact⟨hI2.out.us,hI2.out.bel,hNa.out.trans hI2.out.nu,hI2.out.len⟩)
     clear hI2
     go_wp2_with fail
     go_roundw
     case rel=>exact⟨j+1,by go_num,by omega,hF2⟩
     case measure=>simp [intOf];omega
  ·have i1:decide ((j:Int)<(nb:Int))=false:=by simp;omega
   obtain rfl:j=nb:=by omega
   have hLn:=Lib.hid (line_any (w:=wr.alloc (.cells #[.string ⟨#[125]⟩] 9)) (hI.out.us.at_.below ((Below.refl _ _).alloc (Nat.le_refl _) _)) (rdc_new [⟨#[125]⟩]) (by simp) (by show (Lib.join ([125]::[]) [32]).length≤_;rw [join1];decide) (fun e0=>by have h1:Lib.join ([125]::[]) [32]=[]:=e0;rw [join1] at h1;cases h1) (by have:=hI.out.len;omega) (by have:=hI.out.bel.size;simp;omega))
   have hI:=Lib.hid hI
   go_wp2_with fail
   refine hLn.out.mono ?_
   rintro e w4 ⟨rfl,hU,hbb,hnn⟩
   dsimp only
   have hN4:=(Nu.of_below ((Below.refl wr.heap.size wr).alloc (Nat.le_refl _) (.cells #[.string ⟨#[125]⟩] 9))).trans hnn
   have hM4:L++headT d++((d.blocks.take j).map blkT).flatten++Lib.join ([⟨#[125]⟩].map bL) [32]++[10]=L++funT d:=by
    show L++headT d++((d.blocks.take j).map blkT).flatten++Lib.join ([125]::[]) [32]++[10]=_
    rw [join1,List.take_of_length_le (by rw [←hnb.out];exact Nat.le_refl _)]
    simp [funT]
   have hT:=Lib.hid (show Told wP w b mb (L++funT d) w4 from ⟨_,⟨hU,(hI.out.out.bel.alloc hI.out.out.bel.size _).trans hbb,hN2.out.trans (hI.out.out.nu.trans hN4),by have:=hI.out.out.len;rw [List.length_append,List.length_append];show _+(Lib.join ([125]::[]) [32]).length+_≤_;rw [join1];simp only [List.length_cons,List.length_nil];omega⟩,.inl hM4⟩)
   clear hU hbb hnn hN4 hM4 hLn
   go_wp2_with fail
   go_end0
   exact⟨rfl,hT.out⟩
end
section
open Go.RowKit Go.Maps Go.Shelf
def varsP (s:List ByteArray)(l:List ByteArray):List ByteArray:=l.foldl plusS s
def varsC (s:List ByteArray)(l:List Ins):List ByteArray:=l.foldl (fun s c=>plusS s c.dst) s
def varsB (s:List ByteArray)(l:List Blk):List ByteArray:=l.foldl (fun s x=>varsC s x.code) s
def varsL (d:Fun):List ByteArray:=varsB (varsP [] d.params) d.blocks
theorem varsP_succ {s l:List ByteArray}{k:Nat}{x:ByteArray}(h:l[k]?=some x):varsP s (l.take (k+1))=plusS (varsP s (l.take k)) x:=by
 unfold varsP
 rw [take_snocS h,List.foldl_append]
 rfl
theorem varsC_succ {s:List ByteArray}{l:List Ins}{k:Nat}{x:Ins}(h:l[k]?=some x):varsC s (l.take (k+1))=plusS (varsC s (l.take k)) x.dst:=by
 unfold varsC
 rw [take_snocS h,List.foldl_append]
 rfl
theorem varsB_succ {s:List ByteArray}{l:List Blk}{k:Nat}{x:Blk}(h:l[k]?=some x):varsB s (l.take (k+1))=varsC (varsB s (l.take k)) x.code:=by
 unfold varsB
 rw [take_snocS h,List.foldl_append]
 rfl
theorem varsP_len:∀(l s:List ByteArray),(varsP s l).length≤s.length+l.length
 | [],s=>by simp [varsP]
 | x::l,s=>by
  have h1:=varsP_len l (plusS s x)
  have h2:=plusS_len s x
  have e:varsP s (x::l)=varsP (plusS s x) l:=rfl
  rw [e]
  simp
  omega
theorem varsC_len:∀(l:List Ins) (s:List ByteArray),(varsC s l).length≤s.length+l.length
 | [],s=>by simp [varsC]
 | x::l,s=>by
  have h1:=varsC_len l (plusS s x.dst)
  have h2:=plusS_len s x.dst
  have e:varsC s (x::l)=varsC (plusS s x.dst) l:=rfl
  rw [e]
  simp
  omega
theorem varsB_len {m:Nat}:∀(l:List Blk) (s:List ByteArray),(∀x∈l,x.code.length≤m)→(varsB s l).length≤s.length+l.length*m
 | [],s,_=>by simp [varsB]
 | x::l,s,h=>by
  have h1:=varsB_len l (varsC s x.code) (fun y hy=>h y (List.mem_cons_of_mem _ hy))
  have h2:=varsC_len x.code s
  have h3:=h x (List.mem_cons_self ..)
  have e:varsB s (x::l)=varsB (varsC s x.code) l:=rfl
  rw [e,List.length_cons,Nat.succ_mul]
  omega
set_option maxRecDepth 20000 in
set_option maxHeartbeats 4000000 in
theorem variables_any {w:World}{b o:Nat}{d:Fun}(h:FunAt w b o d)(hf:d.Fits)(hpl:d.params.length≤1000000)(hbl:d.blocks.length≤1000000)(hcl:∀x∈d.blocks,x.code.length≤1000000):
  Calls Tryz.prog 152 #[.pointer (some ⟨b,o,none⟩)] w fun e w'=>∃bm,e=.returned (.map (some bm))∧w.heap.size≤bm∧SetS w' bm (varsL d)∧Below w.heap.size w w':=by
 obtain⟨-,vp,vb,hP,hBk,-,c1,c2⟩:=h
 obtain⟨pa,pc,rfl⟩:=hP.shape
 obtain⟨ba,bc,rfl⟩:=hBk.form
 have hfp:=Lib.hid hf.2.1
 have hfb:=Lib.hid hf.2.2.1
 obtain⟨n,hn⟩:∃n,n=d.params.length:=⟨_,rfl⟩
 obtain⟨q,hq⟩:∃q,q=d.blocks.length:=⟨_,rfl⟩
 rw [←hn] at hP c1 hpl
 rw [←hq] at hBk c2 hbl
 have hcw:=Lib.hid (fun w' (hB:Below w.heap.size w w')=>(⟨keepC hB c1,keepC hB c2⟩:w'.cell? ⟨b,o+1,none⟩=some (.slice pa n pc)∧w'.cell? ⟨b,o+2,none⟩=some (.slice ba q bc)))
 have hmm:=@run_makeMap Tryz.prog
 have hB0:Below w.heap.size w (w.alloc (.map #[] 0)):=box_below _ _
 have hM0:=SetS.new w
 have hvL:=Lib.hid (show varsB (varsP [] d.params) d.blocks=varsL d from rfl)
 have e1:=(hcw.out _ hB0).1
 have hge:w.heap.size≤w.heap.size:=Nat.le_refl _
 replace hP:=Lib.hid hP
 replace hBk:=Lib.hid hBk
 replace hn:=Lib.hid hn
 replace hq:=Lib.hid hq
 replace hcl:=Lib.hid hcl
 replace hB0:=Lib.hid hB0
 replace hM0:=Lib.hid hM0
 clear c1 c2 hf
 go_enter Tryz.func152,Tryz.ntmps152
 go_wp2_with fail
 generalize (w.alloc (.map #[] 0))=w0 at hB0 hM0 e1 ⊢
 clear e1
 obtain⟨bm,hbm⟩:∃bm,bm=w.heap.size:=⟨_,rfl⟩
 rw [←hbm] at hM0 ⊢
 replace hge:w.heap.size≤bm:=by omega
 replace hbm:=Lib.hid hbm
 clear hmm
 go_loopw [5,16] (fun _ i wr=>∃k:Nat,k≤n∧i=.int .i64 k∧Hid (SetS wr bm (varsP [] (d.params.take k)))∧Hid (Below w.heap.size w wr)) (fun _ i _=>n-(intOf i).toNat)
 case atStart=>exact⟨0,Nat.zero_le _,rfl,hM0,hB0⟩
 case round=>
  clear hM0 hB0
  obtain⟨k,hk,rfl,hM,hB⟩:=hrel
  by_cases hlt:k<n
  ·have j1:decide ((k:Int)<(n:Int))=true:=by simpa using hlt
   have j2:(k:Int)<(n:Int):=by omega
   obtain⟨s,hs⟩:∃s,d.params[k]?=some s:=⟨_,List.getElem?_eq_getElem (by rw [←hn.out];exact hlt)⟩
   obtain⟨g,off,cap,e,hc⟩:=RdS.cell (Rd.below hP.out hB.out) hs
   rw [←hn.out] at e
   simp only [Value.slice.injEq] at e
   obtain⟨rfl,-,rfl⟩:=e
   have hsz:=hfp.out s (List.mem_of_getElem? hs)
   have hat:=Lib.hid (varsP_succ (s:=[]) hs)
   have hll:(varsP [] (d.params.take k)).length≤n:=by have:=varsP_len (d.params.take k) [];rw [List.length_take] at this;simp at this;omega
   clear hs
   go_wp2_with (at_mapUpdate;refine wpList_setS_put rfl _ _ _ rfl bm _ hM.out rfl s rfl rfl hsz (by omega) ?_;intro w3 hM3 hT3;go_frame)
   rw [←hat.out] at hM3
   have hB3:=Lib.hid (hB.out.trans (hT3.below hB.out.size (fun k hk e=>by omega)))
   replace hM3:=Lib.hid hM3
   clear hT3 hM hB hat
   go_wp2_with fail
   exact⟨⟨k+1,by omega,by go_num,hM3,hB3⟩,by simp [intOf];omega⟩
  ·obtain rfl:k=n:=by omega
   have j1:decide ((k:Int)<(k:Int))=false:=by simp
   have hE:d.params.take k=d.params:=List.take_of_length_le (by rw [←hn.out];exact Nat.le_refl _)
   rw [hE] at hM
   have e2:=(hcw.out wr hB.out).2
   have hM5:Hid (SetS wr bm (varsB (varsP [] d.params) (d.blocks.take 0))):=hM
   have hPl:(varsP [] d.params).length≤1000000:=by have:=varsP_len d.params [];rw [←hn.out] at this;simp at this;omega
   replace hvL:Hid (varsB (varsP [] d.params) d.blocks=varsL d):=hvL
   generalize varsP [] d.params=s0 at hM5 hPl hvL
   clear hM hE
   go_wp2_with fail
   clear e2
   go_loopw [7,9,29] (fun _ _ i wx=>∃k:Nat,k≤q∧i=.int .i64 k∧Hid (SetS wx bm (varsB s0 (d.blocks.take k)))∧Hid (Below w.heap.size w wx)) (fun _ _ i _=>q-(intOf i).toNat)
   case atStart=>exact⟨0,Nat.zero_le _,rfl,hM5,hB⟩
   case round=>
    clear hM5 hB
    obtain⟨k2,hk2,rfl,hM,hB⟩:=hrel
    by_cases hlt:k2<q
    ·have j3:decide ((k2:Int)<(q:Int))=true:=by simpa using hlt
     have j4:(k2:Int)<(q:Int):=by omega
     obtain⟨x,hx⟩:∃x,d.blocks[k2]?=some x:=⟨_,List.getElem?_eq_getElem (by rw [←hq.out];exact hlt)⟩
     obtain⟨g,off,cap,cs,e,hgl,⟨vc,rfl,rc⟩,-,hc⟩:=RdE.at hBk.out hx
     obtain⟨ca,cc,rfl⟩:=rc.form
     rw [←hq.out] at e
     simp only [Value.slice.injEq] at e
     obtain⟨rfl,-,rfl⟩:=e
     have c0:wr.cell? ⟨g,off+k2*2,none⟩=some (.string x.label):=keepC hB.out (hc 0 _ rfl)
     have c1:=keepC hB.out (hc 1 _ rfl)
     have hxm:=List.mem_of_getElem? hx
     have hat:=Lib.hid (varsB_succ (s:=s0) hx)
     obtain⟨z,hz⟩:∃z,z=x.code.length:=⟨_,rfl⟩
     have hzl:z≤1000000:=by rw [hz];exact hcl.out x hxm
     rw [←hz] at rc c1
     have hfx:=Lib.hid (hfb.out x hxm)
     have hll:(varsB s0 (d.blocks.take k2)).length≤1000000+k2*1000000:=by
      have h1:=varsB_len (m:=1000000) (d.blocks.take k2) s0 (fun y hy=>hcl.out y (List.mem_of_mem_take hy))
      rw [List.length_take] at h1
      have h2:min k2 d.blocks.length*1000000≤k2*1000000:=Nat.mul_le_mul_right _ (Nat.min_le_left _ _)
      omega
     have hB1:=Lib.hid (hB.out.alloc hB.out.size (.cells #[.string x.label,.slice ca z cc] 43))
     have hM1:Hid (SetS (wr.alloc (.cells #[.string x.label,.slice ca z cc] 43)) bm (varsC (varsB s0 (d.blocks.take k2)) (x.code.take 0))):=Lib.hid (hM.out.block (Below.heap_alloc _ _ _ hM.out.lt))
     have hRC:=Lib.hid rc
     generalize hs1:varsB s0 (d.blocks.take k2)=s1 at hM1 hll hat
     replace hz:=Lib.hid hz
     replace hs1:=Lib.hid hs1
     clear hc rc hxm hx hM hB
     go_wp2_with fail
     clear c0 c1
     generalize (wr.alloc (.cells #[.string x.label,.slice ca z cc] 43))=w1 at hB1 hM1 ⊢
     go_loopw [9,36] (fun _ i wx=>∃k:Nat,k≤z∧i=.int .i64 k∧Hid (SetS wx bm (varsC s1 (x.code.take k)))∧Hid (Below w.heap.size w wx) ) (fun _ i _=>z-(intOf i).toNat)
     case atStart=>exact⟨0,Nat.zero_le _,rfl,hM1,hB1⟩
     case round=>
      clear hM1 hB1
      obtain⟨k3,hk3,rfl,hM,hB⟩:=hrel
      by_cases hlt:k3<z
      ·have j5:decide ((k3:Int)<(z:Int))=true:=by simpa using hlt
       have j6:(k3:Int)<(z:Int):=by omega
       obtain⟨y,hy⟩:∃y,x.code[k3]?=some y:=⟨_,List.getElem?_eq_getElem (by rw [←hz.out];exact hlt)⟩
       obtain⟨g,off,cap,cs,e,hgl,⟨va,vl,rfl,ra,rl⟩,-,hc⟩:=RdE.at (RdE.below (fun _ _ h=>h.below hB.out) hRC.out hB.out) hy
       obtain⟨aa,ac,rfl⟩:=ra.shape
       obtain⟨la,lc,rfl⟩:=rl.shape
       rw [←hz.out] at e
       simp only [Value.slice.injEq] at e
       obtain⟨rfl,-,rfl⟩:=e
       have d0:wr.cell? ⟨g,off+k3*8,none⟩=some (.int .u8 y.op):=hc 0 _ rfl
       have d1:=hc 1 _ rfl
       have d2:=hc 2 _ rfl
       have d3:=hc 3 _ rfl
       have d4:=hc 4 _ rfl
       have d5:=hc 5 _ rfl
       have d6:=hc 6 _ rfl
       have d7:=hc 7 _ rfl
       have hsz:=(hfx.out.2.1 y (List.mem_of_getElem? hy)).2.2.1
       have hat3:=Lib.hid (varsC_succ (s:=s1) hy)
       have hl3:(varsC s1 (x.code.take k3)).length≤s1.length+k3:=by have:=varsC_len (x.code.take k3) s1;rw [List.length_take] at this;omega
       obtain⟨ol,hol⟩:∃ol,ol=y.labels.length:=⟨_,rfl⟩
       obtain⟨oa,hoa⟩:∃oa,oa=y.args.length:=⟨_,rfl⟩
       rw [←hol] at d7
       rw [←hoa] at d6
       have hB1:=hB.out.alloc hB.out.size (.cells #[.int .u8 y.op,.string y.dst,.string y.a,.string y.b,.int .i64 y.n,.string y.fn,.slice aa oa ac,.slice la ol lc] 46)
       have hM1:=Lib.hid (hM.out.block (Below.heap_alloc _ (.cells #[.int .u8 y.op,.string y.dst,.string y.a,.string y.b,.int .i64 y.n,.string y.fn,.slice aa oa ac,.slice la ol lc] 46) _ hM.out.lt))
       replace hB1:=Lib.hid hB1
       clear hc ra rl hy hM hB hol hoa
       go_wp2_with (at_mapUpdate;refine wpList_setS_put rfl _ _ _ rfl bm _ hM1.out rfl y.dst rfl rfl hsz (by omega) ?_;intro w3 hM3 hT3;go_frame)
       rw [←hat3.out] at hM3
       have hB3:=Lib.hid (hB1.out.trans (hT3.below hB1.out.size (fun k hk e=>by omega)))
       replace hM3:=Lib.hid hM3
       clear hT3 hM1 hB1 hat3
       go_wp2_with fail
       exact⟨⟨k3+1,by omega,by go_num,hM3,hB3⟩,by simp [intOf];omega⟩
      ·obtain rfl:k3=z:=by omega
       have j5:decide ((k3:Int)<(k3:Int))=false:=by simp
       have hE:x.code.take k3=x.code:=List.take_of_length_le (by rw [←hz.out];exact Nat.le_refl _)
       rw [hE,←hat.out] at hM
       go_wp2_with fail
       exact⟨⟨k2+1,by omega,by go_num,hM,hB⟩,by simp [intOf];omega⟩
    ·obtain rfl:k2=q:=by omega
     have j3:decide ((k2:Int)<(k2:Int))=false:=by simp
     have hE:d.blocks.take k2=d.blocks:=List.take_of_length_le (by rw [←hq.out];exact Nat.le_refl _)
     rw [hE,hvL.out] at hM
     go_wp2_with fail
     go_ret
     exact⟨bm,rfl,hge,hM.out,hB.out⟩
end
end Go.Proofs.YtknkiaedgeejiaaGreatDoor
