/- SwL, SwP, NBadN. -/
import Derived.Test.YtknkiaedgeejiaaGreatDoorSP2
import Derived.Deep.RegionHeld3
namespace Go.Proofs.YtknkiaedgeejiaaGreatDoor
set_option linter.unusedVariables false
set_option linter.unusedSimpArgs false
section
open Go.RowKit Go.Maps Go.Shelf
attribute [local go_sem] Oper.semAt_some
set_option maxRecDepth 20000 in
set_option maxHeartbeats 2000000 in
theorem line_any {B b:Nat}{L:List UInt8}{m:Value}{w:World}(h:WrAt B b L m w){v:Value}{ws:List ByteArray}(hr:RdC w v ws)(hl:ws.length≤1000000)(hs:(Lib.join (ws.map bL) [32]).length≤10000000)(h0:Lib.join (ws.map bL) [32]≠[])(hL:L.length≤10000000)(hBw:B≤w.heap.size):Calls Tryz.prog 54 #[.pointer (some ⟨b,0,none⟩),v] w fun e w'=>e=.returned (.tuple #[])∧WrUs B b (L++Lib.join (ws.map bL) [32]++[10]) m w'∧Below B w w'∧Nu w w':=by
 have hj:=Lib.hid (fun W (hb:Below w.heap.size w W)=>spaced_any (hr.below hb) hl (by omega))
 obtain⟨a,k,rfl,-⟩:=hr.cells
 have hw:=Lib.hid (fun W (hW:Below w.heap.size w W)=>(show WrAt B b L m W from h.below hW))
 have hz:(jnB ws ⟨#[32]⟩).size=(Lib.join (ws.map bL) [32]).length:=rfl
 have hzl:bL (jnB ws ⟨#[32]⟩)=Lib.join (ws.map bL) [32]:=rfl
 obtain⟨J,hJ⟩:∃J,J=jnB ws ⟨#[32]⟩:=⟨_,rfl⟩
 rw [←hzl] at h0 ⊢
 rw [←hz] at hs
 rw [←hJ] at h0 hs hj ⊢
 clear h hr hz hzl hJ
 have hC:True:=trivial
 go_enter Tryz.func54,Tryz.ntmps54
 go_upto_region 0 with fail
 refine wp_region_held_drew (S:=(fun _=>True)) (by kernel_rfl) hC (fun hHeld=>?_)
 clear hHeld
 refine wpAnyH_take (i:=0) (oi:=(.mk (some 4) (.move (.tmp 0)) 56 "show.go:38" #[] none)) (v:=?_) rfl (by kernel_rfl) (by kernel_rfl) (by kernel_rfl) (fun _ _ _ h=>h) (Or.inl ⟨by rfl,?_⟩) hC ?_
 rotate_left
 ·(intro w hSw;(try dsimp only at hSw);go_simp;try with_reducible rfl)
 try simp only [Act.put,List.setIfInBounds_toArray,List.set_cons_zero,List.set_cons_succ]
 refine wpAnyH_take (i:=1) (oi:=(.mk (some 5) (.nilCheck (.tmp 4)) 0 "show.go:38" #[.mk 0 .data] none)) (v:=?_) rfl (by kernel_rfl) (by kernel_rfl) (by kernel_rfl) (fun _ _ _ h=>h) (Or.inl ⟨by rfl,?_⟩) hC ?_
 rotate_left
 ·(intro w hSw;(try dsimp only at hSw);go_simp;try with_reducible rfl)
 try simp only [Act.put,List.setIfInBounds_toArray,List.set_cons_zero,List.set_cons_succ]
 refine wpAnyH_take (i:=2) (oi:=(.mk (some 6) (.fieldAddr 64 (.tmp 5) 0) 0 "show.go:38" #[.mk 1 .data] none)) (v:=?_) rfl (by kernel_rfl) (by kernel_rfl) (by kernel_rfl) (fun _ _ _ h=>h) (Or.inl ⟨by rfl,?_⟩) hC ?_
 rotate_left
 ·(intro w hSw;(try dsimp only at hSw);go_simp;try with_reducible rfl)
 try simp only [Act.put,List.setIfInBounds_toArray,List.set_cons_zero,List.set_cons_succ]
 refine wpAnyH_take (i:=3) (oi:=(.mk (some 7) (.move (.tmp 1)) 37 "show.go:38" #[] none)) (v:=?_) rfl (by kernel_rfl) (by kernel_rfl) (by kernel_rfl) (fun _ _ _ h=>h) (Or.inl ⟨by rfl,?_⟩) hC ?_
 rotate_left
 ·(intro w hSw;(try dsimp only at hSw);go_simp;try with_reducible rfl)
 try simp only [Act.put,List.setIfInBounds_toArray,List.set_cons_zero,List.set_cons_succ]
 refine wpAnyH_ready (rs:=[4]) (by kernel_rfl) (by simp) (AllReadyH.cons (o:=(.mk (some 8) (.call (.mk (.value (.func 55)) #[(.tmp 7)] #[37])) 9 "show.go:38" #[.mk 3 .data] none)) rfl (fun K hK=>?_) AllReadyH.nil)
 go_simp
 (go_at_call 55;refine Calls.mono (hj.out _ (Below.drew (Below.refl w.heap.size w))) ?_;rintro e w1 ⟨rfl,hb⟩)
 have hb1:=Lib.hid (show Below w.heap.size w w1 from (Below.drew (Below.refl w.heap.size w)).trans hb)
 clear hb
 refine hK.out _ _ hC (fun hHeld=>?_)
 clear hK K hHeld
 try simp only [Act.put,List.setIfInBounds_toArray,List.set_cons_zero,List.set_cons_succ]
 refine wpAnyH_ready (rs:=[5]) (by kernel_rfl) (by simp) (AllReadyH.cons (o:=(.mk (some 9) (.call (.mk (.value (.func 99)) #[(.tmp 6),(.tmp 8)] #[62,9])) 124 "show.go:38" #[.mk 2 .data,.mk 4 .data,.mk 4 .chain] none)) rfl (fun K hK=>?_) AllReadyH.nil)
 go_simp
 (go_at_call 99;refine Calls.mono (wstr_any (hw.out _ hb1.out) J h0 (by omega) (by have:=hb1.out.size;omega)) ?_;rintro e w2 ⟨⟨v2,rfl⟩,hU,hb2,hn2⟩)
 have hB2:=Lib.hid (show Below B w w2 from (hb1.out.mono hBw).trans hb2)
 have hN2:=Lib.hid ((Nu.of_below hb1.out).trans hn2)
 replace hU:=Lib.hid hU
 clear hb2 hn2
 refine hK.out _ _ hC (fun hHeld=>?_)
 clear hK K hHeld
 try simp only [Act.put,List.setIfInBounds_toArray,List.set_cons_zero,List.set_cons_succ]
 refine wpAnyH_done (by kernel_rfl) ?_ _
 have hBy:=Lib.hid (wbyte_any hU.out.at_ 10 (by have e1:(L++bL J).length=L.length+J.size:=(by rw [List.length_append];rfl);omega) (by have:=hB2.out.size;omega))
 go_wp2_with fail
 refine hBy.out.mono ?_
 rintro e w3 ⟨⟨v3,rfl⟩,hU3,hb3,hn3⟩
 dsimp only
 go_wp2_with fail
 go_end0
 exact⟨rfl,hU3,hB2.out.trans hb3,hN2.out.trans hn3⟩
end
section
open Go.RowKit Go.Maps Go.Shelf
attribute [local go_sem] Oper.semAt_some
set_option maxRecDepth 20000 in
set_option maxHeartbeats 1000000 in
theorem long6_any {B b:Nat}{L:List UInt8}{m:Value}{w:World}(h:WrAt B b L m w):Calls Tryz.prog 19 #[.pointer (some ⟨b,0,none⟩)] w fun e w'=>e=.returned (.bool (decide ((1048576:Int)<(L.length:Int))))∧w'=w:=by
 have hl:=Lib.hid (wlen_any h)
 clear h
 go_enter Tryz.func19,Tryz.ntmps19
 go_wp2_with fail
 refine hl.out.mono ?_
 rintro e w1 ⟨rfl,rfl⟩
 dsimp only
 go_wp2_with fail
 go_ret
 exact⟨rfl,rfl⟩
def pairB (d:Ins):List ByteArray:=List.zipWith (fun l a=>l++⟨#[58,32]⟩++a) d.labels d.args
theorem pairB_T (d:Ins):(pairB d).map bL=pairT d:=by
 unfold pairB pairT
 generalize d.labels=l
 generalize d.args=a
 induction l generalizing a with
 | nil=>rfl
 | cons x l ih=>
  cases a with
  | nil=>rfl
  | cons y a=>
   simp only [List.zipWith_cons_cons,List.map_cons,ih]
   congr 1
theorem pairB_at {d:Ins}{k:Nat}{l a:ByteArray}(hl:d.labels[k]?=some l)(ha:d.args[k]?=some a):(pairB d)[k]?=some (l++⟨#[58,32]⟩++a):=by
 unfold pairB
 rw [List.getElem?_zipWith,hl,ha]
theorem infoStr6:(Tryz.prog.info? 9).map (fun i=>(i.zero,i.size,i.bytes))=some (some (.string ⟨#[]⟩),1,16):=by kernel_rfl
structure PL (w:World) (d:Ins) (va vl:Value) (wr:World) (k:Nat) (v:Value):Prop where
 box:wr.heap[w.heap.size]?=some (.cells (insV d va vl).toArray 46 (0,0))
 own:wr.ownsRow (w.heap.size+1) 9 1 v k (((pairB d).take k).map Value.string)
 below:Below w.heap.size w wr
 top:w.heap.size+1≤wr.heap.size
theorem own_form6 {W:World}{base e size:Nat}{v:Value}{n:Nat}{xs:List Value}(h:W.ownsRow base e size v n xs):∃a cap,v=.slice a n cap:=by
 rcases h.2 with ⟨rfl,rfl⟩ | ⟨g,cap,cur,rfl,-⟩
 ·exact⟨none,0,rfl⟩
 ·exact⟨_,_,rfl⟩
theorem own_rdc {W:World}{base:Nat}{e:TypeId}{v:Value}{n:Nat}{ss:List ByteArray}(h:W.ownsRow base e 1 v n (ss.map Value.string))(hn:ss.length=n):RdC W v ss:=by
 subst hn
 rcases h.2 with ⟨rfl,h0⟩ | ⟨g,cap,cur,rfl,-,hg,hnc,-⟩
 ·have:ss=[]:=List.length_eq_zero_iff.1 h0
  subst this
  exact RdC.nil W
 ·refine RdC.of (Array.getElem?_eq_some_iff.1 hg).1 hnc (fun j s hj=>?_)
  have h1:=h.cells (g:=g) rfl j (.string s) (by simp [hj])
  by_cases e:j=0
  ·subst e
   exact h1
  ·rw [Addr.add,if_neg e] at h1
   exact h1
theorem PL.app {w wr:World}{d:Ins}{va vl:Value}{k:Nat}{v v2:Value}{s:ByteArray}{w2:World}{ob:Obj}(h:PL w d va vl wr k v)(hat:(pairB d)[k]?=some s)(hg:(wr.alloc ob).grownBy w2 v.ownBlock)(ho:w2.ownsRow (w.heap.size+1) 9 1 v2 (k+1) ((((pairB d).map Value.string).take k)++[.string s])):PL w d va vl w2 (k+1) v2:=by
 have htop:=h.top
 refine⟨?_,?_,?_,?_⟩
 ·rw [hg.block _ (by simp;omega) (fun e=>by have:=(h.own.lt _ e.symm).1;omega)]
  exact at_oldN h.box
 ·have e:((pairB d).take (k+1)).map Value.string=(((pairB d).map Value.string).take k)++[.string s]:=by
   rw [List.map_take,List.take_add_one,List.getElem?_map,hat]
   rfl
  rw [e]
  exact ho
 ·exact (h.below.alloc (by omega) ob).grown hg (by simp;omega) (fun k' e=>by have:=(h.own.lt k' e).1;omega)
 ·have:=hg.size
  simp at this
  omega
set_option maxRecDepth 20000 in
set_option maxHeartbeats 4000000 in
theorem pairs_any {w:World}{d:Ins}{va vl:Value}(ha:RdC w va d.args)(hl:RdC w vl d.labels)(he:d.args.length=d.labels.length)(hn:d.args.length≤1000000)(hsa:∀s∈d.args,s.size≤1000000)(hsl:∀s∈d.labels,s.size≤1000000):Calls Tryz.prog 48 #[.agg (insV d va vl).toArray] w fun e w'=>∃v,e=.returned v∧RdC w' v (pairB d)∧Below w.heap.size w w':=by
 obtain⟨i0,hi0,hz0,hz1,hz2⟩:=info_parts infoStr6
 obtain⟨aa,ca,rfl,hca,hac⟩:=ha.cells
 obtain⟨al,cl,rfl,hcl,hlc⟩:=hl.cells
 obtain⟨n,hnn⟩:∃n,n=d.args.length:=⟨_,rfl⟩
 have hnl:d.labels.length=n:=by omega
 have hpl:(pairB d).length=n:=by unfold pairB;rw [List.length_zipWith];omega
 obtain⟨W2,hW2⟩:∃W2,w.alloc (.cells (insV d (.slice aa d.args.length ca) (.slice al d.labels.length cl)).toArray 46)=W2:=⟨_,rfl⟩
 have h0:PL w d (.slice aa d.args.length ca) (.slice al d.labels.length cl) W2 0 (.slice none 0 0):=⟨by rw [←hW2];exact at_newN rfl,World.ownsRow_nil _ _ _ _,by rw [←hW2];exact (Below.refl _ _).alloc (Nat.le_refl _) _,by rw [←hW2];simp⟩
 have hcells:=Lib.hid (fun (wr:World) (hb:Below w.heap.size w wr) (k:Nat) (hk:k<n)=>(by
  obtain⟨x,hx⟩:∃x,d.args[k]?=some x:=⟨_,List.getElem?_eq_getElem (by omega)⟩
  obtain⟨y,hy⟩:∃y,d.labels[k]?=some y:=⟨_,List.getElem?_eq_getElem (by omega)⟩
  rcases hac with h1 | ⟨b1,o1,rfl,hb1,hc1⟩
  ·rw [h1] at hx;simp at hx
  rcases hlc with h2 | ⟨b2,o2,rfl,hb2,hc2⟩
  ·rw [h2] at hy;simp at hy
  exact⟨x,y,b1,o1,b2,o2,hx,hy,rfl,rfl,(hb.cell (p:=⟨b1,o1+k,none⟩) hb1).trans (hc1 k x hx),(hb.cell (p:=⟨b2,o2+k,none⟩) hb2).trans (hc2 k y hy),Nat.lt_of_lt_of_le hb1 hb.size,Nat.lt_of_lt_of_le hb2 hb.size,hsa x (List.mem_of_getElem? hx),hsl y (List.mem_of_getElem? hy)⟩:∃x y b1 o1 b2 o2,d.args[k]?=some x∧d.labels[k]?=some y∧aa=some ⟨b1,o1,none⟩∧al=some ⟨b2,o2,none⟩∧wr.cell? ⟨b1,o1+k,none⟩=some (.string x)∧wr.cell? ⟨b2,o2+k,none⟩=some (.string y)∧b1<wr.heap.size∧b2<wr.heap.size∧x.size≤1000000∧y.size≤1000000))
 rw [hnl,←hnn] at h0 hW2 ⊢
 rw [←hnn] at hn
 replace hW2:=Lib.hid hW2
 replace hpl:=Lib.hid hpl
 replace hnl:=Lib.hid hnl
 replace hnn:=Lib.hid hnn
 clear ha hl hac hlc hsa hsl he hca hcl
 go_enter Tryz.func48,Tryz.ntmps48
 go_upto_region 1 with fail
 rw [hW2.out]
 have c6:W2.cell? ⟨w.heap.size,6,none⟩=some (.slice aa n ca):=by rw [blk_cell h0.box];rfl
 have t0:=h0.top
 clear hW2
 go_upto_block 0 with fail
 go_wp2_with fail
 go_loopw [3,9] (fun v i wr=>∃k:Nat,i=.int .i64 k∧k≤n∧Hid (PL w d (.slice aa n ca) (.slice al n cl) wr k v)) (fun v i _=>n-(intOf i).toNat)
 case atStart=>exact⟨0,rfl,Nat.zero_le _,Lib.hid h0⟩
 case round=>
  clear h0 c6 t0
  obtain⟨k,rfl,hk,hI⟩:=hrel
  by_cases hkn:k<n
  ·have i1:(k:Int)<(n:Int):=by omega
   obtain⟨x,y,b1,o1,b2,o2,hx,hy,rfl,rfl,hcx,hcy,hb1,hb2,hxs,hys⟩:=hcells.out wr hI.out.below k hkn
   obtain⟨av,cv,e⟩:=own_form6 hI.out.own
   subst e
   have c7:wr.cell? ⟨w.heap.size,7,none⟩=some (.slice (some ⟨b2,o2,none⟩) n cl):=by rw [blk_cell hI.out.box];rfl
   have htop:=hI.out.top
   have q1:¬9223372036854775807<y.size+2:=by omega
   have q2:¬9223372036854775807<y.size+2+x.size:=by omega
   have hown:=Lib.hid hI.out.own
   have hat:=pairB_at hy hx
   replace hI:=Lib.hid hI
   replace hat:=Lib.hid hat
   clear hx hy
   go_wp2_with (at_builtin;go_loud (refine wpList_append_own_at _ rfl _ _ 37 rfl (w.heap.size+1) 9 i0 _ 1 16 Tryz.underlying37 hi0 hz0 hz1 hz2 rfl (by decide) _ _ _ rfl (hown.out.alloc _) ⟨wr.heap.size,0,none⟩ 1 1 [.string (y++⟨#[58,32]⟩++x)] rfl rfl (World.news_of_block (cs:=#[.string (y++⟨#[58,32]⟩++x)]) (t:=9) (fr:=(0,0)) (heap_alloc_new wr _)) (by simp [Value.oneCell']) (by unfold maxLen;omega) (by omega) (by simp;omega) ?_))
   intro v' w2 hown2 hgrow hnil hat2
   have hI2:=Lib.hid (hI.out.out.app hat.out hgrow hown2)
   clear hgrow hown2 hnil hat2 hown hI hcx hcy c7
   go_wp2_with fail
   go_roundw
   case rel=>exact⟨k+1,by go_num,by omega,hI2⟩
   case measure=>simp [intOf];omega
  ·have i1:decide ((k:Int)<(n:Int))=false:=by simp;omega
   obtain rfl:k=n:=by omega
   have hR:=own_rdc hI.out.own (by rw [List.length_take,hpl.out,Nat.min_self])
   rw [List.take_of_length_le (by rw [hpl.out];exact Nat.le_refl _)] at hR
   have hb:=hI.out.below
   replace hI:=Lib.hid hI
   go_wp2_with fail
   go_ret
   exact⟨_,rfl,hR,hb⟩
end
section
open Go.RowKit Go.Maps
def hasL (k:Int)(s:ByteArray):List ByteArray:=if k=0 then [] else givenL s
theorem has_any {w:World}(k:Int)(s:ByteArray)(hs:s.size≤maxLen):Calls Tryz.prog 167 #[.int .u8 k,.string s] w fun e w'=>∃v',e=.returned v'∧RdS w' v' (hasL k s)∧Below w.heap.size w w':=by
 unfold hasL
 by_cases h:k=0
 ·subst h
  go_enter Tryz.func167,Tryz.ntmps167
  go_wp2_with fail
  go_ret
  exact⟨_,rfl,rds_none _,Below.refl _ _⟩
 ·rw [if_neg h]
  have j1:(k==0)=false:=by simpa using h
  have hR:RdS (w.alloc (.cells #[.string s] 9)) (.slice (some ⟨w.heap.size,0,none⟩) 1 1) [s]:=rds_one (at_newN rfl)
  have hg:=Lib.hid (given_one hR hs)
  clear hR h
  go_enter Tryz.func167,Tryz.ntmps167
  go_wp2_with fail
  refine hg.out.mono ?_
  rintro e w2 ⟨v',rfl,hR2,hb⟩
  have hB:=((Below.refl w.heap.size w).alloc (Nat.le_refl _) (.cells #[.string s] 9)).trans (hb.mono (by simp))
  obtain⟨a,c,rfl⟩:=hR2.shape
  clear hb
  replace hR2:=Lib.hid hR2
  go_wp2_with fail
  go_ret
  exact⟨_,rfl,hR2.out,hB⟩
theorem hasL_len (k:Int)(s:ByteArray):(hasL k s).length≤maxLen:=by
 unfold hasL givenL maxLen
 split
 ·simp
 ·split<;>simp
theorem hasL_fit {k:Int}{s:ByteArray}(h:s.size≤maxLen):∀x∈hasL k s,x.size≤maxLen:=by
 unfold hasL givenL
 intro x hx
 split at hx
 ·cases hx
 ·split at hx
  ·cases hx
  ·rw [List.mem_singleton.1 hx];exact h
def badNamesS (d:Ins)(s:Shp):Bool:=(!(hasL s.dst d.dst).all isName || !(hasL s.fn d.fn).all isName) || ((!(hasL s.a d.a).all isOperand || !(hasL s.b d.b).all isOperand) || ((s.labels != 0&&!d.labels.all isName) || (s.args != 0&&!d.args.all isOperand)))
def badNamesB (d:Ins):Bool:=match shapeN d.op with
 | none=>false
 | some s=>badNamesS d s
theorem badNamesB_some {d:Ins}{s:Shp}(h:shapeN d.op=some s):badNamesB d=badNamesS d s:=by unfold badNamesB;rw [h]
theorem badNamesB_none {d:Ins}(h:shapeN d.op=none):badNamesB d=false:=by unfold badNamesB;rw [h]
theorem allN_eq {u:Bool}{w:World}{v:Value}{ss:List ByteArray}(h:RdS w v ss)(hl:ss.length≤maxLen)(hf:∀s∈ss,s.size≤maxLen)(hu:ss.all isName=u):Calls Tryz.prog 127 #[v] w fun e w'=>e=.returned (.bool u)∧w=w':=by
 have:=allNames_any h hl hf
 rwa [hu] at this
theorem allO_eq {u:Bool}{w:World}{v:Value}{ss:List ByteArray}(h:RdS w v ss)(hl:ss.length≤maxLen)(hf:∀s∈ss,s.size≤maxLen)(hu:ss.all isOperand=u):Calls Tryz.prog 168 #[v] w fun e w'=>e=.returned (.bool u)∧w=w':=by
 have:=allOperands_any h hl hf
 rwa [hu] at this
theorem kept4 {w w':World}{p1 p2 p3 p4:Addr}{v1 v2 v3 v4:Value}(hb:Below w.heap.size w w')(h:w.cell? p1=some v1∧w.cell? p2=some v2∧w.cell? p3=some v3∧w.cell? p4=some v4):w'.cell? p1=some v1∧w'.cell? p2=some v2∧w'.cell? p3=some v3∧w'.cell? p4=some v4:=by
 have k:∀{p:Addr} {v:Value},w.cell? p=some v→w'.cell? p=some v:=fun {p} {v} hc=>(hb.cell (p:=p) (cell_size hc)).trans hc
 exact⟨k h.1,k h.2.1,k h.2.2.1,k h.2.2.2⟩
set_option maxRecDepth 20000 in
set_option maxHeartbeats 8000000 in
theorem badNames_any {w:World}{b o:Nat}{d:Ins}(h:InsAt w b o d)(hf:d.Fits):Calls Tryz.prog 129 #[.pointer (some ⟨b,o,none⟩)] w fun e w'=>e=.returned (.bool (badNamesB d))∧Below w.heap.size w w':=by
 obtain⟨hbl,va,vl,r1,r2,hcs⟩:=h
 obtain⟨aa,ca,rfl⟩:=r1.shape
 obtain⟨al,cl,rfl⟩:=r2.shape
 obtain⟨h0,-,f1,f2,f3,-,f5,f6,f7,f8,f9⟩:=hf
 have c0:w.cell? ⟨b,o,none⟩=some (.int .u8 d.op):=hcs 0 _ rfl
 cases hs:shapeN d.op with
 | none=>
  rw [badNamesB_none hs]
  have k1:=Lib.hid (fun w=>shapeOf_none d.op h0 hs w)
  clear hs r1 r2 hcs f1 f2 f3 f5 f6 f7 f8 f9 h0
  go_enter Tryz.func129,Tryz.ntmps129
  go_wp2_with fail
  refine (k1.out _).mono ?_
  rintro e w2 ⟨rfl,hb⟩
  go_wp2_with fail
  go_ret
  exact⟨rfl,hb.alloc hb.size _⟩
 | some s=>
  rw [badNamesB_some hs]
  unfold badNamesS
  have k1:=Lib.hid (fun w=>shapeOf_some d.op s hs w)
  have hF:=Lib.hid (fun (w2:World) (hb:Below w.heap.size w w2)=>insShp (s:=s) hb hbl hcs)
  have kd:=Lib.hid (fun w=>has_any (w:=w) s.dst d.dst f1)
  have kf:=Lib.hid (fun w=>has_any (w:=w) s.fn d.fn f5)
  have ka:=Lib.hid (fun w=>has_any (w:=w) s.a d.a f2)
  have kb:=Lib.hid (fun w=>has_any (w:=w) s.b d.b f3)
  obtain⟨u1,hu1⟩:∃u,(hasL s.dst d.dst).all isName=u:=⟨_,rfl⟩
  obtain⟨u2,hu2⟩:∃u,(hasL s.fn d.fn).all isName=u:=⟨_,rfl⟩
  obtain⟨u3,hu3⟩:∃u,(hasL s.a d.a).all isOperand=u:=⟨_,rfl⟩
  obtain⟨u4,hu4⟩:∃u,(hasL s.b d.b).all isOperand=u:=⟨_,rfl⟩
  obtain⟨u5,hu5⟩:∃u,d.labels.all isName=u:=⟨_,rfl⟩
  obtain⟨u6,hu6⟩:∃u,d.args.all isOperand=u:=⟨_,rfl⟩
  have g1:=Lib.hid (fun (w:World) (v:Value) (h:RdS w v (hasL s.dst d.dst))=>allN_eq h (hasL_len _ _) (hasL_fit f1) hu1)
  have g2:=Lib.hid (fun (w:World) (v:Value) (h:RdS w v (hasL s.fn d.fn))=>allN_eq h (hasL_len _ _) (hasL_fit f5) hu2)
  have g3:=Lib.hid (fun (w:World) (v:Value) (h:RdS w v (hasL s.a d.a))=>allO_eq h (hasL_len _ _) (hasL_fit f2) hu3)
  have g4:=Lib.hid (fun (w:World) (v:Value) (h:RdS w v (hasL s.b d.b))=>allO_eq h (hasL_len _ _) (hasL_fit f3) hu4)
  have g5:=Lib.hid (fun (w':World) (hb:Below w.heap.size w w')=>allN_eq (Rd.below r2 hb) f9 f7 hu5)
  have g6:=Lib.hid (fun (w':World) (hb:Below w.heap.size w w')=>allO_eq (Rd.below r1 hb) f8 f6 hu6)
  obtain⟨q5,hq5⟩:∃q,(s.labels != 0)=q:=⟨_,rfl⟩
  obtain⟨q6,hq6⟩:∃q,(s.args != 0)=q:=⟨_,rfl⟩
  rw [hu1,hu2,hu3,hu4,hu5,hu6,hq5,hq6]
  have e5:=Lib.hid (fun _:Unit=>hq5)
  have e6:=Lib.hid (fun _:Unit=>hq6)
  clear hs h0 hcs hu1 hu2 hu3 hu4 hu5 hu6 hq5 hq6 r1 r2 f1 f2 f3 f5 f6 f7 f8 f9
  unfold shpA at k1 hF
  go_enter Tryz.func129,Tryz.ntmps129
  go_wp2_with fail
  refine (k1.out _).mono ?_
  rintro e w2 ⟨rfl,hb⟩
  have hF2:=Lib.hid (hF.out _ hb)
  have hB2:=Lib.hid (hb.alloc hb.size (.cells #[.int .u8 s.dst,.int .u8 s.a,.int .u8 s.b,.int .u8 s.fn,.int .i64 s.low,.int .i64 s.high,.int .i64 s.args,.int .i64 s.labels] 171))
  clear hF hb k1 c0
  go_upto_region 5 with fail
  generalize hS:w2.heap.size=S at hF2 ⊢
  generalize (w2.alloc (.cells #[.int .u8 s.dst,.int .u8 s.a,.int .u8 s.b,.int .u8 s.fn,.int .i64 s.low,.int .i64 s.high,.int .i64 s.args,.int .i64 s.labels] 171))=W at hF2 hB2 ⊢
  clear hS
  go_cut [37] from 16 to 37 (fun x wx=>x=.bool (!u1 || !u2)∧Hid (Below W.heap.size W wx))
  case first=>
   have hC:W.drew.cell? ⟨S,0,none⟩=some (.int .u8 s.dst)∧W.drew.cell? ⟨S,3,none⟩=some (.int .u8 s.fn)∧W.drew.cell? ⟨b,o+1,none⟩=some (.string d.dst)∧W.drew.cell? ⟨b,o+5,none⟩=some (.string d.fn):=⟨hF2.out.s0,hF2.out.s3,hF2.out.c1,hF2.out.c5⟩
   have hB:=Lib.hid (Below.refl W.heap.size W).drew
   clear hF2 hB2 ka kb g3 g4 g5 g6 e5 e6
   cases u1 with
   | false=>
    refine wp_region_held_drew (S:=(fun w'=>w'.cell? ⟨S,0,none⟩=some (.int .u8 s.dst)∧w'.cell? ⟨S,3,none⟩=some (.int .u8 s.fn)∧w'.cell? ⟨b,o+1,none⟩=some (.string d.dst)∧w'.cell? ⟨b,o+5,none⟩=some (.string d.fn))) (by kernel_rfl) hC (fun hHeld=>?_)
    clear hHeld
    refine wpAnyH_take (i:=0) (oi:=(.mk (some 16) (.move (.tmp 5)) 174 "fields.go:86" #[] none)) (v:=?_) rfl (by kernel_rfl) (by kernel_rfl) (by kernel_rfl) (fun _ _ _ h=>h) (Or.inl ⟨by rfl,?_⟩) hC ?_
    rotate_left
    ·(intro w hSw;(try dsimp only at hSw);go_simp;try with_reducible rfl)
    try simp only [Act.put,List.setIfInBounds_toArray,List.set_cons_zero,List.set_cons_succ]
    refine wpAnyH_take (i:=1) (oi:=(.mk (some 17) (.fieldAddr 171 (.tmp 3) 0) 0 "fields.go:86" #[] none)) (v:=?_) rfl (by kernel_rfl) (by kernel_rfl) (by kernel_rfl) (fun _ _ _ h=>h) (Or.inl ⟨by rfl,?_⟩) hC ?_
    rotate_left
    ·(intro w hSw;(try dsimp only at hSw);go_simp;try with_reducible rfl)
    try simp only [Act.put,List.setIfInBounds_toArray,List.set_cons_zero,List.set_cons_succ]
    refine wpAnyH_take (i:=2) (oi:=(.mk (some 18) (.load 169 (.tmp 17)) 169 "fields.go:86" #[.mk 1 .data] none)) (v:=?_) rfl (by kernel_rfl) (by kernel_rfl) (by kernel_rfl) (fun _ _ _ h=>h) (Or.inl ⟨by rfl,?_⟩) hC ?_
    rotate_left
    ·(intro w hSw;(try dsimp only at hSw);go_simp;try with_reducible rfl)
    try simp only [Act.put,List.setIfInBounds_toArray,List.set_cons_zero,List.set_cons_succ]
    refine wpAnyH_take (i:=3) (oi:=(.mk (some 19) (.move (.tmp 0)) 135 "fields.go:86" #[] none)) (v:=?_) rfl (by kernel_rfl) (by kernel_rfl) (by kernel_rfl) (fun _ _ _ h=>h) (Or.inl ⟨by rfl,?_⟩) hC ?_
    rotate_left
    ·(intro w hSw;(try dsimp only at hSw);go_simp;try with_reducible rfl)
    try simp only [Act.put,List.setIfInBounds_toArray,List.set_cons_zero,List.set_cons_succ]
    refine wpAnyH_take (i:=4) (oi:=(.mk (some 20) (.nilCheck (.tmp 19)) 0 "fields.go:86" #[.mk 3 .data] none)) (v:=?_) rfl (by kernel_rfl) (by kernel_rfl) (by kernel_rfl) (fun _ _ _ h=>h) (Or.inl ⟨by rfl,?_⟩) hC ?_
    rotate_left
    ·(intro w hSw;(try dsimp only at hSw);go_simp;try with_reducible rfl)
    try simp only [Act.put,List.setIfInBounds_toArray,List.set_cons_zero,List.set_cons_succ]
    refine wpAnyH_take (i:=5) (oi:=(.mk (some 21) (.fieldAddr 46 (.tmp 20) 1) 0 "fields.go:86" #[.mk 4 .data] none)) (v:=?_) rfl (by kernel_rfl) (by kernel_rfl) (by kernel_rfl) (fun _ _ _ h=>h) (Or.inl ⟨by rfl,?_⟩) hC ?_
    rotate_left
    ·(intro w hSw;(try dsimp only at hSw);go_simp;try with_reducible rfl)
    try simp only [Act.put,List.setIfInBounds_toArray,List.set_cons_zero,List.set_cons_succ]
    refine wpAnyH_take (i:=6) (oi:=(.mk (some 22) (.load 9 (.tmp 21)) 9 "fields.go:86" #[.mk 5 .data] none)) (v:=?_) rfl (by kernel_rfl) (by kernel_rfl) (by kernel_rfl) (fun _ _ _ h=>h) (Or.inl ⟨by rfl,?_⟩) hC ?_
    rotate_left
    ·(intro w hSw;(try dsimp only at hSw);go_simp;try with_reducible rfl)
    try simp only [Act.put,List.setIfInBounds_toArray,List.set_cons_zero,List.set_cons_succ]
    refine wpAnyH_ready (rs:=[7]) (by kernel_rfl) (by simp) (AllReadyH.cons (o:=(.mk (some 23) (.call (.mk (.value (.tmp 16)) #[(.tmp 18),(.tmp 22)] #[169,9])) 37 "fields.go:86" #[.mk 0 .data,.mk 2 .data,.mk 6 .data] none)) rfl (fun K hK=>?_) AllReadyH.nil)
    go_simp
    (go_at_call 167;refine Calls.mono (kd.out _) ?_;rintro e w4 ⟨v4,rfl,hR4,hb4⟩;replace hC:=kept4 hb4 hC;replace hB:=Lib.hid (hB.out.trans (hb4.mono hB.out.size)))
    refine hK.out _ _ hC (fun hHeld=>?_)
    clear hK K hHeld
    try simp only [Act.put,List.setIfInBounds_toArray,List.set_cons_zero,List.set_cons_succ]
    refine wpAnyH_ready (rs:=[8]) (by kernel_rfl) (by simp) (AllReadyH.cons (o:=(.mk (some 24) (.call (.mk (.value (.func 127)) #[(.tmp 23)] #[37])) 4 "fields.go:86" #[.mk 7 .data,.mk 7 .chain] none)) rfl (fun K hK=>?_) AllReadyH.nil)
    go_simp
    (go_at_call 127;refine Calls.mono (g1.out _ _ hR4) ?_;rintro e w5 ⟨rfl,rfl⟩)
    refine hK.out _ _ hC (fun hHeld=>?_)
    clear hK K hHeld
    try simp only [Act.put,List.setIfInBounds_toArray,List.set_cons_zero,List.set_cons_succ]
    refine wpAnyH_take (i:=9) (oi:=(.mk (some 25) (.unOp UnOp.not 4 (.tmp 24)) 4 "fields.go:86" #[.mk 8 .data] none)) (v:=?_) rfl (by kernel_rfl) (by kernel_rfl) (by kernel_rfl) (fun _ _ _ h=>h) (Or.inl ⟨by rfl,?_⟩) hC ?_
    rotate_left
    ·(intro w hSw;(try dsimp only at hSw);go_simp;try with_reducible rfl)
    try simp only [Act.put,List.setIfInBounds_toArray,List.set_cons_zero,List.set_cons_succ]
    refine wpAnyH_take (i:=10) (oi:=(.mk (some 26) (.move (.tmp 25)) 4 "fields.go:86" #[.mk 9 .data,.mk 8 .chain] none)) (v:=?_) rfl (by kernel_rfl) (by kernel_rfl) (by kernel_rfl) (fun _ _ _ h=>h) (Or.inl ⟨by rfl,?_⟩) hC ?_
    rotate_left
    ·(intro w hSw;(try dsimp only at hSw);go_simp;try with_reducible rfl)
    try simp only [Act.put,List.setIfInBounds_toArray,List.set_cons_zero,List.set_cons_succ]
    refine wpAnyH_take (i:=11) (oi:=(.mk (some 27) (.move (.tmp 5)) 174 "fields.go:86" #[.mk 10 .guard] (some (10,false)))) (v:=undef) rfl (by kernel_rfl) (by kernel_rfl) (by kernel_rfl) (fun _ _ _ h=>h) (Or.inr ⟨by rfl,rfl⟩) hC ?_
    try simp only [Act.put,List.setIfInBounds_toArray,List.set_cons_zero,List.set_cons_succ]
    refine wpAnyH_take (i:=12) (oi:=(.mk (some 28) (.fieldAddr 171 (.tmp 3) 3) 0 "fields.go:86" #[.mk 10 .guard] (some (10,false)))) (v:=undef) rfl (by kernel_rfl) (by kernel_rfl) (by kernel_rfl) (fun _ _ _ h=>h) (Or.inr ⟨by rfl,rfl⟩) hC ?_
    try simp only [Act.put,List.setIfInBounds_toArray,List.set_cons_zero,List.set_cons_succ]
    refine wpAnyH_take (i:=13) (oi:=(.mk (some 29) (.load 169 (.tmp 28)) 169 "fields.go:86" #[.mk 12 .data,.mk 10 .guard] (some (10,false)))) (v:=undef) rfl (by kernel_rfl) (by kernel_rfl) (by kernel_rfl) (fun _ _ _ h=>h) (Or.inr ⟨by rfl,rfl⟩) hC ?_
    try simp only [Act.put,List.setIfInBounds_toArray,List.set_cons_zero,List.set_cons_succ]
    refine wpAnyH_take (i:=14) (oi:=(.mk (some 30) (.move (.tmp 0)) 135 "fields.go:86" #[.mk 10 .guard] (some (10,false)))) (v:=undef) rfl (by kernel_rfl) (by kernel_rfl) (by kernel_rfl) (fun _ _ _ h=>h) (Or.inr ⟨by rfl,rfl⟩) hC ?_
    try simp only [Act.put,List.setIfInBounds_toArray,List.set_cons_zero,List.set_cons_succ]
    refine wpAnyH_take (i:=15) (oi:=(.mk (some 31) (.nilCheck (.tmp 30)) 0 "fields.go:86" #[.mk 14 .data,.mk 10 .guard] (some (10,false)))) (v:=undef) rfl (by kernel_rfl) (by kernel_rfl) (by kernel_rfl) (fun _ _ _ h=>h) (Or.inr ⟨by rfl,rfl⟩) hC ?_
    try simp only [Act.put,List.setIfInBounds_toArray,List.set_cons_zero,List.set_cons_succ]
    refine wpAnyH_take (i:=16) (oi:=(.mk (some 32) (.fieldAddr 46 (.tmp 31) 5) 0 "fields.go:86" #[.mk 15 .data,.mk 10 .guard] (some (10,false)))) (v:=undef) rfl (by kernel_rfl) (by kernel_rfl) (by kernel_rfl) (fun _ _ _ h=>h) (Or.inr ⟨by rfl,rfl⟩) hC ?_
    try simp only [Act.put,List.setIfInBounds_toArray,List.set_cons_zero,List.set_cons_succ]
    refine wpAnyH_take (i:=17) (oi:=(.mk (some 33) (.load 9 (.tmp 32)) 9 "fields.go:86" #[.mk 16 .data,.mk 10 .guard] (some (10,false)))) (v:=undef) rfl (by kernel_rfl) (by kernel_rfl) (by kernel_rfl) (fun _ _ _ h=>h) (Or.inr ⟨by rfl,rfl⟩) hC ?_
    try simp only [Act.put,List.setIfInBounds_toArray,List.set_cons_zero,List.set_cons_succ]
    refine wpAnyH_take (i:=18) (oi:=(.mk (some 34) (.call (.mk (.value (.tmp 27)) #[(.tmp 29),(.tmp 33)] #[169,9])) 37 "fields.go:86" #[.mk 11 .data,.mk 13 .data,.mk 17 .data,.mk 10 .chain,.mk 10 .guard] (some (10,false)))) (v:=undef) rfl (by kernel_rfl) (by kernel_rfl) (by kernel_rfl) (fun _ _ _ h=>h) (Or.inr ⟨by rfl,rfl⟩) hC ?_
    try simp only [Act.put,List.setIfInBounds_toArray,List.set_cons_zero,List.set_cons_succ]
    refine wpAnyH_take (i:=19) (oi:=(.mk (some 35) (.call (.mk (.value (.func 127)) #[(.tmp 34)] #[37])) 4 "fields.go:86" #[.mk 18 .data,.mk 18 .chain,.mk 10 .guard] (some (10,false)))) (v:=undef) rfl (by kernel_rfl) (by kernel_rfl) (by kernel_rfl) (fun _ _ _ h=>h) (Or.inr ⟨by rfl,rfl⟩) hC ?_
    try simp only [Act.put,List.setIfInBounds_toArray,List.set_cons_zero,List.set_cons_succ]
    refine wpAnyH_take (i:=20) (oi:=(.mk (some 36) (.unOp UnOp.not 4 (.tmp 35)) 4 "fields.go:86" #[.mk 19 .data,.mk 10 .guard] (some (10,false)))) (v:=undef) rfl (by kernel_rfl) (by kernel_rfl) (by kernel_rfl) (fun _ _ _ h=>h) (Or.inr ⟨by rfl,rfl⟩) hC ?_
    try simp only [Act.put,List.setIfInBounds_toArray,List.set_cons_zero,List.set_cons_succ]
    refine wpAnyH_take (i:=21) (oi:=(.mk (some 37) (.pick (.tmp 26) (.const (Value.bool true)) (.tmp 36)) 4 "fields.go:86" #[.mk 10 .data,.mk 20 .data] none)) (v:=?_) rfl (by kernel_rfl) (by kernel_rfl) (by kernel_rfl) (fun _ _ _ h=>h) (Or.inl ⟨by rfl,?_⟩) hC ?_
    rotate_left
    ·(intro w hSw;(try dsimp only at hSw);go_simp;try with_reducible rfl)
    try simp only [Act.put,List.setIfInBounds_toArray,List.set_cons_zero,List.set_cons_succ]
    refine wpAnyH_done (by kernel_rfl) ?_ _
    go_wp2_with fail
    go_meet
    exact⟨rfl,hB⟩
   | true=>
    cases u2<;>(
     refine wp_region_held_drew (S:=(fun w'=>w'.cell? ⟨S,0,none⟩=some (.int .u8 s.dst)∧w'.cell? ⟨S,3,none⟩=some (.int .u8 s.fn)∧w'.cell? ⟨b,o+1,none⟩=some (.string d.dst)∧w'.cell? ⟨b,o+5,none⟩=some (.string d.fn))) (by kernel_rfl) hC (fun hHeld=>?_)
     clear hHeld
     refine wpAnyH_take (i:=0) (oi:=(.mk (some 16) (.move (.tmp 5)) 174 "fields.go:86" #[] none)) (v:=?_) rfl (by kernel_rfl) (by kernel_rfl) (by kernel_rfl) (fun _ _ _ h=>h) (Or.inl ⟨by rfl,?_⟩) hC ?_
     rotate_left
     ·(intro w hSw;(try dsimp only at hSw);go_simp;try with_reducible rfl)
     try simp only [Act.put,List.setIfInBounds_toArray,List.set_cons_zero,List.set_cons_succ]
     refine wpAnyH_take (i:=1) (oi:=(.mk (some 17) (.fieldAddr 171 (.tmp 3) 0) 0 "fields.go:86" #[] none)) (v:=?_) rfl (by kernel_rfl) (by kernel_rfl) (by kernel_rfl) (fun _ _ _ h=>h) (Or.inl ⟨by rfl,?_⟩) hC ?_
     rotate_left
     ·(intro w hSw;(try dsimp only at hSw);go_simp;try with_reducible rfl)
     try simp only [Act.put,List.setIfInBounds_toArray,List.set_cons_zero,List.set_cons_succ]
     refine wpAnyH_take (i:=2) (oi:=(.mk (some 18) (.load 169 (.tmp 17)) 169 "fields.go:86" #[.mk 1 .data] none)) (v:=?_) rfl (by kernel_rfl) (by kernel_rfl) (by kernel_rfl) (fun _ _ _ h=>h) (Or.inl ⟨by rfl,?_⟩) hC ?_
     rotate_left
     ·(intro w hSw;(try dsimp only at hSw);go_simp;try with_reducible rfl)
     try simp only [Act.put,List.setIfInBounds_toArray,List.set_cons_zero,List.set_cons_succ]
     refine wpAnyH_take (i:=3) (oi:=(.mk (some 19) (.move (.tmp 0)) 135 "fields.go:86" #[] none)) (v:=?_) rfl (by kernel_rfl) (by kernel_rfl) (by kernel_rfl) (fun _ _ _ h=>h) (Or.inl ⟨by rfl,?_⟩) hC ?_
     rotate_left
     ·(intro w hSw;(try dsimp only at hSw);go_simp;try with_reducible rfl)
     try simp only [Act.put,List.setIfInBounds_toArray,List.set_cons_zero,List.set_cons_succ]
     refine wpAnyH_take (i:=4) (oi:=(.mk (some 20) (.nilCheck (.tmp 19)) 0 "fields.go:86" #[.mk 3 .data] none)) (v:=?_) rfl (by kernel_rfl) (by kernel_rfl) (by kernel_rfl) (fun _ _ _ h=>h) (Or.inl ⟨by rfl,?_⟩) hC ?_
     rotate_left
     ·(intro w hSw;(try dsimp only at hSw);go_simp;try with_reducible rfl)
     try simp only [Act.put,List.setIfInBounds_toArray,List.set_cons_zero,List.set_cons_succ]
     refine wpAnyH_take (i:=5) (oi:=(.mk (some 21) (.fieldAddr 46 (.tmp 20) 1) 0 "fields.go:86" #[.mk 4 .data] none)) (v:=?_) rfl (by kernel_rfl) (by kernel_rfl) (by kernel_rfl) (fun _ _ _ h=>h) (Or.inl ⟨by rfl,?_⟩) hC ?_
     rotate_left
     ·(intro w hSw;(try dsimp only at hSw);go_simp;try with_reducible rfl)
     try simp only [Act.put,List.setIfInBounds_toArray,List.set_cons_zero,List.set_cons_succ]
     refine wpAnyH_take (i:=6) (oi:=(.mk (some 22) (.load 9 (.tmp 21)) 9 "fields.go:86" #[.mk 5 .data] none)) (v:=?_) rfl (by kernel_rfl) (by kernel_rfl) (by kernel_rfl) (fun _ _ _ h=>h) (Or.inl ⟨by rfl,?_⟩) hC ?_
     rotate_left
     ·(intro w hSw;(try dsimp only at hSw);go_simp;try with_reducible rfl)
     try simp only [Act.put,List.setIfInBounds_toArray,List.set_cons_zero,List.set_cons_succ]
     refine wpAnyH_ready (rs:=[7]) (by kernel_rfl) (by simp) (AllReadyH.cons (o:=(.mk (some 23) (.call (.mk (.value (.tmp 16)) #[(.tmp 18),(.tmp 22)] #[169,9])) 37 "fields.go:86" #[.mk 0 .data,.mk 2 .data,.mk 6 .data] none)) rfl (fun K hK=>?_) AllReadyH.nil)
     go_simp
     (go_at_call 167;refine Calls.mono (kd.out _) ?_;rintro e w4 ⟨v4,rfl,hR4,hb4⟩;replace hC:=kept4 hb4 hC;replace hB:=Lib.hid (hB.out.trans (hb4.mono hB.out.size)))
     refine hK.out _ _ hC (fun hHeld=>?_)
     clear hK K hHeld
     try simp only [Act.put,List.setIfInBounds_toArray,List.set_cons_zero,List.set_cons_succ]
     refine wpAnyH_ready (rs:=[8]) (by kernel_rfl) (by simp) (AllReadyH.cons (o:=(.mk (some 24) (.call (.mk (.value (.func 127)) #[(.tmp 23)] #[37])) 4 "fields.go:86" #[.mk 7 .data,.mk 7 .chain] none)) rfl (fun K hK=>?_) AllReadyH.nil)
     go_simp
     (go_at_call 127;refine Calls.mono (g1.out _ _ hR4) ?_;rintro e w5 ⟨rfl,rfl⟩)
     refine hK.out _ _ hC (fun hHeld=>?_)
     clear hK K hHeld
     try simp only [Act.put,List.setIfInBounds_toArray,List.set_cons_zero,List.set_cons_succ]
     refine wpAnyH_take (i:=9) (oi:=(.mk (some 25) (.unOp UnOp.not 4 (.tmp 24)) 4 "fields.go:86" #[.mk 8 .data] none)) (v:=?_) rfl (by kernel_rfl) (by kernel_rfl) (by kernel_rfl) (fun _ _ _ h=>h) (Or.inl ⟨by rfl,?_⟩) hC ?_
     rotate_left
     ·(intro w hSw;(try dsimp only at hSw);go_simp;try with_reducible rfl)
     try simp only [Act.put,List.setIfInBounds_toArray,List.set_cons_zero,List.set_cons_succ]
     refine wpAnyH_take (i:=10) (oi:=(.mk (some 26) (.move (.tmp 25)) 4 "fields.go:86" #[.mk 9 .data,.mk 8 .chain] none)) (v:=?_) rfl (by kernel_rfl) (by kernel_rfl) (by kernel_rfl) (fun _ _ _ h=>h) (Or.inl ⟨by rfl,?_⟩) hC ?_
     rotate_left
     ·(intro w hSw;(try dsimp only at hSw);go_simp;try with_reducible rfl)
     try simp only [Act.put,List.setIfInBounds_toArray,List.set_cons_zero,List.set_cons_succ]
     refine wpAnyH_take (i:=11) (oi:=(.mk (some 27) (.move (.tmp 5)) 174 "fields.go:86" #[.mk 10 .guard] (some (10,false)))) (v:=?_) rfl (by kernel_rfl) (by kernel_rfl) (by kernel_rfl) (fun _ _ _ h=>h) (Or.inl ⟨by rfl,?_⟩) hC ?_
     rotate_left
     ·(intro w hSw;(try dsimp only at hSw);go_simp;try with_reducible rfl)
     try simp only [Act.put,List.setIfInBounds_toArray,List.set_cons_zero,List.set_cons_succ]
     refine wpAnyH_take (i:=12) (oi:=(.mk (some 28) (.fieldAddr 171 (.tmp 3) 3) 0 "fields.go:86" #[.mk 10 .guard] (some (10,false)))) (v:=?_) rfl (by kernel_rfl) (by kernel_rfl) (by kernel_rfl) (fun _ _ _ h=>h) (Or.inl ⟨by rfl,?_⟩) hC ?_
     rotate_left
     ·(intro w hSw;(try dsimp only at hSw);go_simp;try with_reducible rfl)
     try simp only [Act.put,List.setIfInBounds_toArray,List.set_cons_zero,List.set_cons_succ]
     refine wpAnyH_take (i:=13) (oi:=(.mk (some 29) (.load 169 (.tmp 28)) 169 "fields.go:86" #[.mk 12 .data,.mk 10 .guard] (some (10,false)))) (v:=?_) rfl (by kernel_rfl) (by kernel_rfl) (by kernel_rfl) (fun _ _ _ h=>h) (Or.inl ⟨by rfl,?_⟩) hC ?_
     rotate_left
     ·(intro w hSw;(try dsimp only at hSw);go_simp;try with_reducible rfl)
     try simp only [Act.put,List.setIfInBounds_toArray,List.set_cons_zero,List.set_cons_succ]
     refine wpAnyH_take (i:=14) (oi:=(.mk (some 30) (.move (.tmp 0)) 135 "fields.go:86" #[.mk 10 .guard] (some (10,false)))) (v:=?_) rfl (by kernel_rfl) (by kernel_rfl) (by kernel_rfl) (fun _ _ _ h=>h) (Or.inl ⟨by rfl,?_⟩) hC ?_
     rotate_left
     ·(intro w hSw;(try dsimp only at hSw);go_simp;try with_reducible rfl)
     try simp only [Act.put,List.setIfInBounds_toArray,List.set_cons_zero,List.set_cons_succ]
     refine wpAnyH_take (i:=15) (oi:=(.mk (some 31) (.nilCheck (.tmp 30)) 0 "fields.go:86" #[.mk 14 .data,.mk 10 .guard] (some (10,false)))) (v:=?_) rfl (by kernel_rfl) (by kernel_rfl) (by kernel_rfl) (fun _ _ _ h=>h) (Or.inl ⟨by rfl,?_⟩) hC ?_
     rotate_left
     ·(intro w hSw;(try dsimp only at hSw);go_simp;try with_reducible rfl)
     try simp only [Act.put,List.setIfInBounds_toArray,List.set_cons_zero,List.set_cons_succ]
     refine wpAnyH_take (i:=16) (oi:=(.mk (some 32) (.fieldAddr 46 (.tmp 31) 5) 0 "fields.go:86" #[.mk 15 .data,.mk 10 .guard] (some (10,false)))) (v:=?_) rfl (by kernel_rfl) (by kernel_rfl) (by kernel_rfl) (fun _ _ _ h=>h) (Or.inl ⟨by rfl,?_⟩) hC ?_
     rotate_left
     ·(intro w hSw;(try dsimp only at hSw);go_simp;try with_reducible rfl)
     try simp only [Act.put,List.setIfInBounds_toArray,List.set_cons_zero,List.set_cons_succ]
     refine wpAnyH_take (i:=17) (oi:=(.mk (some 33) (.load 9 (.tmp 32)) 9 "fields.go:86" #[.mk 16 .data,.mk 10 .guard] (some (10,false)))) (v:=?_) rfl (by kernel_rfl) (by kernel_rfl) (by kernel_rfl) (fun _ _ _ h=>h) (Or.inl ⟨by rfl,?_⟩) hC ?_
     rotate_left
     ·(intro w hSw;(try dsimp only at hSw);go_simp;try with_reducible rfl)
     try simp only [Act.put,List.setIfInBounds_toArray,List.set_cons_zero,List.set_cons_succ]
     refine wpAnyH_ready (rs:=[18]) (by kernel_rfl) (by simp) (AllReadyH.cons (o:=(.mk (some 34) (.call (.mk (.value (.tmp 27)) #[(.tmp 29),(.tmp 33)] #[169,9])) 37 "fields.go:86" #[.mk 11 .data,.mk 13 .data,.mk 17 .data,.mk 10 .chain,.mk 10 .guard] (some (10,false)))) rfl (fun K hK=>?_) AllReadyH.nil)
     go_simp
     (go_at_call 167;refine Calls.mono (kf.out _) ?_;rintro e w4 ⟨v4,rfl,hR4,hb4⟩;replace hC:=kept4 hb4 hC;replace hB:=Lib.hid (hB.out.trans (hb4.mono hB.out.size)))
     refine hK.out _ _ hC (fun hHeld=>?_)
     clear hK K hHeld
     try simp only [Act.put,List.setIfInBounds_toArray,List.set_cons_zero,List.set_cons_succ]
     refine wpAnyH_ready (rs:=[19]) (by kernel_rfl) (by simp) (AllReadyH.cons (o:=(.mk (some 35) (.call (.mk (.value (.func 127)) #[(.tmp 34)] #[37])) 4 "fields.go:86" #[.mk 18 .data,.mk 18 .chain,.mk 10 .guard] (some (10,false)))) rfl (fun K hK=>?_) AllReadyH.nil)
     go_simp
     (go_at_call 127;refine Calls.mono (g2.out _ _ hR4) ?_;rintro e w5 ⟨rfl,rfl⟩)
     refine hK.out _ _ hC (fun hHeld=>?_)
     clear hK K hHeld
     try simp only [Act.put,List.setIfInBounds_toArray,List.set_cons_zero,List.set_cons_succ]
     refine wpAnyH_take (i:=20) (oi:=(.mk (some 36) (.unOp UnOp.not 4 (.tmp 35)) 4 "fields.go:86" #[.mk 19 .data,.mk 10 .guard] (some (10,false)))) (v:=?_) rfl (by kernel_rfl) (by kernel_rfl) (by kernel_rfl) (fun _ _ _ h=>h) (Or.inl ⟨by rfl,?_⟩) hC ?_
     rotate_left
     ·(intro w hSw;(try dsimp only at hSw);go_simp;try with_reducible rfl)
     try simp only [Act.put,List.setIfInBounds_toArray,List.set_cons_zero,List.set_cons_succ]
     refine wpAnyH_take (i:=21) (oi:=(.mk (some 37) (.pick (.tmp 26) (.const (Value.bool true)) (.tmp 36)) 4 "fields.go:86" #[.mk 10 .data,.mk 20 .data] none)) (v:=?_) rfl (by kernel_rfl) (by kernel_rfl) (by kernel_rfl) (fun _ _ _ h=>h) (Or.inl ⟨by rfl,?_⟩) hC ?_
     rotate_left
     ·(intro w hSw;(try dsimp only at hSw);go_simp;try with_reducible rfl)
     try simp only [Act.put,List.setIfInBounds_toArray,List.set_cons_zero,List.set_cons_succ]
     refine wpAnyH_done (by kernel_rfl) ?_ _
     go_wp2_with fail
     go_meet
     exact⟨rfl,hB⟩)
  case rest=>
   obtain⟨rfl,hBc⟩:=hcut
   have hF3:=Lib.hid (hF2.out.below hBc.out)
   have hB3:=Lib.hid (hB2.out.trans (hBc.out.mono hB2.out.size))
   obtain⟨p,hp⟩:∃p,p=(!u1 || !u2):=⟨_,rfl⟩
   rw [←hp]
   replace hp:=Lib.hid hp
   clear hF2 hB2 hBc kd kf g1 g2
   rename World=>W3
   cases p with
   | true=>
    clear hF3
    go_wp2_with fail
    go_ret
    exact⟨by rw [←hp.out];rfl,hB3.out⟩
   | false=>
    go_upto_region 7 with fail
    go_cut [59] from 38 to 59 (fun x wx=>x=.bool (!u3 || !u4)∧Hid (Below W3.heap.size W3 wx))
    case first=>
     have hC:W3.drew.cell? ⟨S,1,none⟩=some (.int .u8 s.a)∧W3.drew.cell? ⟨S,2,none⟩=some (.int .u8 s.b)∧W3.drew.cell? ⟨b,o+2,none⟩=some (.string d.a)∧W3.drew.cell? ⟨b,o+3,none⟩=some (.string d.b):=⟨hF3.out.s1,hF3.out.s2,hF3.out.c2,hF3.out.c3⟩
     have hB:=Lib.hid (Below.refl W3.heap.size W3).drew
     clear hF3 hB3 g5 g6 e5 e6 hp
     cases u3 with
     | false=>
      refine wp_region_held_drew (S:=(fun w'=>w'.cell? ⟨S,1,none⟩=some (.int .u8 s.a)∧w'.cell? ⟨S,2,none⟩=some (.int .u8 s.b)∧w'.cell? ⟨b,o+2,none⟩=some (.string d.a)∧w'.cell? ⟨b,o+3,none⟩=some (.string d.b))) (by kernel_rfl) hC (fun hHeld=>?_)
      clear hHeld
      refine wpAnyH_take (i:=0) (oi:=(.mk (some 38) (.move (.tmp 5)) 174 "fields.go:89" #[] none)) (v:=?_) rfl (by kernel_rfl) (by kernel_rfl) (by kernel_rfl) (fun _ _ _ h=>h) (Or.inl ⟨by rfl,?_⟩) hC ?_
      rotate_left
      ·(intro w hSw;(try dsimp only at hSw);go_simp;try with_reducible rfl)
      try simp only [Act.put,List.setIfInBounds_toArray,List.set_cons_zero,List.set_cons_succ]
      refine wpAnyH_take (i:=1) (oi:=(.mk (some 39) (.fieldAddr 171 (.tmp 3) 1) 0 "fields.go:89" #[] none)) (v:=?_) rfl (by kernel_rfl) (by kernel_rfl) (by kernel_rfl) (fun _ _ _ h=>h) (Or.inl ⟨by rfl,?_⟩) hC ?_
      rotate_left
      ·(intro w hSw;(try dsimp only at hSw);go_simp;try with_reducible rfl)
      try simp only [Act.put,List.setIfInBounds_toArray,List.set_cons_zero,List.set_cons_succ]
      refine wpAnyH_take (i:=2) (oi:=(.mk (some 40) (.load 169 (.tmp 39)) 169 "fields.go:89" #[.mk 1 .data] none)) (v:=?_) rfl (by kernel_rfl) (by kernel_rfl) (by kernel_rfl) (fun _ _ _ h=>h) (Or.inl ⟨by rfl,?_⟩) hC ?_
      rotate_left
      ·(intro w hSw;(try dsimp only at hSw);go_simp;try with_reducible rfl)
      try simp only [Act.put,List.setIfInBounds_toArray,List.set_cons_zero,List.set_cons_succ]
      refine wpAnyH_take (i:=3) (oi:=(.mk (some 41) (.move (.tmp 0)) 135 "fields.go:89" #[] none)) (v:=?_) rfl (by kernel_rfl) (by kernel_rfl) (by kernel_rfl) (fun _ _ _ h=>h) (Or.inl ⟨by rfl,?_⟩) hC ?_
      rotate_left
      ·(intro w hSw;(try dsimp only at hSw);go_simp;try with_reducible rfl)
      try simp only [Act.put,List.setIfInBounds_toArray,List.set_cons_zero,List.set_cons_succ]
      refine wpAnyH_take (i:=4) (oi:=(.mk (some 42) (.nilCheck (.tmp 41)) 0 "fields.go:89" #[.mk 3 .data] none)) (v:=?_) rfl (by kernel_rfl) (by kernel_rfl) (by kernel_rfl) (fun _ _ _ h=>h) (Or.inl ⟨by rfl,?_⟩) hC ?_
      rotate_left
      ·(intro w hSw;(try dsimp only at hSw);go_simp;try with_reducible rfl)
      try simp only [Act.put,List.setIfInBounds_toArray,List.set_cons_zero,List.set_cons_succ]
      refine wpAnyH_take (i:=5) (oi:=(.mk (some 43) (.fieldAddr 46 (.tmp 42) 2) 0 "fields.go:89" #[.mk 4 .data] none)) (v:=?_) rfl (by kernel_rfl) (by kernel_rfl) (by kernel_rfl) (fun _ _ _ h=>h) (Or.inl ⟨by rfl,?_⟩) hC ?_
      rotate_left
      ·(intro w hSw;(try dsimp only at hSw);go_simp;try with_reducible rfl)
      try simp only [Act.put,List.setIfInBounds_toArray,List.set_cons_zero,List.set_cons_succ]
      refine wpAnyH_take (i:=6) (oi:=(.mk (some 44) (.load 9 (.tmp 43)) 9 "fields.go:89" #[.mk 5 .data] none)) (v:=?_) rfl (by kernel_rfl) (by kernel_rfl) (by kernel_rfl) (fun _ _ _ h=>h) (Or.inl ⟨by rfl,?_⟩) hC ?_
      rotate_left
      ·(intro w hSw;(try dsimp only at hSw);go_simp;try with_reducible rfl)
      try simp only [Act.put,List.setIfInBounds_toArray,List.set_cons_zero,List.set_cons_succ]
      refine wpAnyH_ready (rs:=[7]) (by kernel_rfl) (by simp) (AllReadyH.cons (o:=(.mk (some 45) (.call (.mk (.value (.tmp 38)) #[(.tmp 40),(.tmp 44)] #[169,9])) 37 "fields.go:89" #[.mk 0 .data,.mk 2 .data,.mk 6 .data] none)) rfl (fun K hK=>?_) AllReadyH.nil)
      go_simp
      (go_at_call 167;refine Calls.mono (ka.out _) ?_;rintro e w4 ⟨v4,rfl,hR4,hb4⟩;replace hC:=kept4 hb4 hC;replace hB:=Lib.hid (hB.out.trans (hb4.mono hB.out.size)))
      refine hK.out _ _ hC (fun hHeld=>?_)
      clear hK K hHeld
      try simp only [Act.put,List.setIfInBounds_toArray,List.set_cons_zero,List.set_cons_succ]
      refine wpAnyH_ready (rs:=[8]) (by kernel_rfl) (by simp) (AllReadyH.cons (o:=(.mk (some 46) (.call (.mk (.value (.func 168)) #[(.tmp 45)] #[37])) 4 "fields.go:89" #[.mk 7 .data,.mk 7 .chain] none)) rfl (fun K hK=>?_) AllReadyH.nil)
      go_simp
      (go_at_call 168;refine Calls.mono (g3.out _ _ hR4) ?_;rintro e w5 ⟨rfl,rfl⟩)
      refine hK.out _ _ hC (fun hHeld=>?_)
      clear hK K hHeld
      try simp only [Act.put,List.setIfInBounds_toArray,List.set_cons_zero,List.set_cons_succ]
      refine wpAnyH_take (i:=9) (oi:=(.mk (some 47) (.unOp UnOp.not 4 (.tmp 46)) 4 "fields.go:89" #[.mk 8 .data] none)) (v:=?_) rfl (by kernel_rfl) (by kernel_rfl) (by kernel_rfl) (fun _ _ _ h=>h) (Or.inl ⟨by rfl,?_⟩) hC ?_
      rotate_left
      ·(intro w hSw;(try dsimp only at hSw);go_simp;try with_reducible rfl)
      try simp only [Act.put,List.setIfInBounds_toArray,List.set_cons_zero,List.set_cons_succ]
      refine wpAnyH_take (i:=10) (oi:=(.mk (some 48) (.move (.tmp 47)) 4 "fields.go:89" #[.mk 9 .data,.mk 8 .chain] none)) (v:=?_) rfl (by kernel_rfl) (by kernel_rfl) (by kernel_rfl) (fun _ _ _ h=>h) (Or.inl ⟨by rfl,?_⟩) hC ?_
      rotate_left
      ·(intro w hSw;(try dsimp only at hSw);go_simp;try with_reducible rfl)
      try simp only [Act.put,List.setIfInBounds_toArray,List.set_cons_zero,List.set_cons_succ]
      refine wpAnyH_take (i:=11) (oi:=(.mk (some 49) (.move (.tmp 5)) 174 "fields.go:89" #[.mk 10 .guard] (some (10,false)))) (v:=undef) rfl (by kernel_rfl) (by kernel_rfl) (by kernel_rfl) (fun _ _ _ h=>h) (Or.inr ⟨by rfl,rfl⟩) hC ?_
      try simp only [Act.put,List.setIfInBounds_toArray,List.set_cons_zero,List.set_cons_succ]
      refine wpAnyH_take (i:=12) (oi:=(.mk (some 50) (.fieldAddr 171 (.tmp 3) 2) 0 "fields.go:89" #[.mk 10 .guard] (some (10,false)))) (v:=undef) rfl (by kernel_rfl) (by kernel_rfl) (by kernel_rfl) (fun _ _ _ h=>h) (Or.inr ⟨by rfl,rfl⟩) hC ?_
      try simp only [Act.put,List.setIfInBounds_toArray,List.set_cons_zero,List.set_cons_succ]
      refine wpAnyH_take (i:=13) (oi:=(.mk (some 51) (.load 169 (.tmp 50)) 169 "fields.go:89" #[.mk 12 .data,.mk 10 .guard] (some (10,false)))) (v:=undef) rfl (by kernel_rfl) (by kernel_rfl) (by kernel_rfl) (fun _ _ _ h=>h) (Or.inr ⟨by rfl,rfl⟩) hC ?_
      try simp only [Act.put,List.setIfInBounds_toArray,List.set_cons_zero,List.set_cons_succ]
      refine wpAnyH_take (i:=14) (oi:=(.mk (some 52) (.move (.tmp 0)) 135 "fields.go:89" #[.mk 10 .guard] (some (10,false)))) (v:=undef) rfl (by kernel_rfl) (by kernel_rfl) (by kernel_rfl) (fun _ _ _ h=>h) (Or.inr ⟨by rfl,rfl⟩) hC ?_
      try simp only [Act.put,List.setIfInBounds_toArray,List.set_cons_zero,List.set_cons_succ]
      refine wpAnyH_take (i:=15) (oi:=(.mk (some 53) (.nilCheck (.tmp 52)) 0 "fields.go:89" #[.mk 14 .data,.mk 10 .guard] (some (10,false)))) (v:=undef) rfl (by kernel_rfl) (by kernel_rfl) (by kernel_rfl) (fun _ _ _ h=>h) (Or.inr ⟨by rfl,rfl⟩) hC ?_
      try simp only [Act.put,List.setIfInBounds_toArray,List.set_cons_zero,List.set_cons_succ]
      refine wpAnyH_take (i:=16) (oi:=(.mk (some 54) (.fieldAddr 46 (.tmp 53) 3) 0 "fields.go:89" #[.mk 15 .data,.mk 10 .guard] (some (10,false)))) (v:=undef) rfl (by kernel_rfl) (by kernel_rfl) (by kernel_rfl) (fun _ _ _ h=>h) (Or.inr ⟨by rfl,rfl⟩) hC ?_
      try simp only [Act.put,List.setIfInBounds_toArray,List.set_cons_zero,List.set_cons_succ]
      refine wpAnyH_take (i:=17) (oi:=(.mk (some 55) (.load 9 (.tmp 54)) 9 "fields.go:89" #[.mk 16 .data,.mk 10 .guard] (some (10,false)))) (v:=undef) rfl (by kernel_rfl) (by kernel_rfl) (by kernel_rfl) (fun _ _ _ h=>h) (Or.inr ⟨by rfl,rfl⟩) hC ?_
      try simp only [Act.put,List.setIfInBounds_toArray,List.set_cons_zero,List.set_cons_succ]
      refine wpAnyH_take (i:=18) (oi:=(.mk (some 56) (.call (.mk (.value (.tmp 49)) #[(.tmp 51),(.tmp 55)] #[169,9])) 37 "fields.go:89" #[.mk 11 .data,.mk 13 .data,.mk 17 .data,.mk 10 .chain,.mk 10 .guard] (some (10,false)))) (v:=undef) rfl (by kernel_rfl) (by kernel_rfl) (by kernel_rfl) (fun _ _ _ h=>h) (Or.inr ⟨by rfl,rfl⟩) hC ?_
      try simp only [Act.put,List.setIfInBounds_toArray,List.set_cons_zero,List.set_cons_succ]
      refine wpAnyH_take (i:=19) (oi:=(.mk (some 57) (.call (.mk (.value (.func 168)) #[(.tmp 56)] #[37])) 4 "fields.go:89" #[.mk 18 .data,.mk 18 .chain,.mk 10 .guard] (some (10,false)))) (v:=undef) rfl (by kernel_rfl) (by kernel_rfl) (by kernel_rfl) (fun _ _ _ h=>h) (Or.inr ⟨by rfl,rfl⟩) hC ?_
      try simp only [Act.put,List.setIfInBounds_toArray,List.set_cons_zero,List.set_cons_succ]
      refine wpAnyH_take (i:=20) (oi:=(.mk (some 58) (.unOp UnOp.not 4 (.tmp 57)) 4 "fields.go:89" #[.mk 19 .data,.mk 10 .guard] (some (10,false)))) (v:=undef) rfl (by kernel_rfl) (by kernel_rfl) (by kernel_rfl) (fun _ _ _ h=>h) (Or.inr ⟨by rfl,rfl⟩) hC ?_
      try simp only [Act.put,List.setIfInBounds_toArray,List.set_cons_zero,List.set_cons_succ]
      refine wpAnyH_take (i:=21) (oi:=(.mk (some 59) (.pick (.tmp 48) (.const (Value.bool true)) (.tmp 58)) 4 "fields.go:89" #[.mk 10 .data,.mk 20 .data] none)) (v:=?_) rfl (by kernel_rfl) (by kernel_rfl) (by kernel_rfl) (fun _ _ _ h=>h) (Or.inl ⟨by rfl,?_⟩) hC ?_
      rotate_left
      ·(intro w hSw;(try dsimp only at hSw);go_simp;try with_reducible rfl)
      try simp only [Act.put,List.setIfInBounds_toArray,List.set_cons_zero,List.set_cons_succ]
      refine wpAnyH_done (by kernel_rfl) ?_ _
      go_wp2_with fail
      go_meet
      exact⟨rfl,hB⟩
     | true=>
      cases u4<;>(
       refine wp_region_held_drew (S:=(fun w'=>w'.cell? ⟨S,1,none⟩=some (.int .u8 s.a)∧w'.cell? ⟨S,2,none⟩=some (.int .u8 s.b)∧w'.cell? ⟨b,o+2,none⟩=some (.string d.a)∧w'.cell? ⟨b,o+3,none⟩=some (.string d.b))) (by kernel_rfl) hC (fun hHeld=>?_)
       clear hHeld
       refine wpAnyH_take (i:=0) (oi:=(.mk (some 38) (.move (.tmp 5)) 174 "fields.go:89" #[] none)) (v:=?_) rfl (by kernel_rfl) (by kernel_rfl) (by kernel_rfl) (fun _ _ _ h=>h) (Or.inl ⟨by rfl,?_⟩) hC ?_
       rotate_left
       ·(intro w hSw;(try dsimp only at hSw);go_simp;try with_reducible rfl)
       try simp only [Act.put,List.setIfInBounds_toArray,List.set_cons_zero,List.set_cons_succ]
       refine wpAnyH_take (i:=1) (oi:=(.mk (some 39) (.fieldAddr 171 (.tmp 3) 1) 0 "fields.go:89" #[] none)) (v:=?_) rfl (by kernel_rfl) (by kernel_rfl) (by kernel_rfl) (fun _ _ _ h=>h) (Or.inl ⟨by rfl,?_⟩) hC ?_
       rotate_left
       ·(intro w hSw;(try dsimp only at hSw);go_simp;try with_reducible rfl)
       try simp only [Act.put,List.setIfInBounds_toArray,List.set_cons_zero,List.set_cons_succ]
       refine wpAnyH_take (i:=2) (oi:=(.mk (some 40) (.load 169 (.tmp 39)) 169 "fields.go:89" #[.mk 1 .data] none)) (v:=?_) rfl (by kernel_rfl) (by kernel_rfl) (by kernel_rfl) (fun _ _ _ h=>h) (Or.inl ⟨by rfl,?_⟩) hC ?_
       rotate_left
       ·(intro w hSw;(try dsimp only at hSw);go_simp;try with_reducible rfl)
       try simp only [Act.put,List.setIfInBounds_toArray,List.set_cons_zero,List.set_cons_succ]
       refine wpAnyH_take (i:=3) (oi:=(.mk (some 41) (.move (.tmp 0)) 135 "fields.go:89" #[] none)) (v:=?_) rfl (by kernel_rfl) (by kernel_rfl) (by kernel_rfl) (fun _ _ _ h=>h) (Or.inl ⟨by rfl,?_⟩) hC ?_
       rotate_left
       ·(intro w hSw;(try dsimp only at hSw);go_simp;try with_reducible rfl)
       try simp only [Act.put,List.setIfInBounds_toArray,List.set_cons_zero,List.set_cons_succ]
       refine wpAnyH_take (i:=4) (oi:=(.mk (some 42) (.nilCheck (.tmp 41)) 0 "fields.go:89" #[.mk 3 .data] none)) (v:=?_) rfl (by kernel_rfl) (by kernel_rfl) (by kernel_rfl) (fun _ _ _ h=>h) (Or.inl ⟨by rfl,?_⟩) hC ?_
       rotate_left
       ·(intro w hSw;(try dsimp only at hSw);go_simp;try with_reducible rfl)
       try simp only [Act.put,List.setIfInBounds_toArray,List.set_cons_zero,List.set_cons_succ]
       refine wpAnyH_take (i:=5) (oi:=(.mk (some 43) (.fieldAddr 46 (.tmp 42) 2) 0 "fields.go:89" #[.mk 4 .data] none)) (v:=?_) rfl (by kernel_rfl) (by kernel_rfl) (by kernel_rfl) (fun _ _ _ h=>h) (Or.inl ⟨by rfl,?_⟩) hC ?_
       rotate_left
       ·(intro w hSw;(try dsimp only at hSw);go_simp;try with_reducible rfl)
       try simp only [Act.put,List.setIfInBounds_toArray,List.set_cons_zero,List.set_cons_succ]
       refine wpAnyH_take (i:=6) (oi:=(.mk (some 44) (.load 9 (.tmp 43)) 9 "fields.go:89" #[.mk 5 .data] none)) (v:=?_) rfl (by kernel_rfl) (by kernel_rfl) (by kernel_rfl) (fun _ _ _ h=>h) (Or.inl ⟨by rfl,?_⟩) hC ?_
       rotate_left
       ·(intro w hSw;(try dsimp only at hSw);go_simp;try with_reducible rfl)
       try simp only [Act.put,List.setIfInBounds_toArray,List.set_cons_zero,List.set_cons_succ]
       refine wpAnyH_ready (rs:=[7]) (by kernel_rfl) (by simp) (AllReadyH.cons (o:=(.mk (some 45) (.call (.mk (.value (.tmp 38)) #[(.tmp 40),(.tmp 44)] #[169,9])) 37 "fields.go:89" #[.mk 0 .data,.mk 2 .data,.mk 6 .data] none)) rfl (fun K hK=>?_) AllReadyH.nil)
       go_simp
       (go_at_call 167;refine Calls.mono (ka.out _) ?_;rintro e w4 ⟨v4,rfl,hR4,hb4⟩;replace hC:=kept4 hb4 hC;replace hB:=Lib.hid (hB.out.trans (hb4.mono hB.out.size)))
       refine hK.out _ _ hC (fun hHeld=>?_)
       clear hK K hHeld
       try simp only [Act.put,List.setIfInBounds_toArray,List.set_cons_zero,List.set_cons_succ]
       refine wpAnyH_ready (rs:=[8]) (by kernel_rfl) (by simp) (AllReadyH.cons (o:=(.mk (some 46) (.call (.mk (.value (.func 168)) #[(.tmp 45)] #[37])) 4 "fields.go:89" #[.mk 7 .data,.mk 7 .chain] none)) rfl (fun K hK=>?_) AllReadyH.nil)
       go_simp
       (go_at_call 168;refine Calls.mono (g3.out _ _ hR4) ?_;rintro e w5 ⟨rfl,rfl⟩)
       refine hK.out _ _ hC (fun hHeld=>?_)
       clear hK K hHeld
       try simp only [Act.put,List.setIfInBounds_toArray,List.set_cons_zero,List.set_cons_succ]
       refine wpAnyH_take (i:=9) (oi:=(.mk (some 47) (.unOp UnOp.not 4 (.tmp 46)) 4 "fields.go:89" #[.mk 8 .data] none)) (v:=?_) rfl (by kernel_rfl) (by kernel_rfl) (by kernel_rfl) (fun _ _ _ h=>h) (Or.inl ⟨by rfl,?_⟩) hC ?_
       rotate_left
       ·(intro w hSw;(try dsimp only at hSw);go_simp;try with_reducible rfl)
       try simp only [Act.put,List.setIfInBounds_toArray,List.set_cons_zero,List.set_cons_succ]
       refine wpAnyH_take (i:=10) (oi:=(.mk (some 48) (.move (.tmp 47)) 4 "fields.go:89" #[.mk 9 .data,.mk 8 .chain] none)) (v:=?_) rfl (by kernel_rfl) (by kernel_rfl) (by kernel_rfl) (fun _ _ _ h=>h) (Or.inl ⟨by rfl,?_⟩) hC ?_
       rotate_left
       ·(intro w hSw;(try dsimp only at hSw);go_simp;try with_reducible rfl)
       try simp only [Act.put,List.setIfInBounds_toArray,List.set_cons_zero,List.set_cons_succ]
       refine wpAnyH_take (i:=11) (oi:=(.mk (some 49) (.move (.tmp 5)) 174 "fields.go:89" #[.mk 10 .guard] (some (10,false)))) (v:=?_) rfl (by kernel_rfl) (by kernel_rfl) (by kernel_rfl) (fun _ _ _ h=>h) (Or.inl ⟨by rfl,?_⟩) hC ?_
       rotate_left
       ·(intro w hSw;(try dsimp only at hSw);go_simp;try with_reducible rfl)
       try simp only [Act.put,List.setIfInBounds_toArray,List.set_cons_zero,List.set_cons_succ]
       refine wpAnyH_take (i:=12) (oi:=(.mk (some 50) (.fieldAddr 171 (.tmp 3) 2) 0 "fields.go:89" #[.mk 10 .guard] (some (10,false)))) (v:=?_) rfl (by kernel_rfl) (by kernel_rfl) (by kernel_rfl) (fun _ _ _ h=>h) (Or.inl ⟨by rfl,?_⟩) hC ?_
       rotate_left
       ·(intro w hSw;(try dsimp only at hSw);go_simp;try with_reducible rfl)
       try simp only [Act.put,List.setIfInBounds_toArray,List.set_cons_zero,List.set_cons_succ]
       refine wpAnyH_take (i:=13) (oi:=(.mk (some 51) (.load 169 (.tmp 50)) 169 "fields.go:89" #[.mk 12 .data,.mk 10 .guard] (some (10,false)))) (v:=?_) rfl (by kernel_rfl) (by kernel_rfl) (by kernel_rfl) (fun _ _ _ h=>h) (Or.inl ⟨by rfl,?_⟩) hC ?_
       rotate_left
       ·(intro w hSw;(try dsimp only at hSw);go_simp;try with_reducible rfl)
       try simp only [Act.put,List.setIfInBounds_toArray,List.set_cons_zero,List.set_cons_succ]
       refine wpAnyH_take (i:=14) (oi:=(.mk (some 52) (.move (.tmp 0)) 135 "fields.go:89" #[.mk 10 .guard] (some (10,false)))) (v:=?_) rfl (by kernel_rfl) (by kernel_rfl) (by kernel_rfl) (fun _ _ _ h=>h) (Or.inl ⟨by rfl,?_⟩) hC ?_
       rotate_left
       ·(intro w hSw;(try dsimp only at hSw);go_simp;try with_reducible rfl)
       try simp only [Act.put,List.setIfInBounds_toArray,List.set_cons_zero,List.set_cons_succ]
       refine wpAnyH_take (i:=15) (oi:=(.mk (some 53) (.nilCheck (.tmp 52)) 0 "fields.go:89" #[.mk 14 .data,.mk 10 .guard] (some (10,false)))) (v:=?_) rfl (by kernel_rfl) (by kernel_rfl) (by kernel_rfl) (fun _ _ _ h=>h) (Or.inl ⟨by rfl,?_⟩) hC ?_
       rotate_left
       ·(intro w hSw;(try dsimp only at hSw);go_simp;try with_reducible rfl)
       try simp only [Act.put,List.setIfInBounds_toArray,List.set_cons_zero,List.set_cons_succ]
       refine wpAnyH_take (i:=16) (oi:=(.mk (some 54) (.fieldAddr 46 (.tmp 53) 3) 0 "fields.go:89" #[.mk 15 .data,.mk 10 .guard] (some (10,false)))) (v:=?_) rfl (by kernel_rfl) (by kernel_rfl) (by kernel_rfl) (fun _ _ _ h=>h) (Or.inl ⟨by rfl,?_⟩) hC ?_
       rotate_left
       ·(intro w hSw;(try dsimp only at hSw);go_simp;try with_reducible rfl)
       try simp only [Act.put,List.setIfInBounds_toArray,List.set_cons_zero,List.set_cons_succ]
       refine wpAnyH_take (i:=17) (oi:=(.mk (some 55) (.load 9 (.tmp 54)) 9 "fields.go:89" #[.mk 16 .data,.mk 10 .guard] (some (10,false)))) (v:=?_) rfl (by kernel_rfl) (by kernel_rfl) (by kernel_rfl) (fun _ _ _ h=>h) (Or.inl ⟨by rfl,?_⟩) hC ?_
       rotate_left
       ·(intro w hSw;(try dsimp only at hSw);go_simp;try with_reducible rfl)
       try simp only [Act.put,List.setIfInBounds_toArray,List.set_cons_zero,List.set_cons_succ]
       refine wpAnyH_ready (rs:=[18]) (by kernel_rfl) (by simp) (AllReadyH.cons (o:=(.mk (some 56) (.call (.mk (.value (.tmp 49)) #[(.tmp 51),(.tmp 55)] #[169,9])) 37 "fields.go:89" #[.mk 11 .data,.mk 13 .data,.mk 17 .data,.mk 10 .chain,.mk 10 .guard] (some (10,false)))) rfl (fun K hK=>?_) AllReadyH.nil)
       go_simp
       (go_at_call 167;refine Calls.mono (kb.out _) ?_;rintro e w4 ⟨v4,rfl,hR4,hb4⟩;replace hC:=kept4 hb4 hC;replace hB:=Lib.hid (hB.out.trans (hb4.mono hB.out.size)))
       refine hK.out _ _ hC (fun hHeld=>?_)
       clear hK K hHeld
       try simp only [Act.put,List.setIfInBounds_toArray,List.set_cons_zero,List.set_cons_succ]
       refine wpAnyH_ready (rs:=[19]) (by kernel_rfl) (by simp) (AllReadyH.cons (o:=(.mk (some 57) (.call (.mk (.value (.func 168)) #[(.tmp 56)] #[37])) 4 "fields.go:89" #[.mk 18 .data,.mk 18 .chain,.mk 10 .guard] (some (10,false)))) rfl (fun K hK=>?_) AllReadyH.nil)
       go_simp
       (go_at_call 168;refine Calls.mono (g4.out _ _ hR4) ?_;rintro e w5 ⟨rfl,rfl⟩)
       refine hK.out _ _ hC (fun hHeld=>?_)
       clear hK K hHeld
       try simp only [Act.put,List.setIfInBounds_toArray,List.set_cons_zero,List.set_cons_succ]
       refine wpAnyH_take (i:=20) (oi:=(.mk (some 58) (.unOp UnOp.not 4 (.tmp 57)) 4 "fields.go:89" #[.mk 19 .data,.mk 10 .guard] (some (10,false)))) (v:=?_) rfl (by kernel_rfl) (by kernel_rfl) (by kernel_rfl) (fun _ _ _ h=>h) (Or.inl ⟨by rfl,?_⟩) hC ?_
       rotate_left
       ·(intro w hSw;(try dsimp only at hSw);go_simp;try with_reducible rfl)
       try simp only [Act.put,List.setIfInBounds_toArray,List.set_cons_zero,List.set_cons_succ]
       refine wpAnyH_take (i:=21) (oi:=(.mk (some 59) (.pick (.tmp 48) (.const (Value.bool true)) (.tmp 58)) 4 "fields.go:89" #[.mk 10 .data,.mk 20 .data] none)) (v:=?_) rfl (by kernel_rfl) (by kernel_rfl) (by kernel_rfl) (fun _ _ _ h=>h) (Or.inl ⟨by rfl,?_⟩) hC ?_
       rotate_left
       ·(intro w hSw;(try dsimp only at hSw);go_simp;try with_reducible rfl)
       try simp only [Act.put,List.setIfInBounds_toArray,List.set_cons_zero,List.set_cons_succ]
       refine wpAnyH_done (by kernel_rfl) ?_ _
       go_wp2_with fail
       go_meet
       exact⟨rfl,hB⟩)
    case rest=>
     obtain⟨rfl,hBc⟩:=hcut
     have hF4:=Lib.hid (hF3.out.below hBc.out)
     have hB4:=Lib.hid (hB3.out.trans (hBc.out.mono hB3.out.size))
     obtain⟨p2,hp2⟩:∃p,p=(!u3 || !u4):=⟨_,rfl⟩
     rw [←hp2]
     replace hp2:=Lib.hid hp2
     clear hF3 hB3 hBc ka kb g3 g4
     rename World=>W4
     cases p2 with
     | true=>
      clear hF4
      go_wp2_with fail
      go_ret
      exact⟨by rw [←hp.out,←hp2.out];rfl,hB4.out⟩
     | false=>
      have s6:=hF4.out.s6
      have s7:=hF4.out.s7
      have c6:=hF4.out.c6
      have c7:=hF4.out.c7
      have m5:=Lib.hid (g5.out _ hB4.out)
      have m6:=Lib.hid (g6.out _ hB4.out)
      have hq5:=e5.out ()
      have hq6:=e6.out ()
      clear hF4 g5 g6 e5 e6
      cases q5<;>cases u5<;>cases q6<;>cases u6<;>(
       go_wp2_with (first
        | (go_at_call 127;with_reducible refine Calls.mono m5.out ?_;rintro e w5 ⟨rfl,rfl⟩)
        | (go_at_call 168;with_reducible refine Calls.mono m6.out ?_;rintro e w5 ⟨rfl,rfl⟩))
       go_ret
       exact⟨by rw [←hp.out,←hp2.out];rfl,hB4.out⟩)
end
end Go.Proofs.YtknkiaedgeejiaaGreatDoor
