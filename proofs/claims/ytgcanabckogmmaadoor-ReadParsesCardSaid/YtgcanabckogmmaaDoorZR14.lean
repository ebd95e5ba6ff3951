/- RdR. -/
import Derived.Test.YtgcanabckogmmaaDoorZR13
import Derived.Maps.RangeWalk
import Derived.Laws.EntriesVeiled
import Derived.Deep.RegionHeld3
import Derived.Deep.RegionLaw
import Derived.Deep.AppendLies
namespace Go.Proofs.YtgcanabckogmmaaDoor
set_option linter.unusedVariables false
set_option linter.unusedSimpArgs false
section
open Go.RowKit Go.Maps Go.Shelf Go.WideMaps
attribute [local go_sem] Oper.semAt_some fld0 fld1 fld2
theorem vmap_run {w:World}{k:TypeId}{b n:Nat}{f:Lit→Option Value}{t e:TypeId}{z:Value}(hz:(zeroValue e).run Tryd.prog w=.ok z w)(K:Keyed Tryd.prog k)(ht:Tryd.prog.underlying t=some (.map k e))(h:VMap w k b n f){key:Value}{kl:Lit}(hkey:keyOf Tryd.prog k key=some kl):(Instr.lookup t (.map (some b)) key true).run Tryd.prog w=.ok (.tuple #[(f kl).getD z,.bool (f kl).isSome]) w:=by
 obtain⟨D,hown,hD⟩:=h
 obtain⟨v,ps,hrun,hv⟩:=hown.look_ok K ht hz (zd:=.held z) (zp:=[]) rfl hkey
 have hh:=hD.has kl (K.key hkey)
 rw [hrun,hh]
 simp only [heldE,Option.some.injEq,Prod.mk.injEq] at hv
 cases hf:f kl with
 | none=>
  rw [hf] at hh
  rw [atKey_of_not_has hh] at hv
  obtain⟨e1,-⟩:=hv
  cases e1
  rfl
 | some u=>
  rw [hD.at_ kl u (K.key hkey) hf] at hv
  obtain⟨e1,-⟩:=hv
  cases e1
  rfl
section
variable {B Bp Bf pb gw cw:Nat} {T:List Tok} {ln vb bb Sf:Nat} {w w2:World} {i:Nat} {d:Fun}
set_option maxRecDepth 20000 in
set_option maxHeartbeats 4000000 in
theorem inside_none_signbad {nm:ByteArray}{ps:List ByteArray}{vp vc:Value}{gb capb:Nat}{bs:List Blk}{x:Blk}(h:PAt B w pb gw cw T i ln vb bb)(hF:FOp Bp Bf w Sf d.name d.params vp (.slice (some ⟨gb,0,none⟩) (bs.length+1) capb) vc bs x)(hd:d.blocks=bs++[x])(hnb:d.blocks.length≤i)(hnc:∀y∈d.blocks,y.code.length≤i)(hlo:B≤Sf)(hBp:B≤Bp){s:ByteArray}{l:List Tok}(hn:nameP (T.drop i) ln=.ok (s,l))(h58:isB l ln 58=false)(hbf:bareF s.data.toList=none){f:Flt}(hs:signP 61 l ln=.error f):Calls Tryd.prog 45 #[.pointer (some ⟨pb,0,none⟩),.pointer (some ⟨Sf,0,none⟩)] w (GPost B Bp Bf pb gw cw T ln vb bb Sf w (.error f)):=by
 obtain⟨ac,cc,hvc⟩:=hF.code.form
 subst hvc
 obtain⟨n,hnn⟩:∃n,n=x.code.length:=⟨_,rfl⟩
 rw [←hnn] at hF
 have hnl:n≤i:=by rw [hnn];exact hnc x (by rw [hd];exact List.mem_append.2 (.inr (List.mem_singleton.2 rfl)))
 replace hnn:=Lib.hid hnn
 have hk:=Lib.hid (name_ok h hn)
 have hl:l=T.drop (i+1):=by obtain⟨t,e,-⟩:=name_len hn;exact drop_next e
 have hlen:i<2000000:=by have:=h.here;have:=h.ok.len;omega
 have h1:=h.ltP
 have h2:=hF.lt
 have hok:=Lib.hid h.ok
 have h3:=hF.top
 have hss:s.size≤maxLen:=by
  obtain⟨t,e,e2,-⟩:=name_len hn
  have:=h.ok.text t (by have:t∈T.drop i:=(by rw [e];exact List.mem_cons_self ..);exact List.mem_of_mem_drop this)
  rw [e2]
  show t.text.toArray.size≤maxLen
  rw [List.size_toArray]
  unfold maxLen
  omega
 have hkey:=Lib.hid (keyOf_string_mk Tryd.underlying9 hss)
 have hfv:=Lib.hid (forms_no hbf)
 rw [hl] at hs h58
 have hi58:=Lib.hid (fun (w':World) (hP:PAt B w' pb gw cw T (i+1) ln vb bb)=>is_any hP 58 h58)
 have hsg:=Lib.hid (fun (w':World) (hP:PAt B w' pb gw cw T (i+1) ln vb bb)=>sign_bad hP hs)
 obtain⟨m,hm⟩:∃m,m=bs.length:=⟨_,rfl⟩
 rw [←hm] at hF
 have hmb:m≤2000000:=by rw [hd,List.length_append] at hnb;omega
 replace hm:=Lib.hid hm
 replace hF:=Lib.hid hF
 replace hd:=Lib.hid hd
 replace hnc:=Lib.hid hnc
 replace hnb:=Lib.hid hnb
 clear h hn h58 hl hbf hss hs
 go_enter Tryd.func45,Tryd.ntmps45
 go_wp2_with fail
 refine hk.out.mono ?_
 rintro e w2 ⟨rfl,hP2,hT2⟩
 have hF2:=hF.out.keep hT2 (fun k e=>by subst e;omega)
 have c2:w2.cell? ⟨Sf,2,none⟩=some (.slice (some ⟨gb,0,none⟩) (m+1) capb):=by rw [blk_cell hF2.blk];rfl
 have hm0:decide ((m:Int)<0)=false:=by simp
 replace hP2:=Lib.hid hP2
 replace hT2:=Lib.hid hT2
 replace hF2:=Lib.hid hF2
 go_wp2_with fail
 refine (hi58.out _ hP2.out).mono ?_
 rintro e w3 ⟨rfl,hb3⟩
 have hP3:=hP2.out.below hb3
 have t3:=Touch.of_below hb3 (fun k=>k=pb)
 have hF3:=hF2.out.keep t3 (fun k e=>by subst e;omega)
 have c3:w3.cell? ⟨Sf,2,none⟩=some (.slice (some ⟨gb,0,none⟩) (m+1) capb):=by rw [blk_cell hF3.blk];rfl
 have p4:w3.cell? ⟨pb,4,none⟩=some (.map (some bb)):=by rw [blk_cell hP3.blk];rfl
 have hM3:=Lib.hid hP3.bmap
 have htop3:Bf≤w3.heap.size:=hF3.top
 have hP3:=Lib.hid hP3
 have t3:=Lib.hid t3
 have hF3:=Lib.hid hF3
 clear c2 hb3
 go_upto_region 7 with (refine wpList_vmap_ok rfl _ _ _ rfl 9 85 lawF Tryd.underlying60 (zF _) bb 6 (formsV bareF) hM3.out rfl _ _ rfl hkey.out ?_;rw [hfv.out];simp only [Option.getD_some,Option.getD_none,Option.isSome_some,Option.isSome_none])
 have hb4:Below w3.heap.size w3 (w3.alloc (.cells #[.int .u8 0,.nilFunc] 85)):=(Below.refl _ _).alloc (Nat.le_refl _) _
 have hB7:(w3.alloc (.cells #[.int .u8 0,.nilFunc] 85)).heap[w3.heap.size]?=some (.cells #[.int .u8 0,.nilFunc] 85 (0,0)):=at_newP rfl
 generalize hw4:(w3.alloc (.cells #[.int .u8 0,.nilFunc] 85))=w4 at hb4 hB7 ⊢
 have hz4:w4.heap.size=w3.heap.size+1:=by rw [←hw4];simp
 clear hw4
 obtain⟨t7,ht7⟩:∃t7,t7=w3.heap.size:=⟨_,rfl⟩
 rw [←ht7] at hB7 ⊢
 have hP4:=Lib.hid (hP3.out.below hb4)
 have t4:=Lib.hid (Touch.of_below hb4 (fun k=>k=pb))
 have hF4:=Lib.hid (hF3.out.keep t4.out (fun k e=>by subst e;omega))
 replace hB7:=Lib.hid hB7
 have ht7p:t7≠pb∧t7<w4.heap.size:=⟨by omega,by omega⟩
 replace ht7:=Lib.hid ht7
 replace hz4:=Lib.hid hz4
 clear c3 p4 hM3 hb4
 have hPA:=hP4
 have hFA:=hF4
 have tA:=Lib.hid ((hT2.out.trans t3.out).trans t4.out)
 go_wp2_with (go_at_call 43;refine (hsg.out _ hPA.out).mono ?_;rintro e wz ⟨rfl,hbz⟩)
 exact⟨rfl,gtch_pb (tA.out.trans (Touch.of_below hbz _)),rfl⟩
set_option maxRecDepth 20000 in
set_option maxHeartbeats 4000000 in
theorem inside_none_refuse {nm:ByteArray}{ps:List ByteArray}{vp vc:Value}{gb capb:Nat}{bs:List Blk}{x:Blk}(h:PAt B w pb gw cw T i ln vb bb)(hF:FOp Bp Bf w Sf d.name d.params vp (.slice (some ⟨gb,0,none⟩) (bs.length+1) capb) vc bs x)(hd:d.blocks=bs++[x])(hnb:d.blocks.length≤i)(hnc:∀y∈d.blocks,y.code.length≤i)(hlo:B≤Sf)(hBp:B≤Bp){s:ByteArray}{l:List Tok}(hn:nameP (T.drop i) ln=.ok (s,l))(h58:isB l ln 58=false)(hbf:bareF s.data.toList=none){l2:List Tok}(hs:signP 61 l ln=.ok l2)(hvf:valueF (headT l2)=none):Calls Tryd.prog 45 #[.pointer (some ⟨pb,0,none⟩),.pointer (some ⟨Sf,0,none⟩)] w (GPost B Bp Bf pb gw cw T ln vb bb Sf w (.error (fltL l2))):=by
 obtain⟨ac,cc,hvc⟩:=hF.code.form
 subst hvc
 obtain⟨n,hnn⟩:∃n,n=x.code.length:=⟨_,rfl⟩
 rw [←hnn] at hF
 have hnl:n≤i:=by rw [hnn];exact hnc x (by rw [hd];exact List.mem_append.2 (.inr (List.mem_singleton.2 rfl)))
 replace hnn:=Lib.hid hnn
 have hk:=Lib.hid (name_ok h hn)
 have hl:l=T.drop (i+1):=by obtain⟨t,e,-⟩:=name_len hn;exact drop_next e
 have hlen:i<2000000:=by have:=h.here;have:=h.ok.len;omega
 have h1:=h.ltP
 have h2:=hF.lt
 have hok:=Lib.hid h.ok
 have h3:=hF.top
 have hss:s.size≤maxLen:=by
  obtain⟨t,e,e2,-⟩:=name_len hn
  have:=h.ok.text t (by have:t∈T.drop i:=(by rw [e];exact List.mem_cons_self ..);exact List.mem_of_mem_drop this)
  rw [e2]
  show t.text.toArray.size≤maxLen
  rw [List.size_toArray]
  unfold maxLen
  omega
 have hkey:=Lib.hid (keyOf_string_mk Tryd.underlying9 hss)
 have hfv:=Lib.hid (forms_no hbf)
 rw [hl] at hs h58
 have hi58:=Lib.hid (fun (w':World) (hP:PAt B w' pb gw cw T (i+1) ln vb bb)=>is_any hP 58 h58)
 have hl2:l2=T.drop (i+1+1):=by obtain⟨t,e,-⟩:=sign_len hs;exact drop_next e
 have hsg:=Lib.hid (fun (w':World) (hP:PAt B w' pb gw cw T (i+1) ln vb bb)=>sign_ok hP hs)
 rw [hl2] at hvf
 rw [hl2]
 have hvk:=Lib.hid (fun (t:Tok) (ht:T[i+1+1]?=some t)=>(show formsV valueF (.string t.text)=_ from forms_no (by
  have e:T.drop (i+1+1)=t::T.drop (i+1+1+1):=by
   obtain⟨hlt,e⟩:=List.getElem?_eq_some_iff.1 ht
   rw [List.drop_eq_getElem_cons hlt,e]
  rw [e] at hvf
  exact hvf)))
 have hrf:=Lib.hid (fun (w':World) (hP:PAt B w' pb gw cw T (i+1+1) ln vb bb)=>refuse_any hP)
 obtain⟨m,hm⟩:∃m,m=bs.length:=⟨_,rfl⟩
 rw [←hm] at hF
 have hmb:m≤2000000:=by rw [hd,List.length_append] at hnb;omega
 replace hm:=Lib.hid hm
 replace hF:=Lib.hid hF
 replace hd:=Lib.hid hd
 replace hnc:=Lib.hid hnc
 replace hnb:=Lib.hid hnb
 clear h hn h58 hl hbf hss hs hl2 hvf
 go_enter Tryd.func45,Tryd.ntmps45
 go_wp2_with fail
 refine hk.out.mono ?_
 rintro e w2 ⟨rfl,hP2,hT2⟩
 have hF2:=hF.out.keep hT2 (fun k e=>by subst e;omega)
 have c2:w2.cell? ⟨Sf,2,none⟩=some (.slice (some ⟨gb,0,none⟩) (m+1) capb):=by rw [blk_cell hF2.blk];rfl
 have hm0:decide ((m:Int)<0)=false:=by simp
 replace hP2:=Lib.hid hP2
 replace hT2:=Lib.hid hT2
 replace hF2:=Lib.hid hF2
 go_wp2_with fail
 refine (hi58.out _ hP2.out).mono ?_
 rintro e w3 ⟨rfl,hb3⟩
 have hP3:=hP2.out.below hb3
 have t3:=Touch.of_below hb3 (fun k=>k=pb)
 have hF3:=hF2.out.keep t3 (fun k e=>by subst e;omega)
 have c3:w3.cell? ⟨Sf,2,none⟩=some (.slice (some ⟨gb,0,none⟩) (m+1) capb):=by rw [blk_cell hF3.blk];rfl
 have p4:w3.cell? ⟨pb,4,none⟩=some (.map (some bb)):=by rw [blk_cell hP3.blk];rfl
 have hM3:=Lib.hid hP3.bmap
 have htop3:Bf≤w3.heap.size:=hF3.top
 have hP3:=Lib.hid hP3
 have t3:=Lib.hid t3
 have hF3:=Lib.hid hF3
 clear c2 hb3
 go_upto_region 7 with (refine wpList_vmap_ok rfl _ _ _ rfl 9 85 lawF Tryd.underlying60 (zF _) bb 6 (formsV bareF) hM3.out rfl _ _ rfl hkey.out ?_;rw [hfv.out];simp only [Option.getD_some,Option.getD_none,Option.isSome_some,Option.isSome_none])
 have hb4:Below w3.heap.size w3 (w3.alloc (.cells #[.int .u8 0,.nilFunc] 85)):=(Below.refl _ _).alloc (Nat.le_refl _) _
 have hB7:(w3.alloc (.cells #[.int .u8 0,.nilFunc] 85)).heap[w3.heap.size]?=some (.cells #[.int .u8 0,.nilFunc] 85 (0,0)):=at_newP rfl
 generalize hw4:(w3.alloc (.cells #[.int .u8 0,.nilFunc] 85))=w4 at hb4 hB7 ⊢
 have hz4:w4.heap.size=w3.heap.size+1:=by rw [←hw4];simp
 clear hw4
 obtain⟨t7,ht7⟩:∃t7,t7=w3.heap.size:=⟨_,rfl⟩
 rw [←ht7] at hB7 ⊢
 have hP4:=Lib.hid (hP3.out.below hb4)
 have t4:=Lib.hid (Touch.of_below hb4 (fun k=>k=pb))
 have hF4:=Lib.hid (hF3.out.keep t4.out (fun k e=>by subst e;omega))
 replace hB7:=Lib.hid hB7
 have ht7p:t7≠pb∧t7<w4.heap.size:=⟨by omega,by omega⟩
 replace ht7:=Lib.hid ht7
 replace hz4:=Lib.hid hz4
 clear c3 p4 hM3 hb4
 have hPA:=hP4
 have hFA:=hF4
 have tA:=Lib.hid ((hT2.out.trans t3.out).trans t4.out)
 go_wp2_with fail
 refine (hsg.out _ hPA.out).mono ?_
 rintro e wb ⟨rfl,hPB,hTB⟩
 have hFB:=Lib.hid (hFA.out.keep hTB (fun k e=>by subst e;omega))
 have tB:=Lib.hid (tA.out.trans hTB)
 obtain⟨tk,htk,-⟩:=hPB.at
 have hwd:=Lib.hid (fun (w':World) (hb:Below wb.heap.size wb w')=>word_any (hPB.below hb) htk)
 have hkz:tk.text.toArray.size≤maxLen:=by
  have:=hPB.ok.text tk (List.mem_of_getElem? htk)
  rw [List.size_toArray]
  unfold maxLen
  omega
 have hkey2:keyOf Tryd.prog 9 (.string (nmT tk))=some (.string tk.text):=keyOf_string_mk (s:=nmT tk) Tryd.underlying9 hkz
 have hvt:=hvk.out tk htk
 have hAll:=Lib.hid (fun (w':World) (hb:Below wb.heap.size wb w')=>(show w'.cell? ⟨pb,3,none⟩=some (.map (some vb))∧(Instr.lookup 60 (.map (some vb)) (.string (nmT tk)) true).run Tryd.prog w'=.ok (.tuple #[.agg #[.int .u8 0,.nilFunc],.bool false]) w' from by
  have hPb:=hPB.below hb
  refine⟨by rw [blk_cell hPb.blk];rfl,?_⟩
  have:=vmap_run (zF w') lawF Tryd.underlying60 hPb.vmap hkey2
  rw [hvt] at this
  exact this))
 unfold tokV at hwd
 replace hPB:=Lib.hid hPB
 clear hTB htk hkz hkey2 hvt hvk
 go_upto_region 10 with fail
 go_cut [9,10] from 72 to 82 (fun v9 v10 wx=>v10=.bool false∧∃b9,v9=.pointer (some ⟨b9,0,none⟩)∧Hid (Below wb.heap.size wb wx∧wx.heap[b9]?=some (.cells #[.int .u8 0,.nilFunc] 85 (0,0))∧wb.heap.size≤b9))
 case first=>
  have hBel:Below wb.heap.size wb wb.drew:=(Below.refl _ _).drew
  have hC:=(hAll.out _ hBel).1
  refine wp_region_held_drew (S:=(fun w'=>w'.cell? ⟨pb,3,none⟩=some (.map (some vb)))) (by kernel_rfl) hC (fun hHeld=>?_)
  clear hHeld
  refine wpAnyH_take (i:=0) (oi:=(.mk (some 73) (.move (.tmp 0)) 59 "read.go:151" #[] none)) (v:=?_) rfl (by kernel_rfl) (by kernel_rfl) (by kernel_rfl) (fun _ _ _ h=>h) (Or.inl ⟨by rfl,?_⟩) hC ?_
  rotate_left
  ·(intro w hSw;(try dsimp only at hSw);go_simp;try with_reducible rfl)
  try simp only [Act.put,List.setIfInBounds_toArray,List.set_cons_zero,List.set_cons_succ]
  refine wpAnyH_take (i:=1) (oi:=(.mk (some 74) (.nilCheck (.tmp 73)) 0 "read.go:151" #[.mk 0 .data] none)) (v:=?_) rfl (by kernel_rfl) (by kernel_rfl) (by kernel_rfl) (fun _ _ _ h=>h) (Or.inl ⟨by rfl,?_⟩) hC ?_
  rotate_left
  ·(intro w hSw;(try dsimp only at hSw);go_simp;try with_reducible rfl)
  try simp only [Act.put,List.setIfInBounds_toArray,List.set_cons_zero,List.set_cons_succ]
  refine wpAnyH_take (i:=2) (oi:=(.mk (some 75) (.fieldAddr 63 (.tmp 74) 3) 0 "read.go:151" #[.mk 1 .data] none)) (v:=?_) rfl (by kernel_rfl) (by kernel_rfl) (by kernel_rfl) (fun _ _ _ h=>h) (Or.inl ⟨by rfl,?_⟩) hC ?_
  rotate_left
  ·(intro w hSw;(try dsimp only at hSw);go_simp;try with_reducible rfl)
  try simp only [Act.put,List.setIfInBounds_toArray,List.set_cons_zero,List.set_cons_succ]
  refine wpAnyH_take (i:=3) (oi:=(.mk (some 76) (.load 60 (.tmp 75)) 60 "read.go:151" #[.mk 2 .data] none)) (v:=?_) rfl (by kernel_rfl) (by kernel_rfl) (by kernel_rfl) (fun _ _ _ h=>h) (Or.inl ⟨by rfl,?_⟩) hC ?_
  rotate_left
  ·(intro w hSw;(try dsimp only at hSw);go_simp;try with_reducible rfl)
  try simp only [Act.put,List.setIfInBounds_toArray,List.set_cons_zero,List.set_cons_succ]
  refine wpAnyH_take (i:=4) (oi:=(.mk (some 77) (.move (.tmp 0)) 59 "read.go:151" #[] none)) (v:=?_) rfl (by kernel_rfl) (by kernel_rfl) (by kernel_rfl) (fun _ _ _ h=>h) (Or.inl ⟨by rfl,?_⟩) hC ?_
  rotate_left
  ·(intro w hSw;(try dsimp only at hSw);go_simp;try with_reducible rfl)
  try simp only [Act.put,List.setIfInBounds_toArray,List.set_cons_zero,List.set_cons_succ]
  refine wpAnyH_ready (rs:=[5,11]) (by kernel_rfl) (by simp) (AllReadyH.cons (o:=(.mk (some 78) (.call (.mk (.value (.func 19)) #[(.tmp 77)] #[59])) 38 "read.go:151" #[.mk 4 .data] none)) rfl (fun K hK=>?_) (AllReadyH.cons (o:=(.mk (some 9) (.alloc 85) 0 "read.go:151" #[] none)) rfl (fun K hK=>?_) AllReadyH.nil))
  ·skip
   go_simp
   go_at_call 19
   refine (hwd.out _ hBel).mono ?_
   rintro e w6 ⟨rfl,hb6⟩
   replace hBel:=hBel.trans (hb6.mono hBel.size)
   have hBel6:=hBel
   have hC:=(hAll.out _ hBel).1
   have hrun:=(hAll.out _ hBel).2
   go_simp
   refine hK.out _ _ hC (fun hHeld=>?_)
   clear hK K hHeld
   try simp only [Act.put,List.setIfInBounds_toArray,List.set_cons_zero,List.set_cons_succ]
   refine wpAnyH_take (i:=6) (oi:=(.mk (some 79) (.field 38 (.tmp 78) 1) 9 "read.go:151" #[.mk 5 .data] none)) (v:=?_) rfl (by kernel_rfl) (by kernel_rfl) (by kernel_rfl) (fun _ _ _ h=>h) (Or.inl ⟨by rfl,?_⟩) hC ?_
   rotate_left
   ·(intro w hSw;(try dsimp only at hSw);go_simp;try with_reducible rfl)
   try simp only [Act.put,List.setIfInBounds_toArray,List.set_cons_zero,List.set_cons_succ]
   refine wpAnyH_ready (rs:=[7,11]) (by kernel_rfl) (by simp) (AllReadyH.cons (o:=(.mk (some 80) (.lookup 60 (.tmp 76) (.tmp 79) true) 102 "read.go:151" #[.mk 3 .data,.mk 6 .data] none)) rfl (fun K hK=>?_) (AllReadyH.cons (o:=(.mk (some 9) (.alloc 85) 0 "read.go:151" #[] none)) rfl (fun K hK=>?_) AllReadyH.nil))
   ·skip
    go_simp
    skip
    refine hK.out _ _ hC (fun hHeld=>?_)
    clear hK K hHeld
    try simp only [Act.put,List.setIfInBounds_toArray,List.set_cons_zero,List.set_cons_succ]
    refine wpAnyH_take (i:=8) (oi:=(.mk (some 72) (.move (.tmp 80)) 102 "read.go:151" #[.mk 7 .data] none)) (v:=?_) rfl (by kernel_rfl) (by kernel_rfl) (by kernel_rfl) (fun _ _ _ h=>h) (Or.inl ⟨by rfl,?_⟩) hC ?_
    rotate_left
    ·(intro w hSw;(try dsimp only at hSw);go_simp;try with_reducible rfl)
    try simp only [Act.put,List.setIfInBounds_toArray,List.set_cons_zero,List.set_cons_succ]
    refine wpAnyH_take (i:=9) (oi:=(.mk (some 81) (.extract (.tmp 72) 0) 85 "read.go:151" #[.mk 8 .data] none)) (v:=?_) rfl (by kernel_rfl) (by kernel_rfl) (by kernel_rfl) (fun _ _ _ h=>h) (Or.inl ⟨by rfl,?_⟩) hC ?_
    rotate_left
    ·(intro w hSw;(try dsimp only at hSw);go_simp;try with_reducible rfl)
    try simp only [Act.put,List.setIfInBounds_toArray,List.set_cons_zero,List.set_cons_succ]
    refine wpAnyH_take (i:=10) (oi:=(.mk (some 82) (.extract (.tmp 72) 1) 4 "read.go:151" #[.mk 8 .data,.mk 12 (.gcOnly .lateStores)] none)) (v:=?_) rfl (by kernel_rfl) (by kernel_rfl) (by kernel_rfl) (fun _ _ _ h=>h) (Or.inl ⟨by rfl,?_⟩) hC ?_
    rotate_left
    ·(intro w hSw;(try dsimp only at hSw);go_simp;try with_reducible rfl)
    try simp only [Act.put,List.setIfInBounds_toArray,List.set_cons_zero,List.set_cons_succ]
    refine wpAnyH_ready (rs:=[11]) (by kernel_rfl) (by simp) (AllReadyH.cons (o:=(.mk (some 9) (.alloc 85) 0 "read.go:151" #[] none)) rfl (fun K hK=>?_) AllReadyH.nil)
    go_simp
    have hbox:(w6.alloc (.cells #[.int .u8 0,.nilFunc] 85)).heap[w6.heap.size]?=some (.cells #[.int .u8 0,.nilFunc] 85):=at_newP rfl
    replace hBel:=hBel.alloc hBel.size (.cells #[.int .u8 0,.nilFunc] 85)
    have hC:=(hAll.out _ hBel).1
    have hrun:=(hAll.out _ hBel).2
    refine hK.out _ _ hC (fun hHeld=>?_)
    clear hK K hHeld
    try simp only [Act.put,List.setIfInBounds_toArray,List.set_cons_zero,List.set_cons_succ]
    refine wpAnyH_ready (rs:=[12]) (by kernel_rfl) (by simp) (AllReadyH.cons (o:=(.mk none (.store 85 (.tmp 9) (.tmp 81)) 0 "read.go:151" #[.mk 11 .data,.mk 9 .data,.mk 5 .chain,.mk 0 .phase,.mk 1 .phase,.mk 2 .phase,.mk 3 .phase,.mk 4 .phase,.mk 5 .phase,.mk 6 .phase,.mk 7 .phase,.mk 8 .phase,.mk 9 .phase,.mk 10 (.textOnly .lateStores),.mk 11 .phase] none)) rfl (fun K hK=>?_) AllReadyH.nil)
    go_simp
    have hBel:=hBel6.alloc hBel6.size (.cells #[.int .u8 0,.nilFunc] 85)
    have hC:=(hAll.out _ hBel).1
    refine hK.out _ _ hC (fun hHeld=>?_)
    clear hK K hHeld
    try simp only [Act.put,List.setIfInBounds_toArray,List.set_cons_zero,List.set_cons_succ]
    refine wpAnyH_take (i:=13) (oi:=(.mk (some 10) (.assign (.tmp 82)) 4 "read.go:151" #[.mk 10 .data,.mk 12 .chain,.mk 0 .phase,.mk 1 .phase,.mk 2 .phase,.mk 3 .phase,.mk 4 .phase,.mk 5 .phase,.mk 6 .phase,.mk 7 .phase,.mk 8 .phase,.mk 9 .phase,.mk 10 .phase,.mk 11 .phase,.mk 12 .phase] none)) (v:=?_) rfl (by kernel_rfl) (by kernel_rfl) (by kernel_rfl) (fun _ _ _ h=>h) (Or.inl ⟨by rfl,?_⟩) hC ?_
    rotate_left
    ·(intro w hSw;(try dsimp only at hSw);go_simp;try with_reducible rfl)
    try simp only [Act.put,List.setIfInBounds_toArray,List.set_cons_zero,List.set_cons_succ]
    refine wpAnyH_done (by kernel_rfl) ?_ _
    go_wp2_with fail
    go_meet
    exact⟨rfl,w6.heap.size,rfl,Lib.hid ⟨hBel,at_newP rfl,hBel6.size⟩⟩
   ·skip
    go_simp
    have hbox:(w6.alloc (.cells #[.int .u8 0,.nilFunc] 85)).heap[w6.heap.size]?=some (.cells #[.int .u8 0,.nilFunc] 85):=at_newP rfl
    replace hBel:=hBel.alloc hBel.size (.cells #[.int .u8 0,.nilFunc] 85)
    have hC:=(hAll.out _ hBel).1
    have hrun:=(hAll.out _ hBel).2
    refine hK.out _ _ hC (fun hHeld=>?_)
    clear hK K hHeld
    try simp only [Act.put,List.setIfInBounds_toArray,List.set_cons_zero,List.set_cons_succ]
    refine wpAnyH_ready (rs:=[7]) (by kernel_rfl) (by simp) (AllReadyH.cons (o:=(.mk (some 80) (.lookup 60 (.tmp 76) (.tmp 79) true) 102 "read.go:151" #[.mk 3 .data,.mk 6 .data] none)) rfl (fun K hK=>?_) AllReadyH.nil)
    go_simp
    skip
    refine hK.out _ _ hC (fun hHeld=>?_)
    clear hK K hHeld
    try simp only [Act.put,List.setIfInBounds_toArray,List.set_cons_zero,List.set_cons_succ]
    refine wpAnyH_take (i:=8) (oi:=(.mk (some 72) (.move (.tmp 80)) 102 "read.go:151" #[.mk 7 .data] none)) (v:=?_) rfl (by kernel_rfl) (by kernel_rfl) (by kernel_rfl) (fun _ _ _ h=>h) (Or.inl ⟨by rfl,?_⟩) hC ?_
    rotate_left
    ·(intro w hSw;(try dsimp only at hSw);go_simp;try with_reducible rfl)
    try simp only [Act.put,List.setIfInBounds_toArray,List.set_cons_zero,List.set_cons_succ]
    refine wpAnyH_take (i:=9) (oi:=(.mk (some 81) (.extract (.tmp 72) 0) 85 "read.go:151" #[.mk 8 .data] none)) (v:=?_) rfl (by kernel_rfl) (by kernel_rfl) (by kernel_rfl) (fun _ _ _ h=>h) (Or.inl ⟨by rfl,?_⟩) hC ?_
    rotate_left
    ·(intro w hSw;(try dsimp only at hSw);go_simp;try with_reducible rfl)
    try simp only [Act.put,List.setIfInBounds_toArray,List.set_cons_zero,List.set_cons_succ]
    refine wpAnyH_take (i:=10) (oi:=(.mk (some 82) (.extract (.tmp 72) 1) 4 "read.go:151" #[.mk 8 .data,.mk 12 (.gcOnly .lateStores)] none)) (v:=?_) rfl (by kernel_rfl) (by kernel_rfl) (by kernel_rfl) (fun _ _ _ h=>h) (Or.inl ⟨by rfl,?_⟩) hC ?_
    rotate_left
    ·(intro w hSw;(try dsimp only at hSw);go_simp;try with_reducible rfl)
    try simp only [Act.put,List.setIfInBounds_toArray,List.set_cons_zero,List.set_cons_succ]
    refine wpAnyH_ready (rs:=[12]) (by kernel_rfl) (by simp) (AllReadyH.cons (o:=(.mk none (.store 85 (.tmp 9) (.tmp 81)) 0 "read.go:151" #[.mk 11 .data,.mk 9 .data,.mk 5 .chain,.mk 0 .phase,.mk 1 .phase,.mk 2 .phase,.mk 3 .phase,.mk 4 .phase,.mk 5 .phase,.mk 6 .phase,.mk 7 .phase,.mk 8 .phase,.mk 9 .phase,.mk 10 (.textOnly .lateStores),.mk 11 .phase] none)) rfl (fun K hK=>?_) AllReadyH.nil)
    go_simp
    have hBel:=hBel6.alloc hBel6.size (.cells #[.int .u8 0,.nilFunc] 85)
    have hC:=(hAll.out _ hBel).1
    refine hK.out _ _ hC (fun hHeld=>?_)
    clear hK K hHeld
    try simp only [Act.put,List.setIfInBounds_toArray,List.set_cons_zero,List.set_cons_succ]
    refine wpAnyH_take (i:=13) (oi:=(.mk (some 10) (.assign (.tmp 82)) 4 "read.go:151" #[.mk 10 .data,.mk 12 .chain,.mk 0 .phase,.mk 1 .phase,.mk 2 .phase,.mk 3 .phase,.mk 4 .phase,.mk 5 .phase,.mk 6 .phase,.mk 7 .phase,.mk 8 .phase,.mk 9 .phase,.mk 10 .phase,.mk 11 .phase,.mk 12 .phase] none)) (v:=?_) rfl (by kernel_rfl) (by kernel_rfl) (by kernel_rfl) (fun _ _ _ h=>h) (Or.inl ⟨by rfl,?_⟩) hC ?_
    rotate_left
    ·(intro w hSw;(try dsimp only at hSw);go_simp;try with_reducible rfl)
    try simp only [Act.put,List.setIfInBounds_toArray,List.set_cons_zero,List.set_cons_succ]
    refine wpAnyH_done (by kernel_rfl) ?_ _
    go_wp2_with fail
    go_meet
    exact⟨rfl,w6.heap.size,rfl,Lib.hid ⟨hBel,at_newP rfl,hBel6.size⟩⟩
  ·skip
   go_simp
   have hbox:(wb.drew.alloc (.cells #[.int .u8 0,.nilFunc] 85)).heap[wb.heap.size]?=some (.cells #[.int .u8 0,.nilFunc] 85):=at_newP rfl
   replace hBel:=hBel.alloc hBel.size (.cells #[.int .u8 0,.nilFunc] 85)
   have hC:=(hAll.out _ hBel).1
   have hrun:=(hAll.out _ hBel).2
   refine hK.out _ _ hC (fun hHeld=>?_)
   clear hK K hHeld
   try simp only [Act.put,List.setIfInBounds_toArray,List.set_cons_zero,List.set_cons_succ]
   refine wpAnyH_ready (rs:=[5]) (by kernel_rfl) (by simp) (AllReadyH.cons (o:=(.mk (some 78) (.call (.mk (.value (.func 19)) #[(.tmp 77)] #[59])) 38 "read.go:151" #[.mk 4 .data] none)) rfl (fun K hK=>?_) AllReadyH.nil)
   go_simp
   go_at_call 19
   refine (hwd.out _ hBel).mono ?_
   rintro e w6 ⟨rfl,hb6⟩
   replace hbox:=keepB hb6 hbox
   obtain⟨z0,z1⟩:=cells2P hbox
   have y0:=frozB hbox 0
   have y1:=frozB hbox 1
   have l6:wb.heap.size<w6.heap.size:=by have:=hb6.size;simp at this;omega
   replace hBel:=hBel.trans (hb6.mono hBel.size)
   have hBel6:=hBel
   have hC:=(hAll.out _ hBel).1
   have hrun:=(hAll.out _ hBel).2
   go_simp
   refine hK.out _ _ hC (fun hHeld=>?_)
   clear hK K hHeld
   try simp only [Act.put,List.setIfInBounds_toArray,List.set_cons_zero,List.set_cons_succ]
   refine wpAnyH_take (i:=6) (oi:=(.mk (some 79) (.field 38 (.tmp 78) 1) 9 "read.go:151" #[.mk 5 .data] none)) (v:=?_) rfl (by kernel_rfl) (by kernel_rfl) (by kernel_rfl) (fun _ _ _ h=>h) (Or.inl ⟨by rfl,?_⟩) hC ?_
   rotate_left
   ·(intro w hSw;(try dsimp only at hSw);go_simp;try with_reducible rfl)
   try simp only [Act.put,List.setIfInBounds_toArray,List.set_cons_zero,List.set_cons_succ]
   refine wpAnyH_ready (rs:=[7]) (by kernel_rfl) (by simp) (AllReadyH.cons (o:=(.mk (some 80) (.lookup 60 (.tmp 76) (.tmp 79) true) 102 "read.go:151" #[.mk 3 .data,.mk 6 .data] none)) rfl (fun K hK=>?_) AllReadyH.nil)
   go_simp
   skip
   refine hK.out _ _ hC (fun hHeld=>?_)
   clear hK K hHeld
   try simp only [Act.put,List.setIfInBounds_toArray,List.set_cons_zero,List.set_cons_succ]
   refine wpAnyH_take (i:=8) (oi:=(.mk (some 72) (.move (.tmp 80)) 102 "read.go:151" #[.mk 7 .data] none)) (v:=?_) rfl (by kernel_rfl) (by kernel_rfl) (by kernel_rfl) (fun _ _ _ h=>h) (Or.inl ⟨by rfl,?_⟩) hC ?_
   rotate_left
   ·(intro w hSw;(try dsimp only at hSw);go_simp;try with_reducible rfl)
   try simp only [Act.put,List.setIfInBounds_toArray,List.set_cons_zero,List.set_cons_succ]
   refine wpAnyH_take (i:=9) (oi:=(.mk (some 81) (.extract (.tmp 72) 0) 85 "read.go:151" #[.mk 8 .data] none)) (v:=?_) rfl (by kernel_rfl) (by kernel_rfl) (by kernel_rfl) (fun _ _ _ h=>h) (Or.inl ⟨by rfl,?_⟩) hC ?_
   rotate_left
   ·(intro w hSw;(try dsimp only at hSw);go_simp;try with_reducible rfl)
   try simp only [Act.put,List.setIfInBounds_toArray,List.set_cons_zero,List.set_cons_succ]
   refine wpAnyH_take (i:=10) (oi:=(.mk (some 82) (.extract (.tmp 72) 1) 4 "read.go:151" #[.mk 8 .data,.mk 12 (.gcOnly .lateStores)] none)) (v:=?_) rfl (by kernel_rfl) (by kernel_rfl) (by kernel_rfl) (fun _ _ _ h=>h) (Or.inl ⟨by rfl,?_⟩) hC ?_
   rotate_left
   ·(intro w hSw;(try dsimp only at hSw);go_simp;try with_reducible rfl)
   try simp only [Act.put,List.setIfInBounds_toArray,List.set_cons_zero,List.set_cons_succ]
   refine wpAnyH_ready (rs:=[12]) (by kernel_rfl) (by simp) (AllReadyH.cons (o:=(.mk none (.store 85 (.tmp 9) (.tmp 81)) 0 "read.go:151" #[.mk 11 .data,.mk 9 .data,.mk 5 .chain,.mk 0 .phase,.mk 1 .phase,.mk 2 .phase,.mk 3 .phase,.mk 4 .phase,.mk 5 .phase,.mk 6 .phase,.mk 7 .phase,.mk 8 .phase,.mk 9 .phase,.mk 10 (.textOnly .lateStores),.mk 11 .phase] none)) rfl (fun K hK=>?_) AllReadyH.nil)
   go_simp
   replace hBel:=(hBel.setCell (p:=⟨wb.heap.size,0,none⟩) (Nat.le_refl _) (.int .u8 0)).setCell (p:=⟨wb.heap.size,1,none⟩) (Nat.le_refl _) .nilFunc
   have hC:=(hAll.out _ hBel).1
   refine hK.out _ _ hC (fun hHeld=>?_)
   clear hK K hHeld
   try simp only [Act.put,List.setIfInBounds_toArray,List.set_cons_zero,List.set_cons_succ]
   refine wpAnyH_take (i:=13) (oi:=(.mk (some 10) (.assign (.tmp 82)) 4 "read.go:151" #[.mk 10 .data,.mk 12 .chain,.mk 0 .phase,.mk 1 .phase,.mk 2 .phase,.mk 3 .phase,.mk 4 .phase,.mk 5 .phase,.mk 6 .phase,.mk 7 .phase,.mk 8 .phase,.mk 9 .phase,.mk 10 .phase,.mk 11 .phase,.mk 12 .phase] none)) (v:=?_) rfl (by kernel_rfl) (by kernel_rfl) (by kernel_rfl) (fun _ _ _ h=>h) (Or.inl ⟨by rfl,?_⟩) hC ?_
   rotate_left
   ·(intro w hSw;(try dsimp only at hSw);go_simp;try with_reducible rfl)
   try simp only [Act.put,List.setIfInBounds_toArray,List.set_cons_zero,List.set_cons_succ]
   refine wpAnyH_done (by kernel_rfl) ?_ _
   go_wp2_with fail
   go_meet
   exact⟨rfl,wb.heap.size,rfl,Lib.hid ⟨hBel,blk_set (i:=1) _ (blk_set (i:=0) _ hbox),Nat.le_refl _⟩⟩
 case rest=>
  obtain⟨rfl,b9,rfl,hcc⟩:=hcut
  rename World=>wx
  have hPC:=Lib.hid (hPB.out.below hcc.out.1)
  have tc:=Touch.of_below hcc.out.1 (fun k=>k=pb)
  have hFC:=Lib.hid (hFB.out.keep tc (fun k e=>by subst e;omega))
  have tC:=Lib.hid (tB.out.trans tc)
  have hBC:=Lib.hid hcc.out.2.1
  have hbox9:b9≠pb∧b9<wx.heap.size:=⟨fun e=>by have h1:=hcc.out.2.2;have h2:=hPB.out.ltP;have h3:=hPB.out.top;omega,(Array.getElem?_eq_some_iff.1 hcc.out.2.1).1⟩
  go_wp2_with (go_at_call 40;refine (hrf.out _ hPC.out).mono ?_;rintro e wz ⟨rfl,hbz⟩)
  exact⟨rfl,gtch_pb (tC.out.trans (Touch.of_below hbz _)),rfl⟩
set_option maxRecDepth 20000 in
set_option maxHeartbeats 4000000 in
theorem inside_none_namebad {nm:ByteArray}{ps:List ByteArray}{vp vc:Value}{gb capb:Nat}{bs:List Blk}{x:Blk}(h:PAt B w pb gw cw T i ln vb bb)(hF:FOp Bp Bf w Sf d.name d.params vp (.slice (some ⟨gb,0,none⟩) (bs.length+1) capb) vc bs x)(hd:d.blocks=bs++[x])(hnb:d.blocks.length≤i)(hnc:∀y∈d.blocks,y.code.length≤i)(hlo:B≤Sf)(hBp:B≤Bp){s:ByteArray}{l:List Tok}(hn:nameP (T.drop i) ln=.ok (s,l))(h58:isB l ln 58=false)(hbf:bareF s.data.toList=none){l2:List Tok}(hs:signP 61 l ln=.ok l2){op:Nat}{r:Rst}(hvf:valueF (headT l2)=some ((op:Int),r)){f:Flt}(hn2:nameP l2 ln=.error f):Calls Tryd.prog 45 #[.pointer (some ⟨pb,0,none⟩),.pointer (some ⟨Sf,0,none⟩)] w (GPost B Bp Bf pb gw cw T ln vb bb Sf w (.error f)):=by
 obtain⟨ac,cc,hvc⟩:=hF.code.form
 subst hvc
 obtain⟨n,hnn⟩:∃n,n=x.code.length:=⟨_,rfl⟩
 rw [←hnn] at hF
 have hnl:n≤i:=by rw [hnn];exact hnc x (by rw [hd];exact List.mem_append.2 (.inr (List.mem_singleton.2 rfl)))
 replace hnn:=Lib.hid hnn
 have hk:=Lib.hid (name_ok h hn)
 have hl:l=T.drop (i+1):=by obtain⟨t,e,-⟩:=name_len hn;exact drop_next e
 have hlen:i<2000000:=by have:=h.here;have:=h.ok.len;omega
 have h1:=h.ltP
 have h2:=hF.lt
 have hok:=Lib.hid h.ok
 have h3:=hF.top
 have hss:s.size≤maxLen:=by
  obtain⟨t,e,e2,-⟩:=name_len hn
  have:=h.ok.text t (by have:t∈T.drop i:=(by rw [e];exact List.mem_cons_self ..);exact List.mem_of_mem_drop this)
  rw [e2]
  show t.text.toArray.size≤maxLen
  rw [List.size_toArray]
  unfold maxLen
  omega
 have hkey:=Lib.hid (keyOf_string_mk Tryd.underlying9 hss)
 have hfv:=Lib.hid (forms_no hbf)
 rw [hl] at hs h58
 have hi58:=Lib.hid (fun (w':World) (hP:PAt B w' pb gw cw T (i+1) ln vb bb)=>is_any hP 58 h58)
 have hl2:l2=T.drop (i+1+1):=by obtain⟨t,e,-⟩:=sign_len hs;exact drop_next e
 have hsg:=Lib.hid (fun (w':World) (hP:PAt B w' pb gw cw T (i+1) ln vb bb)=>sign_ok hP hs)
 rw [hl2] at hvf
 rw [hl2] at hn2
 have hvk:=Lib.hid (fun (t:Tok) (ht:T[i+1+1]?=some t)=>(show formsV valueF (.string t.text)=_ from forms_of (by
  have e:T.drop (i+1+1)=t::T.drop (i+1+1+1):=by
   obtain⟨hlt,e⟩:=List.getElem?_eq_some_iff.1 ht
   rw [List.drop_eq_getElem_cons hlt,e]
  rw [e] at hvf
  exact hvf)))
 have hnk:=Lib.hid (fun (w':World) (hP:PAt B w' pb gw cw T (i+1+1) ln vb bb)=>name_bad hP hn2)
 obtain⟨m,hm⟩:∃m,m=bs.length:=⟨_,rfl⟩
 rw [←hm] at hF
 have hmb:m≤2000000:=by rw [hd,List.length_append] at hnb;omega
 replace hm:=Lib.hid hm
 replace hF:=Lib.hid hF
 replace hd:=Lib.hid hd
 replace hnc:=Lib.hid hnc
 replace hnb:=Lib.hid hnb
 clear h hn h58 hl hbf hss hs hl2 hvf hn2
 go_enter Tryd.func45,Tryd.ntmps45
 go_wp2_with fail
 refine hk.out.mono ?_
 rintro e w2 ⟨rfl,hP2,hT2⟩
 have hF2:=hF.out.keep hT2 (fun k e=>by subst e;omega)
 have c2:w2.cell? ⟨Sf,2,none⟩=some (.slice (some ⟨gb,0,none⟩) (m+1) capb):=by rw [blk_cell hF2.blk];rfl
 have hm0:decide ((m:Int)<0)=false:=by simp
 replace hP2:=Lib.hid hP2
 replace hT2:=Lib.hid hT2
 replace hF2:=Lib.hid hF2
 go_wp2_with fail
 refine (hi58.out _ hP2.out).mono ?_
 rintro e w3 ⟨rfl,hb3⟩
 have hP3:=hP2.out.below hb3
 have t3:=Touch.of_below hb3 (fun k=>k=pb)
 have hF3:=hF2.out.keep t3 (fun k e=>by subst e;omega)
 have c3:w3.cell? ⟨Sf,2,none⟩=some (.slice (some ⟨gb,0,none⟩) (m+1) capb):=by rw [blk_cell hF3.blk];rfl
 have p4:w3.cell? ⟨pb,4,none⟩=some (.map (some bb)):=by rw [blk_cell hP3.blk];rfl
 have hM3:=Lib.hid hP3.bmap
 have htop3:Bf≤w3.heap.size:=hF3.top
 have hP3:=Lib.hid hP3
 have t3:=Lib.hid t3
 have hF3:=Lib.hid hF3
 clear c2 hb3
 go_upto_region 7 with (refine wpList_vmap_ok rfl _ _ _ rfl 9 85 lawF Tryd.underlying60 (zF _) bb 6 (formsV bareF) hM3.out rfl _ _ rfl hkey.out ?_;rw [hfv.out];simp only [Option.getD_some,Option.getD_none,Option.isSome_some,Option.isSome_none])
 have hb4:Below w3.heap.size w3 (w3.alloc (.cells #[.int .u8 0,.nilFunc] 85)):=(Below.refl _ _).alloc (Nat.le_refl _) _
 have hB7:(w3.alloc (.cells #[.int .u8 0,.nilFunc] 85)).heap[w3.heap.size]?=some (.cells #[.int .u8 0,.nilFunc] 85 (0,0)):=at_newP rfl
 generalize hw4:(w3.alloc (.cells #[.int .u8 0,.nilFunc] 85))=w4 at hb4 hB7 ⊢
 have hz4:w4.heap.size=w3.heap.size+1:=by rw [←hw4];simp
 clear hw4
 obtain⟨t7,ht7⟩:∃t7,t7=w3.heap.size:=⟨_,rfl⟩
 rw [←ht7] at hB7 ⊢
 have hP4:=Lib.hid (hP3.out.below hb4)
 have t4:=Lib.hid (Touch.of_below hb4 (fun k=>k=pb))
 have hF4:=Lib.hid (hF3.out.keep t4.out (fun k e=>by subst e;omega))
 replace hB7:=Lib.hid hB7
 have ht7p:t7≠pb∧t7<w4.heap.size:=⟨by omega,by omega⟩
 replace ht7:=Lib.hid ht7
 replace hz4:=Lib.hid hz4
 clear c3 p4 hM3 hb4
 have hPA:=hP4
 have hFA:=hF4
 have tA:=Lib.hid ((hT2.out.trans t3.out).trans t4.out)
 go_wp2_with fail
 refine (hsg.out _ hPA.out).mono ?_
 rintro e wb ⟨rfl,hPB,hTB⟩
 have hFB:=Lib.hid (hFA.out.keep hTB (fun k e=>by subst e;omega))
 have tB:=Lib.hid (tA.out.trans hTB)
 obtain⟨tk,htk,-⟩:=hPB.at
 have hwd:=Lib.hid (fun (w':World) (hb:Below wb.heap.size wb w')=>word_any (hPB.below hb) htk)
 have hkz:tk.text.toArray.size≤maxLen:=by
  have:=hPB.ok.text tk (List.mem_of_getElem? htk)
  rw [List.size_toArray]
  unfold maxLen
  omega
 have hkey2:keyOf Tryd.prog 9 (.string (nmT tk))=some (.string tk.text):=keyOf_string_mk (s:=nmT tk) Tryd.underlying9 hkz
 have hvt:=hvk.out tk htk
 have hAll:=Lib.hid (fun (w':World) (hb:Below wb.heap.size wb w')=>(show w'.cell? ⟨pb,3,none⟩=some (.map (some vb))∧(Instr.lookup 60 (.map (some vb)) (.string (nmT tk)) true).run Tryd.prog w'=.ok (.tuple #[.agg #[.int .u8 op,.func (.func (rstF r)) #[] #[]],.bool true]) w' from by
  have hPb:=hPB.below hb
  refine⟨by rw [blk_cell hPb.blk];rfl,?_⟩
  have:=vmap_run (zF w') lawF Tryd.underlying60 hPb.vmap hkey2
  rw [hvt] at this
  exact this))
 unfold tokV at hwd
 replace hPB:=Lib.hid hPB
 clear hTB htk hkz hkey2 hvt hvk
 go_upto_region 10 with fail
 go_cut [9,10] from 72 to 82 (fun v9 v10 wx=>v10=.bool true∧∃b9,v9=.pointer (some ⟨b9,0,none⟩)∧Hid (Below wb.heap.size wb wx∧wx.heap[b9]?=some (.cells #[.int .u8 op,.func (.func (rstF r)) #[] #[]] 85 (0,0))∧wb.heap.size≤b9))
 case first=>
  have hBel:Below wb.heap.size wb wb.drew:=(Below.refl _ _).drew
  have hC:=(hAll.out _ hBel).1
  refine wp_region_held_drew (S:=(fun w'=>w'.cell? ⟨pb,3,none⟩=some (.map (some vb)))) (by kernel_rfl) hC (fun hHeld=>?_)
  clear hHeld
  refine wpAnyH_take (i:=0) (oi:=(.mk (some 73) (.move (.tmp 0)) 59 "read.go:151" #[] none)) (v:=?_) rfl (by kernel_rfl) (by kernel_rfl) (by kernel_rfl) (fun _ _ _ h=>h) (Or.inl ⟨by rfl,?_⟩) hC ?_
  rotate_left
  ·(intro w hSw;(try dsimp only at hSw);go_simp;try with_reducible rfl)
  try simp only [Act.put,List.setIfInBounds_toArray,List.set_cons_zero,List.set_cons_succ]
  refine wpAnyH_take (i:=1) (oi:=(.mk (some 74) (.nilCheck (.tmp 73)) 0 "read.go:151" #[.mk 0 .data] none)) (v:=?_) rfl (by kernel_rfl) (by kernel_rfl) (by kernel_rfl) (fun _ _ _ h=>h) (Or.inl ⟨by rfl,?_⟩) hC ?_
  rotate_left
  ·(intro w hSw;(try dsimp only at hSw);go_simp;try with_reducible rfl)
  try simp only [Act.put,List.setIfInBounds_toArray,List.set_cons_zero,List.set_cons_succ]
  refine wpAnyH_take (i:=2) (oi:=(.mk (some 75) (.fieldAddr 63 (.tmp 74) 3) 0 "read.go:151" #[.mk 1 .data] none)) (v:=?_) rfl (by kernel_rfl) (by kernel_rfl) (by kernel_rfl) (fun _ _ _ h=>h) (Or.inl ⟨by rfl,?_⟩) hC ?_
  rotate_left
  ·(intro w hSw;(try dsimp only at hSw);go_simp;try with_reducible rfl)
  try simp only [Act.put,List.setIfInBounds_toArray,List.set_cons_zero,List.set_cons_succ]
  refine wpAnyH_take (i:=3) (oi:=(.mk (some 76) (.load 60 (.tmp 75)) 60 "read.go:151" #[.mk 2 .data] none)) (v:=?_) rfl (by kernel_rfl) (by kernel_rfl) (by kernel_rfl) (fun _ _ _ h=>h) (Or.inl ⟨by rfl,?_⟩) hC ?_
  rotate_left
  ·(intro w hSw;(try dsimp only at hSw);go_simp;try with_reducible rfl)
  try simp only [Act.put,List.setIfInBounds_toArray,List.set_cons_zero,List.set_cons_succ]
  refine wpAnyH_take (i:=4) (oi:=(.mk (some 77) (.move (.tmp 0)) 59 "read.go:151" #[] none)) (v:=?_) rfl (by kernel_rfl) (by kernel_rfl) (by kernel_rfl) (fun _ _ _ h=>h) (Or.inl ⟨by rfl,?_⟩) hC ?_
  rotate_left
  ·(intro w hSw;(try dsimp only at hSw);go_simp;try with_reducible rfl)
  try simp only [Act.put,List.setIfInBounds_toArray,List.set_cons_zero,List.set_cons_succ]
  refine wpAnyH_ready (rs:=[5,11]) (by kernel_rfl) (by simp) (AllReadyH.cons (o:=(.mk (some 78) (.call (.mk (.value (.func 19)) #[(.tmp 77)] #[59])) 38 "read.go:151" #[.mk 4 .data] none)) rfl (fun K hK=>?_) (AllReadyH.cons (o:=(.mk (some 9) (.alloc 85) 0 "read.go:151" #[] none)) rfl (fun K hK=>?_) AllReadyH.nil))
  ·skip
   go_simp
   go_at_call 19
   refine (hwd.out _ hBel).mono ?_
   rintro e w6 ⟨rfl,hb6⟩
   replace hBel:=hBel.trans (hb6.mono hBel.size)
   have hBel6:=hBel
   have hC:=(hAll.out _ hBel).1
   have hrun:=(hAll.out _ hBel).2
   go_simp
   refine hK.out _ _ hC (fun hHeld=>?_)
   clear hK K hHeld
   try simp only [Act.put,List.setIfInBounds_toArray,List.set_cons_zero,List.set_cons_succ]
   refine wpAnyH_take (i:=6) (oi:=(.mk (some 79) (.field 38 (.tmp 78) 1) 9 "read.go:151" #[.mk 5 .data] none)) (v:=?_) rfl (by kernel_rfl) (by kernel_rfl) (by kernel_rfl) (fun _ _ _ h=>h) (Or.inl ⟨by rfl,?_⟩) hC ?_
   rotate_left
   ·(intro w hSw;(try dsimp only at hSw);go_simp;try with_reducible rfl)
   try simp only [Act.put,List.setIfInBounds_toArray,List.set_cons_zero,List.set_cons_succ]
   refine wpAnyH_ready (rs:=[7,11]) (by kernel_rfl) (by simp) (AllReadyH.cons (o:=(.mk (some 80) (.lookup 60 (.tmp 76) (.tmp 79) true) 102 "read.go:151" #[.mk 3 .data,.mk 6 .data] none)) rfl (fun K hK=>?_) (AllReadyH.cons (o:=(.mk (some 9) (.alloc 85) 0 "read.go:151" #[] none)) rfl (fun K hK=>?_) AllReadyH.nil))
   ·skip
    go_simp
    skip
    refine hK.out _ _ hC (fun hHeld=>?_)
    clear hK K hHeld
    try simp only [Act.put,List.setIfInBounds_toArray,List.set_cons_zero,List.set_cons_succ]
    refine wpAnyH_take (i:=8) (oi:=(.mk (some 72) (.move (.tmp 80)) 102 "read.go:151" #[.mk 7 .data] none)) (v:=?_) rfl (by kernel_rfl) (by kernel_rfl) (by kernel_rfl) (fun _ _ _ h=>h) (Or.inl ⟨by rfl,?_⟩) hC ?_
    rotate_left
    ·(intro w hSw;(try dsimp only at hSw);go_simp;try with_reducible rfl)
    try simp only [Act.put,List.setIfInBounds_toArray,List.set_cons_zero,List.set_cons_succ]
    refine wpAnyH_take (i:=9) (oi:=(.mk (some 81) (.extract (.tmp 72) 0) 85 "read.go:151" #[.mk 8 .data] none)) (v:=?_) rfl (by kernel_rfl) (by kernel_rfl) (by kernel_rfl) (fun _ _ _ h=>h) (Or.inl ⟨by rfl,?_⟩) hC ?_
    rotate_left
    ·(intro w hSw;(try dsimp only at hSw);go_simp;try with_reducible rfl)
    try simp only [Act.put,List.setIfInBounds_toArray,List.set_cons_zero,List.set_cons_succ]
    refine wpAnyH_take (i:=10) (oi:=(.mk (some 82) (.extract (.tmp 72) 1) 4 "read.go:151" #[.mk 8 .data,.mk 12 (.gcOnly .lateStores)] none)) (v:=?_) rfl (by kernel_rfl) (by kernel_rfl) (by kernel_rfl) (fun _ _ _ h=>h) (Or.inl ⟨by rfl,?_⟩) hC ?_
    rotate_left
    ·(intro w hSw;(try dsimp only at hSw);go_simp;try with_reducible rfl)
    try simp only [Act.put,List.setIfInBounds_toArray,List.set_cons_zero,List.set_cons_succ]
    refine wpAnyH_ready (rs:=[11]) (by kernel_rfl) (by simp) (AllReadyH.cons (o:=(.mk (some 9) (.alloc 85) 0 "read.go:151" #[] none)) rfl (fun K hK=>?_) AllReadyH.nil)
    go_simp
    have hbox:(w6.alloc (.cells #[.int .u8 0,.nilFunc] 85)).heap[w6.heap.size]?=some (.cells #[.int .u8 0,.nilFunc] 85):=at_newP rfl
    replace hBel:=hBel.alloc hBel.size (.cells #[.int .u8 0,.nilFunc] 85)
    have hC:=(hAll.out _ hBel).1
    have hrun:=(hAll.out _ hBel).2
    refine hK.out _ _ hC (fun hHeld=>?_)
    clear hK K hHeld
    try simp only [Act.put,List.setIfInBounds_toArray,List.set_cons_zero,List.set_cons_succ]
    refine wpAnyH_ready (rs:=[12]) (by kernel_rfl) (by simp) (AllReadyH.cons (o:=(.mk none (.store 85 (.tmp 9) (.tmp 81)) 0 "read.go:151" #[.mk 11 .data,.mk 9 .data,.mk 5 .chain,.mk 0 .phase,.mk 1 .phase,.mk 2 .phase,.mk 3 .phase,.mk 4 .phase,.mk 5 .phase,.mk 6 .phase,.mk 7 .phase,.mk 8 .phase,.mk 9 .phase,.mk 10 (.textOnly .lateStores),.mk 11 .phase] none)) rfl (fun K hK=>?_) AllReadyH.nil)
    go_simp
    have hBel:=hBel6.alloc hBel6.size (.cells #[.int .u8 op,.func (.func (rstF r)) #[] #[]] 85)
    have hC:=(hAll.out _ hBel).1
    refine hK.out _ _ hC (fun hHeld=>?_)
    clear hK K hHeld
    try simp only [Act.put,List.setIfInBounds_toArray,List.set_cons_zero,List.set_cons_succ]
    refine wpAnyH_take (i:=13) (oi:=(.mk (some 10) (.assign (.tmp 82)) 4 "read.go:151" #[.mk 10 .data,.mk 12 .chain,.mk 0 .phase,.mk 1 .phase,.mk 2 .phase,.mk 3 .phase,.mk 4 .phase,.mk 5 .phase,.mk 6 .phase,.mk 7 .phase,.mk 8 .phase,.mk 9 .phase,.mk 10 .phase,.mk 11 .phase,.mk 12 .phase] none)) (v:=?_) rfl (by kernel_rfl) (by kernel_rfl) (by kernel_rfl) (fun _ _ _ h=>h) (Or.inl ⟨by rfl,?_⟩) hC ?_
    rotate_left
    ·(intro w hSw;(try dsimp only at hSw);go_simp;try with_reducible rfl)
    try simp only [Act.put,List.setIfInBounds_toArray,List.set_cons_zero,List.set_cons_succ]
    refine wpAnyH_done (by kernel_rfl) ?_ _
    go_wp2_with fail
    go_meet
    exact⟨rfl,w6.heap.size,rfl,Lib.hid ⟨hBel,at_newP rfl,hBel6.size⟩⟩
   ·skip
    go_simp
    have hbox:(w6.alloc (.cells #[.int .u8 0,.nilFunc] 85)).heap[w6.heap.size]?=some (.cells #[.int .u8 0,.nilFunc] 85):=at_newP rfl
    replace hBel:=hBel.alloc hBel.size (.cells #[.int .u8 0,.nilFunc] 85)
    have hC:=(hAll.out _ hBel).1
    have hrun:=(hAll.out _ hBel).2
    refine hK.out _ _ hC (fun hHeld=>?_)
    clear hK K hHeld
    try simp only [Act.put,List.setIfInBounds_toArray,List.set_cons_zero,List.set_cons_succ]
    refine wpAnyH_ready (rs:=[7]) (by kernel_rfl) (by simp) (AllReadyH.cons (o:=(.mk (some 80) (.lookup 60 (.tmp 76) (.tmp 79) true) 102 "read.go:151" #[.mk 3 .data,.mk 6 .data] none)) rfl (fun K hK=>?_) AllReadyH.nil)
    go_simp
    skip
    refine hK.out _ _ hC (fun hHeld=>?_)
    clear hK K hHeld
    try simp only [Act.put,List.setIfInBounds_toArray,List.set_cons_zero,List.set_cons_succ]
    refine wpAnyH_take (i:=8) (oi:=(.mk (some 72) (.move (.tmp 80)) 102 "read.go:151" #[.mk 7 .data] none)) (v:=?_) rfl (by kernel_rfl) (by kernel_rfl) (by kernel_rfl) (fun _ _ _ h=>h) (Or.inl ⟨by rfl,?_⟩) hC ?_
    rotate_left
    ·(intro w hSw;(try dsimp only at hSw);go_simp;try with_reducible rfl)
    try simp only [Act.put,List.setIfInBounds_toArray,List.set_cons_zero,List.set_cons_succ]
    refine wpAnyH_take (i:=9) (oi:=(.mk (some 81) (.extract (.tmp 72) 0) 85 "read.go:151" #[.mk 8 .data] none)) (v:=?_) rfl (by kernel_rfl) (by kernel_rfl) (by kernel_rfl) (fun _ _ _ h=>h) (Or.inl ⟨by rfl,?_⟩) hC ?_
    rotate_left
    ·(intro w hSw;(try dsimp only at hSw);go_simp;try with_reducible rfl)
    try simp only [Act.put,List.setIfInBounds_toArray,List.set_cons_zero,List.set_cons_succ]
    refine wpAnyH_take (i:=10) (oi:=(.mk (some 82) (.extract (.tmp 72) 1) 4 "read.go:151" #[.mk 8 .data,.mk 12 (.gcOnly .lateStores)] none)) (v:=?_) rfl (by kernel_rfl) (by kernel_rfl) (by kernel_rfl) (fun _ _ _ h=>h) (Or.inl ⟨by rfl,?_⟩) hC ?_
    rotate_left
    ·(intro w hSw;(try dsimp only at hSw);go_simp;try with_reducible rfl)
    try simp only [Act.put,List.setIfInBounds_toArray,List.set_cons_zero,List.set_cons_succ]
    refine wpAnyH_ready (rs:=[12]) (by kernel_rfl) (by simp) (AllReadyH.cons (o:=(.mk none (.store 85 (.tmp 9) (.tmp 81)) 0 "read.go:151" #[.mk 11 .data,.mk 9 .data,.mk 5 .chain,.mk 0 .phase,.mk 1 .phase,.mk 2 .phase,.mk 3 .phase,.mk 4 .phase,.mk 5 .phase,.mk 6 .phase,.mk 7 .phase,.mk 8 .phase,.mk 9 .phase,.mk 10 (.textOnly .lateStores),.mk 11 .phase] none)) rfl (fun K hK=>?_) AllReadyH.nil)
    go_simp
    have hBel:=hBel6.alloc hBel6.size (.cells #[.int .u8 op,.func (.func (rstF r)) #[] #[]] 85)
    have hC:=(hAll.out _ hBel).1
    refine hK.out _ _ hC (fun hHeld=>?_)
    clear hK K hHeld
    try simp only [Act.put,List.setIfInBounds_toArray,List.set_cons_zero,List.set_cons_succ]
    refine wpAnyH_take (i:=13) (oi:=(.mk (some 10) (.assign (.tmp 82)) 4 "read.go:151" #[.mk 10 .data,.mk 12 .chain,.mk 0 .phase,.mk 1 .phase,.mk 2 .phase,.mk 3 .phase,.mk 4 .phase,.mk 5 .phase,.mk 6 .phase,.mk 7 .phase,.mk 8 .phase,.mk 9 .phase,.mk 10 .phase,.mk 11 .phase,.mk 12 .phase] none)) (v:=?_) rfl (by kernel_rfl) (by kernel_rfl) (by kernel_rfl) (fun _ _ _ h=>h) (Or.inl ⟨by rfl,?_⟩) hC ?_
    rotate_left
    ·(intro w hSw;(try dsimp only at hSw);go_simp;try with_reducible rfl)
    try simp only [Act.put,List.setIfInBounds_toArray,List.set_cons_zero,List.set_cons_succ]
    refine wpAnyH_done (by kernel_rfl) ?_ _
    go_wp2_with fail
    go_meet
    exact⟨rfl,w6.heap.size,rfl,Lib.hid ⟨hBel,at_newP rfl,hBel6.size⟩⟩
  ·skip
   go_simp
   have hbox:(wb.drew.alloc (.cells #[.int .u8 0,.nilFunc] 85)).heap[wb.heap.size]?=some (.cells #[.int .u8 0,.nilFunc] 85):=at_newP rfl
   replace hBel:=hBel.alloc hBel.size (.cells #[.int .u8 0,.nilFunc] 85)
   have hC:=(hAll.out _ hBel).1
   have hrun:=(hAll.out _ hBel).2
   refine hK.out _ _ hC (fun hHeld=>?_)
   clear hK K hHeld
   try simp only [Act.put,List.setIfInBounds_toArray,List.set_cons_zero,List.set_cons_succ]
   refine wpAnyH_ready (rs:=[5]) (by kernel_rfl) (by simp) (AllReadyH.cons (o:=(.mk (some 78) (.call (.mk (.value (.func 19)) #[(.tmp 77)] #[59])) 38 "read.go:151" #[.mk 4 .data] none)) rfl (fun K hK=>?_) AllReadyH.nil)
   go_simp
   go_at_call 19
   refine (hwd.out _ hBel).mono ?_
   rintro e w6 ⟨rfl,hb6⟩
   replace hbox:=keepB hb6 hbox
   obtain⟨z0,z1⟩:=cells2P hbox
   have y0:=frozB hbox 0
   have y1:=frozB hbox 1
   have l6:wb.heap.size<w6.heap.size:=by have:=hb6.size;simp at this;omega
   replace hBel:=hBel.trans (hb6.mono hBel.size)
   have hBel6:=hBel
   have hC:=(hAll.out _ hBel).1
   have hrun:=(hAll.out _ hBel).2
   go_simp
   refine hK.out _ _ hC (fun hHeld=>?_)
   clear hK K hHeld
   try simp only [Act.put,List.setIfInBounds_toArray,List.set_cons_zero,List.set_cons_succ]
   refine wpAnyH_take (i:=6) (oi:=(.mk (some 79) (.field 38 (.tmp 78) 1) 9 "read.go:151" #[.mk 5 .data] none)) (v:=?_) rfl (by kernel_rfl) (by kernel_rfl) (by kernel_rfl) (fun _ _ _ h=>h) (Or.inl ⟨by rfl,?_⟩) hC ?_
   rotate_left
   ·(intro w hSw;(try dsimp only at hSw);go_simp;try with_reducible rfl)
   try simp only [Act.put,List.setIfInBounds_toArray,List.set_cons_zero,List.set_cons_succ]
   refine wpAnyH_ready (rs:=[7]) (by kernel_rfl) (by simp) (AllReadyH.cons (o:=(.mk (some 80) (.lookup 60 (.tmp 76) (.tmp 79) true) 102 "read.go:151" #[.mk 3 .data,.mk 6 .data] none)) rfl (fun K hK=>?_) AllReadyH.nil)
   go_simp
   skip
   refine hK.out _ _ hC (fun hHeld=>?_)
   clear hK K hHeld
   try simp only [Act.put,List.setIfInBounds_toArray,List.set_cons_zero,List.set_cons_succ]
   refine wpAnyH_take (i:=8) (oi:=(.mk (some 72) (.move (.tmp 80)) 102 "read.go:151" #[.mk 7 .data] none)) (v:=?_) rfl (by kernel_rfl) (by kernel_rfl) (by kernel_rfl) (fun _ _ _ h=>h) (Or.inl ⟨by rfl,?_⟩) hC ?_
   rotate_left
   ·(intro w hSw;(try dsimp only at hSw);go_simp;try with_reducible rfl)
   try simp only [Act.put,List.setIfInBounds_toArray,List.set_cons_zero,List.set_cons_succ]
   refine wpAnyH_take (i:=9) (oi:=(.mk (some 81) (.extract (.tmp 72) 0) 85 "read.go:151" #[.mk 8 .data] none)) (v:=?_) rfl (by kernel_rfl) (by kernel_rfl) (by kernel_rfl) (fun _ _ _ h=>h) (Or.inl ⟨by rfl,?_⟩) hC ?_
   rotate_left
   ·(intro w hSw;(try dsimp only at hSw);go_simp;try with_reducible rfl)
   try simp only [Act.put,List.setIfInBounds_toArray,List.set_cons_zero,List.set_cons_succ]
   refine wpAnyH_take (i:=10) (oi:=(.mk (some 82) (.extract (.tmp 72) 1) 4 "read.go:151" #[.mk 8 .data,.mk 12 (.gcOnly .lateStores)] none)) (v:=?_) rfl (by kernel_rfl) (by kernel_rfl) (by kernel_rfl) (fun _ _ _ h=>h) (Or.inl ⟨by rfl,?_⟩) hC ?_
   rotate_left
   ·(intro w hSw;(try dsimp only at hSw);go_simp;try with_reducible rfl)
   try simp only [Act.put,List.setIfInBounds_toArray,List.set_cons_zero,List.set_cons_succ]
   refine wpAnyH_ready (rs:=[12]) (by kernel_rfl) (by simp) (AllReadyH.cons (o:=(.mk none (.store 85 (.tmp 9) (.tmp 81)) 0 "read.go:151" #[.mk 11 .data,.mk 9 .data,.mk 5 .chain,.mk 0 .phase,.mk 1 .phase,.mk 2 .phase,.mk 3 .phase,.mk 4 .phase,.mk 5 .phase,.mk 6 .phase,.mk 7 .phase,.mk 8 .phase,.mk 9 .phase,.mk 10 (.textOnly .lateStores),.mk 11 .phase] none)) rfl (fun K hK=>?_) AllReadyH.nil)
   go_simp
   replace hBel:=(hBel.setCell (p:=⟨wb.heap.size,0,none⟩) (Nat.le_refl _) (.int .u8 op)).setCell (p:=⟨wb.heap.size,1,none⟩) (Nat.le_refl _) (.func (.func (rstF r)) #[] #[])
   have hC:=(hAll.out _ hBel).1
   refine hK.out _ _ hC (fun hHeld=>?_)
   clear hK K hHeld
   try simp only [Act.put,List.setIfInBounds_toArray,List.set_cons_zero,List.set_cons_succ]
   refine wpAnyH_take (i:=13) (oi:=(.mk (some 10) (.assign (.tmp 82)) 4 "read.go:151" #[.mk 10 .data,.mk 12 .chain,.mk 0 .phase,.mk 1 .phase,.mk 2 .phase,.mk 3 .phase,.mk 4 .phase,.mk 5 .phase,.mk 6 .phase,.mk 7 .phase,.mk 8 .phase,.mk 9 .phase,.mk 10 .phase,.mk 11 .phase,.mk 12 .phase] none)) (v:=?_) rfl (by kernel_rfl) (by kernel_rfl) (by kernel_rfl) (fun _ _ _ h=>h) (Or.inl ⟨by rfl,?_⟩) hC ?_
   rotate_left
   ·(intro w hSw;(try dsimp only at hSw);go_simp;try with_reducible rfl)
   try simp only [Act.put,List.setIfInBounds_toArray,List.set_cons_zero,List.set_cons_succ]
   refine wpAnyH_done (by kernel_rfl) ?_ _
   go_wp2_with fail
   go_meet
   exact⟨rfl,wb.heap.size,rfl,Lib.hid ⟨hBel,blk_set (i:=1) _ (blk_set (i:=0) _ hbox),Nat.le_refl _⟩⟩
 case rest=>
  obtain⟨rfl,b9,rfl,hcc⟩:=hcut
  rename World=>wx
  have hPC:=Lib.hid (hPB.out.below hcc.out.1)
  have tc:=Touch.of_below hcc.out.1 (fun k=>k=pb)
  have hFC:=Lib.hid (hFB.out.keep tc (fun k e=>by subst e;omega))
  have tC:=Lib.hid (tB.out.trans tc)
  have hBC:=Lib.hid hcc.out.2.1
  have hbox9:b9≠pb∧b9<wx.heap.size:=⟨fun e=>by have h1:=hcc.out.2.2;have h2:=hPB.out.ltP;have h3:=hPB.out.top;omega,(Array.getElem?_eq_some_iff.1 hcc.out.2.1).1⟩
  go_wp2_with (go_at_call 41;refine (hnk.out _ hPC.out).mono ?_;rintro e wz ⟨rfl,hbz⟩)
  exact⟨rfl,gtch_pb (tC.out.trans (Touch.of_below hbz _)),rfl⟩
set_option maxRecDepth 20000 in
set_option maxHeartbeats 4000000 in
theorem inside_eq_signbad {nm:ByteArray}{ps:List ByteArray}{vp vc:Value}{gb capb:Nat}{bs:List Blk}{x:Blk}(h:PAt B w pb gw cw T i ln vb bb)(hF:FOp Bp Bf w Sf d.name d.params vp (.slice (some ⟨gb,0,none⟩) (bs.length+1) capb) vc bs x)(hd:d.blocks=bs++[x])(hnb:d.blocks.length≤i)(hnc:∀y∈d.blocks,y.code.length≤i)(hlo:B≤Sf)(hBp:B≤Bp){s:ByteArray}{l:List Tok}(hn:nameP (T.drop i) ln=.ok (s,l))(h58:isB l ln 58=false){op0:Nat}{r0:Rst}(hbf:bareF s.data.toList=some ((op0:Int),r0))(h61:isB l ln 61=true){f:Flt}(hs:signP 61 l ln=.error f):Calls Tryd.prog 45 #[.pointer (some ⟨pb,0,none⟩),.pointer (some ⟨Sf,0,none⟩)] w (GPost B Bp Bf pb gw cw T ln vb bb Sf w (.error f)):=by
 obtain⟨ac,cc,hvc⟩:=hF.code.form
 subst hvc
 obtain⟨n,hnn⟩:∃n,n=x.code.length:=⟨_,rfl⟩
 rw [←hnn] at hF
 have hnl:n≤i:=by rw [hnn];exact hnc x (by rw [hd];exact List.mem_append.2 (.inr (List.mem_singleton.2 rfl)))
 replace hnn:=Lib.hid hnn
 have hk:=Lib.hid (name_ok h hn)
 have hl:l=T.drop (i+1):=by obtain⟨t,e,-⟩:=name_len hn;exact drop_next e
 have hlen:i<2000000:=by have:=h.here;have:=h.ok.len;omega
 have h1:=h.ltP
 have h2:=hF.lt
 have hok:=Lib.hid h.ok
 have h3:=hF.top
 have hss:s.size≤maxLen:=by
  obtain⟨t,e,e2,-⟩:=name_len hn
  have:=h.ok.text t (by have:t∈T.drop i:=(by rw [e];exact List.mem_cons_self ..);exact List.mem_of_mem_drop this)
  rw [e2]
  show t.text.toArray.size≤maxLen
  rw [List.size_toArray]
  unfold maxLen
  omega
 have hkey:=Lib.hid (keyOf_string_mk Tryd.underlying9 hss)
 have hfv:=Lib.hid (forms_of hbf)
 rw [hl] at hs h58 h61
 have hi58:=Lib.hid (fun (w':World) (hP:PAt B w' pb gw cw T (i+1) ln vb bb)=>is_any hP 58 h58)
 have hi61:=Lib.hid (fun (w':World) (hP:PAt B w' pb gw cw T (i+1) ln vb bb)=>is_any hP 61 h61)
 have hsg:=Lib.hid (fun (w':World) (hP:PAt B w' pb gw cw T (i+1) ln vb bb)=>sign_bad hP hs)
 obtain⟨m,hm⟩:∃m,m=bs.length:=⟨_,rfl⟩
 rw [←hm] at hF
 have hmb:m≤2000000:=by rw [hd,List.length_append] at hnb;omega
 replace hm:=Lib.hid hm
 replace hF:=Lib.hid hF
 replace hd:=Lib.hid hd
 replace hnc:=Lib.hid hnc
 replace hnb:=Lib.hid hnb
 clear h hn h58 hl hbf hss h61 hs
 go_enter Tryd.func45,Tryd.ntmps45
 go_wp2_with fail
 refine hk.out.mono ?_
 rintro e w2 ⟨rfl,hP2,hT2⟩
 have hF2:=hF.out.keep hT2 (fun k e=>by subst e;omega)
 have c2:w2.cell? ⟨Sf,2,none⟩=some (.slice (some ⟨gb,0,none⟩) (m+1) capb):=by rw [blk_cell hF2.blk];rfl
 have hm0:decide ((m:Int)<0)=false:=by simp
 replace hP2:=Lib.hid hP2
 replace hT2:=Lib.hid hT2
 replace hF2:=Lib.hid hF2
 go_wp2_with fail
 refine (hi58.out _ hP2.out).mono ?_
 rintro e w3 ⟨rfl,hb3⟩
 have hP3:=hP2.out.below hb3
 have t3:=Touch.of_below hb3 (fun k=>k=pb)
 have hF3:=hF2.out.keep t3 (fun k e=>by subst e;omega)
 have c3:w3.cell? ⟨Sf,2,none⟩=some (.slice (some ⟨gb,0,none⟩) (m+1) capb):=by rw [blk_cell hF3.blk];rfl
 have p4:w3.cell? ⟨pb,4,none⟩=some (.map (some bb)):=by rw [blk_cell hP3.blk];rfl
 have hM3:=Lib.hid hP3.bmap
 have htop3:Bf≤w3.heap.size:=hF3.top
 have hP3:=Lib.hid hP3
 have t3:=Lib.hid t3
 have hF3:=Lib.hid hF3
 clear c2 hb3
 go_upto_region 7 with (refine wpList_vmap_ok rfl _ _ _ rfl 9 85 lawF Tryd.underlying60 (zF _) bb 6 (formsV bareF) hM3.out rfl _ _ rfl hkey.out ?_;rw [hfv.out];simp only [Option.getD_some,Option.getD_none,Option.isSome_some,Option.isSome_none])
 have hb4:Below w3.heap.size w3 (w3.alloc (.cells #[.int .u8 op0,.func (.func (rstF r0)) #[] #[]] 85)):=(Below.refl _ _).alloc (Nat.le_refl _) _
 have hB7:(w3.alloc (.cells #[.int .u8 op0,.func (.func (rstF r0)) #[] #[]] 85)).heap[w3.heap.size]?=some (.cells #[.int .u8 op0,.func (.func (rstF r0)) #[] #[]] 85 (0,0)):=at_newP rfl
 generalize hw4:(w3.alloc (.cells #[.int .u8 op0,.func (.func (rstF r0)) #[] #[]] 85))=w4 at hb4 hB7 ⊢
 have hz4:w4.heap.size=w3.heap.size+1:=by rw [←hw4];simp
 clear hw4
 obtain⟨t7,ht7⟩:∃t7,t7=w3.heap.size:=⟨_,rfl⟩
 rw [←ht7] at hB7 ⊢
 have hP4:=Lib.hid (hP3.out.below hb4)
 have t4:=Lib.hid (Touch.of_below hb4 (fun k=>k=pb))
 have hF4:=Lib.hid (hF3.out.keep t4.out (fun k e=>by subst e;omega))
 replace hB7:=Lib.hid hB7
 have ht7p:t7≠pb∧t7<w4.heap.size:=⟨by omega,by omega⟩
 replace ht7:=Lib.hid ht7
 replace hz4:=Lib.hid hz4
 clear c3 p4 hM3 hb4
 go_wp2_with fail
 refine (hi61.out _ hP4.out).mono ?_
 rintro e wa ⟨rfl,hba⟩
 have hPA:=Lib.hid (hP4.out.below hba)
 have ta:=Touch.of_below hba (fun k=>k=pb)
 have hFA:=Lib.hid (hF4.out.keep ta (fun k e=>by subst e;omega))
 have tA:=Lib.hid ((((hT2.out.trans t3.out).trans t4.out)).trans ta)
 clear hba ta
 go_wp2_with (go_at_call 43;refine (hsg.out _ hPA.out).mono ?_;rintro e wz ⟨rfl,hbz⟩)
 exact⟨rfl,gtch_pb (tA.out.trans (Touch.of_below hbz _)),rfl⟩
set_option maxRecDepth 20000 in
set_option maxHeartbeats 4000000 in
theorem inside_eq_refuse {nm:ByteArray}{ps:List ByteArray}{vp vc:Value}{gb capb:Nat}{bs:List Blk}{x:Blk}(h:PAt B w pb gw cw T i ln vb bb)(hF:FOp Bp Bf w Sf d.name d.params vp (.slice (some ⟨gb,0,none⟩) (bs.length+1) capb) vc bs x)(hd:d.blocks=bs++[x])(hnb:d.blocks.length≤i)(hnc:∀y∈d.blocks,y.code.length≤i)(hlo:B≤Sf)(hBp:B≤Bp){s:ByteArray}{l:List Tok}(hn:nameP (T.drop i) ln=.ok (s,l))(h58:isB l ln 58=false){op0:Nat}{r0:Rst}(hbf:bareF s.data.toList=some ((op0:Int),r0))(h61:isB l ln 61=true){l2:List Tok}(hs:signP 61 l ln=.ok l2)(hvf:valueF (headT l2)=none):Calls Tryd.prog 45 #[.pointer (some ⟨pb,0,none⟩),.pointer (some ⟨Sf,0,none⟩)] w (GPost B Bp Bf pb gw cw T ln vb bb Sf w (.error (fltL l2))):=by
 obtain⟨ac,cc,hvc⟩:=hF.code.form
 subst hvc
 obtain⟨n,hnn⟩:∃n,n=x.code.length:=⟨_,rfl⟩
 rw [←hnn] at hF
 have hnl:n≤i:=by rw [hnn];exact hnc x (by rw [hd];exact List.mem_append.2 (.inr (List.mem_singleton.2 rfl)))
 replace hnn:=Lib.hid hnn
 have hk:=Lib.hid (name_ok h hn)
 have hl:l=T.drop (i+1):=by obtain⟨t,e,-⟩:=name_len hn;exact drop_next e
 have hlen:i<2000000:=by have:=h.here;have:=h.ok.len;omega
 have h1:=h.ltP
 have h2:=hF.lt
 have hok:=Lib.hid h.ok
 have h3:=hF.top
 have hss:s.size≤maxLen:=by
  obtain⟨t,e,e2,-⟩:=name_len hn
  have:=h.ok.text t (by have:t∈T.drop i:=(by rw [e];exact List.mem_cons_self ..);exact List.mem_of_mem_drop this)
  rw [e2]
  show t.text.toArray.size≤maxLen
  rw [List.size_toArray]
  unfold maxLen
  omega
 have hkey:=Lib.hid (keyOf_string_mk Tryd.underlying9 hss)
 have hfv:=Lib.hid (forms_of hbf)
 rw [hl] at hs h58 h61
 have hi58:=Lib.hid (fun (w':World) (hP:PAt B w' pb gw cw T (i+1) ln vb bb)=>is_any hP 58 h58)
 have hi61:=Lib.hid (fun (w':World) (hP:PAt B w' pb gw cw T (i+1) ln vb bb)=>is_any hP 61 h61)
 have hl2:l2=T.drop (i+1+1):=by obtain⟨t,e,-⟩:=sign_len hs;exact drop_next e
 have hsg:=Lib.hid (fun (w':World) (hP:PAt B w' pb gw cw T (i+1) ln vb bb)=>sign_ok hP hs)
 rw [hl2] at hvf
 rw [hl2]
 have hvk:=Lib.hid (fun (t:Tok) (ht:T[i+1+1]?=some t)=>(show formsV valueF (.string t.text)=_ from forms_no (by
  have e:T.drop (i+1+1)=t::T.drop (i+1+1+1):=by
   obtain⟨hlt,e⟩:=List.getElem?_eq_some_iff.1 ht
   rw [List.drop_eq_getElem_cons hlt,e]
  rw [e] at hvf
  exact hvf)))
 have hrf:=Lib.hid (fun (w':World) (hP:PAt B w' pb gw cw T (i+1+1) ln vb bb)=>refuse_any hP)
 obtain⟨m,hm⟩:∃m,m=bs.length:=⟨_,rfl⟩
 rw [←hm] at hF
 have hmb:m≤2000000:=by rw [hd,List.length_append] at hnb;omega
 replace hm:=Lib.hid hm
 replace hF:=Lib.hid hF
 replace hd:=Lib.hid hd
 replace hnc:=Lib.hid hnc
 replace hnb:=Lib.hid hnb
 clear h hn h58 hl hbf hss h61 hs hl2 hvf
 go_enter Tryd.func45,Tryd.ntmps45
 go_wp2_with fail
 refine hk.out.mono ?_
 rintro e w2 ⟨rfl,hP2,hT2⟩
 have hF2:=hF.out.keep hT2 (fun k e=>by subst e;omega)
 have c2:w2.cell? ⟨Sf,2,none⟩=some (.slice (some ⟨gb,0,none⟩) (m+1) capb):=by rw [blk_cell hF2.blk];rfl
 have hm0:decide ((m:Int)<0)=false:=by simp
 replace hP2:=Lib.hid hP2
 replace hT2:=Lib.hid hT2
 replace hF2:=Lib.hid hF2
 go_wp2_with fail
 refine (hi58.out _ hP2.out).mono ?_
 rintro e w3 ⟨rfl,hb3⟩
 have hP3:=hP2.out.below hb3
 have t3:=Touch.of_below hb3 (fun k=>k=pb)
 have hF3:=hF2.out.keep t3 (fun k e=>by subst e;omega)
 have c3:w3.cell? ⟨Sf,2,none⟩=some (.slice (some ⟨gb,0,none⟩) (m+1) capb):=by rw [blk_cell hF3.blk];rfl
 have p4:w3.cell? ⟨pb,4,none⟩=some (.map (some bb)):=by rw [blk_cell hP3.blk];rfl
 have hM3:=Lib.hid hP3.bmap
 have htop3:Bf≤w3.heap.size:=hF3.top
 have hP3:=Lib.hid hP3
 have t3:=Lib.hid t3
 have hF3:=Lib.hid hF3
 clear c2 hb3
 go_upto_region 7 with (refine wpList_vmap_ok rfl _ _ _ rfl 9 85 lawF Tryd.underlying60 (zF _) bb 6 (formsV bareF) hM3.out rfl _ _ rfl hkey.out ?_;rw [hfv.out];simp only [Option.getD_some,Option.getD_none,Option.isSome_some,Option.isSome_none])
 have hb4:Below w3.heap.size w3 (w3.alloc (.cells #[.int .u8 op0,.func (.func (rstF r0)) #[] #[]] 85)):=(Below.refl _ _).alloc (Nat.le_refl _) _
 have hB7:(w3.alloc (.cells #[.int .u8 op0,.func (.func (rstF r0)) #[] #[]] 85)).heap[w3.heap.size]?=some (.cells #[.int .u8 op0,.func (.func (rstF r0)) #[] #[]] 85 (0,0)):=at_newP rfl
 generalize hw4:(w3.alloc (.cells #[.int .u8 op0,.func (.func (rstF r0)) #[] #[]] 85))=w4 at hb4 hB7 ⊢
 have hz4:w4.heap.size=w3.heap.size+1:=by rw [←hw4];simp
 clear hw4
 obtain⟨t7,ht7⟩:∃t7,t7=w3.heap.size:=⟨_,rfl⟩
 rw [←ht7] at hB7 ⊢
 have hP4:=Lib.hid (hP3.out.below hb4)
 have t4:=Lib.hid (Touch.of_below hb4 (fun k=>k=pb))
 have hF4:=Lib.hid (hF3.out.keep t4.out (fun k e=>by subst e;omega))
 replace hB7:=Lib.hid hB7
 have ht7p:t7≠pb∧t7<w4.heap.size:=⟨by omega,by omega⟩
 replace ht7:=Lib.hid ht7
 replace hz4:=Lib.hid hz4
 clear c3 p4 hM3 hb4
 go_wp2_with fail
 refine (hi61.out _ hP4.out).mono ?_
 rintro e wa ⟨rfl,hba⟩
 have hPA:=Lib.hid (hP4.out.below hba)
 have ta:=Touch.of_below hba (fun k=>k=pb)
 have hFA:=Lib.hid (hF4.out.keep ta (fun k e=>by subst e;omega))
 have tA:=Lib.hid ((((hT2.out.trans t3.out).trans t4.out)).trans ta)
 clear hba ta
 go_wp2_with fail
 refine (hsg.out _ hPA.out).mono ?_
 rintro e wb ⟨rfl,hPB,hTB⟩
 have hFB:=Lib.hid (hFA.out.keep hTB (fun k e=>by subst e;omega))
 have tB:=Lib.hid (tA.out.trans hTB)
 obtain⟨tk,htk,-⟩:=hPB.at
 have hwd:=Lib.hid (fun (w':World) (hb:Below wb.heap.size wb w')=>word_any (hPB.below hb) htk)
 have hkz:tk.text.toArray.size≤maxLen:=by
  have:=hPB.ok.text tk (List.mem_of_getElem? htk)
  rw [List.size_toArray]
  unfold maxLen
  omega
 have hkey2:keyOf Tryd.prog 9 (.string (nmT tk))=some (.string tk.text):=keyOf_string_mk (s:=nmT tk) Tryd.underlying9 hkz
 have hvt:=hvk.out tk htk
 have hAll:=Lib.hid (fun (w':World) (hb:Below wb.heap.size wb w')=>(show w'.cell? ⟨pb,3,none⟩=some (.map (some vb))∧(Instr.lookup 60 (.map (some vb)) (.string (nmT tk)) true).run Tryd.prog w'=.ok (.tuple #[.agg #[.int .u8 0,.nilFunc],.bool false]) w' from by
  have hPb:=hPB.below hb
  refine⟨by rw [blk_cell hPb.blk];rfl,?_⟩
  have:=vmap_run (zF w') lawF Tryd.underlying60 hPb.vmap hkey2
  rw [hvt] at this
  exact this))
 unfold tokV at hwd
 replace hPB:=Lib.hid hPB
 clear hTB htk hkz hkey2 hvt hvk
 go_upto_region 10 with fail
 go_cut [9,10] from 72 to 82 (fun v9 v10 wx=>v10=.bool false∧∃b9,v9=.pointer (some ⟨b9,0,none⟩)∧Hid (Below wb.heap.size wb wx∧wx.heap[b9]?=some (.cells #[.int .u8 0,.nilFunc] 85 (0,0))∧wb.heap.size≤b9))
 case first=>
  have hBel:Below wb.heap.size wb wb.drew:=(Below.refl _ _).drew
  have hC:=(hAll.out _ hBel).1
  refine wp_region_held_drew (S:=(fun w'=>w'.cell? ⟨pb,3,none⟩=some (.map (some vb)))) (by kernel_rfl) hC (fun hHeld=>?_)
  clear hHeld
  refine wpAnyH_take (i:=0) (oi:=(.mk (some 73) (.move (.tmp 0)) 59 "read.go:151" #[] none)) (v:=?_) rfl (by kernel_rfl) (by kernel_rfl) (by kernel_rfl) (fun _ _ _ h=>h) (Or.inl ⟨by rfl,?_⟩) hC ?_
  rotate_left
  ·(intro w hSw;(try dsimp only at hSw);go_simp;try with_reducible rfl)
  try simp only [Act.put,List.setIfInBounds_toArray,List.set_cons_zero,List.set_cons_succ]
  refine wpAnyH_take (i:=1) (oi:=(.mk (some 74) (.nilCheck (.tmp 73)) 0 "read.go:151" #[.mk 0 .data] none)) (v:=?_) rfl (by kernel_rfl) (by kernel_rfl) (by kernel_rfl) (fun _ _ _ h=>h) (Or.inl ⟨by rfl,?_⟩) hC ?_
  rotate_left
  ·(intro w hSw;(try dsimp only at hSw);go_simp;try with_reducible rfl)
  try simp only [Act.put,List.setIfInBounds_toArray,List.set_cons_zero,List.set_cons_succ]
  refine wpAnyH_take (i:=2) (oi:=(.mk (some 75) (.fieldAddr 63 (.tmp 74) 3) 0 "read.go:151" #[.mk 1 .data] none)) (v:=?_) rfl (by kernel_rfl) (by kernel_rfl) (by kernel_rfl) (fun _ _ _ h=>h) (Or.inl ⟨by rfl,?_⟩) hC ?_
  rotate_left
  ·(intro w hSw;(try dsimp only at hSw);go_simp;try with_reducible rfl)
  try simp only [Act.put,List.setIfInBounds_toArray,List.set_cons_zero,List.set_cons_succ]
  refine wpAnyH_take (i:=3) (oi:=(.mk (some 76) (.load 60 (.tmp 75)) 60 "read.go:151" #[.mk 2 .data] none)) (v:=?_) rfl (by kernel_rfl) (by kernel_rfl) (by kernel_rfl) (fun _ _ _ h=>h) (Or.inl ⟨by rfl,?_⟩) hC ?_
  rotate_left
  ·(intro w hSw;(try dsimp only at hSw);go_simp;try with_reducible rfl)
  try simp only [Act.put,List.setIfInBounds_toArray,List.set_cons_zero,List.set_cons_succ]
  refine wpAnyH_take (i:=4) (oi:=(.mk (some 77) (.move (.tmp 0)) 59 "read.go:151" #[] none)) (v:=?_) rfl (by kernel_rfl) (by kernel_rfl) (by kernel_rfl) (fun _ _ _ h=>h) (Or.inl ⟨by rfl,?_⟩) hC ?_
  rotate_left
  ·(intro w hSw;(try dsimp only at hSw);go_simp;try with_reducible rfl)
  try simp only [Act.put,List.setIfInBounds_toArray,List.set_cons_zero,List.set_cons_succ]
  refine wpAnyH_ready (rs:=[5,11]) (by kernel_rfl) (by simp) (AllReadyH.cons (o:=(.mk (some 78) (.call (.mk (.value (.func 19)) #[(.tmp 77)] #[59])) 38 "read.go:151" #[.mk 4 .data] none)) rfl (fun K hK=>?_) (AllReadyH.cons (o:=(.mk (some 9) (.alloc 85) 0 "read.go:151" #[] none)) rfl (fun K hK=>?_) AllReadyH.nil))
  ·skip
   go_simp
   go_at_call 19
   refine (hwd.out _ hBel).mono ?_
   rintro e w6 ⟨rfl,hb6⟩
   replace hBel:=hBel.trans (hb6.mono hBel.size)
   have hBel6:=hBel
   have hC:=(hAll.out _ hBel).1
   have hrun:=(hAll.out _ hBel).2
   go_simp
   refine hK.out _ _ hC (fun hHeld=>?_)
   clear hK K hHeld
   try simp only [Act.put,List.setIfInBounds_toArray,List.set_cons_zero,List.set_cons_succ]
   refine wpAnyH_take (i:=6) (oi:=(.mk (some 79) (.field 38 (.tmp 78) 1) 9 "read.go:151" #[.mk 5 .data] none)) (v:=?_) rfl (by kernel_rfl) (by kernel_rfl) (by kernel_rfl) (fun _ _ _ h=>h) (Or.inl ⟨by rfl,?_⟩) hC ?_
   rotate_left
   ·(intro w hSw;(try dsimp only at hSw);go_simp;try with_reducible rfl)
   try simp only [Act.put,List.setIfInBounds_toArray,List.set_cons_zero,List.set_cons_succ]
   refine wpAnyH_ready (rs:=[7,11]) (by kernel_rfl) (by simp) (AllReadyH.cons (o:=(.mk (some 80) (.lookup 60 (.tmp 76) (.tmp 79) true) 102 "read.go:151" #[.mk 3 .data,.mk 6 .data] none)) rfl (fun K hK=>?_) (AllReadyH.cons (o:=(.mk (some 9) (.alloc 85) 0 "read.go:151" #[] none)) rfl (fun K hK=>?_) AllReadyH.nil))
   ·skip
    go_simp
    skip
    refine hK.out _ _ hC (fun hHeld=>?_)
    clear hK K hHeld
    try simp only [Act.put,List.setIfInBounds_toArray,List.set_cons_zero,List.set_cons_succ]
    refine wpAnyH_take (i:=8) (oi:=(.mk (some 72) (.move (.tmp 80)) 102 "read.go:151" #[.mk 7 .data] none)) (v:=?_) rfl (by kernel_rfl) (by kernel_rfl) (by kernel_rfl) (fun _ _ _ h=>h) (Or.inl ⟨by rfl,?_⟩) hC ?_
    rotate_left
    ·(intro w hSw;(try dsimp only at hSw);go_simp;try with_reducible rfl)
    try simp only [Act.put,List.setIfInBounds_toArray,List.set_cons_zero,List.set_cons_succ]
    refine wpAnyH_take (i:=9) (oi:=(.mk (some 81) (.extract (.tmp 72) 0) 85 "read.go:151" #[.mk 8 .data] none)) (v:=?_) rfl (by kernel_rfl) (by kernel_rfl) (by kernel_rfl) (fun _ _ _ h=>h) (Or.inl ⟨by rfl,?_⟩) hC ?_
    rotate_left
    ·(intro w hSw;(try dsimp only at hSw);go_simp;try with_reducible rfl)
    try simp only [Act.put,List.setIfInBounds_toArray,List.set_cons_zero,List.set_cons_succ]
    refine wpAnyH_take (i:=10) (oi:=(.mk (some 82) (.extract (.tmp 72) 1) 4 "read.go:151" #[.mk 8 .data,.mk 12 (.gcOnly .lateStores)] none)) (v:=?_) rfl (by kernel_rfl) (by kernel_rfl) (by kernel_rfl) (fun _ _ _ h=>h) (Or.inl ⟨by rfl,?_⟩) hC ?_
    rotate_left
    ·(intro w hSw;(try dsimp only at hSw);go_simp;try with_reducible rfl)
    try simp only [Act.put,List.setIfInBounds_toArray,List.set_cons_zero,List.set_cons_succ]
    refine wpAnyH_ready (rs:=[11]) (by kernel_rfl) (by simp) (AllReadyH.cons (o:=(.mk (some 9) (.alloc 85) 0 "read.go:151" #[] none)) rfl (fun K hK=>?_) AllReadyH.nil)
    go_simp
    have hbox:(w6.alloc (.cells #[.int .u8 0,.nilFunc] 85)).heap[w6.heap.size]?=some (.cells #[.int .u8 0,.nilFunc] 85):=at_newP rfl
    replace hBel:=hBel.alloc hBel.size (.cells #[.int .u8 0,.nilFunc] 85)
    have hC:=(hAll.out _ hBel).1
    have hrun:=(hAll.out _ hBel).2
    refine hK.out _ _ hC (fun hHeld=>?_)
    clear hK K hHeld
    try simp only [Act.put,List.setIfInBounds_toArray,List.set_cons_zero,List.set_cons_succ]
    refine wpAnyH_ready (rs:=[12]) (by kernel_rfl) (by simp) (AllReadyH.cons (o:=(.mk none (.store 85 (.tmp 9) (.tmp 81)) 0 "read.go:151" #[.mk 11 .data,.mk 9 .data,.mk 5 .chain,.mk 0 .phase,.mk 1 .phase,.mk 2 .phase,.mk 3 .phase,.mk 4 .phase,.mk 5 .phase,.mk 6 .phase,.mk 7 .phase,.mk 8 .phase,.mk 9 .phase,.mk 10 (.textOnly .lateStores),.mk 11 .phase] none)) rfl (fun K hK=>?_) AllReadyH.nil)
    go_simp
    have hBel:=hBel6.alloc hBel6.size (.cells #[.int .u8 0,.nilFunc] 85)
    have hC:=(hAll.out _ hBel).1
    refine hK.out _ _ hC (fun hHeld=>?_)
    clear hK K hHeld
    try simp only [Act.put,List.setIfInBounds_toArray,List.set_cons_zero,List.set_cons_succ]
    refine wpAnyH_take (i:=13) (oi:=(.mk (some 10) (.assign (.tmp 82)) 4 "read.go:151" #[.mk 10 .data,.mk 12 .chain,.mk 0 .phase,.mk 1 .phase,.mk 2 .phase,.mk 3 .phase,.mk 4 .phase,.mk 5 .phase,.mk 6 .phase,.mk 7 .phase,.mk 8 .phase,.mk 9 .phase,.mk 10 .phase,.mk 11 .phase,.mk 12 .phase] none)) (v:=?_) rfl (by kernel_rfl) (by kernel_rfl) (by kernel_rfl) (fun _ _ _ h=>h) (Or.inl ⟨by rfl,?_⟩) hC ?_
    rotate_left
    ·(intro w hSw;(try dsimp only at hSw);go_simp;try with_reducible rfl)
    try simp only [Act.put,List.setIfInBounds_toArray,List.set_cons_zero,List.set_cons_succ]
    refine wpAnyH_done (by kernel_rfl) ?_ _
    go_wp2_with fail
    go_meet
    exact⟨rfl,w6.heap.size,rfl,Lib.hid ⟨hBel,at_newP rfl,hBel6.size⟩⟩
   ·skip
    go_simp
    have hbox:(w6.alloc (.cells #[.int .u8 0,.nilFunc] 85)).heap[w6.heap.size]?=some (.cells #[.int .u8 0,.nilFunc] 85):=at_newP rfl
    replace hBel:=hBel.alloc hBel.size (.cells #[.int .u8 0,.nilFunc] 85)
    have hC:=(hAll.out _ hBel).1
    have hrun:=(hAll.out _ hBel).2
    refine hK.out _ _ hC (fun hHeld=>?_)
    clear hK K hHeld
    try simp only [Act.put,List.setIfInBounds_toArray,List.set_cons_zero,List.set_cons_succ]
    refine wpAnyH_ready (rs:=[7]) (by kernel_rfl) (by simp) (AllReadyH.cons (o:=(.mk (some 80) (.lookup 60 (.tmp 76) (.tmp 79) true) 102 "read.go:151" #[.mk 3 .data,.mk 6 .data] none)) rfl (fun K hK=>?_) AllReadyH.nil)
    go_simp
    skip
    refine hK.out _ _ hC (fun hHeld=>?_)
    clear hK K hHeld
    try simp only [Act.put,List.setIfInBounds_toArray,List.set_cons_zero,List.set_cons_succ]
    refine wpAnyH_take (i:=8) (oi:=(.mk (some 72) (.move (.tmp 80)) 102 "read.go:151" #[.mk 7 .data] none)) (v:=?_) rfl (by kernel_rfl) (by kernel_rfl) (by kernel_rfl) (fun _ _ _ h=>h) (Or.inl ⟨by rfl,?_⟩) hC ?_
    rotate_left
    ·(intro w hSw;(try dsimp only at hSw);go_simp;try with_reducible rfl)
    try simp only [Act.put,List.setIfInBounds_toArray,List.set_cons_zero,List.set_cons_succ]
    refine wpAnyH_take (i:=9) (oi:=(.mk (some 81) (.extract (.tmp 72) 0) 85 "read.go:151" #[.mk 8 .data] none)) (v:=?_) rfl (by kernel_rfl) (by kernel_rfl) (by kernel_rfl) (fun _ _ _ h=>h) (Or.inl ⟨by rfl,?_⟩) hC ?_
    rotate_left
    ·(intro w hSw;(try dsimp only at hSw);go_simp;try with_reducible rfl)
    try simp only [Act.put,List.setIfInBounds_toArray,List.set_cons_zero,List.set_cons_succ]
    refine wpAnyH_take (i:=10) (oi:=(.mk (some 82) (.extract (.tmp 72) 1) 4 "read.go:151" #[.mk 8 .data,.mk 12 (.gcOnly .lateStores)] none)) (v:=?_) rfl (by kernel_rfl) (by kernel_rfl) (by kernel_rfl) (fun _ _ _ h=>h) (Or.inl ⟨by rfl,?_⟩) hC ?_
    rotate_left
    ·(intro w hSw;(try dsimp only at hSw);go_simp;try with_reducible rfl)
    try simp only [Act.put,List.setIfInBounds_toArray,List.set_cons_zero,List.set_cons_succ]
    refine wpAnyH_ready (rs:=[12]) (by kernel_rfl) (by simp) (AllReadyH.cons (o:=(.mk none (.store 85 (.tmp 9) (.tmp 81)) 0 "read.go:151" #[.mk 11 .data,.mk 9 .data,.mk 5 .chain,.mk 0 .phase,.mk 1 .phase,.mk 2 .phase,.mk 3 .phase,.mk 4 .phase,.mk 5 .phase,.mk 6 .phase,.mk 7 .phase,.mk 8 .phase,.mk 9 .phase,.mk 10 (.textOnly .lateStores),.mk 11 .phase] none)) rfl (fun K hK=>?_) AllReadyH.nil)
    go_simp
    have hBel:=hBel6.alloc hBel6.size (.cells #[.int .u8 0,.nilFunc] 85)
    have hC:=(hAll.out _ hBel).1
    refine hK.out _ _ hC (fun hHeld=>?_)
    clear hK K hHeld
    try simp only [Act.put,List.setIfInBounds_toArray,List.set_cons_zero,List.set_cons_succ]
    refine wpAnyH_take (i:=13) (oi:=(.mk (some 10) (.assign (.tmp 82)) 4 "read.go:151" #[.mk 10 .data,.mk 12 .chain,.mk 0 .phase,.mk 1 .phase,.mk 2 .phase,.mk 3 .phase,.mk 4 .phase,.mk 5 .phase,.mk 6 .phase,.mk 7 .phase,.mk 8 .phase,.mk 9 .phase,.mk 10 .phase,.mk 11 .phase,.mk 12 .phase] none)) (v:=?_) rfl (by kernel_rfl) (by kernel_rfl) (by kernel_rfl) (fun _ _ _ h=>h) (Or.inl ⟨by rfl,?_⟩) hC ?_
    rotate_left
    ·(intro w hSw;(try dsimp only at hSw);go_simp;try with_reducible rfl)
    try simp only [Act.put,List.setIfInBounds_toArray,List.set_cons_zero,List.set_cons_succ]
    refine wpAnyH_done (by kernel_rfl) ?_ _
    go_wp2_with fail
    go_meet
    exact⟨rfl,w6.heap.size,rfl,Lib.hid ⟨hBel,at_newP rfl,hBel6.size⟩⟩
  ·skip
   go_simp
   have hbox:(wb.drew.alloc (.cells #[.int .u8 0,.nilFunc] 85)).heap[wb.heap.size]?=some (.cells #[.int .u8 0,.nilFunc] 85):=at_newP rfl
   replace hBel:=hBel.alloc hBel.size (.cells #[.int .u8 0,.nilFunc] 85)
   have hC:=(hAll.out _ hBel).1
   have hrun:=(hAll.out _ hBel).2
   refine hK.out _ _ hC (fun hHeld=>?_)
   clear hK K hHeld
   try simp only [Act.put,List.setIfInBounds_toArray,List.set_cons_zero,List.set_cons_succ]
   refine wpAnyH_ready (rs:=[5]) (by kernel_rfl) (by simp) (AllReadyH.cons (o:=(.mk (some 78) (.call (.mk (.value (.func 19)) #[(.tmp 77)] #[59])) 38 "read.go:151" #[.mk 4 .data] none)) rfl (fun K hK=>?_) AllReadyH.nil)
   go_simp
   go_at_call 19
   refine (hwd.out _ hBel).mono ?_
   rintro e w6 ⟨rfl,hb6⟩
   replace hbox:=keepB hb6 hbox
   obtain⟨z0,z1⟩:=cells2P hbox
   have y0:=frozB hbox 0
   have y1:=frozB hbox 1
   have l6:wb.heap.size<w6.heap.size:=by have:=hb6.size;simp at this;omega
   replace hBel:=hBel.trans (hb6.mono hBel.size)
   have hBel6:=hBel
   have hC:=(hAll.out _ hBel).1
   have hrun:=(hAll.out _ hBel).2
   go_simp
   refine hK.out _ _ hC (fun hHeld=>?_)
   clear hK K hHeld
   try simp only [Act.put,List.setIfInBounds_toArray,List.set_cons_zero,List.set_cons_succ]
   refine wpAnyH_take (i:=6) (oi:=(.mk (some 79) (.field 38 (.tmp 78) 1) 9 "read.go:151" #[.mk 5 .data] none)) (v:=?_) rfl (by kernel_rfl) (by kernel_rfl) (by kernel_rfl) (fun _ _ _ h=>h) (Or.inl ⟨by rfl,?_⟩) hC ?_
   rotate_left
   ·(intro w hSw;(try dsimp only at hSw);go_simp;try with_reducible rfl)
   try simp only [Act.put,List.setIfInBounds_toArray,List.set_cons_zero,List.set_cons_succ]
   refine wpAnyH_ready (rs:=[7]) (by kernel_rfl) (by simp) (AllReadyH.cons (o:=(.mk (some 80) (.lookup 60 (.tmp 76) (.tmp 79) true) 102 "read.go:151" #[.mk 3 .data,.mk 6 .data] none)) rfl (fun K hK=>?_) AllReadyH.nil)
   go_simp
   skip
   refine hK.out _ _ hC (fun hHeld=>?_)
   clear hK K hHeld
   try simp only [Act.put,List.setIfInBounds_toArray,List.set_cons_zero,List.set_cons_succ]
   refine wpAnyH_take (i:=8) (oi:=(.mk (some 72) (.move (.tmp 80)) 102 "read.go:151" #[.mk 7 .data] none)) (v:=?_) rfl (by kernel_rfl) (by kernel_rfl) (by kernel_rfl) (fun _ _ _ h=>h) (Or.inl ⟨by rfl,?_⟩) hC ?_
   rotate_left
   ·(intro w hSw;(try dsimp only at hSw);go_simp;try with_reducible rfl)
   try simp only [Act.put,List.setIfInBounds_toArray,List.set_cons_zero,List.set_cons_succ]
   refine wpAnyH_take (i:=9) (oi:=(.mk (some 81) (.extract (.tmp 72) 0) 85 "read.go:151" #[.mk 8 .data] none)) (v:=?_) rfl (by kernel_rfl) (by kernel_rfl) (by kernel_rfl) (fun _ _ _ h=>h) (Or.inl ⟨by rfl,?_⟩) hC ?_
   rotate_left
   ·(intro w hSw;(try dsimp only at hSw);go_simp;try with_reducible rfl)
   try simp only [Act.put,List.setIfInBounds_toArray,List.set_cons_zero,List.set_cons_succ]
   refine wpAnyH_take (i:=10) (oi:=(.mk (some 82) (.extract (.tmp 72) 1) 4 "read.go:151" #[.mk 8 .data,.mk 12 (.gcOnly .lateStores)] none)) (v:=?_) rfl (by kernel_rfl) (by kernel_rfl) (by kernel_rfl) (fun _ _ _ h=>h) (Or.inl ⟨by rfl,?_⟩) hC ?_
   rotate_left
   ·(intro w hSw;(try dsimp only at hSw);go_simp;try with_reducible rfl)
   try simp only [Act.put,List.setIfInBounds_toArray,List.set_cons_zero,List.set_cons_succ]
   refine wpAnyH_ready (rs:=[12]) (by kernel_rfl) (by simp) (AllReadyH.cons (o:=(.mk none (.store 85 (.tmp 9) (.tmp 81)) 0 "read.go:151" #[.mk 11 .data,.mk 9 .data,.mk 5 .chain,.mk 0 .phase,.mk 1 .phase,.mk 2 .phase,.mk 3 .phase,.mk 4 .phase,.mk 5 .phase,.mk 6 .phase,.mk 7 .phase,.mk 8 .phase,.mk 9 .phase,.mk 10 (.textOnly .lateStores),.mk 11 .phase] none)) rfl (fun K hK=>?_) AllReadyH.nil)
   go_simp
   replace hBel:=(hBel.setCell (p:=⟨wb.heap.size,0,none⟩) (Nat.le_refl _) (.int .u8 0)).setCell (p:=⟨wb.heap.size,1,none⟩) (Nat.le_refl _) .nilFunc
   have hC:=(hAll.out _ hBel).1
   refine hK.out _ _ hC (fun hHeld=>?_)
   clear hK K hHeld
   try simp only [Act.put,List.setIfInBounds_toArray,List.set_cons_zero,List.set_cons_succ]
   refine wpAnyH_take (i:=13) (oi:=(.mk (some 10) (.assign (.tmp 82)) 4 "read.go:151" #[.mk 10 .data,.mk 12 .chain,.mk 0 .phase,.mk 1 .phase,.mk 2 .phase,.mk 3 .phase,.mk 4 .phase,.mk 5 .phase,.mk 6 .phase,.mk 7 .phase,.mk 8 .phase,.mk 9 .phase,.mk 10 .phase,.mk 11 .phase,.mk 12 .phase] none)) (v:=?_) rfl (by kernel_rfl) (by kernel_rfl) (by kernel_rfl) (fun _ _ _ h=>h) (Or.inl ⟨by rfl,?_⟩) hC ?_
   rotate_left
   ·(intro w hSw;(try dsimp only at hSw);go_simp;try with_reducible rfl)
   try simp only [Act.put,List.setIfInBounds_toArray,List.set_cons_zero,List.set_cons_succ]
   refine wpAnyH_done (by kernel_rfl) ?_ _
   go_wp2_with fail
   go_meet
   exact⟨rfl,wb.heap.size,rfl,Lib.hid ⟨hBel,blk_set (i:=1) _ (blk_set (i:=0) _ hbox),Nat.le_refl _⟩⟩
 case rest=>
  obtain⟨rfl,b9,rfl,hcc⟩:=hcut
  rename World=>wx
  have hPC:=Lib.hid (hPB.out.below hcc.out.1)
  have tc:=Touch.of_below hcc.out.1 (fun k=>k=pb)
  have hFC:=Lib.hid (hFB.out.keep tc (fun k e=>by subst e;omega))
  have tC:=Lib.hid (tB.out.trans tc)
  have hBC:=Lib.hid hcc.out.2.1
  have hbox9:b9≠pb∧b9<wx.heap.size:=⟨fun e=>by have h1:=hcc.out.2.2;have h2:=hPB.out.ltP;have h3:=hPB.out.top;omega,(Array.getElem?_eq_some_iff.1 hcc.out.2.1).1⟩
  go_wp2_with (go_at_call 40;refine (hrf.out _ hPC.out).mono ?_;rintro e wz ⟨rfl,hbz⟩)
  exact⟨rfl,gtch_pb (tC.out.trans (Touch.of_below hbz _)),rfl⟩
set_option maxRecDepth 20000 in
set_option maxHeartbeats 4000000 in
theorem inside_eq_namebad {nm:ByteArray}{ps:List ByteArray}{vp vc:Value}{gb capb:Nat}{bs:List Blk}{x:Blk}(h:PAt B w pb gw cw T i ln vb bb)(hF:FOp Bp Bf w Sf d.name d.params vp (.slice (some ⟨gb,0,none⟩) (bs.length+1) capb) vc bs x)(hd:d.blocks=bs++[x])(hnb:d.blocks.length≤i)(hnc:∀y∈d.blocks,y.code.length≤i)(hlo:B≤Sf)(hBp:B≤Bp){s:ByteArray}{l:List Tok}(hn:nameP (T.drop i) ln=.ok (s,l))(h58:isB l ln 58=false){op0:Nat}{r0:Rst}(hbf:bareF s.data.toList=some ((op0:Int),r0))(h61:isB l ln 61=true){l2:List Tok}(hs:signP 61 l ln=.ok l2){op:Nat}{r:Rst}(hvf:valueF (headT l2)=some ((op:Int),r)){f:Flt}(hn2:nameP l2 ln=.error f):Calls Tryd.prog 45 #[.pointer (some ⟨pb,0,none⟩),.pointer (some ⟨Sf,0,none⟩)] w (GPost B Bp Bf pb gw cw T ln vb bb Sf w (.error f)):=by
 obtain⟨ac,cc,hvc⟩:=hF.code.form
 subst hvc
 obtain⟨n,hnn⟩:∃n,n=x.code.length:=⟨_,rfl⟩
 rw [←hnn] at hF
 have hnl:n≤i:=by rw [hnn];exact hnc x (by rw [hd];exact List.mem_append.2 (.inr (List.mem_singleton.2 rfl)))
 replace hnn:=Lib.hid hnn
 have hk:=Lib.hid (name_ok h hn)
 have hl:l=T.drop (i+1):=by obtain⟨t,e,-⟩:=name_len hn;exact drop_next e
 have hlen:i<2000000:=by have:=h.here;have:=h.ok.len;omega
 have h1:=h.ltP
 have h2:=hF.lt
 have hok:=Lib.hid h.ok
 have h3:=hF.top
 have hss:s.size≤maxLen:=by
  obtain⟨t,e,e2,-⟩:=name_len hn
  have:=h.ok.text t (by have:t∈T.drop i:=(by rw [e];exact List.mem_cons_self ..);exact List.mem_of_mem_drop this)
  rw [e2]
  show t.text.toArray.size≤maxLen
  rw [List.size_toArray]
  unfold maxLen
  omega
 have hkey:=Lib.hid (keyOf_string_mk Tryd.underlying9 hss)
 have hfv:=Lib.hid (forms_of hbf)
 rw [hl] at hs h58 h61
 have hi58:=Lib.hid (fun (w':World) (hP:PAt B w' pb gw cw T (i+1) ln vb bb)=>is_any hP 58 h58)
 have hi61:=Lib.hid (fun (w':World) (hP:PAt B w' pb gw cw T (i+1) ln vb bb)=>is_any hP 61 h61)
 have hl2:l2=T.drop (i+1+1):=by obtain⟨t,e,-⟩:=sign_len hs;exact drop_next e
 have hsg:=Lib.hid (fun (w':World) (hP:PAt B w' pb gw cw T (i+1) ln vb bb)=>sign_ok hP hs)
 rw [hl2] at hvf
 rw [hl2] at hn2
 have hvk:=Lib.hid (fun (t:Tok) (ht:T[i+1+1]?=some t)=>(show formsV valueF (.string t.text)=_ from forms_of (by
  have e:T.drop (i+1+1)=t::T.drop (i+1+1+1):=by
   obtain⟨hlt,e⟩:=List.getElem?_eq_some_iff.1 ht
   rw [List.drop_eq_getElem_cons hlt,e]
  rw [e] at hvf
  exact hvf)))
 have hnk:=Lib.hid (fun (w':World) (hP:PAt B w' pb gw cw T (i+1+1) ln vb bb)=>name_bad hP hn2)
 obtain⟨m,hm⟩:∃m,m=bs.length:=⟨_,rfl⟩
 rw [←hm] at hF
 have hmb:m≤2000000:=by rw [hd,List.length_append] at hnb;omega
 replace hm:=Lib.hid hm
 replace hF:=Lib.hid hF
 replace hd:=Lib.hid hd
 replace hnc:=Lib.hid hnc
 replace hnb:=Lib.hid hnb
 clear h hn h58 hl hbf hss h61 hs hl2 hvf hn2
 go_enter Tryd.func45,Tryd.ntmps45
 go_wp2_with fail
 refine hk.out.mono ?_
 rintro e w2 ⟨rfl,hP2,hT2⟩
 have hF2:=hF.out.keep hT2 (fun k e=>by subst e;omega)
 have c2:w2.cell? ⟨Sf,2,none⟩=some (.slice (some ⟨gb,0,none⟩) (m+1) capb):=by rw [blk_cell hF2.blk];rfl
 have hm0:decide ((m:Int)<0)=false:=by simp
 replace hP2:=Lib.hid hP2
 replace hT2:=Lib.hid hT2
 replace hF2:=Lib.hid hF2
 go_wp2_with fail
 refine (hi58.out _ hP2.out).mono ?_
 rintro e w3 ⟨rfl,hb3⟩
 have hP3:=hP2.out.below hb3
 have t3:=Touch.of_below hb3 (fun k=>k=pb)
 have hF3:=hF2.out.keep t3 (fun k e=>by subst e;omega)
 have c3:w3.cell? ⟨Sf,2,none⟩=some (.slice (some ⟨gb,0,none⟩) (m+1) capb):=by rw [blk_cell hF3.blk];rfl
 have p4:w3.cell? ⟨pb,4,none⟩=some (.map (some bb)):=by rw [blk_cell hP3.blk];rfl
 have hM3:=Lib.hid hP3.bmap
 have htop3:Bf≤w3.heap.size:=hF3.top
 have hP3:=Lib.hid hP3
 have t3:=Lib.hid t3
 have hF3:=Lib.hid hF3
 clear c2 hb3
 go_upto_region 7 with (refine wpList_vmap_ok rfl _ _ _ rfl 9 85 lawF Tryd.underlying60 (zF _) bb 6 (formsV bareF) hM3.out rfl _ _ rfl hkey.out ?_;rw [hfv.out];simp only [Option.getD_some,Option.getD_none,Option.isSome_some,Option.isSome_none])
 have hb4:Below w3.heap.size w3 (w3.alloc (.cells #[.int .u8 op0,.func (.func (rstF r0)) #[] #[]] 85)):=(Below.refl _ _).alloc (Nat.le_refl _) _
 have hB7:(w3.alloc (.cells #[.int .u8 op0,.func (.func (rstF r0)) #[] #[]] 85)).heap[w3.heap.size]?=some (.cells #[.int .u8 op0,.func (.func (rstF r0)) #[] #[]] 85 (0,0)):=at_newP rfl
 generalize hw4:(w3.alloc (.cells #[.int .u8 op0,.func (.func (rstF r0)) #[] #[]] 85))=w4 at hb4 hB7 ⊢
 have hz4:w4.heap.size=w3.heap.size+1:=by rw [←hw4];simp
 clear hw4
 obtain⟨t7,ht7⟩:∃t7,t7=w3.heap.size:=⟨_,rfl⟩
 rw [←ht7] at hB7 ⊢
 have hP4:=Lib.hid (hP3.out.below hb4)
 have t4:=Lib.hid (Touch.of_below hb4 (fun k=>k=pb))
 have hF4:=Lib.hid (hF3.out.keep t4.out (fun k e=>by subst e;omega))
 replace hB7:=Lib.hid hB7
 have ht7p:t7≠pb∧t7<w4.heap.size:=⟨by omega,by omega⟩
 replace ht7:=Lib.hid ht7
 replace hz4:=Lib.hid hz4
 clear c3 p4 hM3 hb4
 go_wp2_with fail
 refine (hi61.out _ hP4.out).mono ?_
 rintro e wa ⟨rfl,hba⟩
 have hPA:=Lib.hid (hP4.out.below hba)
 have ta:=Touch.of_below hba (fun k=>k=pb)
 have hFA:=Lib.hid (hF4.out.keep ta (fun k e=>by subst e;omega))
 have tA:=Lib.hid ((((hT2.out.trans t3.out).trans t4.out)).trans ta)
 clear hba ta
 go_wp2_with fail
 refine (hsg.out _ hPA.out).mono ?_
 rintro e wb ⟨rfl,hPB,hTB⟩
 have hFB:=Lib.hid (hFA.out.keep hTB (fun k e=>by subst e;omega))
 have tB:=Lib.hid (tA.out.trans hTB)
 obtain⟨tk,htk,-⟩:=hPB.at
 have hwd:=Lib.hid (fun (w':World) (hb:Below wb.heap.size wb w')=>word_any (hPB.below hb) htk)
 have hkz:tk.text.toArray.size≤maxLen:=by
  have:=hPB.ok.text tk (List.mem_of_getElem? htk)
  rw [List.size_toArray]
  unfold maxLen
  omega
 have hkey2:keyOf Tryd.prog 9 (.string (nmT tk))=some (.string tk.text):=keyOf_string_mk (s:=nmT tk) Tryd.underlying9 hkz
 have hvt:=hvk.out tk htk
 have hAll:=Lib.hid (fun (w':World) (hb:Below wb.heap.size wb w')=>(show w'.cell? ⟨pb,3,none⟩=some (.map (some vb))∧(Instr.lookup 60 (.map (some vb)) (.string (nmT tk)) true).run Tryd.prog w'=.ok (.tuple #[.agg #[.int .u8 op,.func (.func (rstF r)) #[] #[]],.bool true]) w' from by
  have hPb:=hPB.below hb
  refine⟨by rw [blk_cell hPb.blk];rfl,?_⟩
  have:=vmap_run (zF w') lawF Tryd.underlying60 hPb.vmap hkey2
  rw [hvt] at this
  exact this))
 unfold tokV at hwd
 replace hPB:=Lib.hid hPB
 clear hTB htk hkz hkey2 hvt hvk
 go_upto_region 10 with fail
 go_cut [9,10] from 72 to 82 (fun v9 v10 wx=>v10=.bool true∧∃b9,v9=.pointer (some ⟨b9,0,none⟩)∧Hid (Below wb.heap.size wb wx∧wx.heap[b9]?=some (.cells #[.int .u8 op,.func (.func (rstF r)) #[] #[]] 85 (0,0))∧wb.heap.size≤b9))
 case first=>
  have hBel:Below wb.heap.size wb wb.drew:=(Below.refl _ _).drew
  have hC:=(hAll.out _ hBel).1
  refine wp_region_held_drew (S:=(fun w'=>w'.cell? ⟨pb,3,none⟩=some (.map (some vb)))) (by kernel_rfl) hC (fun hHeld=>?_)
  clear hHeld
  refine wpAnyH_take (i:=0) (oi:=(.mk (some 73) (.move (.tmp 0)) 59 "read.go:151" #[] none)) (v:=?_) rfl (by kernel_rfl) (by kernel_rfl) (by kernel_rfl) (fun _ _ _ h=>h) (Or.inl ⟨by rfl,?_⟩) hC ?_
  rotate_left
  ·(intro w hSw;(try dsimp only at hSw);go_simp;try with_reducible rfl)
  try simp only [Act.put,List.setIfInBounds_toArray,List.set_cons_zero,List.set_cons_succ]
  refine wpAnyH_take (i:=1) (oi:=(.mk (some 74) (.nilCheck (.tmp 73)) 0 "read.go:151" #[.mk 0 .data] none)) (v:=?_) rfl (by kernel_rfl) (by kernel_rfl) (by kernel_rfl) (fun _ _ _ h=>h) (Or.inl ⟨by rfl,?_⟩) hC ?_
  rotate_left
  ·(intro w hSw;(try dsimp only at hSw);go_simp;try with_reducible rfl)
  try simp only [Act.put,List.setIfInBounds_toArray,List.set_cons_zero,List.set_cons_succ]
  refine wpAnyH_take (i:=2) (oi:=(.mk (some 75) (.fieldAddr 63 (.tmp 74) 3) 0 "read.go:151" #[.mk 1 .data] none)) (v:=?_) rfl (by kernel_rfl) (by kernel_rfl) (by kernel_rfl) (fun _ _ _ h=>h) (Or.inl ⟨by rfl,?_⟩) hC ?_
  rotate_left
  ·(intro w hSw;(try dsimp only at hSw);go_simp;try with_reducible rfl)
  try simp only [Act.put,List.setIfInBounds_toArray,List.set_cons_zero,List.set_cons_succ]
  refine wpAnyH_take (i:=3) (oi:=(.mk (some 76) (.load 60 (.tmp 75)) 60 "read.go:151" #[.mk 2 .data] none)) (v:=?_) rfl (by kernel_rfl) (by kernel_rfl) (by kernel_rfl) (fun _ _ _ h=>h) (Or.inl ⟨by rfl,?_⟩) hC ?_
  rotate_left
  ·(intro w hSw;(try dsimp only at hSw);go_simp;try with_reducible rfl)
  try simp only [Act.put,List.setIfInBounds_toArray,List.set_cons_zero,List.set_cons_succ]
  refine wpAnyH_take (i:=4) (oi:=(.mk (some 77) (.move (.tmp 0)) 59 "read.go:151" #[] none)) (v:=?_) rfl (by kernel_rfl) (by kernel_rfl) (by kernel_rfl) (fun _ _ _ h=>h) (Or.inl ⟨by rfl,?_⟩) hC ?_
  rotate_left
  ·(intro w hSw;(try dsimp only at hSw);go_simp;try with_reducible rfl)
  try simp only [Act.put,List.setIfInBounds_toArray,List.set_cons_zero,List.set_cons_succ]
  refine wpAnyH_ready (rs:=[5,11]) (by kernel_rfl) (by simp) (AllReadyH.cons (o:=(.mk (some 78) (.call (.mk (.value (.func 19)) #[(.tmp 77)] #[59])) 38 "read.go:151" #[.mk 4 .data] none)) rfl (fun K hK=>?_) (AllReadyH.cons (o:=(.mk (some 9) (.alloc 85) 0 "read.go:151" #[] none)) rfl (fun K hK=>?_) AllReadyH.nil))
  ·skip
   go_simp
   go_at_call 19
   refine (hwd.out _ hBel).mono ?_
   rintro e w6 ⟨rfl,hb6⟩
   replace hBel:=hBel.trans (hb6.mono hBel.size)
   have hBel6:=hBel
   have hC:=(hAll.out _ hBel).1
   have hrun:=(hAll.out _ hBel).2
   go_simp
   refine hK.out _ _ hC (fun hHeld=>?_)
   clear hK K hHeld
   try simp only [Act.put,List.setIfInBounds_toArray,List.set_cons_zero,List.set_cons_succ]
   refine wpAnyH_take (i:=6) (oi:=(.mk (some 79) (.field 38 (.tmp 78) 1) 9 "read.go:151" #[.mk 5 .data] none)) (v:=?_) rfl (by kernel_rfl) (by kernel_rfl) (by kernel_rfl) (fun _ _ _ h=>h) (Or.inl ⟨by rfl,?_⟩) hC ?_
   rotate_left
   ·(intro w hSw;(try dsimp only at hSw);go_simp;try with_reducible rfl)
   try simp only [Act.put,List.setIfInBounds_toArray,List.set_cons_zero,List.set_cons_succ]
   refine wpAnyH_ready (rs:=[7,11]) (by kernel_rfl) (by simp) (AllReadyH.cons (o:=(.mk (some 80) (.lookup 60 (.tmp 76) (.tmp 79) true) 102 "read.go:151" #[.mk 3 .data,.mk 6 .data] none)) rfl (fun K hK=>?_) (AllReadyH.cons (o:=(.mk (some 9) (.alloc 85) 0 "read.go:151" #[] none)) rfl (fun K hK=>?_) AllReadyH.nil))
   ·skip
    go_simp
    skip
    refine hK.out _ _ hC (fun hHeld=>?_)
    clear hK K hHeld
    try simp only [Act.put,List.setIfInBounds_toArray,List.set_cons_zero,List.set_cons_succ]
    refine wpAnyH_take (i:=8) (oi:=(.mk (some 72) (.move (.tmp 80)) 102 "read.go:151" #[.mk 7 .data] none)) (v:=?_) rfl (by kernel_rfl) (by kernel_rfl) (by kernel_rfl) (fun _ _ _ h=>h) (Or.inl ⟨by rfl,?_⟩) hC ?_
    rotate_left
    ·(intro w hSw;(try dsimp only at hSw);go_simp;try with_reducible rfl)
    try simp only [Act.put,List.setIfInBounds_toArray,List.set_cons_zero,List.set_cons_succ]
    refine wpAnyH_take (i:=9) (oi:=(.mk (some 81) (.extract (.tmp 72) 0) 85 "read.go:151" #[.mk 8 .data] none)) (v:=?_) rfl (by kernel_rfl) (by kernel_rfl) (by kernel_rfl) (fun _ _ _ h=>h) (Or.inl ⟨by rfl,?_⟩) hC ?_
    rotate_left
    ·(intro w hSw;(try dsimp only at hSw);go_simp;try with_reducible rfl)
    try simp only [Act.put,List.setIfInBounds_toArray,List.set_cons_zero,List.set_cons_succ]
    refine wpAnyH_take (i:=10) (oi:=(.mk (some 82) (.extract (.tmp 72) 1) 4 "read.go:151" #[.mk 8 .data,.mk 12 (.gcOnly .lateStores)] none)) (v:=?_) rfl (by kernel_rfl) (by kernel_rfl) (by kernel_rfl) (fun _ _ _ h=>h) (Or.inl ⟨by rfl,?_⟩) hC ?_
    rotate_left
    ·(intro w hSw;(try dsimp only at hSw);go_simp;try with_reducible rfl)
    try simp only [Act.put,List.setIfInBounds_toArray,List.set_cons_zero,List.set_cons_succ]
    refine wpAnyH_ready (rs:=[11]) (by kernel_rfl) (by simp) (AllReadyH.cons (o:=(.mk (some 9) (.alloc 85) 0 "read.go:151" #[] none)) rfl (fun K hK=>?_) AllReadyH.nil)
    go_simp
    have hbox:(w6.alloc (.cells #[.int .u8 0,.nilFunc] 85)).heap[w6.heap.size]?=some (.cells #[.int .u8 0,.nilFunc] 85):=at_newP rfl
    replace hBel:=hBel.alloc hBel.size (.cells #[.int .u8 0,.nilFunc] 85)
    have hC:=(hAll.out _ hBel).1
    have hrun:=(hAll.out _ hBel).2
    refine hK.out _ _ hC (fun hHeld=>?_)
    clear hK K hHeld
    try simp only [Act.put,List.setIfInBounds_toArray,List.set_cons_zero,List.set_cons_succ]
    refine wpAnyH_ready (rs:=[12]) (by kernel_rfl) (by simp) (AllReadyH.cons (o:=(.mk none (.store 85 (.tmp 9) (.tmp 81)) 0 "read.go:151" #[.mk 11 .data,.mk 9 .data,.mk 5 .chain,.mk 0 .phase,.mk 1 .phase,.mk 2 .phase,.mk 3 .phase,.mk 4 .phase,.mk 5 .phase,.mk 6 .phase,.mk 7 .phase,.mk 8 .phase,.mk 9 .phase,.mk 10 (.textOnly .lateStores),.mk 11 .phase] none)) rfl (fun K hK=>?_) AllReadyH.nil)
    go_simp
    have hBel:=hBel6.alloc hBel6.size (.cells #[.int .u8 op,.func (.func (rstF r)) #[] #[]] 85)
    have hC:=(hAll.out _ hBel).1
    refine hK.out _ _ hC (fun hHeld=>?_)
    clear hK K hHeld
    try simp only [Act.put,List.setIfInBounds_toArray,List.set_cons_zero,List.set_cons_succ]
    refine wpAnyH_take (i:=13) (oi:=(.mk (some 10) (.assign (.tmp 82)) 4 "read.go:151" #[.mk 10 .data,.mk 12 .chain,.mk 0 .phase,.mk 1 .phase,.mk 2 .phase,.mk 3 .phase,.mk 4 .phase,.mk 5 .phase,.mk 6 .phase,.mk 7 .phase,.mk 8 .phase,.mk 9 .phase,.mk 10 .phase,.mk 11 .phase,.mk 12 .phase] none)) (v:=?_) rfl (by kernel_rfl) (by kernel_rfl) (by kernel_rfl) (fun _ _ _ h=>h) (Or.inl ⟨by rfl,?_⟩) hC ?_
    rotate_left
    ·(intro w hSw;(try dsimp only at hSw);go_simp;try with_reducible rfl)
    try simp only [Act.put,List.setIfInBounds_toArray,List.set_cons_zero,List.set_cons_succ]
    refine wpAnyH_done (by kernel_rfl) ?_ _
    go_wp2_with fail
    go_meet
    exact⟨rfl,w6.heap.size,rfl,Lib.hid ⟨hBel,at_newP rfl,hBel6.size⟩⟩
   ·skip
    go_simp
    have hbox:(w6.alloc (.cells #[.int .u8 0,.nilFunc] 85)).heap[w6.heap.size]?=some (.cells #[.int .u8 0,.nilFunc] 85):=at_newP rfl
    replace hBel:=hBel.alloc hBel.size (.cells #[.int .u8 0,.nilFunc] 85)
    have hC:=(hAll.out _ hBel).1
    have hrun:=(hAll.out _ hBel).2
    refine hK.out _ _ hC (fun hHeld=>?_)
    clear hK K hHeld
    try simp only [Act.put,List.setIfInBounds_toArray,List.set_cons_zero,List.set_cons_succ]
    refine wpAnyH_ready (rs:=[7]) (by kernel_rfl) (by simp) (AllReadyH.cons (o:=(.mk (some 80) (.lookup 60 (.tmp 76) (.tmp 79) true) 102 "read.go:151" #[.mk 3 .data,.mk 6 .data] none)) rfl (fun K hK=>?_) AllReadyH.nil)
    go_simp
    skip
    refine hK.out _ _ hC (fun hHeld=>?_)
    clear hK K hHeld
    try simp only [Act.put,List.setIfInBounds_toArray,List.set_cons_zero,List.set_cons_succ]
    refine wpAnyH_take (i:=8) (oi:=(.mk (some 72) (.move (.tmp 80)) 102 "read.go:151" #[.mk 7 .data] none)) (v:=?_) rfl (by kernel_rfl) (by kernel_rfl) (by kernel_rfl) (fun _ _ _ h=>h) (Or.inl ⟨by rfl,?_⟩) hC ?_
    rotate_left
    ·(intro w hSw;(try dsimp only at hSw);go_simp;try with_reducible rfl)
    try simp only [Act.put,List.setIfInBounds_toArray,List.set_cons_zero,List.set_cons_succ]
    refine wpAnyH_take (i:=9) (oi:=(.mk (some 81) (.extract (.tmp 72) 0) 85 "read.go:151" #[.mk 8 .data] none)) (v:=?_) rfl (by kernel_rfl) (by kernel_rfl) (by kernel_rfl) (fun _ _ _ h=>h) (Or.inl ⟨by rfl,?_⟩) hC ?_
    rotate_left
    ·(intro w hSw;(try dsimp only at hSw);go_simp;try with_reducible rfl)
    try simp only [Act.put,List.setIfInBounds_toArray,List.set_cons_zero,List.set_cons_succ]
    refine wpAnyH_take (i:=10) (oi:=(.mk (some 82) (.extract (.tmp 72) 1) 4 "read.go:151" #[.mk 8 .data,.mk 12 (.gcOnly .lateStores)] none)) (v:=?_) rfl (by kernel_rfl) (by kernel_rfl) (by kernel_rfl) (fun _ _ _ h=>h) (Or.inl ⟨by rfl,?_⟩) hC ?_
    rotate_left
    ·(intro w hSw;(try dsimp only at hSw);go_simp;try with_reducible rfl)
    try simp only [Act.put,List.setIfInBounds_toArray,List.set_cons_zero,List.set_cons_succ]
    refine wpAnyH_ready (rs:=[12]) (by kernel_rfl) (by simp) (AllReadyH.cons (o:=(.mk none (.store 85 (.tmp 9) (.tmp 81)) 0 "read.go:151" #[.mk 11 .data,.mk 9 .data,.mk 5 .chain,.mk 0 .phase,.mk 1 .phase,.mk 2 .phase,.mk 3 .phase,.mk 4 .phase,.mk 5 .phase,.mk 6 .phase,.mk 7 .phase,.mk 8 .phase,.mk 9 .phase,.mk 10 (.textOnly .lateStores),.mk 11 .phase] none)) rfl (fun K hK=>?_) AllReadyH.nil)
    go_simp
    have hBel:=hBel6.alloc hBel6.size (.cells #[.int .u8 op,.func (.func (rstF r)) #[] #[]] 85)
    have hC:=(hAll.out _ hBel).1
    refine hK.out _ _ hC (fun hHeld=>?_)
    clear hK K hHeld
    try simp only [Act.put,List.setIfInBounds_toArray,List.set_cons_zero,List.set_cons_succ]
    refine wpAnyH_take (i:=13) (oi:=(.mk (some 10) (.assign (.tmp 82)) 4 "read.go:151" #[.mk 10 .data,.mk 12 .chain,.mk 0 .phase,.mk 1 .phase,.mk 2 .phase,.mk 3 .phase,.mk 4 .phase,.mk 5 .phase,.mk 6 .phase,.mk 7 .phase,.mk 8 .phase,.mk 9 .phase,.mk 10 .phase,.mk 11 .phase,.mk 12 .phase] none)) (v:=?_) rfl (by kernel_rfl) (by kernel_rfl) (by kernel_rfl) (fun _ _ _ h=>h) (Or.inl ⟨by rfl,?_⟩) hC ?_
    rotate_left
    ·(intro w hSw;(try dsimp only at hSw);go_simp;try with_reducible rfl)
    try simp only [Act.put,List.setIfInBounds_toArray,List.set_cons_zero,List.set_cons_succ]
    refine wpAnyH_done (by kernel_rfl) ?_ _
    go_wp2_with fail
    go_meet
    exact⟨rfl,w6.heap.size,rfl,Lib.hid ⟨hBel,at_newP rfl,hBel6.size⟩⟩
  ·skip
   go_simp
   have hbox:(wb.drew.alloc (.cells #[.int .u8 0,.nilFunc] 85)).heap[wb.heap.size]?=some (.cells #[.int .u8 0,.nilFunc] 85):=at_newP rfl
   replace hBel:=hBel.alloc hBel.size (.cells #[.int .u8 0,.nilFunc] 85)
   have hC:=(hAll.out _ hBel).1
   have hrun:=(hAll.out _ hBel).2
   refine hK.out _ _ hC (fun hHeld=>?_)
   clear hK K hHeld
   try simp only [Act.put,List.setIfInBounds_toArray,List.set_cons_zero,List.set_cons_succ]
   refine wpAnyH_ready (rs:=[5]) (by kernel_rfl) (by simp) (AllReadyH.cons (o:=(.mk (some 78) (.call (.mk (.value (.func 19)) #[(.tmp 77)] #[59])) 38 "read.go:151" #[.mk 4 .data] none)) rfl (fun K hK=>?_) AllReadyH.nil)
   go_simp
   go_at_call 19
   refine (hwd.out _ hBel).mono ?_
   rintro e w6 ⟨rfl,hb6⟩
   replace hbox:=keepB hb6 hbox
   obtain⟨z0,z1⟩:=cells2P hbox
   have y0:=frozB hbox 0
   have y1:=frozB hbox 1
   have l6:wb.heap.size<w6.heap.size:=by have:=hb6.size;simp at this;omega
   replace hBel:=hBel.trans (hb6.mono hBel.size)
   have hBel6:=hBel
   have hC:=(hAll.out _ hBel).1
   have hrun:=(hAll.out _ hBel).2
   go_simp
   refine hK.out _ _ hC (fun hHeld=>?_)
   clear hK K hHeld
   try simp only [Act.put,List.setIfInBounds_toArray,List.set_cons_zero,List.set_cons_succ]
   refine wpAnyH_take (i:=6) (oi:=(.mk (some 79) (.field 38 (.tmp 78) 1) 9 "read.go:151" #[.mk 5 .data] none)) (v:=?_) rfl (by kernel_rfl) (by kernel_rfl) (by kernel_rfl) (fun _ _ _ h=>h) (Or.inl ⟨by rfl,?_⟩) hC ?_
   rotate_left
   ·(intro w hSw;(try dsimp only at hSw);go_simp;try with_reducible rfl)
   try simp only [Act.put,List.setIfInBounds_toArray,List.set_cons_zero,List.set_cons_succ]
   refine wpAnyH_ready (rs:=[7]) (by kernel_rfl) (by simp) (AllReadyH.cons (o:=(.mk (some 80) (.lookup 60 (.tmp 76) (.tmp 79) true) 102 "read.go:151" #[.mk 3 .data,.mk 6 .data] none)) rfl (fun K hK=>?_) AllReadyH.nil)
   go_simp
   skip
   refine hK.out _ _ hC (fun hHeld=>?_)
   clear hK K hHeld
   try simp only [Act.put,List.setIfInBounds_toArray,List.set_cons_zero,List.set_cons_succ]
   refine wpAnyH_take (i:=8) (oi:=(.mk (some 72) (.move (.tmp 80)) 102 "read.go:151" #[.mk 7 .data] none)) (v:=?_) rfl (by kernel_rfl) (by kernel_rfl) (by kernel_rfl) (fun _ _ _ h=>h) (Or.inl ⟨by rfl,?_⟩) hC ?_
   rotate_left
   ·(intro w hSw;(try dsimp only at hSw);go_simp;try with_reducible rfl)
   try simp only [Act.put,List.setIfInBounds_toArray,List.set_cons_zero,List.set_cons_succ]
   refine wpAnyH_take (i:=9) (oi:=(.mk (some 81) (.extract (.tmp 72) 0) 85 "read.go:151" #[.mk 8 .data] none)) (v:=?_) rfl (by kernel_rfl) (by kernel_rfl) (by kernel_rfl) (fun _ _ _ h=>h) (Or.inl ⟨by rfl,?_⟩) hC ?_
   rotate_left
   ·(intro w hSw;(try dsimp only at hSw);go_simp;try with_reducible rfl)
   try simp only [Act.put,List.setIfInBounds_toArray,List.set_cons_zero,List.set_cons_succ]
   refine wpAnyH_take (i:=10) (oi:=(.mk (some 82) (.extract (.tmp 72) 1) 4 "read.go:151" #[.mk 8 .data,.mk 12 (.gcOnly .lateStores)] none)) (v:=?_) rfl (by kernel_rfl) (by kernel_rfl) (by kernel_rfl) (fun _ _ _ h=>h) (Or.inl ⟨by rfl,?_⟩) hC ?_
   rotate_left
   ·(intro w hSw;(try dsimp only at hSw);go_simp;try with_reducible rfl)
   try simp only [Act.put,List.setIfInBounds_toArray,List.set_cons_zero,List.set_cons_succ]
   refine wpAnyH_ready (rs:=[12]) (by kernel_rfl) (by simp) (AllReadyH.cons (o:=(.mk none (.store 85 (.tmp 9) (.tmp 81)) 0 "read.go:151" #[.mk 11 .data,.mk 9 .data,.mk 5 .chain,.mk 0 .phase,.mk 1 .phase,.mk 2 .phase,.mk 3 .phase,.mk 4 .phase,.mk 5 .phase,.mk 6 .phase,.mk 7 .phase,.mk 8 .phase,.mk 9 .phase,.mk 10 (.textOnly .lateStores),.mk 11 .phase] none)) rfl (fun K hK=>?_) AllReadyH.nil)
   go_simp
   replace hBel:=(hBel.setCell (p:=⟨wb.heap.size,0,none⟩) (Nat.le_refl _) (.int .u8 op)).setCell (p:=⟨wb.heap.size,1,none⟩) (Nat.le_refl _) (.func (.func (rstF r)) #[] #[])
   have hC:=(hAll.out _ hBel).1
   refine hK.out _ _ hC (fun hHeld=>?_)
   clear hK K hHeld
   try simp only [Act.put,List.setIfInBounds_toArray,List.set_cons_zero,List.set_cons_succ]
   refine wpAnyH_take (i:=13) (oi:=(.mk (some 10) (.assign (.tmp 82)) 4 "read.go:151" #[.mk 10 .data,.mk 12 .chain,.mk 0 .phase,.mk 1 .phase,.mk 2 .phase,.mk 3 .phase,.mk 4 .phase,.mk 5 .phase,.mk 6 .phase,.mk 7 .phase,.mk 8 .phase,.mk 9 .phase,.mk 10 .phase,.mk 11 .phase,.mk 12 .phase] none)) (v:=?_) rfl (by kernel_rfl) (by kernel_rfl) (by kernel_rfl) (fun _ _ _ h=>h) (Or.inl ⟨by rfl,?_⟩) hC ?_
   rotate_left
   ·(intro w hSw;(try dsimp only at hSw);go_simp;try with_reducible rfl)
   try simp only [Act.put,List.setIfInBounds_toArray,List.set_cons_zero,List.set_cons_succ]
   refine wpAnyH_done (by kernel_rfl) ?_ _
   go_wp2_with fail
   go_meet
   exact⟨rfl,wb.heap.size,rfl,Lib.hid ⟨hBel,blk_set (i:=1) _ (blk_set (i:=0) _ hbox),Nat.le_refl _⟩⟩
 case rest=>
  obtain⟨rfl,b9,rfl,hcc⟩:=hcut
  rename World=>wx
  have hPC:=Lib.hid (hPB.out.below hcc.out.1)
  have tc:=Touch.of_below hcc.out.1 (fun k=>k=pb)
  have hFC:=Lib.hid (hFB.out.keep tc (fun k e=>by subst e;omega))
  have tC:=Lib.hid (tB.out.trans tc)
  have hBC:=Lib.hid hcc.out.2.1
  have hbox9:b9≠pb∧b9<wx.heap.size:=⟨fun e=>by have h1:=hcc.out.2.2;have h2:=hPB.out.ltP;have h3:=hPB.out.top;omega,(Array.getElem?_eq_some_iff.1 hcc.out.2.1).1⟩
  go_wp2_with (go_at_call 41;refine (hnk.out _ hPC.out).mono ?_;rintro e wz ⟨rfl,hbz⟩)
  exact⟨rfl,gtch_pb (tC.out.trans (Touch.of_below hbz _)),rfl⟩
end
end
end Go.Proofs.YtgcanabckogmmaaDoor
