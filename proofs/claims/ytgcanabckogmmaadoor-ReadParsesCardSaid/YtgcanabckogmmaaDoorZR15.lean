/- RdS. -/
import Derived.Test.YtgcanabckogmmaaDoorZR14
import Derived.Maps.RangeWalk
import Derived.Laws.EntriesVeiled
import Derived.Deep.RegionHeld3
import Derived.Deep.RegionLaw
import Derived.Deep.AppendLies
namespace Go.Proofs.YtgcanabckogmmaaDoor
set_option linter.unusedVariables false
set_option linter.unusedSimpArgs false
section
open Go.RowKit Go.Maps Go.Shelf Go.WideMaps
attribute [local go_sem] Oper.semAt_some fld0 fld1 fld2
section
variable {B Bp Bf pb gw cw:Nat} {T:List Tok} {ln vb bb Sf:Nat} {w w2:World} {i:Nat} {d:Fun}
set_option maxRecDepth 20000 in
set_option maxHeartbeats 4000000 in
theorem inside_none_insbad {nm:ByteArray}{ps:List ByteArray}{vp vc:Value}{gb capb:Nat}{bs:List Blk}{x:Blk}(h:PAt B w pb gw cw T i ln vb bb)(hF:FOp Bp Bf w Sf d.name d.params vp (.slice (some ⟨gb,0,none⟩) (bs.length+1) capb) vc bs x)(hd:d.blocks=bs++[x])(hnb:d.blocks.length≤i)(hnc:∀y∈d.blocks,y.code.length≤i)(hlo:B≤Sf)(hBp:B≤Bp){s:ByteArray}{l:List Tok}(hn:nameP (T.drop i) ln=.ok (s,l))(h58:isB l ln 58=false)(hbf:bareF s.data.toList=none){l2:List Tok}(hs:signP 61 l ln=.ok l2){op:Nat}{r:Rst}(hvf:valueF (headT l2)=some ((op:Int),r)){s2:ByteArray}{l3:List Tok}(hn2:nameP l2 ln=.ok (s2,l3)){f:Flt}(hR:instrP ((op:Int),r) s l3 ln=.error f):Calls Tryd.prog 45 #[.pointer (some ⟨pb,0,none⟩),.pointer (some ⟨Sf,0,none⟩)] w (GPost B Bp Bf pb gw cw T ln vb bb Sf w (.error f)):=by
 obtain⟨ac,cc,hvc⟩:=hF.code.form
 subst hvc
 obtain⟨n,hnn⟩:∃n,n=x.code.length:=⟨_,rfl⟩
 rw [←hnn] at hF
 have hnl:n≤i:=by rw [hnn];exact hnc x (by rw [hd];exact List.mem_append.2 (.inr (List.mem_singleton.2 rfl)))
 replace hnn:=Lib.hid hnn
 have hk:=Lib.hid (name_ok h hn)
 have hl:l=T.drop (i+1):=by obtain⟨t,e,-⟩:=name_len hn;exact drop_next e
 have hlen:i<2000000:=by have:=h.here;have:=h.ok.len;omega
 have h1:=h.ltP
 have h2:=hF.lt
 have hok:=Lib.hid h.ok
 have h3:=hF.top
 have hss:s.size≤maxLen:=by
  obtain⟨t,e,e2,-⟩:=name_len hn
  have:=h.ok.text t (by have:t∈T.drop i:=(by rw [e];exact List.mem_cons_self ..);exact List.mem_of_mem_drop this)
  rw [e2]
  show t.text.toArray.size≤maxLen
  rw [List.size_toArray]
  unfold maxLen
  omega
 have hkey:=Lib.hid (keyOf_string_mk Tryd.underlying9 hss)
 have hfv:=Lib.hid (forms_no hbf)
 rw [hl] at hs h58
 have hi58:=Lib.hid (fun (w':World) (hP:PAt B w' pb gw cw T (i+1) ln vb bb)=>is_any hP 58 h58)
 have hl2:l2=T.drop (i+1+1):=by obtain⟨t,e,-⟩:=sign_len hs;exact drop_next e
 have hsg:=Lib.hid (fun (w':World) (hP:PAt B w' pb gw cw T (i+1) ln vb bb)=>sign_ok hP hs)
 rw [hl2] at hvf
 rw [hl2] at hn2
 have hvk:=Lib.hid (fun (t:Tok) (ht:T[i+1+1]?=some t)=>(show formsV valueF (.string t.text)=_ from forms_of (by
  have e:T.drop (i+1+1)=t::T.drop (i+1+1+1):=by
   obtain⟨hlt,e⟩:=List.getElem?_eq_some_iff.1 ht
   rw [List.drop_eq_getElem_cons hlt,e]
  rw [e] at hvf
  exact hvf)))
 have hnk:=Lib.hid (fun (w':World) (hP:PAt B w' pb gw cw T (i+1+1) ln vb bb)=>name_ok hP hn2)
 have hl3:l3=T.drop (i+1+1+1):=by obtain⟨t,e,-⟩:=name_len hn2;exact drop_next e
 rw [hl3] at hR
 have hins:=Lib.hid (fun (w':World) (hP:PAt B w' pb gw cw T (i+1+1+1) ln vb bb)=>instr_any hP op r s)
 rw [hR] at hins
 obtain⟨m,hm⟩:∃m,m=bs.length:=⟨_,rfl⟩
 rw [←hm] at hF
 have hmb:m≤2000000:=by rw [hd,List.length_append] at hnb;omega
 replace hm:=Lib.hid hm
 replace hF:=Lib.hid hF
 replace hd:=Lib.hid hd
 replace hnc:=Lib.hid hnc
 replace hnb:=Lib.hid hnb
 clear h hn h58 hl hbf hss hs hl2 hvf hn2 hl3 hR
 go_enter Tryd.func45,Tryd.ntmps45
 go_wp2_with fail
 refine hk.out.mono ?_
 rintro e w2 ⟨rfl,hP2,hT2⟩
 have hF2:=hF.out.keep hT2 (fun k e=>by subst e;omega)
 have c2:w2.cell? ⟨Sf,2,none⟩=some (.slice (some ⟨gb,0,none⟩) (m+1) capb):=by rw [blk_cell hF2.blk];rfl
 have hm0:decide ((m:Int)<0)=false:=by simp
 replace hP2:=Lib.hid hP2
 replace hT2:=Lib.hid hT2
 replace hF2:=Lib.hid hF2
 go_wp2_with fail
 refine (hi58.out _ hP2.out).mono ?_
 rintro e w3 ⟨rfl,hb3⟩
 have hP3:=hP2.out.below hb3
 have t3:=Touch.of_below hb3 (fun k=>k=pb)
 have hF3:=hF2.out.keep t3 (fun k e=>by subst e;omega)
 have c3:w3.cell? ⟨Sf,2,none⟩=some (.slice (some ⟨gb,0,none⟩) (m+1) capb):=by rw [blk_cell hF3.blk];rfl
 have p4:w3.cell? ⟨pb,4,none⟩=some (.map (some bb)):=by rw [blk_cell hP3.blk];rfl
 have hM3:=Lib.hid hP3.bmap
 have htop3:Bf≤w3.heap.size:=hF3.top
 have hP3:=Lib.hid hP3
 have t3:=Lib.hid t3
 have hF3:=Lib.hid hF3
 clear c2 hb3
 go_upto_region 7 with (refine wpList_vmap_ok rfl _ _ _ rfl 9 85 lawF Tryd.underlying60 (zF _) bb 6 (formsV bareF) hM3.out rfl _ _ rfl hkey.out ?_;rw [hfv.out];simp only [Option.getD_some,Option.getD_none,Option.isSome_some,Option.isSome_none])
 have hb4:Below w3.heap.size w3 (w3.alloc (.cells #[.int .u8 0,.nilFunc] 85)):=(Below.refl _ _).alloc (Nat.le_refl _) _
 have hB7:(w3.alloc (.cells #[.int .u8 0,.nilFunc] 85)).heap[w3.heap.size]?=some (.cells #[.int .u8 0,.nilFunc] 85 (0,0)):=at_newP rfl
 generalize hw4:(w3.alloc (.cells #[.int .u8 0,.nilFunc] 85))=w4 at hb4 hB7 ⊢
 have hz4:w4.heap.size=w3.heap.size+1:=by rw [←hw4];simp
 clear hw4
 obtain⟨t7,ht7⟩:∃t7,t7=w3.heap.size:=⟨_,rfl⟩
 rw [←ht7] at hB7 ⊢
 have hP4:=Lib.hid (hP3.out.below hb4)
 have t4:=Lib.hid (Touch.of_below hb4 (fun k=>k=pb))
 have hF4:=Lib.hid (hF3.out.keep t4.out (fun k e=>by subst e;omega))
 replace hB7:=Lib.hid hB7
 have ht7p:t7≠pb∧t7<w4.heap.size:=⟨by omega,by omega⟩
 replace ht7:=Lib.hid ht7
 replace hz4:=Lib.hid hz4
 clear c3 p4 hM3 hb4
 have hPA:=hP4
 have hFA:=hF4
 have tA:=Lib.hid ((hT2.out.trans t3.out).trans t4.out)
 go_wp2_with fail
 refine (hsg.out _ hPA.out).mono ?_
 rintro e wb ⟨rfl,hPB,hTB⟩
 have hFB:=Lib.hid (hFA.out.keep hTB (fun k e=>by subst e;omega))
 have tB:=Lib.hid (tA.out.trans hTB)
 obtain⟨tk,htk,-⟩:=hPB.at
 have hwd:=Lib.hid (fun (w':World) (hb:Below wb.heap.size wb w')=>word_any (hPB.below hb) htk)
 have hkz:tk.text.toArray.size≤maxLen:=by
  have:=hPB.ok.text tk (List.mem_of_getElem? htk)
  rw [List.size_toArray]
  unfold maxLen
  omega
 have hkey2:keyOf Tryd.prog 9 (.string (nmT tk))=some (.string tk.text):=keyOf_string_mk (s:=nmT tk) Tryd.underlying9 hkz
 have hvt:=hvk.out tk htk
 have hAll:=Lib.hid (fun (w':World) (hb:Below wb.heap.size wb w')=>(show w'.cell? ⟨pb,3,none⟩=some (.map (some vb))∧(Instr.lookup 60 (.map (some vb)) (.string (nmT tk)) true).run Tryd.prog w'=.ok (.tuple #[.agg #[.int .u8 op,.func (.func (rstF r)) #[] #[]],.bool true]) w' from by
  have hPb:=hPB.below hb
  refine⟨by rw [blk_cell hPb.blk];rfl,?_⟩
  have:=vmap_run (zF w') lawF Tryd.underlying60 hPb.vmap hkey2
  rw [hvt] at this
  exact this))
 unfold tokV at hwd
 replace hPB:=Lib.hid hPB
 clear hTB htk hkz hkey2 hvt hvk
 go_upto_region 10 with fail
 go_cut [9,10] from 72 to 82 (fun v9 v10 wx=>v10=.bool true∧∃b9,v9=.pointer (some ⟨b9,0,none⟩)∧Hid (Below wb.heap.size wb wx∧wx.heap[b9]?=some (.cells #[.int .u8 op,.func (.func (rstF r)) #[] #[]] 85 (0,0))∧wb.heap.size≤b9))
 case first=>
  have hBel:Below wb.heap.size wb wb.drew:=(Below.refl _ _).drew
  have hC:=(hAll.out _ hBel).1
  refine wp_region_held_drew (S:=(fun w'=>w'.cell? ⟨pb,3,none⟩=some (.map (some vb)))) (by kernel_rfl) hC (fun hHeld=>?_)
  clear hHeld
  refine wpAnyH_take (i:=0) (oi:=(.mk (some 73) (.move (.tmp 0)) 59 "read.go:151" #[] none)) (v:=?_) rfl (by kernel_rfl) (by kernel_rfl) (by kernel_rfl) (fun _ _ _ h=>h) (Or.inl ⟨by rfl,?_⟩) hC ?_
  rotate_left
  ·(intro w hSw;(try dsimp only at hSw);go_simp;try with_reducible rfl)
  try simp only [Act.put,List.setIfInBounds_toArray,List.set_cons_zero,List.set_cons_succ]
  refine wpAnyH_take (i:=1) (oi:=(.mk (some 74) (.nilCheck (.tmp 73)) 0 "read.go:151" #[.mk 0 .data] none)) (v:=?_) rfl (by kernel_rfl) (by kernel_rfl) (by kernel_rfl) (fun _ _ _ h=>h) (Or.inl ⟨by rfl,?_⟩) hC ?_
  rotate_left
  ·(intro w hSw;(try dsimp only at hSw);go_simp;try with_reducible rfl)
  try simp only [Act.put,List.setIfInBounds_toArray,List.set_cons_zero,List.set_cons_succ]
  refine wpAnyH_take (i:=2) (oi:=(.mk (some 75) (.fieldAddr 63 (.tmp 74) 3) 0 "read.go:151" #[.mk 1 .data] none)) (v:=?_) rfl (by kernel_rfl) (by kernel_rfl) (by kernel_rfl) (fun _ _ _ h=>h) (Or.inl ⟨by rfl,?_⟩) hC ?_
  rotate_left
  ·(intro w hSw;(try dsimp only at hSw);go_simp;try with_reducible rfl)
  try simp only [Act.put,List.setIfInBounds_toArray,List.set_cons_zero,List.set_cons_succ]
  refine wpAnyH_take (i:=3) (oi:=(.mk (some 76) (.load 60 (.tmp 75)) 60 "read.go:151" #[.mk 2 .data] none)) (v:=?_) rfl (by kernel_rfl) (by kernel_rfl) (by kernel_rfl) (fun _ _ _ h=>h) (Or.inl ⟨by rfl,?_⟩) hC ?_
  rotate_left
  ·(intro w hSw;(try dsimp only at hSw);go_simp;try with_reducible rfl)
  try simp only [Act.put,List.setIfInBounds_toArray,List.set_cons_zero,List.set_cons_succ]
  refine wpAnyH_take (i:=4) (oi:=(.mk (some 77) (.move (.tmp 0)) 59 "read.go:151" #[] none)) (v:=?_) rfl (by kernel_rfl) (by kernel_rfl) (by kernel_rfl) (fun _ _ _ h=>h) (Or.inl ⟨by rfl,?_⟩) hC ?_
  rotate_left
  ·(intro w hSw;(try dsimp only at hSw);go_simp;try with_reducible rfl)
  try simp only [Act.put,List.setIfInBounds_toArray,List.set_cons_zero,List.set_cons_succ]
  refine wpAnyH_ready (rs:=[5,11]) (by kernel_rfl) (by simp) (AllReadyH.cons (o:=(.mk (some 78) (.call (.mk (.value (.func 19)) #[(.tmp 77)] #[59])) 38 "read.go:151" #[.mk 4 .data] none)) rfl (fun K hK=>?_) (AllReadyH.cons (o:=(.mk (some 9) (.alloc 85) 0 "read.go:151" #[] none)) rfl (fun K hK=>?_) AllReadyH.nil))
  ·skip
   go_simp
   go_at_call 19
   refine (hwd.out _ hBel).mono ?_
   rintro e w6 ⟨rfl,hb6⟩
   replace hBel:=hBel.trans (hb6.mono hBel.size)
   have hBel6:=hBel
   have hC:=(hAll.out _ hBel).1
   have hrun:=(hAll.out _ hBel).2
   go_simp
   refine hK.out _ _ hC (fun hHeld=>?_)
   clear hK K hHeld
   try simp only [Act.put,List.setIfInBounds_toArray,List.set_cons_zero,List.set_cons_succ]
   refine wpAnyH_take (i:=6) (oi:=(.mk (some 79) (.field 38 (.tmp 78) 1) 9 "read.go:151" #[.mk 5 .data] none)) (v:=?_) rfl (by kernel_rfl) (by kernel_rfl) (by kernel_rfl) (fun _ _ _ h=>h) (Or.inl ⟨by rfl,?_⟩) hC ?_
   rotate_left
   ·(intro w hSw;(try dsimp only at hSw);go_simp;try with_reducible rfl)
   try simp only [Act.put,List.setIfInBounds_toArray,List.set_cons_zero,List.set_cons_succ]
   refine wpAnyH_ready (rs:=[7,11]) (by kernel_rfl) (by simp) (AllReadyH.cons (o:=(.mk (some 80) (.lookup 60 (.tmp 76) (.tmp 79) true) 102 "read.go:151" #[.mk 3 .data,.mk 6 .data] none)) rfl (fun K hK=>?_) (AllReadyH.cons (o:=(.mk (some 9) (.alloc 85) 0 "read.go:151" #[] none)) rfl (fun K hK=>?_) AllReadyH.nil))
   ·skip
    go_simp
    skip
    refine hK.out _ _ hC (fun hHeld=>?_)
    clear hK K hHeld
    try simp only [Act.put,List.setIfInBounds_toArray,List.set_cons_zero,List.set_cons_succ]
    refine wpAnyH_take (i:=8) (oi:=(.mk (some 72) (.move (.tmp 80)) 102 "read.go:151" #[.mk 7 .data] none)) (v:=?_) rfl (by kernel_rfl) (by kernel_rfl) (by kernel_rfl) (fun _ _ _ h=>h) (Or.inl ⟨by rfl,?_⟩) hC ?_
    rotate_left
    ·(intro w hSw;(try dsimp only at hSw);go_simp;try with_reducible rfl)
    try simp only [Act.put,List.setIfInBounds_toArray,List.set_cons_zero,List.set_cons_succ]
    refine wpAnyH_take (i:=9) (oi:=(.mk (some 81) (.extract (.tmp 72) 0) 85 "read.go:151" #[.mk 8 .data] none)) (v:=?_) rfl (by kernel_rfl) (by kernel_rfl) (by kernel_rfl) (fun _ _ _ h=>h) (Or.inl ⟨by rfl,?_⟩) hC ?_
    rotate_left
    ·(intro w hSw;(try dsimp only at hSw);go_simp;try with_reducible rfl)
    try simp only [Act.put,List.setIfInBounds_toArray,List.set_cons_zero,List.set_cons_succ]
    refine wpAnyH_take (i:=10) (oi:=(.mk (some 82) (.extract (.tmp 72) 1) 4 "read.go:151" #[.mk 8 .data,.mk 12 (.gcOnly .lateStores)] none)) (v:=?_) rfl (by kernel_rfl) (by kernel_rfl) (by kernel_rfl) (fun _ _ _ h=>h) (Or.inl ⟨by rfl,?_⟩) hC ?_
    rotate_left
    ·(intro w hSw;(try dsimp only at hSw);go_simp;try with_reducible rfl)
    try simp only [Act.put,List.setIfInBounds_toArray,List.set_cons_zero,List.set_cons_succ]
    refine wpAnyH_ready (rs:=[11]) (by kernel_rfl) (by simp) (AllReadyH.cons (o:=(.mk (some 9) (.alloc 85) 0 "read.go:151" #[] none)) rfl (fun K hK=>?_) AllReadyH.nil)
    go_simp
    have hbox:(w6.alloc (.cells #[.int .u8 0,.nilFunc] 85)).heap[w6.heap.size]?=some (.cells #[.int .u8 0,.nilFunc] 85):=at_newP rfl
    replace hBel:=hBel.alloc hBel.size (.cells #[.int .u8 0,.nilFunc] 85)
    have hC:=(hAll.out _ hBel).1
    have hrun:=(hAll.out _ hBel).2
    refine hK.out _ _ hC (fun hHeld=>?_)
    clear hK K hHeld
    try simp only [Act.put,List.setIfInBounds_toArray,List.set_cons_zero,List.set_cons_succ]
    refine wpAnyH_ready (rs:=[12]) (by kernel_rfl) (by simp) (AllReadyH.cons (o:=(.mk none (.store 85 (.tmp 9) (.tmp 81)) 0 "read.go:151" #[.mk 11 .data,.mk 9 .data,.mk 5 .chain,.mk 0 .phase,.mk 1 .phase,.mk 2 .phase,.mk 3 .phase,.mk 4 .phase,.mk 5 .phase,.mk 6 .phase,.mk 7 .phase,.mk 8 .phase,.mk 9 .phase,.mk 10 (.textOnly .lateStores),.mk 11 .phase] none)) rfl (fun K hK=>?_) AllReadyH.nil)
    go_simp
    have hBel:=hBel6.alloc hBel6.size (.cells #[.int .u8 op,.func (.func (rstF r)) #[] #[]] 85)
    have hC:=(hAll.out _ hBel).1
    refine hK.out _ _ hC (fun hHeld=>?_)
    clear hK K hHeld
    try simp only [Act.put,List.setIfInBounds_toArray,List.set_cons_zero,List.set_cons_succ]
    refine wpAnyH_take (i:=13) (oi:=(.mk (some 10) (.assign (.tmp 82)) 4 "read.go:151" #[.mk 10 .data,.mk 12 .chain,.mk 0 .phase,.mk 1 .phase,.mk 2 .phase,.mk 3 .phase,.mk 4 .phase,.mk 5 .phase,.mk 6 .phase,.mk 7 .phase,.mk 8 .phase,.mk 9 .phase,.mk 10 .phase,.mk 11 .phase,.mk 12 .phase] none)) (v:=?_) rfl (by kernel_rfl) (by kernel_rfl) (by kernel_rfl) (fun _ _ _ h=>h) (Or.inl ⟨by rfl,?_⟩) hC ?_
    rotate_left
    ·(intro w hSw;(try dsimp only at hSw);go_simp;try with_reducible rfl)
    try simp only [Act.put,List.setIfInBounds_toArray,List.set_cons_zero,List.set_cons_succ]
    refine wpAnyH_done (by kernel_rfl) ?_ _
    go_wp2_with fail
    go_meet
    exact⟨rfl,w6.heap.size,rfl,Lib.hid ⟨hBel,at_newP rfl,hBel6.size⟩⟩
   ·skip
    go_simp
    have hbox:(w6.alloc (.cells #[.int .u8 0,.nilFunc] 85)).heap[w6.heap.size]?=some (.cells #[.int .u8 0,.nilFunc] 85):=at_newP rfl
    replace hBel:=hBel.alloc hBel.size (.cells #[.int .u8 0,.nilFunc] 85)
    have hC:=(hAll.out _ hBel).1
    have hrun:=(hAll.out _ hBel).2
    refine hK.out _ _ hC (fun hHeld=>?_)
    clear hK K hHeld
    try simp only [Act.put,List.setIfInBounds_toArray,List.set_cons_zero,List.set_cons_succ]
    refine wpAnyH_ready (rs:=[7]) (by kernel_rfl) (by simp) (AllReadyH.cons (o:=(.mk (some 80) (.lookup 60 (.tmp 76) (.tmp 79) true) 102 "read.go:151" #[.mk 3 .data,.mk 6 .data] none)) rfl (fun K hK=>?_) AllReadyH.nil)
    go_simp
    skip
    refine hK.out _ _ hC (fun hHeld=>?_)
    clear hK K hHeld
    try simp only [Act.put,List.setIfInBounds_toArray,List.set_cons_zero,List.set_cons_succ]
    refine wpAnyH_take (i:=8) (oi:=(.mk (some 72) (.move (.tmp 80)) 102 "read.go:151" #[.mk 7 .data] none)) (v:=?_) rfl (by kernel_rfl) (by kernel_rfl) (by kernel_rfl) (fun _ _ _ h=>h) (Or.inl ⟨by rfl,?_⟩) hC ?_
    rotate_left
    ·(intro w hSw;(try dsimp only at hSw);go_simp;try with_reducible rfl)
    try simp only [Act.put,List.setIfInBounds_toArray,List.set_cons_zero,List.set_cons_succ]
    refine wpAnyH_take (i:=9) (oi:=(.mk (some 81) (.extract (.tmp 72) 0) 85 "read.go:151" #[.mk 8 .data] none)) (v:=?_) rfl (by kernel_rfl) (by kernel_rfl) (by kernel_rfl) (fun _ _ _ h=>h) (Or.inl ⟨by rfl,?_⟩) hC ?_
    rotate_left
    ·(intro w hSw;(try dsimp only at hSw);go_simp;try with_reducible rfl)
    try simp only [Act.put,List.setIfInBounds_toArray,List.set_cons_zero,List.set_cons_succ]
    refine wpAnyH_take (i:=10) (oi:=(.mk (some 82) (.extract (.tmp 72) 1) 4 "read.go:151" #[.mk 8 .data,.mk 12 (.gcOnly .lateStores)] none)) (v:=?_) rfl (by kernel_rfl) (by kernel_rfl) (by kernel_rfl) (fun _ _ _ h=>h) (Or.inl ⟨by rfl,?_⟩) hC ?_
    rotate_left
    ·(intro w hSw;(try dsimp only at hSw);go_simp;try with_reducible rfl)
    try simp only [Act.put,List.setIfInBounds_toArray,List.set_cons_zero,List.set_cons_succ]
    refine wpAnyH_ready (rs:=[12]) (by kernel_rfl) (by simp) (AllReadyH.cons (o:=(.mk none (.store 85 (.tmp 9) (.tmp 81)) 0 "read.go:151" #[.mk 11 .data,.mk 9 .data,.mk 5 .chain,.mk 0 .phase,.mk 1 .phase,.mk 2 .phase,.mk 3 .phase,.mk 4 .phase,.mk 5 .phase,.mk 6 .phase,.mk 7 .phase,.mk 8 .phase,.mk 9 .phase,.mk 10 (.textOnly .lateStores),.mk 11 .phase] none)) rfl (fun K hK=>?_) AllReadyH.nil)
    go_simp
    have hBel:=hBel6.alloc hBel6.size (.cells #[.int .u8 op,.func (.func (rstF r)) #[] #[]] 85)
    have hC:=(hAll.out _ hBel).1
    refine hK.out _ _ hC (fun hHeld=>?_)
    clear hK K hHeld
    try simp only [Act.put,List.setIfInBounds_toArray,List.set_cons_zero,List.set_cons_succ]
    refine wpAnyH_take (i:=13) (oi:=(.mk (some 10) (.assign (.tmp 82)) 4 "read.go:151" #[.mk 10 .data,.mk 12 .chain,.mk 0 .phase,.mk 1 .phase,.mk 2 .phase,.mk 3 .phase,.mk 4 .phase,.mk 5 .phase,.mk 6 .phase,.mk 7 .phase,.mk 8 .phase,.mk 9 .phase,.mk 10 .phase,.mk 11 .phase,.mk 12 .phase] none)) (v:=?_) rfl (by kernel_rfl) (by kernel_rfl) (by kernel_rfl) (fun _ _ _ h=>h) (Or.inl ⟨by rfl,?_⟩) hC ?_
    rotate_left
    ·(intro w hSw;(try dsimp only at hSw);go_simp;try with_reducible rfl)
    try simp only [Act.put,List.setIfInBounds_toArray,List.set_cons_zero,List.set_cons_succ]
    refine wpAnyH_done (by kernel_rfl) ?_ _
    go_wp2_with fail
    go_meet
    exact⟨rfl,w6.heap.size,rfl,Lib.hid ⟨hBel,at_newP rfl,hBel6.size⟩⟩
  ·skip
   go_simp
   have hbox:(wb.drew.alloc (.cells #[.int .u8 0,.nilFunc] 85)).heap[wb.heap.size]?=some (.cells #[.int .u8 0,.nilFunc] 85):=at_newP rfl
   replace hBel:=hBel.alloc hBel.size (.cells #[.int .u8 0,.nilFunc] 85)
   have hC:=(hAll.out _ hBel).1
   have hrun:=(hAll.out _ hBel).2
   refine hK.out _ _ hC (fun hHeld=>?_)
   clear hK K hHeld
   try simp only [Act.put,List.setIfInBounds_toArray,List.set_cons_zero,List.set_cons_succ]
   refine wpAnyH_ready (rs:=[5]) (by kernel_rfl) (by simp) (AllReadyH.cons (o:=(.mk (some 78) (.call (.mk (.value (.func 19)) #[(.tmp 77)] #[59])) 38 "read.go:151" #[.mk 4 .data] none)) rfl (fun K hK=>?_) AllReadyH.nil)
   go_simp
   go_at_call 19
   refine (hwd.out _ hBel).mono ?_
   rintro e w6 ⟨rfl,hb6⟩
   replace hbox:=keepB hb6 hbox
   obtain⟨z0,z1⟩:=cells2P hbox
   have y0:=frozB hbox 0
   have y1:=frozB hbox 1
   have l6:wb.heap.size<w6.heap.size:=by have:=hb6.size;simp at this;omega
   replace hBel:=hBel.trans (hb6.mono hBel.size)
   have hBel6:=hBel
   have hC:=(hAll.out _ hBel).1
   have hrun:=(hAll.out _ hBel).2
   go_simp
   refine hK.out _ _ hC (fun hHeld=>?_)
   clear hK K hHeld
   try simp only [Act.put,List.setIfInBounds_toArray,List.set_cons_zero,List.set_cons_succ]
   refine wpAnyH_take (i:=6) (oi:=(.mk (some 79) (.field 38 (.tmp 78) 1) 9 "read.go:151" #[.mk 5 .data] none)) (v:=?_) rfl (by kernel_rfl) (by kernel_rfl) (by kernel_rfl) (fun _ _ _ h=>h) (Or.inl ⟨by rfl,?_⟩) hC ?_
   rotate_left
   ·(intro w hSw;(try dsimp only at hSw);go_simp;try with_reducible rfl)
   try simp only [Act.put,List.setIfInBounds_toArray,List.set_cons_zero,List.set_cons_succ]
   refine wpAnyH_ready (rs:=[7]) (by kernel_rfl) (by simp) (AllReadyH.cons (o:=(.mk (some 80) (.lookup 60 (.tmp 76) (.tmp 79) true) 102 "read.go:151" #[.mk 3 .data,.mk 6 .data] none)) rfl (fun K hK=>?_) AllReadyH.nil)
   go_simp
   skip
   refine hK.out _ _ hC (fun hHeld=>?_)
   clear hK K hHeld
   try simp only [Act.put,List.setIfInBounds_toArray,List.set_cons_zero,List.set_cons_succ]
   refine wpAnyH_take (i:=8) (oi:=(.mk (some 72) (.move (.tmp 80)) 102 "read.go:151" #[.mk 7 .data] none)) (v:=?_) rfl (by kernel_rfl) (by kernel_rfl) (by kernel_rfl) (fun _ _ _ h=>h) (Or.inl ⟨by rfl,?_⟩) hC ?_
   rotate_left
   ·(intro w hSw;(try dsimp only at hSw);go_simp;try with_reducible rfl)
   try simp only [Act.put,List.setIfInBounds_toArray,List.set_cons_zero,List.set_cons_succ]
   refine wpAnyH_take (i:=9) (oi:=(.mk (some 81) (.extract (.tmp 72) 0) 85 "read.go:151" #[.mk 8 .data] none)) (v:=?_) rfl (by kernel_rfl) (by kernel_rfl) (by kernel_rfl) (fun _ _ _ h=>h) (Or.inl ⟨by rfl,?_⟩) hC ?_
   rotate_left
   ·(intro w hSw;(try dsimp only at hSw);go_simp;try with_reducible rfl)
   try simp only [Act.put,List.setIfInBounds_toArray,List.set_cons_zero,List.set_cons_succ]
   refine wpAnyH_take (i:=10) (oi:=(.mk (some 82) (.extract (.tmp 72) 1) 4 "read.go:151" #[.mk 8 .data,.mk 12 (.gcOnly .lateStores)] none)) (v:=?_) rfl (by kernel_rfl) (by kernel_rfl) (by kernel_rfl) (fun _ _ _ h=>h) (Or.inl ⟨by rfl,?_⟩) hC ?_
   rotate_left
   ·(intro w hSw;(try dsimp only at hSw);go_simp;try with_reducible rfl)
   try simp only [Act.put,List.setIfInBounds_toArray,List.set_cons_zero,List.set_cons_succ]
   refine wpAnyH_ready (rs:=[12]) (by kernel_rfl) (by simp) (AllReadyH.cons (o:=(.mk none (.store 85 (.tmp 9) (.tmp 81)) 0 "read.go:151" #[.mk 11 .data,.mk 9 .data,.mk 5 .chain,.mk 0 .phase,.mk 1 .phase,.mk 2 .phase,.mk 3 .phase,.mk 4 .phase,.mk 5 .phase,.mk 6 .phase,.mk 7 .phase,.mk 8 .phase,.mk 9 .phase,.mk 10 (.textOnly .lateStores),.mk 11 .phase] none)) rfl (fun K hK=>?_) AllReadyH.nil)
   go_simp
   replace hBel:=(hBel.setCell (p:=⟨wb.heap.size,0,none⟩) (Nat.le_refl _) (.int .u8 op)).setCell (p:=⟨wb.heap.size,1,none⟩) (Nat.le_refl _) (.func (.func (rstF r)) #[] #[])
   have hC:=(hAll.out _ hBel).1
   refine hK.out _ _ hC (fun hHeld=>?_)
   clear hK K hHeld
   try simp only [Act.put,List.setIfInBounds_toArray,List.set_cons_zero,List.set_cons_succ]
   refine wpAnyH_take (i:=13) (oi:=(.mk (some 10) (.assign (.tmp 82)) 4 "read.go:151" #[.mk 10 .data,.mk 12 .chain,.mk 0 .phase,.mk 1 .phase,.mk 2 .phase,.mk 3 .phase,.mk 4 .phase,.mk 5 .phase,.mk 6 .phase,.mk 7 .phase,.mk 8 .phase,.mk 9 .phase,.mk 10 .phase,.mk 11 .phase,.mk 12 .phase] none)) (v:=?_) rfl (by kernel_rfl) (by kernel_rfl) (by kernel_rfl) (fun _ _ _ h=>h) (Or.inl ⟨by rfl,?_⟩) hC ?_
   rotate_left
   ·(intro w hSw;(try dsimp only at hSw);go_simp;try with_reducible rfl)
   try simp only [Act.put,List.setIfInBounds_toArray,List.set_cons_zero,List.set_cons_succ]
   refine wpAnyH_done (by kernel_rfl) ?_ _
   go_wp2_with fail
   go_meet
   exact⟨rfl,wb.heap.size,rfl,Lib.hid ⟨hBel,blk_set (i:=1) _ (blk_set (i:=0) _ hbox),Nat.le_refl _⟩⟩
 case rest=>
  obtain⟨rfl,b9,rfl,hcc⟩:=hcut
  rename World=>wx
  have hPC:=Lib.hid (hPB.out.below hcc.out.1)
  have tc:=Touch.of_below hcc.out.1 (fun k=>k=pb)
  have hFC:=Lib.hid (hFB.out.keep tc (fun k e=>by subst e;omega))
  have tC:=Lib.hid (tB.out.trans tc)
  have hBC:=Lib.hid hcc.out.2.1
  have hbox9:b9≠pb∧b9<wx.heap.size:=⟨fun e=>by have h1:=hcc.out.2.2;have h2:=hPB.out.ltP;have h3:=hPB.out.top;omega,(Array.getElem?_eq_some_iff.1 hcc.out.2.1).1⟩
  go_wp2_with fail
  refine (hnk.out _ hPC.out).mono ?_
  rintro e wd ⟨rfl,hPD,hTD⟩
  have hPW:=Lib.hid hPD
  have hFW:=Lib.hid (hFC.out.keep hTD (fun k e=>by subst e;omega))
  have hBW:=Lib.hid ((hTD.block b9 hbox9.2 hbox9.1).trans hBC.out)
  have hboxW:b9≠pb∧b9<wd.heap.size:=⟨hbox9.1,Nat.lt_of_lt_of_le hbox9.2 hTD.size⟩
  have tW:=Lib.hid (tC.out.trans hTD)
  clear hPD hTD
  obtain⟨z,-,hge,hltg⟩:=hFW.out.cellV hm.out
  have z:wd.drew.cell? ⟨gb,m*2+1,none⟩=some (.slice ac n cc):=z
  obtain⟨hc0,hc1⟩:=cells2P hBW.out
  have hC:wd.drew.cell? ⟨b9,0,none⟩=some (.int .u8 op)∧wd.drew.cell? ⟨b9,1,none⟩=some (.func (.func (rstF r)) #[] #[]):=⟨hc0,hc1⟩
  have hPd:=Lib.hid (hPW.out.below (Below.refl _ _).drew)
  go_upto_region 14 with fail
  clear hc0 hc1
  refine wp_region_held_drew (S:=(fun w'=>w'.cell? ⟨b9,0,none⟩=some (.int .u8 op)∧w'.cell? ⟨b9,1,none⟩=some (.func (.func (rstF r)) #[] #[]))) (by kernel_rfl) hC (fun hHeld=>?_)
  clear hHeld
  refine wpAnyH_take (i:=0) (oi:=(.mk (some 89) (.move (.tmp 6)) 101 "read.go:156" #[] none)) (v:=?_) rfl (by kernel_rfl) (by kernel_rfl) (by kernel_rfl) (fun _ _ _ h=>h) (Or.inl ⟨by rfl,?_⟩) hC ?_
  rotate_left
  ·(intro w hSw;(try dsimp only at hSw);go_simp;try with_reducible rfl)
  try simp only [Act.put,List.setIfInBounds_toArray,List.set_cons_zero,List.set_cons_succ]
  refine wpAnyH_take (i:=1) (oi:=(.mk (some 90) (.move (.tmp 6)) 101 "read.go:156" #[] none)) (v:=?_) rfl (by kernel_rfl) (by kernel_rfl) (by kernel_rfl) (fun _ _ _ h=>h) (Or.inl ⟨by rfl,?_⟩) hC ?_
  rotate_left
  ·(intro w hSw;(try dsimp only at hSw);go_simp;try with_reducible rfl)
  try simp only [Act.put,List.setIfInBounds_toArray,List.set_cons_zero,List.set_cons_succ]
  refine wpAnyH_take (i:=2) (oi:=(.mk (some 91) (.nilCheck (.tmp 90)) 0 "read.go:156" #[.mk 1 .data] none)) (v:=?_) rfl (by kernel_rfl) (by kernel_rfl) (by kernel_rfl) (fun _ _ _ h=>h) (Or.inl ⟨by rfl,?_⟩) hC ?_
  rotate_left
  ·(intro w hSw;(try dsimp only at hSw);go_simp;try with_reducible rfl)
  try simp only [Act.put,List.setIfInBounds_toArray,List.set_cons_zero,List.set_cons_succ]
  refine wpAnyH_take (i:=4) (oi:=(.mk (some 93) (.move (.tmp 0)) 59 "read.go:156" #[] none)) (v:=?_) rfl (by kernel_rfl) (by kernel_rfl) (by kernel_rfl) (fun _ _ _ h=>h) (Or.inl ⟨by rfl,?_⟩) hC ?_
  rotate_left
  ·(intro w hSw;(try dsimp only at hSw);go_simp;try with_reducible rfl)
  try simp only [Act.put,List.setIfInBounds_toArray,List.set_cons_zero,List.set_cons_succ]
  refine wpAnyH_take (i:=5) (oi:=(.mk (some 94) (.load 85 (.tmp 9)) 85 "read.go:156" #[] none)) (v:=?_) rfl (by kernel_rfl) (by kernel_rfl) (by kernel_rfl) (fun _ _ _ h=>h) (Or.inl ⟨by rfl,?_⟩) hC ?_
  rotate_left
  ·(intro w hSw;(try dsimp only at hSw);go_simp;try with_reducible rfl)
  try simp only [Act.put,List.setIfInBounds_toArray,List.set_cons_zero,List.set_cons_succ]
  refine wpAnyH_take (i:=6) (oi:=(.mk (some 95) (.move (.tmp 4)) 9 "read.go:156" #[] none)) (v:=?_) rfl (by kernel_rfl) (by kernel_rfl) (by kernel_rfl) (fun _ _ _ h=>h) (Or.inl ⟨by rfl,?_⟩) hC ?_
  rotate_left
  ·(intro w hSw;(try dsimp only at hSw);go_simp;try with_reducible rfl)
  try simp only [Act.put,List.setIfInBounds_toArray,List.set_cons_zero,List.set_cons_succ]
  refine wpAnyH_ready (rs:=[3,7]) (by kernel_rfl) (by simp) (AllReadyH.cons (o:=(.mk (some 92) (.load 44 (.tmp 91)) 44 "read.go:156" #[.mk 2 .data] none)) rfl (fun K hK=>?_) (AllReadyH.cons (o:=(.mk (some 96) (.call (.mk (.value (.func 67)) #[(.tmp 93),(.tmp 94),(.tmp 95)] #[59,85,9])) 49 "read.go:156" #[.mk 4 .data,.mk 5 .data,.mk 6 .data] none)) rfl (fun K hK=>?_) AllReadyH.nil))
  ·skip
   go_simp
   skip
   refine hK.out _ _ hC (fun hHeld=>?_)
   clear hK K hHeld
   try simp only [Act.put,List.setIfInBounds_toArray,List.set_cons_zero,List.set_cons_succ]
   refine wpAnyH_ready (rs:=[7]) (by kernel_rfl) (by simp) (AllReadyH.cons (o:=(.mk (some 96) (.call (.mk (.value (.func 67)) #[(.tmp 93),(.tmp 94),(.tmp 95)] #[59,85,9])) 49 "read.go:156" #[.mk 4 .data,.mk 5 .data,.mk 6 .data] none)) rfl (fun K hK=>?_) AllReadyH.nil)
   go_simp
   go_at_call 67
   refine (hins.out _ hPd.out).mono ?_
   rintro e w6 ⟨hT6,he⟩
   obtain rfl:=he
   exact⟨rfl,gtch_pb (tW.out.trans ((Touch.refl wd _).drew.trans hT6)),rfl⟩
  ·skip
   go_simp
   go_at_call 67
   refine (hins.out _ hPd.out).mono ?_
   rintro e w6 ⟨hT6,he⟩
   obtain rfl:=he
   exact⟨rfl,gtch_pb (tW.out.trans ((Touch.refl wd _).drew.trans hT6)),rfl⟩
set_option maxRecDepth 20000 in
set_option maxHeartbeats 4000000 in
theorem inside_none_ok {nm:ByteArray}{ps:List ByteArray}{vp vc:Value}{gb capb:Nat}{bs:List Blk}{x:Blk}(h:PAt B w pb gw cw T i ln vb bb)(hF:FOp Bp Bf w Sf d.name d.params vp (.slice (some ⟨gb,0,none⟩) (bs.length+1) capb) vc bs x)(hd:d.blocks=bs++[x])(hnb:d.blocks.length≤i)(hnc:∀y∈d.blocks,y.code.length≤i)(hlo:B≤Sf)(hBp:B≤Bp){s:ByteArray}{l:List Tok}(hn:nameP (T.drop i) ln=.ok (s,l))(h58:isB l ln 58=false)(hbf:bareF s.data.toList=none){l2 l4:List Tok}(hs:signP 61 l ln=.ok l2){op:Nat}{r:Rst}(hvf:valueF (headT l2)=some ((op:Int),r)){s2:ByteArray}{l3:List Tok}(hn2:nameP l2 ln=.ok (s2,l3)){y:Ins}(hR:instrP ((op:Int),r) s l3 ln=.ok (y,l4)):Calls Tryd.prog 45 #[.pointer (some ⟨pb,0,none⟩),.pointer (some ⟨Sf,0,none⟩)] w (GPost B Bp Bf pb gw cw T ln vb bb Sf w (.ok (addI d y,l4))):=by
 obtain⟨ac,cc,hvc⟩:=hF.code.form
 subst hvc
 obtain⟨n,hnn⟩:∃n,n=x.code.length:=⟨_,rfl⟩
 rw [←hnn] at hF
 have hnl:n≤i:=by rw [hnn];exact hnc x (by rw [hd];exact List.mem_append.2 (.inr (List.mem_singleton.2 rfl)))
 replace hnn:=Lib.hid hnn
 have hk:=Lib.hid (name_ok h hn)
 have hl:l=T.drop (i+1):=by obtain⟨t,e,-⟩:=name_len hn;exact drop_next e
 have hlen:i<2000000:=by have:=h.here;have:=h.ok.len;omega
 have h1:=h.ltP
 have h2:=hF.lt
 have hok:=Lib.hid h.ok
 have h3:=hF.top
 have hss:s.size≤maxLen:=by
  obtain⟨t,e,e2,-⟩:=name_len hn
  have:=h.ok.text t (by have:t∈T.drop i:=(by rw [e];exact List.mem_cons_self ..);exact List.mem_of_mem_drop this)
  rw [e2]
  show t.text.toArray.size≤maxLen
  rw [List.size_toArray]
  unfold maxLen
  omega
 have hkey:=Lib.hid (keyOf_string_mk Tryd.underlying9 hss)
 have hfv:=Lib.hid (forms_no hbf)
 rw [hl] at hs h58
 have hi58:=Lib.hid (fun (w':World) (hP:PAt B w' pb gw cw T (i+1) ln vb bb)=>is_any hP 58 h58)
 have hl2:l2=T.drop (i+1+1):=by obtain⟨t,e,-⟩:=sign_len hs;exact drop_next e
 have hsg:=Lib.hid (fun (w':World) (hP:PAt B w' pb gw cw T (i+1) ln vb bb)=>sign_ok hP hs)
 rw [hl2] at hvf
 rw [hl2] at hn2
 have hvk:=Lib.hid (fun (t:Tok) (ht:T[i+1+1]?=some t)=>(show formsV valueF (.string t.text)=_ from forms_of (by
  have e:T.drop (i+1+1)=t::T.drop (i+1+1+1):=by
   obtain⟨hlt,e⟩:=List.getElem?_eq_some_iff.1 ht
   rw [List.drop_eq_getElem_cons hlt,e]
  rw [e] at hvf
  exact hvf)))
 have hnk:=Lib.hid (fun (w':World) (hP:PAt B w' pb gw cw T (i+1+1) ln vb bb)=>name_ok hP hn2)
 have hl3:l3=T.drop (i+1+1+1):=by obtain⟨t,e,-⟩:=name_len hn2;exact drop_next e
 rw [hl3] at hR
 have hins:=Lib.hid (fun (w':World) (hP:PAt B w' pb gw cw T (i+1+1+1) ln vb bb)=>instr_any hP op r s)
 rw [hR] at hins
 have hi6:∀i6,l4=T.drop i6→i6<T.length→i+1≤i6:=fun i6 e h6=>by
  have hle:=rest_le r _ _ _ _ _ hR
  rw [e] at hle
  have hh:=h.here
  rw [List.length_drop,List.length_drop] at hle
  have:i+1+1+1<T.length∨T.length≤i+1+1+1:=by omega
  omega
 obtain⟨i0,hi0,hz0,hz1,hz2⟩:=info_parts infoInsP
 obtain⟨m,hm⟩:∃m,m=bs.length:=⟨_,rfl⟩
 rw [←hm] at hF
 have hmb:m≤2000000:=by rw [hd,List.length_append] at hnb;omega
 replace hm:=Lib.hid hm
 replace hF:=Lib.hid hF
 replace hd:=Lib.hid hd
 replace hnc:=Lib.hid hnc
 replace hnb:=Lib.hid hnb
 clear h hn h58 hl hbf hss hs hl2 hvf hn2 hl3 hR
 go_enter Tryd.func45,Tryd.ntmps45
 go_wp2_with fail
 refine hk.out.mono ?_
 rintro e w2 ⟨rfl,hP2,hT2⟩
 have hF2:=hF.out.keep hT2 (fun k e=>by subst e;omega)
 have c2:w2.cell? ⟨Sf,2,none⟩=some (.slice (some ⟨gb,0,none⟩) (m+1) capb):=by rw [blk_cell hF2.blk];rfl
 have hm0:decide ((m:Int)<0)=false:=by simp
 replace hP2:=Lib.hid hP2
 replace hT2:=Lib.hid hT2
 replace hF2:=Lib.hid hF2
 go_wp2_with fail
 refine (hi58.out _ hP2.out).mono ?_
 rintro e w3 ⟨rfl,hb3⟩
 have hP3:=hP2.out.below hb3
 have t3:=Touch.of_below hb3 (fun k=>k=pb)
 have hF3:=hF2.out.keep t3 (fun k e=>by subst e;omega)
 have c3:w3.cell? ⟨Sf,2,none⟩=some (.slice (some ⟨gb,0,none⟩) (m+1) capb):=by rw [blk_cell hF3.blk];rfl
 have p4:w3.cell? ⟨pb,4,none⟩=some (.map (some bb)):=by rw [blk_cell hP3.blk];rfl
 have hM3:=Lib.hid hP3.bmap
 have htop3:Bf≤w3.heap.size:=hF3.top
 have hP3:=Lib.hid hP3
 have t3:=Lib.hid t3
 have hF3:=Lib.hid hF3
 clear c2 hb3
 go_upto_region 7 with (refine wpList_vmap_ok rfl _ _ _ rfl 9 85 lawF Tryd.underlying60 (zF _) bb 6 (formsV bareF) hM3.out rfl _ _ rfl hkey.out ?_;rw [hfv.out];simp only [Option.getD_some,Option.getD_none,Option.isSome_some,Option.isSome_none])
 have hb4:Below w3.heap.size w3 (w3.alloc (.cells #[.int .u8 0,.nilFunc] 85)):=(Below.refl _ _).alloc (Nat.le_refl _) _
 have hB7:(w3.alloc (.cells #[.int .u8 0,.nilFunc] 85)).heap[w3.heap.size]?=some (.cells #[.int .u8 0,.nilFunc] 85 (0,0)):=at_newP rfl
 generalize hw4:(w3.alloc (.cells #[.int .u8 0,.nilFunc] 85))=w4 at hb4 hB7 ⊢
 have hz4:w4.heap.size=w3.heap.size+1:=by rw [←hw4];simp
 clear hw4
 obtain⟨t7,ht7⟩:∃t7,t7=w3.heap.size:=⟨_,rfl⟩
 rw [←ht7] at hB7 ⊢
 have hP4:=Lib.hid (hP3.out.below hb4)
 have t4:=Lib.hid (Touch.of_below hb4 (fun k=>k=pb))
 have hF4:=Lib.hid (hF3.out.keep t4.out (fun k e=>by subst e;omega))
 replace hB7:=Lib.hid hB7
 have ht7p:t7≠pb∧t7<w4.heap.size:=⟨by omega,by omega⟩
 replace ht7:=Lib.hid ht7
 replace hz4:=Lib.hid hz4
 clear c3 p4 hM3 hb4
 have hPA:=hP4
 have hFA:=hF4
 have tA:=Lib.hid ((hT2.out.trans t3.out).trans t4.out)
 go_wp2_with fail
 refine (hsg.out _ hPA.out).mono ?_
 rintro e wb ⟨rfl,hPB,hTB⟩
 have hFB:=Lib.hid (hFA.out.keep hTB (fun k e=>by subst e;omega))
 have tB:=Lib.hid (tA.out.trans hTB)
 obtain⟨tk,htk,-⟩:=hPB.at
 have hwd:=Lib.hid (fun (w':World) (hb:Below wb.heap.size wb w')=>word_any (hPB.below hb) htk)
 have hkz:tk.text.toArray.size≤maxLen:=by
  have:=hPB.ok.text tk (List.mem_of_getElem? htk)
  rw [List.size_toArray]
  unfold maxLen
  omega
 have hkey2:keyOf Tryd.prog 9 (.string (nmT tk))=some (.string tk.text):=keyOf_string_mk (s:=nmT tk) Tryd.underlying9 hkz
 have hvt:=hvk.out tk htk
 have hAll:=Lib.hid (fun (w':World) (hb:Below wb.heap.size wb w')=>(show w'.cell? ⟨pb,3,none⟩=some (.map (some vb))∧(Instr.lookup 60 (.map (some vb)) (.string (nmT tk)) true).run Tryd.prog w'=.ok (.tuple #[.agg #[.int .u8 op,.func (.func (rstF r)) #[] #[]],.bool true]) w' from by
  have hPb:=hPB.below hb
  refine⟨by rw [blk_cell hPb.blk];rfl,?_⟩
  have:=vmap_run (zF w') lawF Tryd.underlying60 hPb.vmap hkey2
  rw [hvt] at this
  exact this))
 unfold tokV at hwd
 replace hPB:=Lib.hid hPB
 clear hTB htk hkz hkey2 hvt hvk
 go_upto_region 10 with fail
 go_cut [9,10] from 72 to 82 (fun v9 v10 wx=>v10=.bool true∧∃b9,v9=.pointer (some ⟨b9,0,none⟩)∧Hid (Below wb.heap.size wb wx∧wx.heap[b9]?=some (.cells #[.int .u8 op,.func (.func (rstF r)) #[] #[]] 85 (0,0))∧wb.heap.size≤b9))
 case first=>
  have hBel:Below wb.heap.size wb wb.drew:=(Below.refl _ _).drew
  have hC:=(hAll.out _ hBel).1
  refine wp_region_held_drew (S:=(fun w'=>w'.cell? ⟨pb,3,none⟩=some (.map (some vb)))) (by kernel_rfl) hC (fun hHeld=>?_)
  clear hHeld
  refine wpAnyH_take (i:=0) (oi:=(.mk (some 73) (.move (.tmp 0)) 59 "read.go:151" #[] none)) (v:=?_) rfl (by kernel_rfl) (by kernel_rfl) (by kernel_rfl) (fun _ _ _ h=>h) (Or.inl ⟨by rfl,?_⟩) hC ?_
  rotate_left
  ·(intro w hSw;(try dsimp only at hSw);go_simp;try with_reducible rfl)
  try simp only [Act.put,List.setIfInBounds_toArray,List.set_cons_zero,List.set_cons_succ]
  refine wpAnyH_take (i:=1) (oi:=(.mk (some 74) (.nilCheck (.tmp 73)) 0 "read.go:151" #[.mk 0 .data] none)) (v:=?_) rfl (by kernel_rfl) (by kernel_rfl) (by kernel_rfl) (fun _ _ _ h=>h) (Or.inl ⟨by rfl,?_⟩) hC ?_
  rotate_left
  ·(intro w hSw;(try dsimp only at hSw);go_simp;try with_reducible rfl)
  try simp only [Act.put,List.setIfInBounds_toArray,List.set_cons_zero,List.set_cons_succ]
  refine wpAnyH_take (i:=2) (oi:=(.mk (some 75) (.fieldAddr 63 (.tmp 74) 3) 0 "read.go:151" #[.mk 1 .data] none)) (v:=?_) rfl (by kernel_rfl) (by kernel_rfl) (by kernel_rfl) (fun _ _ _ h=>h) (Or.inl ⟨by rfl,?_⟩) hC ?_
  rotate_left
  ·(intro w hSw;(try dsimp only at hSw);go_simp;try with_reducible rfl)
  try simp only [Act.put,List.setIfInBounds_toArray,List.set_cons_zero,List.set_cons_succ]
  refine wpAnyH_take (i:=3) (oi:=(.mk (some 76) (.load 60 (.tmp 75)) 60 "read.go:151" #[.mk 2 .data] none)) (v:=?_) rfl (by kernel_rfl) (by kernel_rfl) (by kernel_rfl) (fun _ _ _ h=>h) (Or.inl ⟨by rfl,?_⟩) hC ?_
  rotate_left
  ·(intro w hSw;(try dsimp only at hSw);go_simp;try with_reducible rfl)
  try simp only [Act.put,List.setIfInBounds_toArray,List.set_cons_zero,List.set_cons_succ]
  refine wpAnyH_take (i:=4) (oi:=(.mk (some 77) (.move (.tmp 0)) 59 "read.go:151" #[] none)) (v:=?_) rfl (by kernel_rfl) (by kernel_rfl) (by kernel_rfl) (fun _ _ _ h=>h) (Or.inl ⟨by rfl,?_⟩) hC ?_
  rotate_left
  ·(intro w hSw;(try dsimp only at hSw);go_simp;try with_reducible rfl)
  try simp only [Act.put,List.setIfInBounds_toArray,List.set_cons_zero,List.set_cons_succ]
  refine wpAnyH_ready (rs:=[5,11]) (by kernel_rfl) (by simp) (AllReadyH.cons (o:=(.mk (some 78) (.call (.mk (.value (.func 19)) #[(.tmp 77)] #[59])) 38 "read.go:151" #[.mk 4 .data] none)) rfl (fun K hK=>?_) (AllReadyH.cons (o:=(.mk (some 9) (.alloc 85) 0 "read.go:151" #[] none)) rfl (fun K hK=>?_) AllReadyH.nil))
  ·skip
   go_simp
   go_at_call 19
   refine (hwd.out _ hBel).mono ?_
   rintro e w6 ⟨rfl,hb6⟩
   replace hBel:=hBel.trans (hb6.mono hBel.size)
   have hBel6:=hBel
   have hC:=(hAll.out _ hBel).1
   have hrun:=(hAll.out _ hBel).2
   go_simp
   refine hK.out _ _ hC (fun hHeld=>?_)
   clear hK K hHeld
   try simp only [Act.put,List.setIfInBounds_toArray,List.set_cons_zero,List.set_cons_succ]
   refine wpAnyH_take (i:=6) (oi:=(.mk (some 79) (.field 38 (.tmp 78) 1) 9 "read.go:151" #[.mk 5 .data] none)) (v:=?_) rfl (by kernel_rfl) (by kernel_rfl) (by kernel_rfl) (fun _ _ _ h=>h) (Or.inl ⟨by rfl,?_⟩) hC ?_
   rotate_left
   ·(intro w hSw;(try dsimp only at hSw);go_simp;try with_reducible rfl)
   try simp only [Act.put,List.setIfInBounds_toArray,List.set_cons_zero,List.set_cons_succ]
   refine wpAnyH_ready (rs:=[7,11]) (by kernel_rfl) (by simp) (AllReadyH.cons (o:=(.mk (some 80) (.lookup 60 (.tmp 76) (.tmp 79) true) 102 "read.go:151" #[.mk 3 .data,.mk 6 .data] none)) rfl (fun K hK=>?_) (AllReadyH.cons (o:=(.mk (some 9) (.alloc 85) 0 "read.go:151" #[] none)) rfl (fun K hK=>?_) AllReadyH.nil))
   ·skip
    go_simp
    skip
    refine hK.out _ _ hC (fun hHeld=>?_)
    clear hK K hHeld
    try simp only [Act.put,List.setIfInBounds_toArray,List.set_cons_zero,List.set_cons_succ]
    refine wpAnyH_take (i:=8) (oi:=(.mk (some 72) (.move (.tmp 80)) 102 "read.go:151" #[.mk 7 .data] none)) (v:=?_) rfl (by kernel_rfl) (by kernel_rfl) (by kernel_rfl) (fun _ _ _ h=>h) (Or.inl ⟨by rfl,?_⟩) hC ?_
    rotate_left
    ·(intro w hSw;(try dsimp only at hSw);go_simp;try with_reducible rfl)
    try simp only [Act.put,List.setIfInBounds_toArray,List.set_cons_zero,List.set_cons_succ]
    refine wpAnyH_take (i:=9) (oi:=(.mk (some 81) (.extract (.tmp 72) 0) 85 "read.go:151" #[.mk 8 .data] none)) (v:=?_) rfl (by kernel_rfl) (by kernel_rfl) (by kernel_rfl) (fun _ _ _ h=>h) (Or.inl ⟨by rfl,?_⟩) hC ?_
    rotate_left
    ·(intro w hSw;(try dsimp only at hSw);go_simp;try with_reducible rfl)
    try simp only [Act.put,List.setIfInBounds_toArray,List.set_cons_zero,List.set_cons_succ]
    refine wpAnyH_take (i:=10) (oi:=(.mk (some 82) (.extract (.tmp 72) 1) 4 "read.go:151" #[.mk 8 .data,.mk 12 (.gcOnly .lateStores)] none)) (v:=?_) rfl (by kernel_rfl) (by kernel_rfl) (by kernel_rfl) (fun _ _ _ h=>h) (Or.inl ⟨by rfl,?_⟩) hC ?_
    rotate_left
    ·(intro w hSw;(try dsimp only at hSw);go_simp;try with_reducible rfl)
    try simp only [Act.put,List.setIfInBounds_toArray,List.set_cons_zero,List.set_cons_succ]
    refine wpAnyH_ready (rs:=[11]) (by kernel_rfl) (by simp) (AllReadyH.cons (o:=(.mk (some 9) (.alloc 85) 0 "read.go:151" #[] none)) rfl (fun K hK=>?_) AllReadyH.nil)
    go_simp
    have hbox:(w6.alloc (.cells #[.int .u8 0,.nilFunc] 85)).heap[w6.heap.size]?=some (.cells #[.int .u8 0,.nilFunc] 85):=at_newP rfl
    replace hBel:=hBel.alloc hBel.size (.cells #[.int .u8 0,.nilFunc] 85)
    have hC:=(hAll.out _ hBel).1
    have hrun:=(hAll.out _ hBel).2
    refine hK.out _ _ hC (fun hHeld=>?_)
    clear hK K hHeld
    try simp only [Act.put,List.setIfInBounds_toArray,List.set_cons_zero,List.set_cons_succ]
    refine wpAnyH_ready (rs:=[12]) (by kernel_rfl) (by simp) (AllReadyH.cons (o:=(.mk none (.store 85 (.tmp 9) (.tmp 81)) 0 "read.go:151" #[.mk 11 .data,.mk 9 .data,.mk 5 .chain,.mk 0 .phase,.mk 1 .phase,.mk 2 .phase,.mk 3 .phase,.mk 4 .phase,.mk 5 .phase,.mk 6 .phase,.mk 7 .phase,.mk 8 .phase,.mk 9 .phase,.mk 10 (.textOnly .lateStores),.mk 11 .phase] none)) rfl (fun K hK=>?_) AllReadyH.nil)
    go_simp
    have hBel:=hBel6.alloc hBel6.size (.cells #[.int .u8 op,.func (.func (rstF r)) #[] #[]] 85)
    have hC:=(hAll.out _ hBel).1
    refine hK.out _ _ hC (fun hHeld=>?_)
    clear hK K hHeld
    try simp only [Act.put,List.setIfInBounds_toArray,List.set_cons_zero,List.set_cons_succ]
    refine wpAnyH_take (i:=13) (oi:=(.mk (some 10) (.assign (.tmp 82)) 4 "read.go:151" #[.mk 10 .data,.mk 12 .chain,.mk 0 .phase,.mk 1 .phase,.mk 2 .phase,.mk 3 .phase,.mk 4 .phase,.mk 5 .phase,.mk 6 .phase,.mk 7 .phase,.mk 8 .phase,.mk 9 .phase,.mk 10 .phase,.mk 11 .phase,.mk 12 .phase] none)) (v:=?_) rfl (by kernel_rfl) (by kernel_rfl) (by kernel_rfl) (fun _ _ _ h=>h) (Or.inl ⟨by rfl,?_⟩) hC ?_
    rotate_left
    ·(intro w hSw;(try dsimp only at hSw);go_simp;try with_reducible rfl)
    try simp only [Act.put,List.setIfInBounds_toArray,List.set_cons_zero,List.set_cons_succ]
    refine wpAnyH_done (by kernel_rfl) ?_ _
    go_wp2_with fail
    go_meet
    exact⟨rfl,w6.heap.size,rfl,Lib.hid ⟨hBel,at_newP rfl,hBel6.size⟩⟩
   ·skip
    go_simp
    have hbox:(w6.alloc (.cells #[.int .u8 0,.nilFunc] 85)).heap[w6.heap.size]?=some (.cells #[.int .u8 0,.nilFunc] 85):=at_newP rfl
    replace hBel:=hBel.alloc hBel.size (.cells #[.int .u8 0,.nilFunc] 85)
    have hC:=(hAll.out _ hBel).1
    have hrun:=(hAll.out _ hBel).2
    refine hK.out _ _ hC (fun hHeld=>?_)
    clear hK K hHeld
    try simp only [Act.put,List.setIfInBounds_toArray,List.set_cons_zero,List.set_cons_succ]
    refine wpAnyH_ready (rs:=[7]) (by kernel_rfl) (by simp) (AllReadyH.cons (o:=(.mk (some 80) (.lookup 60 (.tmp 76) (.tmp 79) true) 102 "read.go:151" #[.mk 3 .data,.mk 6 .data] none)) rfl (fun K hK=>?_) AllReadyH.nil)
    go_simp
    skip
    refine hK.out _ _ hC (fun hHeld=>?_)
    clear hK K hHeld
    try simp only [Act.put,List.setIfInBounds_toArray,List.set_cons_zero,List.set_cons_succ]
    refine wpAnyH_take (i:=8) (oi:=(.mk (some 72) (.move (.tmp 80)) 102 "read.go:151" #[.mk 7 .data] none)) (v:=?_) rfl (by kernel_rfl) (by kernel_rfl) (by kernel_rfl) (fun _ _ _ h=>h) (Or.inl ⟨by rfl,?_⟩) hC ?_
    rotate_left
    ·(intro w hSw;(try dsimp only at hSw);go_simp;try with_reducible rfl)
    try simp only [Act.put,List.setIfInBounds_toArray,List.set_cons_zero,List.set_cons_succ]
    refine wpAnyH_take (i:=9) (oi:=(.mk (some 81) (.extract (.tmp 72) 0) 85 "read.go:151" #[.mk 8 .data] none)) (v:=?_) rfl (by kernel_rfl) (by kernel_rfl) (by kernel_rfl) (fun _ _ _ h=>h) (Or.inl ⟨by rfl,?_⟩) hC ?_
    rotate_left
    ·(intro w hSw;(try dsimp only at hSw);go_simp;try with_reducible rfl)
    try simp only [Act.put,List.setIfInBounds_toArray,List.set_cons_zero,List.set_cons_succ]
    refine wpAnyH_take (i:=10) (oi:=(.mk (some 82) (.extract (.tmp 72) 1) 4 "read.go:151" #[.mk 8 .data,.mk 12 (.gcOnly .lateStores)] none)) (v:=?_) rfl (by kernel_rfl) (by kernel_rfl) (by kernel_rfl) (fun _ _ _ h=>h) (Or.inl ⟨by rfl,?_⟩) hC ?_
    rotate_left
    ·(intro w hSw;(try dsimp only at hSw);go_simp;try with_reducible rfl)
    try simp only [Act.put,List.setIfInBounds_toArray,List.set_cons_zero,List.set_cons_succ]
    refine wpAnyH_ready (rs:=[12]) (by kernel_rfl) (by simp) (AllReadyH.cons (o:=(.mk none (.store 85 (.tmp 9) (.tmp 81)) 0 "read.go:151" #[.mk 11 .data,.mk 9 .data,.mk 5 .chain,.mk 0 .phase,.mk 1 .phase,.mk 2 .phase,.mk 3 .phase,.mk 4 .phase,.mk 5 .phase,.mk 6 .phase,.mk 7 .phase,.mk 8 .phase,.mk 9 .phase,.mk 10 (.textOnly .lateStores),.mk 11 .phase] none)) rfl (fun K hK=>?_) AllReadyH.nil)
    go_simp
    have hBel:=hBel6.alloc hBel6.size (.cells #[.int .u8 op,.func (.func (rstF r)) #[] #[]] 85)
    have hC:=(hAll.out _ hBel).1
    refine hK.out _ _ hC (fun hHeld=>?_)
    clear hK K hHeld
    try simp only [Act.put,List.setIfInBounds_toArray,List.set_cons_zero,List.set_cons_succ]
    refine wpAnyH_take (i:=13) (oi:=(.mk (some 10) (.assign (.tmp 82)) 4 "read.go:151" #[.mk 10 .data,.mk 12 .chain,.mk 0 .phase,.mk 1 .phase,.mk 2 .phase,.mk 3 .phase,.mk 4 .phase,.mk 5 .phase,.mk 6 .phase,.mk 7 .phase,.mk 8 .phase,.mk 9 .phase,.mk 10 .phase,.mk 11 .phase,.mk 12 .phase] none)) (v:=?_) rfl (by kernel_rfl) (by kernel_rfl) (by kernel_rfl) (fun _ _ _ h=>h) (Or.inl ⟨by rfl,?_⟩) hC ?_
    rotate_left
    ·(intro w hSw;(try dsimp only at hSw);go_simp;try with_reducible rfl)
    try simp only [Act.put,List.setIfInBounds_toArray,List.set_cons_zero,List.set_cons_succ]
    refine wpAnyH_done (by kernel_rfl) ?_ _
    go_wp2_with fail
    go_meet
    exact⟨rfl,w6.heap.size,rfl,Lib.hid ⟨hBel,at_newP rfl,hBel6.size⟩⟩
  ·skip
   go_simp
   have hbox:(wb.drew.alloc (.cells #[.int .u8 0,.nilFunc] 85)).heap[wb.heap.size]?=some (.cells #[.int .u8 0,.nilFunc] 85):=at_newP rfl
   replace hBel:=hBel.alloc hBel.size (.cells #[.int .u8 0,.nilFunc] 85)
   have hC:=(hAll.out _ hBel).1
   have hrun:=(hAll.out _ hBel).2
   refine hK.out _ _ hC (fun hHeld=>?_)
   clear hK K hHeld
   try simp only [Act.put,List.setIfInBounds_toArray,List.set_cons_zero,List.set_cons_succ]
   refine wpAnyH_ready (rs:=[5]) (by kernel_rfl) (by simp) (AllReadyH.cons (o:=(.mk (some 78) (.call (.mk (.value (.func 19)) #[(.tmp 77)] #[59])) 38 "read.go:151" #[.mk 4 .data] none)) rfl (fun K hK=>?_) AllReadyH.nil)
   go_simp
   go_at_call 19
   refine (hwd.out _ hBel).mono ?_
   rintro e w6 ⟨rfl,hb6⟩
   replace hbox:=keepB hb6 hbox
   obtain⟨z0,z1⟩:=cells2P hbox
   have y0:=frozB hbox 0
   have y1:=frozB hbox 1
   have l6:wb.heap.size<w6.heap.size:=by have:=hb6.size;simp at this;omega
   replace hBel:=hBel.trans (hb6.mono hBel.size)
   have hBel6:=hBel
   have hC:=(hAll.out _ hBel).1
   have hrun:=(hAll.out _ hBel).2
   go_simp
   refine hK.out _ _ hC (fun hHeld=>?_)
   clear hK K hHeld
   try simp only [Act.put,List.setIfInBounds_toArray,List.set_cons_zero,List.set_cons_succ]
   refine wpAnyH_take (i:=6) (oi:=(.mk (some 79) (.field 38 (.tmp 78) 1) 9 "read.go:151" #[.mk 5 .data] none)) (v:=?_) rfl (by kernel_rfl) (by kernel_rfl) (by kernel_rfl) (fun _ _ _ h=>h) (Or.inl ⟨by rfl,?_⟩) hC ?_
   rotate_left
   ·(intro w hSw;(try dsimp only at hSw);go_simp;try with_reducible rfl)
   try simp only [Act.put,List.setIfInBounds_toArray,List.set_cons_zero,List.set_cons_succ]
   refine wpAnyH_ready (rs:=[7]) (by kernel_rfl) (by simp) (AllReadyH.cons (o:=(.mk (some 80) (.lookup 60 (.tmp 76) (.tmp 79) true) 102 "read.go:151" #[.mk 3 .data,.mk 6 .data] none)) rfl (fun K hK=>?_) AllReadyH.nil)
   go_simp
   skip
   refine hK.out _ _ hC (fun hHeld=>?_)
   clear hK K hHeld
   try simp only [Act.put,List.setIfInBounds_toArray,List.set_cons_zero,List.set_cons_succ]
   refine wpAnyH_take (i:=8) (oi:=(.mk (some 72) (.move (.tmp 80)) 102 "read.go:151" #[.mk 7 .data] none)) (v:=?_) rfl (by kernel_rfl) (by kernel_rfl) (by kernel_rfl) (fun _ _ _ h=>h) (Or.inl ⟨by rfl,?_⟩) hC ?_
   rotate_left
   ·(intro w hSw;(try dsimp only at hSw);go_simp;try with_reducible rfl)
   try simp only [Act.put,List.setIfInBounds_toArray,List.set_cons_zero,List.set_cons_succ]
   refine wpAnyH_take (i:=9) (oi:=(.mk (some 81) (.extract (.tmp 72) 0) 85 "read.go:151" #[.mk 8 .data] none)) (v:=?_) rfl (by kernel_rfl) (by kernel_rfl) (by kernel_rfl) (fun _ _ _ h=>h) (Or.inl ⟨by rfl,?_⟩) hC ?_
   rotate_left
   ·(intro w hSw;(try dsimp only at hSw);go_simp;try with_reducible rfl)
   try simp only [Act.put,List.setIfInBounds_toArray,List.set_cons_zero,List.set_cons_succ]
   refine wpAnyH_take (i:=10) (oi:=(.mk (some 82) (.extract (.tmp 72) 1) 4 "read.go:151" #[.mk 8 .data,.mk 12 (.gcOnly .lateStores)] none)) (v:=?_) rfl (by kernel_rfl) (by kernel_rfl) (by kernel_rfl) (fun _ _ _ h=>h) (Or.inl ⟨by rfl,?_⟩) hC ?_
   rotate_left
   ·(intro w hSw;(try dsimp only at hSw);go_simp;try with_reducible rfl)
   try simp only [Act.put,List.setIfInBounds_toArray,List.set_cons_zero,List.set_cons_succ]
   refine wpAnyH_ready (rs:=[12]) (by kernel_rfl) (by simp) (AllReadyH.cons (o:=(.mk none (.store 85 (.tmp 9) (.tmp 81)) 0 "read.go:151" #[.mk 11 .data,.mk 9 .data,.mk 5 .chain,.mk 0 .phase,.mk 1 .phase,.mk 2 .phase,.mk 3 .phase,.mk 4 .phase,.mk 5 .phase,.mk 6 .phase,.mk 7 .phase,.mk 8 .phase,.mk 9 .phase,.mk 10 (.textOnly .lateStores),.mk 11 .phase] none)) rfl (fun K hK=>?_) AllReadyH.nil)
   go_simp
   replace hBel:=(hBel.setCell (p:=⟨wb.heap.size,0,none⟩) (Nat.le_refl _) (.int .u8 op)).setCell (p:=⟨wb.heap.size,1,none⟩) (Nat.le_refl _) (.func (.func (rstF r)) #[] #[])
   have hC:=(hAll.out _ hBel).1
   refine hK.out _ _ hC (fun hHeld=>?_)
   clear hK K hHeld
   try simp only [Act.put,List.setIfInBounds_toArray,List.set_cons_zero,List.set_cons_succ]
   refine wpAnyH_take (i:=13) (oi:=(.mk (some 10) (.assign (.tmp 82)) 4 "read.go:151" #[.mk 10 .data,.mk 12 .chain,.mk 0 .phase,.mk 1 .phase,.mk 2 .phase,.mk 3 .phase,.mk 4 .phase,.mk 5 .phase,.mk 6 .phase,.mk 7 .phase,.mk 8 .phase,.mk 9 .phase,.mk 10 .phase,.mk 11 .phase,.mk 12 .phase] none)) (v:=?_) rfl (by kernel_rfl) (by kernel_rfl) (by kernel_rfl) (fun _ _ _ h=>h) (Or.inl ⟨by rfl,?_⟩) hC ?_
   rotate_left
   ·(intro w hSw;(try dsimp only at hSw);go_simp;try with_reducible rfl)
   try simp only [Act.put,List.setIfInBounds_toArray,List.set_cons_zero,List.set_cons_succ]
   refine wpAnyH_done (by kernel_rfl) ?_ _
   go_wp2_with fail
   go_meet
   exact⟨rfl,wb.heap.size,rfl,Lib.hid ⟨hBel,blk_set (i:=1) _ (blk_set (i:=0) _ hbox),Nat.le_refl _⟩⟩
 case rest=>
  obtain⟨rfl,b9,rfl,hcc⟩:=hcut
  rename World=>wx
  have hPC:=Lib.hid (hPB.out.below hcc.out.1)
  have tc:=Touch.of_below hcc.out.1 (fun k=>k=pb)
  have hFC:=Lib.hid (hFB.out.keep tc (fun k e=>by subst e;omega))
  have tC:=Lib.hid (tB.out.trans tc)
  have hBC:=Lib.hid hcc.out.2.1
  have hbox9:b9≠pb∧b9<wx.heap.size:=⟨fun e=>by have h1:=hcc.out.2.2;have h2:=hPB.out.ltP;have h3:=hPB.out.top;omega,(Array.getElem?_eq_some_iff.1 hcc.out.2.1).1⟩
  go_wp2_with fail
  refine (hnk.out _ hPC.out).mono ?_
  rintro e wd ⟨rfl,hPD,hTD⟩
  have hPW:=Lib.hid hPD
  have hFW:=Lib.hid (hFC.out.keep hTD (fun k e=>by subst e;omega))
  have hBW:=Lib.hid ((hTD.block b9 hbox9.2 hbox9.1).trans hBC.out)
  have hboxW:b9≠pb∧b9<wd.heap.size:=⟨hbox9.1,Nat.lt_of_lt_of_le hbox9.2 hTD.size⟩
  have tW:=Lib.hid (tC.out.trans hTD)
  have hboxg:b9≠gb:=by have h1:=(hFB.out.cellV hm.out).2.2.2;have:=hcc.out.2.2;omega
  have hboxc:¬(Value.slice ac n cc).ownBlock=some b9:=fun e=>by have:=(hFB.out.code.lt _ e).2;have:=hcc.out.2.2;omega
  clear hPD hTD
  obtain⟨z,-,hge,hltg⟩:=hFW.out.cellV hm.out
  have z:wd.drew.cell? ⟨gb,m*2+1,none⟩=some (.slice ac n cc):=z
  obtain⟨hc0,hc1⟩:=cells2P hBW.out
  have hC:wd.drew.cell? ⟨b9,0,none⟩=some (.int .u8 op)∧wd.drew.cell? ⟨b9,1,none⟩=some (.func (.func (rstF r)) #[] #[]):=⟨hc0,hc1⟩
  have hPd:=Lib.hid (hPW.out.below (Below.refl _ _).drew)
  go_upto_region 14 with fail
  clear hc0 hc1
  refine wp_region_held_drew (S:=(fun w'=>w'.cell? ⟨b9,0,none⟩=some (.int .u8 op)∧w'.cell? ⟨b9,1,none⟩=some (.func (.func (rstF r)) #[] #[]))) (by kernel_rfl) hC (fun hHeld=>?_)
  clear hHeld
  refine wpAnyH_take (i:=0) (oi:=(.mk (some 89) (.move (.tmp 6)) 101 "read.go:156" #[] none)) (v:=?_) rfl (by kernel_rfl) (by kernel_rfl) (by kernel_rfl) (fun _ _ _ h=>h) (Or.inl ⟨by rfl,?_⟩) hC ?_
  rotate_left
  ·(intro w hSw;(try dsimp only at hSw);go_simp;try with_reducible rfl)
  try simp only [Act.put,List.setIfInBounds_toArray,List.set_cons_zero,List.set_cons_succ]
  refine wpAnyH_take (i:=1) (oi:=(.mk (some 90) (.move (.tmp 6)) 101 "read.go:156" #[] none)) (v:=?_) rfl (by kernel_rfl) (by kernel_rfl) (by kernel_rfl) (fun _ _ _ h=>h) (Or.inl ⟨by rfl,?_⟩) hC ?_
  rotate_left
  ·(intro w hSw;(try dsimp only at hSw);go_simp;try with_reducible rfl)
  try simp only [Act.put,List.setIfInBounds_toArray,List.set_cons_zero,List.set_cons_succ]
  refine wpAnyH_take (i:=2) (oi:=(.mk (some 91) (.nilCheck (.tmp 90)) 0 "read.go:156" #[.mk 1 .data] none)) (v:=?_) rfl (by kernel_rfl) (by kernel_rfl) (by kernel_rfl) (fun _ _ _ h=>h) (Or.inl ⟨by rfl,?_⟩) hC ?_
  rotate_left
  ·(intro w hSw;(try dsimp only at hSw);go_simp;try with_reducible rfl)
  try simp only [Act.put,List.setIfInBounds_toArray,List.set_cons_zero,List.set_cons_succ]
  refine wpAnyH_take (i:=4) (oi:=(.mk (some 93) (.move (.tmp 0)) 59 "read.go:156" #[] none)) (v:=?_) rfl (by kernel_rfl) (by kernel_rfl) (by kernel_rfl) (fun _ _ _ h=>h) (Or.inl ⟨by rfl,?_⟩) hC ?_
  rotate_left
  ·(intro w hSw;(try dsimp only at hSw);go_simp;try with_reducible rfl)
  try simp only [Act.put,List.setIfInBounds_toArray,List.set_cons_zero,List.set_cons_succ]
  refine wpAnyH_take (i:=5) (oi:=(.mk (some 94) (.load 85 (.tmp 9)) 85 "read.go:156" #[] none)) (v:=?_) rfl (by kernel_rfl) (by kernel_rfl) (by kernel_rfl) (fun _ _ _ h=>h) (Or.inl ⟨by rfl,?_⟩) hC ?_
  rotate_left
  ·(intro w hSw;(try dsimp only at hSw);go_simp;try with_reducible rfl)
  try simp only [Act.put,List.setIfInBounds_toArray,List.set_cons_zero,List.set_cons_succ]
  refine wpAnyH_take (i:=6) (oi:=(.mk (some 95) (.move (.tmp 4)) 9 "read.go:156" #[] none)) (v:=?_) rfl (by kernel_rfl) (by kernel_rfl) (by kernel_rfl) (fun _ _ _ h=>h) (Or.inl ⟨by rfl,?_⟩) hC ?_
  rotate_left
  ·(intro w hSw;(try dsimp only at hSw);go_simp;try with_reducible rfl)
  try simp only [Act.put,List.setIfInBounds_toArray,List.set_cons_zero,List.set_cons_succ]
  refine wpAnyH_ready (rs:=[3,7]) (by kernel_rfl) (by simp) (AllReadyH.cons (o:=(.mk (some 92) (.load 44 (.tmp 91)) 44 "read.go:156" #[.mk 2 .data] none)) rfl (fun K hK=>?_) (AllReadyH.cons (o:=(.mk (some 96) (.call (.mk (.value (.func 67)) #[(.tmp 93),(.tmp 94),(.tmp 95)] #[59,85,9])) 49 "read.go:156" #[.mk 4 .data,.mk 5 .data,.mk 6 .data] none)) rfl (fun K hK=>?_) AllReadyH.nil))
  ·skip
   go_simp
   skip
   refine hK.out _ _ hC (fun hHeld=>?_)
   clear hK K hHeld
   try simp only [Act.put,List.setIfInBounds_toArray,List.set_cons_zero,List.set_cons_succ]
   refine wpAnyH_ready (rs:=[7]) (by kernel_rfl) (by simp) (AllReadyH.cons (o:=(.mk (some 96) (.call (.mk (.value (.func 67)) #[(.tmp 93),(.tmp 94),(.tmp 95)] #[59,85,9])) 49 "read.go:156" #[.mk 4 .data,.mk 5 .data,.mk 6 .data] none)) rfl (fun K hK=>?_) AllReadyH.nil)
   go_simp
   go_at_call 67
   refine (hins.out _ hPd.out).mono ?_
   rintro e w6 ⟨hT6,hx⟩
   dsimp only at hx
   obtain⟨a1,c1,a2,c2,i6,rfl,hl6,hP6,ra6,rl6⟩:=hx
   have t6:Touch wd w6 (fun k=>k=pb):=(Touch.refl wd _).drew.trans hT6
   have hF6:=hFW.out.keep t6 (fun k e=>by subst e;omega)
   obtain⟨z,-,-,hltg6⟩:=hF6.cellV hm.out
   have hB6:=(t6.block b9 hboxW.2 hboxW.1).trans hBW.out
   obtain⟨hc0,hc1⟩:=cells2P hB6
   replace hC:w6.cell? ⟨b9,0,none⟩=some (.int .u8 op)∧w6.cell? ⟨b9,1,none⟩=some (.func (.func (rstF r)) #[] #[]):=⟨hc0,hc1⟩
   replace hF6:=Lib.hid hF6
   replace t6:=Lib.hid t6
   replace hB6:=Lib.hid hB6
   replace ra6:=Lib.hid ra6
   replace rl6:=Lib.hid rl6
   replace hP6:=Lib.hid hP6
   replace hl6:=Lib.hid hl6
   obtain⟨xs,hxl,hxs⟩:=hF6.out.code
   have hlow6:Bf≤w6.heap.size:=hF6.out.top
   have hboxl:b9<w6.heap.size:=Nat.lt_of_lt_of_le hboxW.2 t6.out.size
   rw [←hnn.out] at hxl
   have hown:=Lib.hid (ownsRow_touch (S:=fun _=>False) hxl ((Touch.refl w6 _).alloc (.cells #[.int .u8 y.op,.string y.dst,.string y.a,.string y.b,.int .i64 y.n,.string y.fn,.slice a1 y.args.length c1,.slice a2 y.labels.length c2] 49)) (fun _ _ h=>h))
   have hxl:=Lib.hid hxl
   have hxs:=Lib.hid hxs
   clear hT6 hc0 hc1
   go_simp
   refine hK.out _ _ hC (fun hHeld=>?_)
   clear hK K hHeld
   try simp only [Act.put,List.setIfInBounds_toArray,List.set_cons_zero,List.set_cons_succ]
   refine wpAnyH_ready (rs:=[8]) (by kernel_rfl) (by simp) (AllReadyH.cons (o:=(.mk (some 97) (.buildSlice 44 1 #[(0,(.tmp 96))]) 44 "read.go:156" #[.mk 7 .data] none)) rfl (fun K hK=>?_) AllReadyH.nil)
   go_simp
   obtain⟨hc0,hc1⟩:=cells2P (at_oldP (o:=.cells #[.int .u8 y.op,.string y.dst,.string y.a,.string y.b,.int .i64 y.n,.string y.fn,.slice a1 y.args.length c1,.slice a2 y.labels.length c2] 49) hB6.out)
   replace hC:(w6.alloc (.cells #[.int .u8 y.op,.string y.dst,.string y.a,.string y.b,.int .i64 y.n,.string y.fn,.slice a1 y.args.length c1,.slice a2 y.labels.length c2] 49)).cell? ⟨b9,0,none⟩=some (.int .u8 op)∧(w6.alloc (.cells #[.int .u8 y.op,.string y.dst,.string y.a,.string y.b,.int .i64 y.n,.string y.fn,.slice a1 y.args.length c1,.slice a2 y.labels.length c2] 49)).cell? ⟨b9,1,none⟩=some (.func (.func (rstF r)) #[] #[]):=⟨hc0,hc1⟩
   clear hc0 hc1
   refine hK.out _ _ hC (fun hHeld=>?_)
   clear hK K hHeld
   try simp only [Act.put,List.setIfInBounds_toArray,List.set_cons_zero,List.set_cons_succ]
   refine wpAnyH_ready (rs:=[9]) (by kernel_rfl) (by simp) (AllReadyH.cons (o:=(.mk (some 98) (.call (.mk (.builtin Builtin.append) #[(.tmp 92),(.tmp 97)] #[44,44])) 44 "read.go:156" #[.mk 3 .data,.mk 8 .data,.mk 7 .chain] none)) rfl (fun K hK=>?_) AllReadyH.nil)
   refine step_append_lies _ (by rfl) _ _ _ (by rfl) Bf 49 i0 _ 8 128 Tryd.underlying44 hi0 hz0 hz1 hz2 rfl (by omega) (.slice ac n cc) n xs (by rfl) hown.out ⟨w6.heap.size,0,none⟩ 1 1 [.int .u8 y.op,.string y.dst,.string y.a,.string y.b,.int .i64 y.n,.string y.fn,.slice a1 y.args.length c1,.slice a2 y.labels.length c2] (by rfl) (by rfl) (World.news_of_block (cs:=#[.int .u8 y.op,.string y.dst,.string y.a,.string y.b,.int .i64 y.n,.string y.fn,.slice a1 y.args.length c1,.slice a2 y.labels.length c2]) (t:=49) (fr:=(0,0)) (heap_alloc_new w6 _)) (by simp [Value.oneCell']) (by omega) (by unfold maxLen;omega) (by omega) (by simp;omega) (w6.heap.size+1) (by simp) ?_
   intro gg cap2 w7 hO7 hg7 hat7 hlt7
   have hF6b:=hF6.out
   rw [hm.out] at hF6b
   obtain⟨he1,he2,⟨u7,hu7,e7⟩,y7⟩:=fop_instr (y:=y) (H:=wd.heap.size) hF6b hnn.out hxl.out hxs.out hg7 hO7 hat7 ra6.out rl6.out (by have:=hFW.out.top;omega) hltg (fun g hg=>(hFW.out.code.lt g hg).2)
   subst e7
   rw [←hm.out] at he1 he2 hu7 y7
   have hB8:=(((Touch.refl w6 (fun k=>(Value.slice ac n cc).ownBlock=some k)).alloc (.cells #[.int .u8 y.op,.string y.dst,.string y.a,.string y.b,.int .i64 y.n,.string y.fn,.slice a1 y.args.length c1,.slice a2 y.labels.length c2] 49)).trans (Touch.of_grown hg7 (fun k e=>e))).block b9 hboxl (fun e=>hboxc (by rw [e]))
   have hB8:=hB8.trans hB6.out
   obtain⟨hc0,hc1⟩:=cells2P hB8
   replace hC:w7.cell? ⟨b9,0,none⟩=some (.int .u8 op)∧w7.cell? ⟨b9,1,none⟩=some (.func (.func (rstF r)) #[] #[]):=⟨hc0,hc1⟩
   have hB9:=Lib.hid ((Below.heap_setCell w7 ⟨gb,m*2+1,none⟩ (.slice (some ⟨gg,0,none⟩) (n+1) cap2) b9 hboxg).trans hB8)
   have he:=Lib.hid (And.intro he1 he2)
   clear hO7 hg7 hat7 hlt7 hown hF6b he1 he2 hB8 hc0 hc1 z
   refine hK.out _ _ hC (fun hHeld=>?_)
   clear hK K hHeld
   try simp only [Act.put,List.setIfInBounds_toArray,List.set_cons_zero,List.set_cons_succ]
   refine wpAnyH_take (i:=10) (oi:=(.mk (some 99) (.nilCheck (.tmp 89)) 0 "read.go:156" #[.mk 0 .data,.mk 0 .phase,.mk 1 .phase,.mk 2 .phase,.mk 3 .phase,.mk 4 .phase,.mk 5 .phase,.mk 6 .phase,.mk 7 .phase,.mk 8 .phase,.mk 9 .phase] none)) (v:=?_) rfl (by kernel_rfl) (by kernel_rfl) (by kernel_rfl) (fun _ _ _ h=>h) (Or.inl ⟨by rfl,?_⟩) hC ?_
   rotate_left
   ·(intro w hSw;(try dsimp only at hSw);go_simp;try with_reducible rfl)
   try simp only [Act.put,List.setIfInBounds_toArray,List.set_cons_zero,List.set_cons_succ]
   refine wpAnyH_ready (rs:=[11]) (by kernel_rfl) (by simp) (AllReadyH.cons (o:=(.mk none (.store 44 (.tmp 99) (.tmp 98)) 0 "read.go:156" #[.mk 10 .data,.mk 9 .data,.mk 9 .chain,.mk 0 .phase,.mk 1 .phase,.mk 2 .phase,.mk 3 .phase,.mk 4 .phase,.mk 5 .phase,.mk 6 .phase,.mk 7 .phase,.mk 8 .phase,.mk 9 .phase] none)) rfl (fun K hK=>?_) AllReadyH.nil)
   go_simp
   obtain⟨hc0,hc1⟩:=cells2P hB9.out
   replace hC:(w7.setCell ⟨gb,m*2+1,none⟩ (.slice (some ⟨gg,0,none⟩) (n+1) cap2)).cell? ⟨b9,0,none⟩=some (.int .u8 op)∧(w7.setCell ⟨gb,m*2+1,none⟩ (.slice (some ⟨gg,0,none⟩) (n+1) cap2)).cell? ⟨b9,1,none⟩=some (.func (.func (rstF r)) #[] #[]):=⟨hc0,hc1⟩
   clear hc0 hc1
   refine hK.out _ _ hC (fun hHeld=>?_)
   clear hK K hHeld
   try simp only [Act.put,List.setIfInBounds_toArray,List.set_cons_zero,List.set_cons_succ]
   refine wpAnyH_done (by kernel_rfl) ?_ _
   go_wp2_with fail
   go_end0
   refine⟨(gtch_pb (tW.out.trans t6.out)).trans (he.out.2.mono (fun _ _ e=>.inr (.inr e))),rfl,i6,hl6.out,hP6.out.keep he.out.2 (fun k e=>by omega),.inr ⟨vp,gb,capb,.slice (some ⟨gg,0,none⟩) (n+1) cap2,bs,{x with code:=x.code++[y]},?_,?_⟩,?_,fun q hq=>?_,hlo,hBp⟩
   ·show addCode d.blocks y=_
    rw [hd.out,addCode_app]
   ·have h8:=he.out.1
    rw [hm.out] at h8 ⊢
    exact h8
   ·show (addCode d.blocks y).length≤i6
    rw [hd.out,addCode_app]
    have:=hnb.out
    rw [hd.out] at this
    have:=hi6 i6 hl6.out hP6.out.here
    simp only [List.length_append,List.length_singleton] at *
    omega
   ·have hq:q∈addCode d.blocks y:=hq
    rw [hd.out,addCode_app] at hq
    have h6:=hi6 i6 hl6.out hP6.out.here
    rcases List.mem_append.1 hq with hq | hq
    ·have:=hnc.out q (by rw [hd.out];exact List.mem_append.2 (.inl hq))
     omega
    ·rw [List.mem_singleton.1 hq]
     simp only [List.length_append,List.length_singleton]
     have:=hnn.out
     omega
  ·skip
   go_simp
   go_at_call 67
   refine (hins.out _ hPd.out).mono ?_
   rintro e w6 ⟨hT6,hx⟩
   dsimp only at hx
   obtain⟨a1,c1,a2,c2,i6,rfl,hl6,hP6,ra6,rl6⟩:=hx
   have t6:Touch wd w6 (fun k=>k=pb):=(Touch.refl wd _).drew.trans hT6
   have hF6:=hFW.out.keep t6 (fun k e=>by subst e;omega)
   obtain⟨z,-,-,hltg6⟩:=hF6.cellV hm.out
   have hB6:=(t6.block b9 hboxW.2 hboxW.1).trans hBW.out
   obtain⟨hc0,hc1⟩:=cells2P hB6
   replace hC:w6.cell? ⟨b9,0,none⟩=some (.int .u8 op)∧w6.cell? ⟨b9,1,none⟩=some (.func (.func (rstF r)) #[] #[]):=⟨hc0,hc1⟩
   replace hF6:=Lib.hid hF6
   replace t6:=Lib.hid t6
   replace hB6:=Lib.hid hB6
   replace ra6:=Lib.hid ra6
   replace rl6:=Lib.hid rl6
   replace hP6:=Lib.hid hP6
   replace hl6:=Lib.hid hl6
   obtain⟨xs,hxl,hxs⟩:=hF6.out.code
   have hlow6:Bf≤w6.heap.size:=hF6.out.top
   have hboxl:b9<w6.heap.size:=Nat.lt_of_lt_of_le hboxW.2 t6.out.size
   rw [←hnn.out] at hxl
   have hown:=Lib.hid (ownsRow_touch (S:=fun _=>False) hxl ((Touch.refl w6 _).alloc (.cells #[.int .u8 y.op,.string y.dst,.string y.a,.string y.b,.int .i64 y.n,.string y.fn,.slice a1 y.args.length c1,.slice a2 y.labels.length c2] 49)) (fun _ _ h=>h))
   have hxl:=Lib.hid hxl
   have hxs:=Lib.hid hxs
   clear hT6 hc0 hc1
   go_simp
   refine hK.out _ _ hC (fun hHeld=>?_)
   clear hK K hHeld
   try simp only [Act.put,List.setIfInBounds_toArray,List.set_cons_zero,List.set_cons_succ]
   refine wpAnyH_ready (rs:=[3,8]) (by kernel_rfl) (by simp) (AllReadyH.cons (o:=(.mk (some 92) (.load 44 (.tmp 91)) 44 "read.go:156" #[.mk 2 .data] none)) rfl (fun K hK=>?_) (AllReadyH.cons (o:=(.mk (some 97) (.buildSlice 44 1 #[(0,(.tmp 96))]) 44 "read.go:156" #[.mk 7 .data] none)) rfl (fun K hK=>?_) AllReadyH.nil))
   ·skip
    go_simp
    skip
    refine hK.out _ _ hC (fun hHeld=>?_)
    clear hK K hHeld
    try simp only [Act.put,List.setIfInBounds_toArray,List.set_cons_zero,List.set_cons_succ]
    refine wpAnyH_ready (rs:=[8]) (by kernel_rfl) (by simp) (AllReadyH.cons (o:=(.mk (some 97) (.buildSlice 44 1 #[(0,(.tmp 96))]) 44 "read.go:156" #[.mk 7 .data] none)) rfl (fun K hK=>?_) AllReadyH.nil)
    go_simp
    obtain⟨hc0,hc1⟩:=cells2P (at_oldP (o:=.cells #[.int .u8 y.op,.string y.dst,.string y.a,.string y.b,.int .i64 y.n,.string y.fn,.slice a1 y.args.length c1,.slice a2 y.labels.length c2] 49) hB6.out)
    replace hC:(w6.alloc (.cells #[.int .u8 y.op,.string y.dst,.string y.a,.string y.b,.int .i64 y.n,.string y.fn,.slice a1 y.args.length c1,.slice a2 y.labels.length c2] 49)).cell? ⟨b9,0,none⟩=some (.int .u8 op)∧(w6.alloc (.cells #[.int .u8 y.op,.string y.dst,.string y.a,.string y.b,.int .i64 y.n,.string y.fn,.slice a1 y.args.length c1,.slice a2 y.labels.length c2] 49)).cell? ⟨b9,1,none⟩=some (.func (.func (rstF r)) #[] #[]):=⟨hc0,hc1⟩
    clear hc0 hc1
    refine hK.out _ _ hC (fun hHeld=>?_)
    clear hK K hHeld
    try simp only [Act.put,List.setIfInBounds_toArray,List.set_cons_zero,List.set_cons_succ]
    refine wpAnyH_ready (rs:=[9]) (by kernel_rfl) (by simp) (AllReadyH.cons (o:=(.mk (some 98) (.call (.mk (.builtin Builtin.append) #[(.tmp 92),(.tmp 97)] #[44,44])) 44 "read.go:156" #[.mk 3 .data,.mk 8 .data,.mk 7 .chain] none)) rfl (fun K hK=>?_) AllReadyH.nil)
    refine step_append_lies _ (by rfl) _ _ _ (by rfl) Bf 49 i0 _ 8 128 Tryd.underlying44 hi0 hz0 hz1 hz2 rfl (by omega) (.slice ac n cc) n xs (by rfl) hown.out ⟨w6.heap.size,0,none⟩ 1 1 [.int .u8 y.op,.string y.dst,.string y.a,.string y.b,.int .i64 y.n,.string y.fn,.slice a1 y.args.length c1,.slice a2 y.labels.length c2] (by rfl) (by rfl) (World.news_of_block (cs:=#[.int .u8 y.op,.string y.dst,.string y.a,.string y.b,.int .i64 y.n,.string y.fn,.slice a1 y.args.length c1,.slice a2 y.labels.length c2]) (t:=49) (fr:=(0,0)) (heap_alloc_new w6 _)) (by simp [Value.oneCell']) (by omega) (by unfold maxLen;omega) (by omega) (by simp;omega) (w6.heap.size+1) (by simp) ?_
    intro gg cap2 w7 hO7 hg7 hat7 hlt7
    have hF6b:=hF6.out
    rw [hm.out] at hF6b
    obtain⟨he1,he2,⟨u7,hu7,e7⟩,y7⟩:=fop_instr (y:=y) (H:=wd.heap.size) hF6b hnn.out hxl.out hxs.out hg7 hO7 hat7 ra6.out rl6.out (by have:=hFW.out.top;omega) hltg (fun g hg=>(hFW.out.code.lt g hg).2)
    subst e7
    rw [←hm.out] at he1 he2 hu7 y7
    have hB8:=(((Touch.refl w6 (fun k=>(Value.slice ac n cc).ownBlock=some k)).alloc (.cells #[.int .u8 y.op,.string y.dst,.string y.a,.string y.b,.int .i64 y.n,.string y.fn,.slice a1 y.args.length c1,.slice a2 y.labels.length c2] 49)).trans (Touch.of_grown hg7 (fun k e=>e))).block b9 hboxl (fun e=>hboxc (by rw [e]))
    have hB8:=hB8.trans hB6.out
    obtain⟨hc0,hc1⟩:=cells2P hB8
    replace hC:w7.cell? ⟨b9,0,none⟩=some (.int .u8 op)∧w7.cell? ⟨b9,1,none⟩=some (.func (.func (rstF r)) #[] #[]):=⟨hc0,hc1⟩
    have hB9:=Lib.hid ((Below.heap_setCell w7 ⟨gb,m*2+1,none⟩ (.slice (some ⟨gg,0,none⟩) (n+1) cap2) b9 hboxg).trans hB8)
    have he:=Lib.hid (And.intro he1 he2)
    clear hO7 hg7 hat7 hlt7 hown hF6b he1 he2 hB8 hc0 hc1 z
    refine hK.out _ _ hC (fun hHeld=>?_)
    clear hK K hHeld
    try simp only [Act.put,List.setIfInBounds_toArray,List.set_cons_zero,List.set_cons_succ]
    refine wpAnyH_take (i:=10) (oi:=(.mk (some 99) (.nilCheck (.tmp 89)) 0 "read.go:156" #[.mk 0 .data,.mk 0 .phase,.mk 1 .phase,.mk 2 .phase,.mk 3 .phase,.mk 4 .phase,.mk 5 .phase,.mk 6 .phase,.mk 7 .phase,.mk 8 .phase,.mk 9 .phase] none)) (v:=?_) rfl (by kernel_rfl) (by kernel_rfl) (by kernel_rfl) (fun _ _ _ h=>h) (Or.inl ⟨by rfl,?_⟩) hC ?_
    rotate_left
    ·(intro w hSw;(try dsimp only at hSw);go_simp;try with_reducible rfl)
    try simp only [Act.put,List.setIfInBounds_toArray,List.set_cons_zero,List.set_cons_succ]
    refine wpAnyH_ready (rs:=[11]) (by kernel_rfl) (by simp) (AllReadyH.cons (o:=(.mk none (.store 44 (.tmp 99) (.tmp 98)) 0 "read.go:156" #[.mk 10 .data,.mk 9 .data,.mk 9 .chain,.mk 0 .phase,.mk 1 .phase,.mk 2 .phase,.mk 3 .phase,.mk 4 .phase,.mk 5 .phase,.mk 6 .phase,.mk 7 .phase,.mk 8 .phase,.mk 9 .phase] none)) rfl (fun K hK=>?_) AllReadyH.nil)
    go_simp
    obtain⟨hc0,hc1⟩:=cells2P hB9.out
    replace hC:(w7.setCell ⟨gb,m*2+1,none⟩ (.slice (some ⟨gg,0,none⟩) (n+1) cap2)).cell? ⟨b9,0,none⟩=some (.int .u8 op)∧(w7.setCell ⟨gb,m*2+1,none⟩ (.slice (some ⟨gg,0,none⟩) (n+1) cap2)).cell? ⟨b9,1,none⟩=some (.func (.func (rstF r)) #[] #[]):=⟨hc0,hc1⟩
    clear hc0 hc1
    refine hK.out _ _ hC (fun hHeld=>?_)
    clear hK K hHeld
    try simp only [Act.put,List.setIfInBounds_toArray,List.set_cons_zero,List.set_cons_succ]
    refine wpAnyH_done (by kernel_rfl) ?_ _
    go_wp2_with fail
    go_end0
    refine⟨(gtch_pb (tW.out.trans t6.out)).trans (he.out.2.mono (fun _ _ e=>.inr (.inr e))),rfl,i6,hl6.out,hP6.out.keep he.out.2 (fun k e=>by omega),.inr ⟨vp,gb,capb,.slice (some ⟨gg,0,none⟩) (n+1) cap2,bs,{x with code:=x.code++[y]},?_,?_⟩,?_,fun q hq=>?_,hlo,hBp⟩
    ·show addCode d.blocks y=_
     rw [hd.out,addCode_app]
    ·have h8:=he.out.1
     rw [hm.out] at h8 ⊢
     exact h8
    ·show (addCode d.blocks y).length≤i6
     rw [hd.out,addCode_app]
     have:=hnb.out
     rw [hd.out] at this
     have:=hi6 i6 hl6.out hP6.out.here
     simp only [List.length_append,List.length_singleton] at *
     omega
    ·have hq:q∈addCode d.blocks y:=hq
     rw [hd.out,addCode_app] at hq
     have h6:=hi6 i6 hl6.out hP6.out.here
     rcases List.mem_append.1 hq with hq | hq
     ·have:=hnc.out q (by rw [hd.out];exact List.mem_append.2 (.inl hq))
      omega
     ·rw [List.mem_singleton.1 hq]
      simp only [List.length_append,List.length_singleton]
      have:=hnn.out
      omega
   ·skip
    go_simp
    obtain⟨hc0,hc1⟩:=cells2P (at_oldP (o:=.cells #[.int .u8 y.op,.string y.dst,.string y.a,.string y.b,.int .i64 y.n,.string y.fn,.slice a1 y.args.length c1,.slice a2 y.labels.length c2] 49) hB6.out)
    replace hC:(w6.alloc (.cells #[.int .u8 y.op,.string y.dst,.string y.a,.string y.b,.int .i64 y.n,.string y.fn,.slice a1 y.args.length c1,.slice a2 y.labels.length c2] 49)).cell? ⟨b9,0,none⟩=some (.int .u8 op)∧(w6.alloc (.cells #[.int .u8 y.op,.string y.dst,.string y.a,.string y.b,.int .i64 y.n,.string y.fn,.slice a1 y.args.length c1,.slice a2 y.labels.length c2] 49)).cell? ⟨b9,1,none⟩=some (.func (.func (rstF r)) #[] #[]):=⟨hc0,hc1⟩
    clear hc0 hc1
    refine hK.out _ _ hC (fun hHeld=>?_)
    clear hK K hHeld
    try simp only [Act.put,List.setIfInBounds_toArray,List.set_cons_zero,List.set_cons_succ]
    refine wpAnyH_ready (rs:=[3]) (by kernel_rfl) (by simp) (AllReadyH.cons (o:=(.mk (some 92) (.load 44 (.tmp 91)) 44 "read.go:156" #[.mk 2 .data] none)) rfl (fun K hK=>?_) AllReadyH.nil)
    go_simp
    skip
    refine hK.out _ _ hC (fun hHeld=>?_)
    clear hK K hHeld
    try simp only [Act.put,List.setIfInBounds_toArray,List.set_cons_zero,List.set_cons_succ]
    refine wpAnyH_ready (rs:=[9]) (by kernel_rfl) (by simp) (AllReadyH.cons (o:=(.mk (some 98) (.call (.mk (.builtin Builtin.append) #[(.tmp 92),(.tmp 97)] #[44,44])) 44 "read.go:156" #[.mk 3 .data,.mk 8 .data,.mk 7 .chain] none)) rfl (fun K hK=>?_) AllReadyH.nil)
    refine step_append_lies _ (by rfl) _ _ _ (by rfl) Bf 49 i0 _ 8 128 Tryd.underlying44 hi0 hz0 hz1 hz2 rfl (by omega) (.slice ac n cc) n xs (by rfl) hown.out ⟨w6.heap.size,0,none⟩ 1 1 [.int .u8 y.op,.string y.dst,.string y.a,.string y.b,.int .i64 y.n,.string y.fn,.slice a1 y.args.length c1,.slice a2 y.labels.length c2] (by rfl) (by rfl) (World.news_of_block (cs:=#[.int .u8 y.op,.string y.dst,.string y.a,.string y.b,.int .i64 y.n,.string y.fn,.slice a1 y.args.length c1,.slice a2 y.labels.length c2]) (t:=49) (fr:=(0,0)) (heap_alloc_new w6 _)) (by simp [Value.oneCell']) (by omega) (by unfold maxLen;omega) (by omega) (by simp;omega) (w6.heap.size+1) (by simp) ?_
    intro gg cap2 w7 hO7 hg7 hat7 hlt7
    have hF6b:=hF6.out
    rw [hm.out] at hF6b
    obtain⟨he1,he2,⟨u7,hu7,e7⟩,y7⟩:=fop_instr (y:=y) (H:=wd.heap.size) hF6b hnn.out hxl.out hxs.out hg7 hO7 hat7 ra6.out rl6.out (by have:=hFW.out.top;omega) hltg (fun g hg=>(hFW.out.code.lt g hg).2)
    subst e7
    rw [←hm.out] at he1 he2 hu7 y7
    have hB8:=(((Touch.refl w6 (fun k=>(Value.slice ac n cc).ownBlock=some k)).alloc (.cells #[.int .u8 y.op,.string y.dst,.string y.a,.string y.b,.int .i64 y.n,.string y.fn,.slice a1 y.args.length c1,.slice a2 y.labels.length c2] 49)).trans (Touch.of_grown hg7 (fun k e=>e))).block b9 hboxl (fun e=>hboxc (by rw [e]))
    have hB8:=hB8.trans hB6.out
    obtain⟨hc0,hc1⟩:=cells2P hB8
    replace hC:w7.cell? ⟨b9,0,none⟩=some (.int .u8 op)∧w7.cell? ⟨b9,1,none⟩=some (.func (.func (rstF r)) #[] #[]):=⟨hc0,hc1⟩
    have hB9:=Lib.hid ((Below.heap_setCell w7 ⟨gb,m*2+1,none⟩ (.slice (some ⟨gg,0,none⟩) (n+1) cap2) b9 hboxg).trans hB8)
    have he:=Lib.hid (And.intro he1 he2)
    clear hO7 hg7 hat7 hlt7 hown hF6b he1 he2 hB8 hc0 hc1 z
    refine hK.out _ _ hC (fun hHeld=>?_)
    clear hK K hHeld
    try simp only [Act.put,List.setIfInBounds_toArray,List.set_cons_zero,List.set_cons_succ]
    refine wpAnyH_take (i:=10) (oi:=(.mk (some 99) (.nilCheck (.tmp 89)) 0 "read.go:156" #[.mk 0 .data,.mk 0 .phase,.mk 1 .phase,.mk 2 .phase,.mk 3 .phase,.mk 4 .phase,.mk 5 .phase,.mk 6 .phase,.mk 7 .phase,.mk 8 .phase,.mk 9 .phase] none)) (v:=?_) rfl (by kernel_rfl) (by kernel_rfl) (by kernel_rfl) (fun _ _ _ h=>h) (Or.inl ⟨by rfl,?_⟩) hC ?_
    rotate_left
    ·(intro w hSw;(try dsimp only at hSw);go_simp;try with_reducible rfl)
    try simp only [Act.put,List.setIfInBounds_toArray,List.set_cons_zero,List.set_cons_succ]
    refine wpAnyH_ready (rs:=[11]) (by kernel_rfl) (by simp) (AllReadyH.cons (o:=(.mk none (.store 44 (.tmp 99) (.tmp 98)) 0 "read.go:156" #[.mk 10 .data,.mk 9 .data,.mk 9 .chain,.mk 0 .phase,.mk 1 .phase,.mk 2 .phase,.mk 3 .phase,.mk 4 .phase,.mk 5 .phase,.mk 6 .phase,.mk 7 .phase,.mk 8 .phase,.mk 9 .phase] none)) rfl (fun K hK=>?_) AllReadyH.nil)
    go_simp
    obtain⟨hc0,hc1⟩:=cells2P hB9.out
    replace hC:(w7.setCell ⟨gb,m*2+1,none⟩ (.slice (some ⟨gg,0,none⟩) (n+1) cap2)).cell? ⟨b9,0,none⟩=some (.int .u8 op)∧(w7.setCell ⟨gb,m*2+1,none⟩ (.slice (some ⟨gg,0,none⟩) (n+1) cap2)).cell? ⟨b9,1,none⟩=some (.func (.func (rstF r)) #[] #[]):=⟨hc0,hc1⟩
    clear hc0 hc1
    refine hK.out _ _ hC (fun hHeld=>?_)
    clear hK K hHeld
    try simp only [Act.put,List.setIfInBounds_toArray,List.set_cons_zero,List.set_cons_succ]
    refine wpAnyH_done (by kernel_rfl) ?_ _
    go_wp2_with fail
    go_end0
    refine⟨(gtch_pb (tW.out.trans t6.out)).trans (he.out.2.mono (fun _ _ e=>.inr (.inr e))),rfl,i6,hl6.out,hP6.out.keep he.out.2 (fun k e=>by omega),.inr ⟨vp,gb,capb,.slice (some ⟨gg,0,none⟩) (n+1) cap2,bs,{x with code:=x.code++[y]},?_,?_⟩,?_,fun q hq=>?_,hlo,hBp⟩
    ·show addCode d.blocks y=_
     rw [hd.out,addCode_app]
    ·have h8:=he.out.1
     rw [hm.out] at h8 ⊢
     exact h8
    ·show (addCode d.blocks y).length≤i6
     rw [hd.out,addCode_app]
     have:=hnb.out
     rw [hd.out] at this
     have:=hi6 i6 hl6.out hP6.out.here
     simp only [List.length_append,List.length_singleton] at *
     omega
    ·have hq:q∈addCode d.blocks y:=hq
     rw [hd.out,addCode_app] at hq
     have h6:=hi6 i6 hl6.out hP6.out.here
     rcases List.mem_append.1 hq with hq | hq
     ·have:=hnc.out q (by rw [hd.out];exact List.mem_append.2 (.inl hq))
      omega
     ·rw [List.mem_singleton.1 hq]
      simp only [List.length_append,List.length_singleton]
      have:=hnn.out
      omega
end
end
end Go.Proofs.YtgcanabckogmmaaDoor
