/- RdO, RdP. -/
import Derived.Test.YtgcanabckogmmaaDoorZR11
import Derived.Maps.RangeWalk
namespace Go.Proofs.YtgcanabckogmmaaDoor
set_option linter.unusedVariables false
set_option linter.unusedSimpArgs false
section
open Go.RowKit Go.Maps Go.Shelf Go.WideMaps
attribute [local go_sem] Oper.semAt_some fld0 fld1 fld2
structure GAt (B Bp Bf pb gw cw:Nat) (T:List Tok) (ln vb bb Sf:Nat) (w:World) (i:Nat) (d:Fun):Prop where
 p:PAt B w pb gw cw T i ln vb bb
 f:(d.blocks=[]∧∃vp,FNil Bp Bf w Sf d.name d.params vp)∨∃vp gb capb vc bs x,d.blocks=bs++[x]∧FOp Bp Bf w Sf d.name d.params vp (.slice (some ⟨gb,0,none⟩) (bs.length+1) capb) vc bs x
 nb:d.blocks.length≤i
 nc:∀x∈d.blocks,x.code.length≤i
 lo:B≤Sf
 lp:B≤Bp
def GPost (B Bp Bf pb gw cw:Nat)(T:List Tok)(ln vb bb Sf:Nat)(w:World)(r:Except Flt (Fun × List Tok))(e:Ending)(w':World):Prop:=
 Touch w w' (fun k=>k=pb∨k=Sf∨Bf≤k)∧match r with
 | .error f=>e=.panicked (chF f)
 | .ok (d',l')=>e=.returned (.tuple #[])∧∃i',l'=T.drop i'∧GAt B Bp Bf pb gw cw T ln vb bb Sf w' i' d'
theorem infoBlkP:(Tryd.prog.info? 46).map (fun i=>(i.zero,i.size,i.bytes))=some (some (.agg #[.string ⟨#[]⟩,.slice none 0 0]),2,40):=by kernel_rfl
theorem addCode_app:∀(bs:List Blk) (x:Blk) (y:Ins),addCode (bs++[x]) y=bs++[{x with code:=x.code++[y]}]
 | [],x,y=>rfl
 | b::bs,x,y=>by
  cases hb:bs++[x] with
  | nil=>simp at hb
  | cons c cs=>
   show addCode (b::(bs++[x])) y=_
   rw [hb]
   show b::addCode (c::cs) y=_
   rw [←hb,addCode_app bs x y]
   rfl
section
variable {B Bp Bf pb gw cw:Nat} {T:List Tok} {ln vb bb Sf:Nat} {w w2:World} {i:Nat} {d:Fun}
theorem gtch_pb {w':World}(t:Touch w w' (fun k=>k=pb)):Touch w w' (fun k=>k=pb∨k=Sf∨Bf≤k):=t.mono (fun _ _ h=>.inl h)
set_option maxRecDepth 20000 in
theorem inside_name_bad (h:PAt B w pb gw cw T i ln vb bb){f:Flt}(hn:nameP (T.drop i) ln=.error f):Calls Tryd.prog 45 #[.pointer (some ⟨pb,0,none⟩),.pointer (some ⟨Sf,0,none⟩)] w (GPost B Bp Bf pb gw cw T ln vb bb Sf w (.error f)):=by
 have hk:=Lib.hid (name_bad h hn)
 clear h hn
 go_enter Tryd.func45,Tryd.ntmps45
 go_wp2_with (go_at_call 41;refine hk.out.mono ?_;rintro e w2 ⟨rfl,hb⟩)
 exact⟨rfl,gtch_pb (Touch.of_below hb _),rfl⟩
set_option maxRecDepth 20000 in
theorem inside_nil_bad (h:PAt B w pb gw cw T i ln vb bb){vp:Value}(hF:FNil Bp Bf w Sf d.name d.params vp)(hlo:B≤Sf)(hBp:B≤Bp){s:ByteArray}{l:List Tok}{f:Flt}(hn:nameP (T.drop i) ln=.ok (s,l))(hs:signP 58 l ln=.error f):Calls Tryd.prog 45 #[.pointer (some ⟨pb,0,none⟩),.pointer (some ⟨Sf,0,none⟩)] w (GPost B Bp Bf pb gw cw T ln vb bb Sf w (.error f)):=by
 have hk:=Lib.hid (name_ok h hn)
 have hl:l=T.drop (i+1):=by obtain⟨t,e,-⟩:=name_len hn;exact drop_next e
 rw [hl] at hs
 have hsg:=Lib.hid (fun (w':World) (hP:PAt B w' pb gw cw T (i+1) ln vb bb)=>sign_bad hP hs)
 have h1:=h.ltP
 have h2:=hF.lt
 replace hF:=Lib.hid hF
 clear h hn hs hl
 go_enter Tryd.func45,Tryd.ntmps45
 go_wp2_with fail
 refine hk.out.mono ?_
 rintro e w2 ⟨rfl,hP2,hT2⟩
 have hF2:=hF.out.keep hT2 (fun k e=>by subst e;omega)
 have c2:w2.cell? ⟨Sf,2,none⟩=some (.slice none 0 0):=by rw [blk_cell hF2.blk];rfl
 replace hP2:=Lib.hid hP2
 replace hT2:=Lib.hid hT2
 clear hF2
 go_wp2_with (go_at_call 43;refine (hsg.out _ hP2.out).mono ?_;rintro e w3 ⟨rfl,hb3⟩)
 exact⟨rfl,gtch_pb (hT2.out.trans (Touch.of_below hb3 _)),rfl⟩
set_option maxRecDepth 20000 in
set_option maxHeartbeats 1000000 in
theorem inside_nil_ok (h:PAt B w pb gw cw T i ln vb bb){vp:Value}(hF:FNil Bp Bf w Sf d.name d.params vp)(hlo:B≤Sf)(hBp:B≤Bp)(hd:d.blocks=[]){s:ByteArray}{l l':List Tok}(hn:nameP (T.drop i) ln=.ok (s,l))(hs:signP 58 l ln=.ok l'):Calls Tryd.prog 45 #[.pointer (some ⟨pb,0,none⟩),.pointer (some ⟨Sf,0,none⟩)] w (GPost B Bp Bf pb gw cw T ln vb bb Sf w (.ok (addB d s,l'))):=by
 have hk:=Lib.hid (name_ok h hn)
 have hl:l=T.drop (i+1):=by obtain⟨t,e,-⟩:=name_len hn;exact drop_next e
 rw [hl] at hs
 have hl':l'=T.drop (i+1+1):=by obtain⟨t,e,-⟩:=sign_len hs;exact drop_next e
 have hsg:=Lib.hid (fun (w':World) (hP:PAt B w' pb gw cw T (i+1) ln vb bb)=>sign_ok hP hs)
 obtain⟨i0,hi0,hz0,hz1,hz2⟩:=info_parts infoBlkP
 have h1:=h.ltP
 have h2:=hF.lt
 have h3:=hF.top
 replace hF:=Lib.hid hF
 replace hl':=Lib.hid hl'
 replace hd:=Lib.hid hd
 clear h hn hs hl
 go_enter Tryd.func45,Tryd.ntmps45
 go_wp2_with fail
 refine hk.out.mono ?_
 rintro e w2 ⟨rfl,hP2,hT2⟩
 have hF2:=hF.out.keep hT2 (fun k e=>by subst e;omega)
 have c2:w2.cell? ⟨Sf,2,none⟩=some (.slice none 0 0):=by rw [blk_cell hF2.blk];rfl
 replace hP2:=Lib.hid hP2
 replace hT2:=Lib.hid hT2
 replace hF2:=Lib.hid hF2
 go_wp2_with fail
 refine (hsg.out _ hP2.out).mono ?_
 rintro e w3 ⟨rfl,hP3,hT3⟩
 have hF3:=hF2.out.keep hT3 (fun k e=>by subst e;omega)
 have c3:w3.cell? ⟨Sf,2,none⟩=some (.slice none 0 0):=by rw [blk_cell hF3.blk];rfl
 have l3:Sf<w3.heap.size:=by have:=hF3.top;omega
 have htop3:Bf≤w3.heap.size:=hF3.top
 have hnil:=Lib.hid (World.ownsRow_nil (w3.alloc (.cells #[.string s,.slice none 0 0] 46)) Bf 46 2)
 replace hP3:=Lib.hid hP3
 replace hT3:=Lib.hid hT3
 replace hF3:=Lib.hid hF3
 clear c2
 go_wp2_with (at_builtin;refine wpList_append_lies _ rfl _ _ _ rfl Bf 46 i0 _ 2 40 Tryd.underlying41 hi0 hz0 hz1 hz2 rfl (by omega) (.slice none 0 0) 0 [] rfl hnil.out ⟨w3.heap.size,0,none⟩ 1 1 [.string s,.slice none 0 0] rfl rfl (World.news_of_block (cs:=#[.string s,.slice none 0 0]) (t:=46) (fr:=(0,0)) (heap_alloc_new w3 _)) (by simp [Value.oneCell']) (by omega) (by unfold maxLen;omega) (by omega) (by simp;omega) (w3.heap.size+1) (by simp) ?_)
 intro gg cap2 w4 hO4 hg4 hat4 hlt4
 obtain⟨he1,he2⟩:=fnil_block hF3.out hg4 hO4 (by rcases hat4 with e | e;simp [Value.ownBlock] at e;exact e)
 have t4:Touch w3 w4 (fun _=>False):=((Touch.refl w3 _).alloc _).trans (Touch.of_grown hg4 (fun k e=>by simp [Value.ownBlock] at e))
 have b4:=(t4.block Sf l3 (fun e=>e)).trans hF3.out.blk
 have z4:w4.cell? ⟨Sf,2,none⟩=some (.slice none 0 0):=by rw [blk_cell b4];rfl
 have y4:=frozB b4 2
 have he:=Lib.hid (And.intro he1 he2)
 clear hO4 hg4 hat4 hlt4 he1 he2 t4 b4 c3
 go_wp2_with fail
 go_end0
 have hlen:(i+1+1)=(i+1+1):=rfl
 refine⟨(gtch_pb (hT2.out.trans hT3.out)).trans (he.out.2.mono (fun _ _ e=>.inr (.inl e))),rfl,i+1+1,hl'.out,hP3.out.keep he.out.2 (fun k e=>by subst e;exact hlo),.inr ⟨vp,gg,cap2,.slice none 0 0,[],⟨s,[]⟩,?_,he.out.1⟩,?_,fun x hx=>?_,hlo,hBp⟩
 ·unfold addB
  rw [hd.out]
 ·unfold addB
  rw [hd.out]
  simp
 ·unfold addB at hx
  rw [hd.out] at hx
  simp only [List.nil_append,List.mem_singleton] at hx
  subst hx
  exact Nat.zero_le _
set_option maxRecDepth 20000 in
set_option maxHeartbeats 1000000 in
theorem inside_head {nm:ByteArray}{ps:List ByteArray}{vp vc:Value}{gb capb:Nat}{bs:List Blk}{x:Blk}(h:PAt B w pb gw cw T i ln vb bb)(hF:FOp Bp Bf w Sf d.name d.params vp (.slice (some ⟨gb,0,none⟩) (bs.length+1) capb) vc bs x)(hd:d.blocks=bs++[x])(hnb:d.blocks.length≤i)(hnc:∀y∈d.blocks,y.code.length≤i)(hlo:B≤Sf)(hBp:B≤Bp){s:ByteArray}{l l':List Tok}(hn:nameP (T.drop i) ln=.ok (s,l))(h58:isB l ln 58=true)(hs:signP 58 l ln=.ok l'):Calls Tryd.prog 45 #[.pointer (some ⟨pb,0,none⟩),.pointer (some ⟨Sf,0,none⟩)] w (GPost B Bp Bf pb gw cw T ln vb bb Sf w (.ok (addB d s,l'))):=by
 have hk:=Lib.hid (name_ok h hn)
 have hl:l=T.drop (i+1):=by obtain⟨t,e,-⟩:=name_len hn;exact drop_next e
 have hlen:i<2000000:=by have:=h.here;have:=h.ok.len;omega
 have h1:=h.ltP
 have h2:=hF.lt
 have hok:=Lib.hid h.ok
 have h3:=hF.top
 rw [hl] at hs h58
 have hl':l'=T.drop (i+1+1):=by obtain⟨t,e,-⟩:=sign_len hs;exact drop_next e
 have hi58:=Lib.hid (fun (w':World) (hP:PAt B w' pb gw cw T (i+1) ln vb bb)=>is_any hP 58 h58)
 have hsg:=Lib.hid (fun (w':World) (hP:PAt B w' pb gw cw T (i+1) ln vb bb)=>sign_ok hP hs)
 obtain⟨i0,hi0,hz0,hz1,hz2⟩:=info_parts infoBlkP
 replace hl':=Lib.hid hl'
 obtain⟨m,hm⟩:∃m,m=bs.length:=⟨_,rfl⟩
 rw [←hm] at hF
 have hmb:m≤2000000:=by rw [hd,List.length_append] at hnb;omega
 replace hm:=Lib.hid hm
 replace hF:=Lib.hid hF
 replace hd:=Lib.hid hd
 replace hnc:=Lib.hid hnc
 replace hnb:=Lib.hid hnb
 clear h hn hs h58 hl
 go_enter Tryd.func45,Tryd.ntmps45
 go_wp2_with fail
 refine hk.out.mono ?_
 rintro e w2 ⟨rfl,hP2,hT2⟩
 have hF2:=hF.out.keep hT2 (fun k e=>by subst e;omega)
 have c2:w2.cell? ⟨Sf,2,none⟩=some (.slice (some ⟨gb,0,none⟩) (m+1) capb):=by rw [blk_cell hF2.blk];rfl
 have hm0:decide ((m:Int)<0)=false:=by simp
 replace hP2:=Lib.hid hP2
 replace hT2:=Lib.hid hT2
 replace hF2:=Lib.hid hF2
 go_wp2_with fail
 refine (hi58.out _ hP2.out).mono ?_
 rintro e w3 ⟨rfl,hb3⟩
 have hP3:=hP2.out.below hb3
 have t3:=Touch.of_below hb3 (fun k=>k=pb)
 have hF3:=hF2.out.keep t3 (fun k e=>by subst e;omega)
 have hP3:=Lib.hid hP3
 replace t3:=Lib.hid t3
 replace hF3:=Lib.hid hF3
 clear c2 hb3
 go_wp2_with fail
 refine (hsg.out _ hP3.out).mono ?_
 rintro e w4 ⟨rfl,hP4,hT4⟩
 have hF4:=hF3.out.keep hT4 (fun k e=>by subst e;omega)
 have c4:w4.cell? ⟨Sf,2,none⟩=some (.slice (some ⟨gb,0,none⟩) (m+1) capb):=by rw [blk_cell hF4.blk];rfl
 have htop4:Bf≤w4.heap.size:=hF4.top
 have l4:Sf<w4.heap.size:=by omega
 obtain⟨flat,r1,r2,r3⟩:=hF4.row
 rw [←hm.out] at r1 r2
 have hown:=Lib.hid (ownsRow_touch (S:=fun _=>False) r1 ((Touch.refl w4 _).alloc (.cells #[.string s,.slice none 0 0] 46)) (fun _ _ h=>h))
 replace r1:=Lib.hid r1
 replace r2:=Lib.hid r2
 replace r3:=Lib.hid r3
 replace hP4:=Lib.hid hP4
 replace hT4:=Lib.hid hT4
 replace hF4:=Lib.hid hF4
 go_wp2_with (at_builtin;refine wpList_append_lies _ rfl _ _ _ rfl Bf 46 i0 _ 2 40 Tryd.underlying41 hi0 hz0 hz1 hz2 rfl (by omega) (.slice (some ⟨gb,0,none⟩) (m+1) capb) (m+1) (flat++[.string x.label,vc]) rfl hown.out ⟨w4.heap.size,0,none⟩ 1 1 [.string s,.slice none 0 0] rfl rfl (World.news_of_block (cs:=#[.string s,.slice none 0 0]) (t:=46) (fr:=(0,0)) (heap_alloc_new w4 _)) (by simp [Value.oneCell']) (by omega) (by unfold maxLen;omega) (by omega) (by simp;omega) (w4.heap.size+1) (by simp) ?_)
 intro gg cap2 w5 hO5 hg5 hat5 hlt5
 have t5:Touch w4 w5 (fun k=>(Value.slice (some ⟨gb,0,none⟩) (m+1) capb).ownBlock=some k):=((Touch.refl w4 _).alloc _).trans (Touch.of_grown hg5 (fun k e=>e))
 have hgb:=(r1.out.lt gb rfl).1
 have b5:=(t5.block Sf l4 (fun e=>by simp only [Value.ownBlock,Option.some.injEq] at e;omega)).trans hF4.out.blk
 have z5:w5.cell? ⟨Sf,2,none⟩=some (.slice (some ⟨gb,0,none⟩) (m+1) capb):=by rw [blk_cell b5];rfl
 have y5:=frozB b5 2
 have hF4b:=hF4.out
 have hO5b:=hO5
 have r2b:=r2.out
 have he:=Lib.hid (fop_block (o:=.cells #[.string s,.slice none 0 0] 46) (gg:=gg) (cap:=cap2) (s:=s) (flat:=flat) hF4b hg5 (by rw [hm.out] at hO5b;rw [List.append_assoc];exact hO5b) (by rw [←hm.out];exact r2b) r3.out hat5)
 rw [←hm.out] at he
 clear hO5 hO5b hF4b r2b hg5 hat5 hlt5 t5 b5 c4 hown
 go_wp2_with fail
 go_end0
 refine⟨(gtch_pb (hT2.out.trans (t3.out.trans hT4.out))).trans (he.out.2.mono (fun _ _ e=>.inr e)),rfl,i+1+1,hl'.out,hP4.out.keep he.out.2 (fun k e=>by rcases e with e | e<;>omega),.inr ⟨vp,gg,cap2,.slice none 0 0,bs++[x],⟨s,[]⟩,?_,?_⟩,?_,fun z hz=>?_,hlo,hBp⟩
 ·unfold addB
  rw [hd.out]
 ·rw [List.length_append,List.length_singleton,←hm.out]
  exact he.out.1
 ·unfold addB
  have:=hnb.out
  rw [List.length_append,List.length_singleton]
  omega
 ·unfold addB at hz
  rcases List.mem_append.1 hz with hz | hz
  ·have:=hnc.out z hz;omega
  ·rw [List.mem_singleton.1 hz];exact Nat.zero_le _
end
end
section
open Go.RowKit Go.Maps Go.Shelf Go.WideMaps
attribute [local go_sem] Oper.semAt_some fld0 fld1 fld2
abbrev LeP (f:Ins→List Tok→Nat→Except Flt (Ins × List Tok)):Prop:=∀x l ln x' l',f x l ln=.ok (x',l')→l'.length≤l.length
theorem name_le {l r:List Tok}{ln:Nat}{s:ByteArray}(h:nameP l ln=.ok (s,r)):r.length+1=l.length:=by
 obtain⟨t,e,-⟩:=name_len h
 rw [e];rfl
theorem sign_le {c:UInt8}{l r:List Tok}{ln:Nat}(h:signP c l ln=.ok r):r.length+1=l.length:=by
 obtain⟨t,e,-⟩:=sign_len h
 rw [e];rfl
theorem thenP_le {f g:Ins→List Tok→Nat→Except Flt (Ins × List Tok)}(hf:LeP f)(hg:LeP g):LeP (thenP f g):=by
 intro x l ln x' l' h
 unfold thenP at h
 cases h1:f x l ln with
 | error e=>rw [h1] at h;cases h
 | ok r=>
  obtain⟨x1,l1⟩:=r
  rw [h1] at h
  exact Nat.le_trans (hg _ _ _ _ _ h) (hf _ _ _ _ _ h1)
theorem skipP_le (c:UInt8):LeP (skipP c):=by
 intro x l ln x' l' h
 unfold skipP at h
 cases h1:signP c l ln with
 | error e=>rw [h1] at h;cases h
 | ok r=>
  rw [h1] at h
  injection h with h
  injection h with a1 a2
  have:=sign_le h1
  subst a2
  omega
theorem operandP_le:LeP operandP:=by
 intro x l ln x' l' h
 unfold operandP at h
 cases h1:nameP l ln with
 | error e=>rw [h1] at h;cases h
 | ok r=>
  obtain⟨s,r⟩:=r
  rw [h1] at h
  injection h with h
  injection h with a1 a2
  have:=name_le h1
  subst a2
  omega
theorem fnP_le:LeP fnP:=by
 intro x l ln x' l' h
 unfold fnP at h
 cases h1:nameP l ln with
 | error e=>rw [h1] at h;cases h
 | ok r=>
  obtain⟨s,r⟩:=r
  rw [h1] at h
  injection h with h
  injection h with a1 a2
  have:=name_le h1
  subst a2
  omega
theorem labelP_le:LeP labelP:=by
 intro x l ln x' l' h
 unfold labelP at h
 cases h1:nameP l ln with
 | error e=>rw [h1] at h;cases h
 | ok r=>
  obtain⟨s,r⟩:=r
  rw [h1] at h
  injection h with h
  injection h with a1 a2
  have:=name_le h1
  subst a2
  omega
theorem valP_le:LeP valP:=by
 intro x l ln x' l' h
 unfold valP at h
 cases h1:nameP l ln with
 | error e=>rw [h1] at h;cases h
 | ok r=>
  obtain⟨s,r⟩:=r
  rw [h1] at h
  injection h with h
  injection h with a1 a2
  have:=name_le h1
  subst a2
  omega
theorem fieldsP_le:LeP fieldsP:=by
 intro x l ln x' l' h
 unfold fieldsP at h
 cases h1:takeP 2 l ln with
 | error e=>rw [h1] at h;cases h
 | ok r=>
  obtain⟨s,r⟩:=r
  rw [h1] at h
  injection h with h
  injection h with a1 a2
  have:=(take_len h1).1
  subst a2
  rw [this,List.length_cons]
  omega
theorem argsP_le:LeP argsP:=by
 intro x l ln x' l' h
 unfold argsP at h
 cases h1:namesP l ln with
 | error e=>rw [h1] at h;cases h
 | ok r=>
  obtain⟨s,r⟩:=r
  rw [h1] at h
  injection h with h
  injection h with a1 a2
  have:=names_le h1
  subst a2
  exact this
theorem phiP_le:LeP phiP:=by
 intro x l ln x' l' h
 unfold phiP at h
 cases h1:signP 91 l ln with
 | error e=>rw [h1] at h;cases h
 | ok r=>
  rw [h1] at h
  have h2:=list_le (fun x l ln x' l' h=>Nat.le_of_succ_le (pair_len h)) _ _ _ _ _ _ h
  have:=sign_le h1
  omega
theorem resultP_le:LeP resultP:=by
 intro x l ln x' l' h
 unfold resultP at h
 by_cases hq:moreB l ln=true
 ·rw [if_pos hq] at h;exact operandP_le _ _ _ _ _ h
 ·rw [if_neg hq] at h
  injection h with h
  injection h with a1 a2
  subst a2
  exact Nat.le_refl _
theorem rest_le (r:Rst):LeP (restP r):=by
 cases r with
 | fields=>exact fieldsP_le
 | nothing=>
  intro x l ln x' l' h
  injection h with h
  injection h with a1 a2
  subst a2
  exact Nat.le_refl _
 | fn=>exact fnP_le
 | operand=>exact operandP_le
 | field=>exact thenP_le operandP_le fieldsP_le
 | phi=>exact phiP_le
 | call=>exact thenP_le fnP_le argsP_le
 | icall=>exact thenP_le operandP_le argsP_le
 | store=>exact thenP_le operandP_le (thenP_le (skipP_le 44) valP_le)
 | branch=>exact thenP_le labelP_le labelP_le
 | label=>exact labelP_le
 | result=>exact resultP_le
theorem zF (w:World):(zeroValue 85).run Tryd.prog w=.ok (.agg #[.int .u8 0,.nilFunc]) w:=by kernel_rfl
theorem value_nat {s:List UInt8}{how:Int × Rst}(h:valueF s=some how):∃(op:Nat) (r:Rst),how=((op:Int),r):=by
 unfold valueF at h
 repeat' (split at h)
 all_goals first
  | (injection h with h;subst h;exact⟨_,_,rfl⟩)
  | cases h
theorem bare_nat {s:List UInt8}{how:Int × Rst}(h:bareF s=some how):∃(op:Nat) (r:Rst),how=((op:Int),r):=by
 unfold bareF at h
 repeat' (split at h)
 all_goals first
  | (injection h with h;subst h;exact⟨_,_,rfl⟩)
  | cases h
theorem forms_of {f:List UInt8→Option (Int × Rst)}{s:List UInt8}{op:Nat}{r:Rst}(h:f s=some ((op:Int),r)):formsV f (.string s)=some (.agg #[.int .u8 op,.func (.func (rstF r)) #[] #[]]):=by
 show (f s).map formV=_
 rw [h]
 rfl
theorem forms_no {f:List UInt8→Option (Int × Rst)}{s:List UInt8}(h:f s=none):formsV f (.string s)=none:=by
 show (f s).map formV=_
 rw [h]
 rfl
section
variable {Bp Bf Sf:Nat} {w:World} {nm:ByteArray} {ps:List ByteArray} {vp vc:Value} {bs:List Blk} {x:Blk} {gb capb m:Nat}
theorem FOp.cellV (h:FOp Bp Bf w Sf nm ps vp (.slice (some ⟨gb,0,none⟩) (m+1) capb) vc bs x)(hm:m=bs.length):w.cell? ⟨gb,m*2+1,none⟩=some vc∧w.frozen? ⟨gb,m*2+1,none⟩=false∧Bf≤gb∧gb<w.heap.size:=by
 subst hm
 obtain⟨g',cap',ac,cc,e,-,h1,h2,h3,h4⟩:=h.form
 simp only [Value.slice.injEq,Option.some.injEq,Addr.mk.injEq] at e
 obtain⟨⟨rfl,-⟩,-⟩:=e
 exact⟨h1,h2,h3,h4⟩
theorem cells2P {w:World}{b:Nat}{x0 x1:Value}{t:TypeId}(h:w.heap[b]?=some (.cells #[x0,x1] t (0,0))):w.cell? ⟨b,0,none⟩=some x0∧w.cell? ⟨b,1,none⟩=some x1:=by
 refine⟨?_,?_⟩<;>(rw [blk_cell h];rfl)
theorem infoInsP:(Tryd.prog.info? 49).map (fun i=>(i.zero,i.size,i.bytes))=some (some (.agg #[.int .u8 0,.string ⟨#[]⟩,.string ⟨#[]⟩,.string ⟨#[]⟩,.int .i64 0,.string ⟨#[]⟩,.slice none 0 0,.slice none 0 0]),8,128):=by kernel_rfl
end
end
end Go.Proofs.YtgcanabckogmmaaDoor
