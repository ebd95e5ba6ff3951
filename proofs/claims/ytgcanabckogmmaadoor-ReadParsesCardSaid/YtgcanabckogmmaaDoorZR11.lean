/- RdJ, RdK, SepU, RdL, RdN. -/
import Derived.Test.YtgcanabckogmmaaDoorZR10
import Derived.Test.YtgcanabckogmmaaDoorZR5
import Derived.Maps.RangeWalk
import Derived.Laws.OwnMore
namespace Go.Proofs.YtgcanabckogmmaaDoor
set_option linter.unusedVariables false
set_option linter.unusedSimpArgs false
section
open Go.RowKit Go.Maps Go.Shelf
attribute [local go_sem] Oper.semAt_some fld0 fld1 fld2
theorem own_lowerP {w:World}{b0 base n:Nat}{v:Value}{xs:List Value}{t:TypeId}{size:Nat}(h:w.ownsRow base t size v n xs)(hb:b0≤base):w.ownsRow b0 t size v n xs:=by
 refine⟨h.1,h.2.imp id ?_⟩
 rintro⟨g,cap,cur,e,h0,h2⟩
 exact⟨g,cap,cur,e,Nat.le_trans hb h0,h2⟩
section
variable {B Bx pb gw cw:Nat} {T:List Tok} {ln vb bb Sx:Nat} {w w2 w3:World} {i:Nat} {y:Ins} {va vl:Value}
theorem SAt.lower {Bx':Nat}(h:SAt B Bx' pb gw cw T ln vb bb Sx w i y va vl)(hb:Bx≤Bx')(hs:Sx<Bx):SAt B Bx pb gw cw T ln vb bb Sx w i y va vl:=
 ⟨h.p,⟨h.x.blk,own_lowerP h.x.ra hb,own_lowerP h.x.rl hb,h.x.ne,hs,Nat.le_trans hb h.x.top⟩,h.ba,h.bl,h.lo⟩
set_option maxRecDepth 20000 in
set_option maxHeartbeats 1000000 in
theorem phi_any (h:SAt B Bx pb gw cw T ln vb bb Sx w i y (.slice none 0 0) (.slice none 0 0))(ha:y.args=[])(hl:y.labels=[]):Calls Tryd.prog 33 #[.pointer (some ⟨pb,0,none⟩),.pointer (some ⟨Sx,0,none⟩)] w (RPost B Bx pb gw cw T ln vb bb Sx w (phiP y (T.drop i) ln)):=by
 have hmf:∀(fn:Fn) (first cap:Array Value) (w:World),(Instr.makeFunc fn first cap).run Tryd.prog w=.ok (.func fn first cap) w:=fun _ _ _ _=>rfl
 have hb0:Below w.heap.size w ((w.alloc (.cells #[.pointer (some ⟨pb,0,none⟩)] 59)).alloc (.cells #[.pointer (some ⟨Sx,0,none⟩)] 98)):=((Below.refl _ _).alloc (Nat.le_refl _) _).alloc (by simp) _
 have h1:=h.p.ltP
 have h2:=h.lo
 have h3:=h.x.lt
 have h4:=h.x.top
 have hQ:QAt B (w.heap.size+2) pb gw cw T ln vb bb Sx w.heap.size (w.heap.size+1) ((w.alloc (.cells #[.pointer (some ⟨pb,0,none⟩)] 59)).alloc (.cells #[.pointer (some ⟨Sx,0,none⟩)] 98)) i y (.slice none 0 0) (.slice none 0 0):=
  ⟨⟨h.p.below hb0,⟨at_oldP (at_oldP h.x.blk),by rw [ha];exact World.ownsRow_nil _ _ _ _,by rw [hl];exact World.ownsRow_nil _ _ _ _,fun g hg=>by simp [Value.ownBlock] at hg,by omega,by simp⟩,h.ba,h.bl,h2⟩,at_oldP (at_newP rfl),at_newP (by simp),⟨by omega,by omega,by omega⟩,⟨by omega,by omega,by omega⟩⟩
 have hlow:∀w3,Touch ((w.alloc (.cells #[.pointer (some ⟨pb,0,none⟩)] 59)).alloc (.cells #[.pointer (some ⟨Sx,0,none⟩)] 98)) w3 (fun k=>k=pb∨k=Sx∨w.heap.size+2≤k)→Touch w w3 (fun k=>k=pb∨k=Sx∨Bx≤k):=fun w3 t=>
  (((Touch.refl w (fun k=>k=pb∨k=Sx∨Bx≤k)).alloc _).alloc _).then t (fun k hk e=>by rcases e with e | e | e<;>omega)
 replace hlow:=Lib.hid hlow
 unfold phiP
 have hxs:Bx≤w.heap.size+2:=by omega
 cases hs:signP 91 (T.drop i) ln with
 | error f=>
  have hsg:=Lib.hid (sign_bad hQ.s.p hs)
  have b0:((w.alloc (.cells #[.pointer (some ⟨pb,0,none⟩)] 59)).alloc (.cells #[.pointer (some ⟨Sx,0,none⟩)] 98)).cell? ⟨w.heap.size,0,none⟩=some (.pointer (some ⟨pb,0,none⟩)):=one_cell hQ.bp
  clear hs hQ h
  go_enter Tryd.func33,Tryd.ntmps33
  go_wp2_with (go_at_call 43;refine hsg.out.mono ?_;rintro e w3 ⟨rfl,hb3⟩)
  exact⟨rfl,hlow.out _ (touch_pb (Touch.of_below hb3 _)),rfl⟩
 | ok l1=>
  have hsg:=Lib.hid (sign_ok hQ.s.p hs)
  have hl1:l1=T.drop (i+1):=by obtain⟨t,e,-⟩:=sign_len hs;exact drop_next e
  subst hl1
  have b0:((w.alloc (.cells #[.pointer (some ⟨pb,0,none⟩)] 59)).alloc (.cells #[.pointer (some ⟨Sx,0,none⟩)] 98)).cell? ⟨w.heap.size,0,none⟩=some (.pointer (some ⟨pb,0,none⟩)):=one_cell hQ.bp
  dsimp only
  replace hQ:=Lib.hid hQ
  have hls:=Lib.hid (fun (w':World) (hS':∃v:Value × Value,QAt B (w.heap.size+2) pb gw cw T ln vb bb Sx w.heap.size (w.heap.size+1) w' (i+1) y v.1 v.2)=>lpairs_any (fun w i x ⟨v,h⟩=>pair_any h) hS' (Nat.le_refl _))
  clear hs h ha hl
  obtain⟨R,hR⟩:∃R,listP pairP 93 ((T.drop (i+1)).length+1) y (T.drop (i+1)) ln=R:=⟨_,rfl⟩
  rw [hR] at hls
  rw [hR]
  clear hR
  go_enter Tryd.func33,Tryd.ntmps33
  go_upto_region 3 with (go_at_call 43;refine hsg.out.mono ?_;rintro e w3 ⟨rfl,hP3,hT3⟩)
  have hS3:=hQ.out.on (Nat.le_succ i) hP3 hT3
  have b3:w3.cell? ⟨w.heap.size,0,none⟩=some (.pointer (some ⟨pb,0,none⟩)):=one_cell hS3.bp
  replace hS3:=Lib.hid hS3
  replace hT3:=Lib.hid hT3
  clear b0 hP3
  cases R with
  | error f=>
   go_wp2_with (go_at_call 64;refine (hls.out _ ⟨(_,_),hS3.out⟩).mono ?_;rintro e w5 ⟨hT5,he⟩;obtain rfl:=he)
   exact⟨rfl,hlow.out _ ((touch_pb hT3.out).trans hT5),rfl⟩
  | ok r=>
   obtain⟨y',l'⟩:=r
   go_wp2_with (go_at_call 64;refine (hls.out _ ⟨(_,_),hS3.out⟩).mono ?_;rintro e w5 ⟨hT5,hx⟩;dsimp only at hx;obtain⟨rfl,v5,i5,hl5,hS5⟩:=hx)
   go_end0
   exact⟨hlow.out _ ((touch_pb hT3.out).trans hT5),rfl,v5.1,v5.2,i5,hl5,hS5.s.lower hxs h3⟩
theorem rest_any (r:Rst)(h:SAt B Bx pb gw cw T ln vb bb Sx w i y (.slice none 0 0) (.slice none 0 0))(ha:y.args=[])(hl:y.labels=[]):Calls Tryd.prog (rstF r) #[.pointer (some ⟨pb,0,none⟩),.pointer (some ⟨Sx,0,none⟩)] w (RPost B Bx pb gw cw T ln vb bb Sx w (restP r y (T.drop i) ln)):=by
 cases r with
 | fields=>exact fields_any h
 | nothing=>exact nothing_any h
 | fn=>exact fn_any h
 | operand=>exact operand_any h
 | field=>exact field_any h
 | phi=>exact phi_any h ha hl
 | call=>exact call_any h
 | icall=>exact icall_any h
 | store=>exact store_any h
 | branch=>exact branch_any h
 | label=>exact label_any h
 | result=>exact result_any h
def IPost (B pb gw cw:Nat)(T:List Tok)(ln vb bb:Nat)(w:World)(r:Except Flt (Ins × List Tok))(e:Ending)(w':World):Prop:=
 Touch w w' (fun k=>k=pb)∧match r with
 | .error f=>e=.panicked (chF f)
 | .ok (y,l')=>∃a1 c1 a2 c2 i',e=.returned (.agg #[.int .u8 y.op,.string y.dst,.string y.a,.string y.b,.int .i64 y.n,.string y.fn,.slice a1 y.args.length c1,.slice a2 y.labels.length c2])∧l'=T.drop i'∧PAt B w' pb gw cw T i' ln vb bb∧w'.ownsRow w.heap.size 9 1 (.slice a1 y.args.length c1) y.args.length (y.args.map Value.string)∧w'.ownsRow w.heap.size 9 1 (.slice a2 y.labels.length c2) y.labels.length (y.labels.map Value.string)
theorem cells8P {w:World}{b:Nat}{x0 x1 x2 x3 x4 x5 x6 x7:Value}{t:TypeId}(h:w.heap[b]?=some (.cells #[x0,x1,x2,x3,x4,x5,x6,x7] t (0,0))):w.cell? ⟨b,0,none⟩=some x0∧w.cell? ⟨b,1,none⟩=some x1∧w.cell? ⟨b,2,none⟩=some x2∧w.cell? ⟨b,3,none⟩=some x3∧w.cell? ⟨b,4,none⟩=some x4∧w.cell? ⟨b,5,none⟩=some x5∧w.cell? ⟨b,6,none⟩=some x6∧w.cell? ⟨b,7,none⟩=some x7:=by
 refine⟨?_,?_,?_,?_,?_,?_,?_,?_⟩<;>(rw [blk_cell h];rfl)
theorem touch8 {w:World}{b:Nat}(x0 x1 x2 x3 x4 x5 x6 x7:Value):Touch w ((((((((w.setCell ⟨b,0,none⟩ x0).setCell ⟨b,1,none⟩ x1).setCell ⟨b,2,none⟩ x2).setCell ⟨b,3,none⟩ x3).setCell ⟨b,4,none⟩ x4).setCell ⟨b,5,none⟩ x5).setCell ⟨b,6,none⟩ x6).setCell ⟨b,7,none⟩ x7) (fun k=>k=b):=
 ((((((((Touch.refl w (fun k=>k=b)).setCell (a:=⟨b,0,none⟩) (fun _=>rfl) _).setCell (a:=⟨b,1,none⟩) (fun _=>rfl) _).setCell (a:=⟨b,2,none⟩) (fun _=>rfl) _).setCell (a:=⟨b,3,none⟩) (fun _=>rfl) _).setCell (a:=⟨b,4,none⟩) (fun _=>rfl) _).setCell (a:=⟨b,5,none⟩) (fun _=>rfl) _).setCell (a:=⟨b,6,none⟩) (fun _=>rfl) _).setCell (a:=⟨b,7,none⟩) (fun _=>rfl) _
set_option maxRecDepth 20000 in
set_option maxHeartbeats 4000000 in
theorem instr_any (h:PAt B w pb gw cw T i ln vb bb)(op:Nat)(r:Rst)(dst:ByteArray):Calls Tryd.prog 67 #[.pointer (some ⟨pb,0,none⟩),.agg #[.int .u8 op,.func (.func (rstF r)) #[] #[]],.string dst] w (IPost B pb gw cw T ln vb bb w (instrP (op,r) dst (T.drop i) ln)):=by
 obtain⟨W2,hW2⟩:∃W2,((w.alloc (.cells #[.int .u8 op,.func (.func (rstF r)) #[] #[]] 85)).alloc (.cells #[.int .u8 0,.string ⟨#[]⟩,.string ⟨#[]⟩,.string ⟨#[]⟩,.int .i64 0,.string ⟨#[]⟩,.slice none 0 0,.slice none 0 0] 49)).alloc (.cells #[.int .u8 op,.string dst,.string ⟨#[]⟩,.string ⟨#[]⟩,.int .i64 0,.string ⟨#[]⟩,.slice none 0 0,.slice none 0 0] 49)=W2:=⟨_,rfl⟩
 have hz2:W2.heap.size=w.heap.size+3:=by rw [←hW2];simp
 have hb0:Below w.heap.size w W2:=by rw [←hW2];exact (((Below.refl _ _).alloc (Nat.le_refl _) _).alloc (by simp) _).alloc (by simp;omega) _
 have hB6:W2.heap[w.heap.size+1]?=some (.cells #[.int .u8 0,.string ⟨#[]⟩,.string ⟨#[]⟩,.string ⟨#[]⟩,.int .i64 0,.string ⟨#[]⟩,.slice none 0 0,.slice none 0 0] 49 (0,0)):=by rw [←hW2];exact at_oldP (at_newP (by simp))
 have hB4:W2.heap[w.heap.size]?=some (.cells #[.int .u8 op,.func (.func (rstF r)) #[] #[]] 85 (0,0)):=by rw [←hW2];exact at_oldP (at_oldP (at_newP rfl))
 have htop:=h.top
 have hS:SAt B (w.heap.size+3) pb gw cw T ln vb bb (w.heap.size+1+1) W2 i (insOf op dst) (.slice none 0 0) (.slice none 0 0):=
  ⟨h.below hb0,⟨by rw [←hW2];exact at_newP (by simp),World.ownsRow_nil _ _ _ _,World.ownsRow_nil _ _ _ _,fun g hg=>by simp [Value.ownBlock] at hg,by omega,by omega⟩,Nat.zero_le _,Nat.zero_le _,by omega⟩
 have hlow:∀w3,Touch W2 w3 (fun k=>k=pb∨k=w.heap.size+1+1∨w.heap.size+3≤k)→Touch w w3 (fun k=>k=pb):=fun w3 t=>(Touch.of_below hb0 (fun k=>k=pb)).then t (fun k hk e=>by rcases e with e | e | e<;>omega)
 have hltp:pb<w.heap.size:=Nat.lt_of_lt_of_le h.ltP h.top
 have hk:=Lib.hid (rest_any r hS rfl rfl)
 unfold instrP
 dsimp only
 obtain⟨R,hR⟩:∃R,restP r (insOf op dst) (T.drop i) ln=R:=⟨_,rfl⟩
 rw [hR] at hk
 rw [hR]
 have f1:W2.cell? ⟨w.heap.size,1,none⟩=some (.func (.func (rstF r)) #[] #[]):=by rw [blk_cell hB4];rfl
 have hlow:=Lib.hid hlow
 replace hb0:=Lib.hid hb0
 replace hB6:=Lib.hid hB6
 replace hz2:=Lib.hid hz2
 clear hR hS h hB4
 cases R with
 | error f=>
  cases r<;>(
   simp only [rstF] at hk hW2 f1 ⊢
   replace hW2:=Lib.hid hW2
   go_enter Tryd.func67,Tryd.ntmps67
   go_upto_region 2 with fail
   rw [hW2.out]
   clear hW2
   go_wp2_with fail
   refine hk.out.mono ?_
   rintro e w3 ⟨hT3,he⟩
   obtain rfl:=he
   go_simp
   exact⟨rfl,hlow.out _ hT3,rfl⟩)
 | ok x=>
  obtain⟨y,l'⟩:=x
  have hfin:∀w3 va vl i',Touch W2 w3 (fun k=>k=pb∨k=w.heap.size+1+1∨w.heap.size+3≤k)→SAt B (w.heap.size+3) pb gw cw T ln vb bb (w.heap.size+1+1) w3 i' y va vl→
    ∀w4,Touch w3 w4 (fun k=>k=w.heap.size+1)→Touch w w4 (fun k=>k=pb)∧PAt B w4 pb gw cw T i' ln vb bb∧w4.ownsRow w.heap.size 9 1 va y.args.length (y.args.map Value.string)∧w4.ownsRow w.heap.size 9 1 vl y.labels.length (y.labels.map Value.string):=fun w3 va vl i' hT hS w4 t4=>by
   have t3:=hlow.out _ hT
   have hx:=t3.size
   refine⟨t3.then (S:=fun k=>k=pb) t4 (fun k hk e=>by omega),hS.p.keep t4 (fun k e=>by omega),own_lowerP (ownsRow_touch hS.x.ra t4 (fun g hg e=>by have:=(hS.x.ra.lt g hg).1;omega)) (by omega),own_lowerP (ownsRow_touch hS.x.rl t4 (fun g hg e=>by have:=(hS.x.rl.lt g hg).1;omega)) (by omega)⟩
  replace hfin:=Lib.hid hfin
  have hB6':=Lib.hid (fun w3 (hT:Touch W2 w3 (fun k=>k=pb∨k=w.heap.size+1+1∨w.heap.size+3≤k))=>(hT.block (w.heap.size+1) (by have:=hz2.out;omega) (by omega)).trans hB6.out)
  cases r<;>(
   simp only [rstF] at hk hW2 f1 ⊢
   replace hW2:=Lib.hid hW2
   go_enter Tryd.func67,Tryd.ntmps67
   go_upto_region 2 with fail
   rw [hW2.out]
   clear hW2
   go_wp2_with fail
   refine hk.out.mono ?_
   rintro e w3 ⟨hT3,hx⟩
   dsimp only at hx
   obtain⟨rfl,va,vl,i3,hl3,hS3⟩:=hx
   obtain⟨a1,c1,rfl⟩:=own_formP hS3.x.ra
   obtain⟨a2,c2,rfl⟩:=own_formP hS3.x.rl
   obtain⟨x0,x1,x2,x3,x4,x5,x6,x7⟩:=cells8P hS3.x.blk
   obtain⟨z0,z1,z2,z3,z4,z5,z6,z7⟩:=cells8P (hB6'.out w3 hT3)
   have y0:=frozB (hB6'.out w3 hT3) 0
   have y1:=frozB (hB6'.out w3 hT3) 1
   have y2:=frozB (hB6'.out w3 hT3) 2
   have y3:=frozB (hB6'.out w3 hT3) 3
   have y4:=frozB (hB6'.out w3 hT3) 4
   have y5:=frozB (hB6'.out w3 hT3) 5
   have y6:=frozB (hB6'.out w3 hT3) 6
   have y7:=frozB (hB6'.out w3 hT3) 7
   have hF:=Lib.hid (hfin.out w3 _ _ i3 hT3 hS3)
   replace hl3:=Lib.hid hl3
   clear hT3 hS3 hk
   go_wp2_with fail
   obtain⟨g1,g2,g3,g4⟩:=hF.out _ (touch8 _ _ _ _ _ _ _ _)
   exact bodyPost_ret (v:=.agg #[.int .u8 y.op,.string y.dst,.string y.a,.string y.b,.int .i64 y.n,.string y.fn,.slice a1 y.args.length c1,.slice a2 y.labels.length c2]) (by simp [results,Tryd.results67,go_sem, *]) rfl ⟨g1,a1,c1,a2,c2,i3,rfl,hl3.out,g2,g3,g4⟩)
end
end
section
open Go.RowKit Go.Maps Go.Shelf Go.WideMaps
attribute [local go_sem] Oper.semAt_some fld0 fld1 fld2
theorem lawF:Keyed Tryd.prog 9:=string_keyed Tryd.underlying9
theorem VMap.congr {w:World}{k:TypeId}{b n:Nat}{f g:Lit→Option Value}(h:VMap w k b n f)(e:∀l,f l=g l):VMap w k b n g:=by
 have:f=g:=funext e
 rw [←this]
 exact h
set_option maxRecDepth 20000 in
set_option maxHeartbeats 1000000 in
theorem values_any (w:World):Calls Tryd.prog 16 #[] w fun e w'=>∃b,e=.returned (.map (some b))∧w.heap.size≤b∧VMap w' 9 b 10 (formsV valueF)∧Below w.heap.size w w':=by
 have hb0:Below w.heap.size w (w.alloc (.map #[] 0)):=(Below.refl _ _).alloc (Nat.le_refl _) _
 have hM:=Lib.hid (VMap.new w 9)
 have hB:=Lib.hid hb0
 have hmm:=@run_makeMap Tryd.prog
 clear hb0
 go_enter Tryd.func16,Tryd.ntmps16
 go_wp2_with (refine wpList_vmap_ins rfl _ _ _ _ rfl 9 85 lawF Tryd.underlying60 w.heap.size _ _ hM.out (by simp [maxLen]) rfl _ _ _ rfl rfl (keyOf_string_mk Tryd.underlying9 (by decide)) ?_;intro w2 hM2 hT2;replace hB:=Lib.hid (hB.out.trans (hT2.below hB.out.size (fun k hk e=>by omega)));replace hM:=Lib.hid hM2;clear hM2 hT2;go_frame)
 go_ret
 refine⟨w.heap.size,rfl,Nat.le_refl _,hM.out.congr fun l=>?_,hB.out⟩
 cases l with
 | string s=>
  show _=(valueF s).map formV
  by_cases h1:s=[97,108,108,111,99,97];· subst h1;simp [valueF,bareF,formV,rstF,Act.eval]
  by_cases h2:s=[109,97,108,108,111,99];· subst h2;simp [valueF,bareF,formV,rstF,Act.eval]
  by_cases h3:s=[110,117,108,108];· subst h3;simp [valueF,bareF,formV,rstF,Act.eval]
  by_cases h4:s=[97,100,100,114];· subst h4;simp [valueF,bareF,formV,rstF,Act.eval]
  by_cases h5:s=[99,111,112,121];· subst h5;simp [valueF,bareF,formV,rstF,Act.eval]
  by_cases h6:s=[108,111,97,100];· subst h6;simp [valueF,bareF,formV,rstF,Act.eval]
  by_cases h7:s=[102,105,101,108,100];· subst h7;simp [valueF,bareF,formV,rstF,Act.eval]
  by_cases h8:s=[112,104,105];· subst h8;simp [valueF,bareF,formV,rstF,Act.eval]
  by_cases h9:s=[99,97,108,108];· subst h9;simp [valueF,bareF,formV,rstF,Act.eval]
  by_cases h10:s=[105,99,97,108,108];· subst h10;simp [valueF,bareF,formV,rstF,Act.eval]
  have hv:valueF s=none:=by simp [valueF,h1,h2,h3,h4,h5,h6,h7,h8,h9,h10]
  rw [hv]
  simp [h1,h2,h3,h4,h5,h6,h7,h8,h9,h10]
 | _=>simp [formsV]
set_option maxRecDepth 20000 in
set_option maxHeartbeats 1000000 in
theorem bares_any (w:World):Calls Tryd.prog 17 #[] w fun e w'=>∃b,e=.returned (.map (some b))∧w.heap.size≤b∧VMap w' 9 b 6 (formsV bareF)∧Below w.heap.size w w':=by
 have hb0:Below w.heap.size w (w.alloc (.map #[] 0)):=(Below.refl _ _).alloc (Nat.le_refl _) _
 have hM:=Lib.hid (VMap.new w 9)
 have hB:=Lib.hid hb0
 have hmm:=@run_makeMap Tryd.prog
 clear hb0
 go_enter Tryd.func17,Tryd.ntmps17
 go_wp2_with (refine wpList_vmap_ins rfl _ _ _ _ rfl 9 85 lawF Tryd.underlying60 w.heap.size _ _ hM.out (by simp [maxLen]) rfl _ _ _ rfl rfl (keyOf_string_mk Tryd.underlying9 (by decide)) ?_;intro w2 hM2 hT2;replace hB:=Lib.hid (hB.out.trans (hT2.below hB.out.size (fun k hk e=>by omega)));replace hM:=Lib.hid hM2;clear hM2 hT2;go_frame)
 go_ret
 refine⟨w.heap.size,rfl,Nat.le_refl _,hM.out.congr fun l=>?_,hB.out⟩
 cases l with
 | string s=>
  show _=(bareF s).map formV
  by_cases h1:s=[99,97,108,108];· subst h1;simp [valueF,bareF,formV,rstF,Act.eval]
  by_cases h2:s=[105,99,97,108,108];· subst h2;simp [valueF,bareF,formV,rstF,Act.eval]
  by_cases h3:s=[115,116,111,114,101];· subst h3;simp [valueF,bareF,formV,rstF,Act.eval]
  by_cases h4:s=[98,114];· subst h4;simp [valueF,bareF,formV,rstF,Act.eval]
  by_cases h5:s=[103,111,116,111];· subst h5;simp [valueF,bareF,formV,rstF,Act.eval]
  by_cases h6:s=[114,101,116];· subst h6;simp [valueF,bareF,formV,rstF,Act.eval]
  have hv:bareF s=none:=by simp [bareF,h1,h2,h3,h4,h5,h6]
  rw [hv]
  simp [h1,h2,h3,h4,h5,h6]
 | _=>simp [formsV]
end
section
open Go.RowKit Go.Maps
def Fz (w:World)(v:Value):Prop:=∀g,v.ownBlock=some g→∃cs t,w.heap[g]?=some (.cells cs t (0,0))
def REU {α:Type}(c:Nat)(R:World→List Value→α→Prop)(w:World)(v:Value)(L:List α):Prop:=RdE c R w v L∧Fz w v
def RdInsU (w:World)(cs:List Value)(d:Ins):Prop:=RdIns w cs d∧∀u∈cs,Fz w u
def RdBlkU (w:World)(cs:List Value)(d:Blk):Prop:=∃vc,cs=[.string d.label,vc]∧REU 8 RdInsU w vc d.code
def RdFunU (w:World)(cs:List Value)(d:Fun):Prop:=∃vp vb,cs=[.string d.name,vp,vb]∧(RdS w vp d.params∧Fz w vp)∧REU 2 RdBlkU w vb d.blocks
theorem fz_own {w:World}{base n size:Nat}{v:Value}{xs:List Value}{t:TypeId}(h:w.ownsRow base t size v n xs):Fz w v:=by
 rcases h.2 with ⟨rfl,-⟩ | ⟨g,cap,cur,rfl,-,h2,-⟩
 ·intro g hg
  simp [Value.ownBlock] at hg
 ·intro g' hg
  simp only [Value.ownBlock,Option.some.injEq] at hg
  subst hg
  exact⟨_,_,h2⟩
theorem fz_nil (w:World):Fz w (.slice none 0 0):=fun g hg=>by simp [Value.ownBlock] at hg
theorem fz_ins {w:World}{d:Ins}{va vl:Value}(ha:Fz w va)(hl:Fz w vl):∀u∈insV d va vl,Fz w u:=by
 intro u hu
 simp only [insV,List.mem_cons,List.not_mem_nil,or_false] at hu
 rcases hu with rfl | rfl | rfl | rfl | rfl | rfl | rfl | rfl
 case inr.inr.inr.inr.inr.inr.inl=>exact ha
 case inr.inr.inr.inr.inr.inr.inr=>exact hl
 all_goals exact fun g hg=>by simp [Value.ownBlock] at hg
section
variable {α:Type} {c:Nat} {R:World→List Value→α→Prop} {w w':World} {base:Nat} {e:TypeId} {v:Value} {L:List α} {No:Nat→Prop}
theorem OwnE.rdu (h:OwnE c R w base e v L):REU c R w v L:=⟨h.rd,by obtain⟨xs,h1,-⟩:=h;exact fz_own h1⟩
theorem OwnE.toU {B:Nat→Prop}(h:OwnE c (Away (fun k=>v.ownBlock=some k∨B k) R) w base e v L)(t:Touch w w' No)(hv:∀g,v.ownBlock=some g→¬No g)(hs:∀k,k<w.heap.size→No k→B k):REU c R w' v L:=
 ⟨h.to t hv hs,by obtain⟨xs,h1,-⟩:=h;exact fz_own (ownsRow_touch h1 t hv)⟩
end
theorem REU.code {w:World}{v:Value}{L:List Ins}(h:REU 8 RdInsU w v L):RdE 8 RdIns w v L:=h.1.imp fun _ _ h=>h.1
theorem RdBlkU.plain {w:World}{cs:List Value}{d:Blk}(h:RdBlkU w cs d):RdBlk w cs d:=by
 obtain⟨vc,h1,h2⟩:=h
 exact⟨vc,h1,h2.code⟩
theorem RdFunU.plain {w:World}{cs:List Value}{d:Fun}(h:RdFunU w cs d):RdFun w cs d:=by
 obtain⟨vp,vb,h1,h2,h3⟩:=h
 exact⟨vp,vb,h1,h2.1,h3.1.imp fun _ _ h=>h.plain⟩
theorem REU.plain {w:World}{v:Value}{P:List Fun}(h:REU 3 RdFunU w v P):RdE 3 RdFun w v P:=h.1.imp fun _ _ h=>h.plain
end
section
open Go.RowKit Go.Maps Go.Shelf
structure FNil (Bp Bf:Nat) (w:World) (Sf:Nat) (nm:ByteArray) (ps:List ByteArray) (vp:Value):Prop where
 blk:w.heap[Sf]?=some (.cells #[.string nm,vp,.slice none 0 0] 43 (0,0))
 par:w.ownsRow Bp 9 1 vp ps.length (ps.map Value.string)
 lt:Sf<Bf
 top:Bf≤w.heap.size
 pne:∀g,vp.ownBlock=some g→¬g=Sf
 le:Bp≤Bf
structure FOp (Bp Bf:Nat) (w:World) (Sf:Nat) (nm:ByteArray) (ps:List ByteArray) (vp vb vc:Value) (bs:List Blk) (x:Blk):Prop where
 blk:w.heap[Sf]?=some (.cells #[.string nm,vp,vb] 43 (0,0))
 par:w.ownsRow Bp 9 1 vp ps.length (ps.map Value.string)
 row:∃flat,w.ownsRow Bf 46 2 vb (bs.length+1) (flat++[.string x.label,vc])∧flat.length=bs.length*2∧∀i y,bs[i]?=some y→∃v,flat[i*2]?=some (.string y.label)∧flat[i*2+1]?=some v∧(∃a n c,v=.slice a n c)∧∀w',Touch w w' (fun k=>k<Bf∨vb.ownBlock=some k∨vc.ownBlock=some k)→REU 8 RdInsU w' v y.code
 code:OwnE 8 (Away (fun k=>vc.ownBlock=some k∨(k<Bf∨vb.ownBlock=some k)) RdInsU) w Bf 49 vc x.code
 n1:∀g,vp.ownBlock=some g→¬vb.ownBlock=some g∧¬vc.ownBlock=some g
 n2:∀g,vb.ownBlock=some g→¬vc.ownBlock=some g
 lt:Sf<Bf
 top:Bf≤w.heap.size
 pne:∀g,vp.ownBlock=some g→¬g=Sf
 le:Bp≤Bf
section
variable {Bp Bf Sf:Nat} {w w2 w3:World} {nm:ByteArray} {ps:List ByteArray} {vp vb vc:Value} {bs:List Blk} {x:Blk}
theorem FNil.keep {No:Nat→Prop}(h:FNil Bp Bf w Sf nm ps vp)(t:Touch w w2 No)(hn:∀k,No k→k<Bp∧k≠Sf):FNil Bp Bf w2 Sf nm ps vp:=
 ⟨(t.block Sf (Nat.lt_of_lt_of_le h.lt h.top) (fun e=>(hn _ e).2 rfl)).trans h.blk,ownsRow_touch h.par t (fun g hg e=>by have:=(h.par.lt g hg).1;have:=(hn g e).1;omega),h.lt,Nat.le_trans h.top t.size,h.pne,h.le⟩
theorem FOp.keep {No:Nat→Prop}(h:FOp Bp Bf w Sf nm ps vp vb vc bs x)(t:Touch w w2 No)(hn:∀k,No k→k<Bp∧k≠Sf):FOp Bp Bf w2 Sf nm ps vp vb vc bs x:=by
 obtain⟨flat,r1,r2,r3⟩:=h.row
 have hle:=h.le
 refine⟨(t.block Sf (Nat.lt_of_lt_of_le h.lt h.top) (fun e=>(hn _ e).2 rfl)).trans h.blk,ownsRow_touch h.par t (fun g hg e=>by have:=(h.par.lt g hg).1;have:=(hn g e).1;omega),⟨flat,ownsRow_touch r1 t (fun g hg e=>by have:=(r1.lt g hg).1;have:=(hn g e).1;omega),r2,fun i y hy=>?_⟩,?_,h.n1,h.n2,h.lt,Nat.le_trans h.top t.size,h.pne,h.le⟩
 ·obtain⟨v,a1,a2,a3,a4⟩:=r3 i y hy
  exact⟨v,a1,a2,a3,fun w' t'=>a4 w' ((t.mono (fun k _ e=>.inl (Nat.lt_of_lt_of_le (hn k e).1 hle))).trans t')⟩
 ·exact h.code.go (t.mono (fun k _ e=>.inl (Nat.lt_of_lt_of_le (hn k e).1 hle))) (fun g hg e=>by
   rcases e with e | e
   ·have:=(h.code.lt g hg).1;omega
   ·exact h.n2 g e hg)
theorem FOp.form (h:FOp Bp Bf w Sf nm ps vp vb vc bs x):∃gb cap ac cc,vb=.slice (some ⟨gb,0,none⟩) (bs.length+1) cap∧vc=.slice ac x.code.length cc∧w.cell? ⟨gb,bs.length*2+1,none⟩=some vc∧w.frozen? ⟨gb,bs.length*2+1,none⟩=false∧Bf≤gb∧gb<w.heap.size:=by
 obtain⟨flat,r1,r2,-⟩:=h.row
 obtain⟨ac,cc,e⟩:=h.code.form
 obtain⟨gb,cap,e2⟩:=row_form r1 (Nat.succ_pos _)
 subst e2
 have hc:=r1.cells (g:=gb) rfl (bs.length*2+1) vc (by rw [List.getElem?_append_right (by omega),show bs.length*2+1-flat.length=1 by omega];rfl)
 rw [add0] at hc
 have hg:=r1.lt gb rfl
 refine⟨gb,cap,ac,cc,rfl,e,hc,?_,hg.1,hg.2⟩
 rcases r1.2 with ⟨e3,-⟩ | ⟨g,cap',cur,e3,-,h2,-⟩
 ·cases e3
 ·simp only [Value.slice.injEq,Option.some.injEq,Addr.mk.injEq] at e3
  obtain⟨⟨rfl,-⟩,-⟩:=e3
  exact frozB h2 _
theorem fnil_block {o:Obj}{s:ByteArray}{gg cap:Nat}(h:FNil Bp Bf w2 Sf nm ps vp)(hg:(w2.alloc o).grownBy w3 none)(hO:w3.ownsRow Bf 46 2 (.slice (some ⟨gg,0,none⟩) 1 cap) 1 [.string s,.slice none 0 0])(hat:gg=w2.heap.size+1):
  FOp Bp Bf (w3.setCell ⟨Sf,2,none⟩ (.slice (some ⟨gg,0,none⟩) 1 cap)) Sf nm ps vp (.slice (some ⟨gg,0,none⟩) 1 cap) (.slice none 0 0) [] ⟨s,[]⟩∧Touch w2 (w3.setCell ⟨Sf,2,none⟩ (.slice (some ⟨gg,0,none⟩) 1 cap)) (fun k=>k=Sf):=by
 have t3:Touch w2 w3 (fun _=>False):=((Touch.refl w2 _).alloc o).trans (Touch.of_grown hg (fun k e=>by cases e))
 have t4:Touch w3 (w3.setCell ⟨Sf,2,none⟩ (.slice (some ⟨gg,0,none⟩) 1 cap)) (fun k=>k=Sf):=(Touch.refl w3 (fun k=>k=Sf)).setCell (a:=⟨Sf,2,none⟩) (fun _=>rfl) _
 have hlt:=h.lt
 have htop:=h.top
 have b3:=(t3.block Sf (by omega) (fun e=>e)).trans h.blk
 have p3:=ownsRow_touch h.par t3 (fun _ _ e=>e)
 refine⟨⟨blk_set (i:=2) _ b3,ownsRow_touch p3 t4 (fun g hg e=>h.pne g hg e),⟨[],ownsRow_touch hO t4 (fun g hg e=>by have:=(hO.lt g hg).1;omega),rfl,fun i y hy=>by simp at hy⟩,OwnE.nil _ _ _,fun g hg=>⟨fun e=>?_,fun e=>by simp [Value.ownBlock] at e⟩,fun g hg e=>by simp [Value.ownBlock] at e,hlt,?_,h.pne,h.le⟩,(t3.mono (fun _ _ e=>e.elim)).trans t4⟩
 ·simp only [Value.ownBlock,Option.some.injEq] at e
  have:=(h.par.lt g hg).2
  omega
 ·have:=t3.size;have:=t4.size;omega
theorem fop_block {o:Obj}{s:ByteArray}{gg cap:Nat}(h:FOp Bp Bf w2 Sf nm ps vp vb vc bs x){flat:List Value}(hg:(w2.alloc o).grownBy w3 vb.ownBlock)(hO:w3.ownsRow Bf 46 2 (.slice (some ⟨gg,0,none⟩) (bs.length+1+1) cap) (bs.length+1+1) ((flat++[.string x.label,vc])++[.string s,.slice none 0 0]))
  (r2:flat.length=bs.length*2) (r3:∀i y,bs[i]?=some y→∃v,flat[i*2]?=some (.string y.label)∧flat[i*2+1]?=some v∧(∃a n c,v=.slice a n c)∧∀w',Touch w2 w' (fun k=>k<Bf∨vb.ownBlock=some k∨vc.ownBlock=some k)→REU 8 RdInsU w' v y.code) (hat:vb.ownBlock=some gg∨gg=w2.heap.size+1):
  FOp Bp Bf (w3.setCell ⟨Sf,2,none⟩ (.slice (some ⟨gg,0,none⟩) (bs.length+1+1) cap)) Sf nm ps vp (.slice (some ⟨gg,0,none⟩) (bs.length+1+1) cap) (.slice none 0 0) (bs++[x]) ⟨s,[]⟩∧Touch w2 (w3.setCell ⟨Sf,2,none⟩ (.slice (some ⟨gg,0,none⟩) (bs.length+1+1) cap)) (fun k=>k=Sf∨Bf≤k):=by
 have t3:Touch w2 w3 (fun k=>vb.ownBlock=some k):=((Touch.refl w2 _).alloc o).trans (Touch.of_grown hg (fun k e=>e))
 have t4:Touch w3 (w3.setCell ⟨Sf,2,none⟩ (.slice (some ⟨gg,0,none⟩) (bs.length+1+1) cap)) (fun k=>k=Sf):=(Touch.refl w3 (fun k=>k=Sf)).setCell (a:=⟨Sf,2,none⟩) (fun _=>rfl) _
 have hlt:=h.lt
 have htop:=h.top
 obtain⟨flat0,q1,-,-⟩:=h.row
 have hvb:∀k,vb.ownBlock=some k→Bf≤k:=fun k e=>(q1.lt k e).1
 have b3:=(t3.block Sf (by omega) (fun e=>by have:=hvb _ e;omega)).trans h.blk
 have p3:=ownsRow_touch h.par t3 (fun g hg e=>(h.n1 g hg).1 e)
 have tt:Touch w2 (w3.setCell ⟨Sf,2,none⟩ (.slice (some ⟨gg,0,none⟩) (bs.length+1+1) cap)) (fun k=>k=Sf∨vb.ownBlock=some k):=(t3.mono (fun _ _ e=>.inr e)).trans (t4.mono (fun _ _ e=>.inl e))
 have hcov:∀w',Touch (w3.setCell ⟨Sf,2,none⟩ (.slice (some ⟨gg,0,none⟩) (bs.length+1+1) cap)) w' (fun k=>k<Bf∨(Value.slice (some ⟨gg,0,none⟩) (bs.length+1+1) cap).ownBlock=some k∨(Value.slice none 0 0).ownBlock=some k)→Touch w2 w' (fun k=>k<Bf∨vb.ownBlock=some k):=fun w' t'=>
  (tt.mono (S':=fun k=>k<Bf∨vb.ownBlock=some k) (fun k _ e=>by rcases e with e | e;exact .inl (by omega);exact .inr e)).then t' (fun k hk e=>by
   rcases e with e | e | e
   ·exact .inl e
   ·simp only [Value.ownBlock,Option.some.injEq] at e
    rcases hat with e2 | e2
    ·exact .inr (e ▸ e2)
    ·omega
   ·simp [Value.ownBlock] at e)
 refine⟨⟨blk_set (i:=2) _ b3,ownsRow_touch p3 t4 (fun g hg e=>h.pne g hg e),⟨flat++[.string x.label,vc],?_,by simp;omega,fun i y hy=>?_⟩,OwnE.nil _ _ _,fun g hg=>⟨fun e=>?_,fun e=>by simp [Value.ownBlock] at e⟩,fun g hg e=>by simp [Value.ownBlock] at e,hlt,?_,h.pne,h.le⟩,tt.mono (fun k _ e=>by rcases e with e | e;exact .inl e;exact .inr (hvb k e))⟩
 ·rw [List.length_append,List.length_singleton]
  exact ownsRow_touch hO t4 (fun g hg e=>by have:=(hO.lt g hg).1;omega)
 ·rcases Nat.lt_or_ge i bs.length with hi | hi
  ·rw [List.getElem?_append_left hi] at hy
   obtain⟨v,a1,a2,a3,a4⟩:=r3 i y hy
   exact⟨v,by rw [List.getElem?_append_left (by omega)];exact a1,by rw [List.getElem?_append_left (by omega)];exact a2,a3,fun w' t'=>a4 w' ((hcov w' t').mono (fun k _ e=>by rcases e with e | e;exact .inl e;exact .inr (.inl e)))⟩
  ·have hi2:i=bs.length:=by have:=(List.getElem?_eq_some_iff.1 hy).1;simp at this;omega
   subst hi2
   rw [List.getElem?_append_right (Nat.le_refl _),Nat.sub_self] at hy
   simp only [List.getElem?_cons_zero,Option.some.injEq] at hy
   subst hy
   obtain⟨ac,cc,e⟩:=h.code.form
   refine⟨vc,by rw [List.getElem?_append_right (by omega),show bs.length*2-flat.length=0 by omega];rfl,by rw [List.getElem?_append_right (by omega),show bs.length*2+1-flat.length=1 by omega];rfl,⟨_,_,_,e⟩,fun w' t'=>h.code.toU (hcov w' t') (fun g hg e=>by
    rcases e with e | e
    ·have:=(h.code.lt g hg).1;omega
    ·exact h.n2 g e hg) (fun k _ e=>e)⟩
 ·simp only [Value.ownBlock,Option.some.injEq] at e
  subst e
  rcases hat with e2 | e2
  ·exact (h.n1 _ hg).1 e2
  ·have:=(h.par.lt _ hg).2;omega
 ·have:=t3.size;have:=t4.size;omega
end
end
section
open Go.RowKit Go.Maps Go.Shelf
theorem rds_ownP {w:World}{base n:Nat}{v:Value}{ss:List ByteArray}{t:TypeId}(h:w.ownsRow base t 1 v n (ss.map Value.string)):RdS w v ss:=by
 rcases h.2 with ⟨rfl,h0⟩ | ⟨g,cap,cur,rfl,h1,h2,h3,h4,h5,h6⟩
 ·have:ss=[]:=by have:=h.1;rw [h0,List.length_map] at this;exact List.eq_nil_of_length_eq_zero (by omega)
  subst this
  exact .inl ⟨rfl,.inl rfl⟩
 ·have hl:n=ss.length:=by have:=h.1;rw [List.length_map] at this;omega
  subst hl
  refine Or.inr ⟨g,0,cap,by simp,(h.lt g rfl).2,fun k u hu=>?_⟩
  have:=h.cells (g:=g) rfl k u hu
  rw [add0] at this
  rw [Nat.zero_add]
  exact this
section
variable {Bp Bf Sf H:Nat} {w w5 w7:World} {nm:ByteArray} {ps:List ByteArray} {vp vc:Value} {bs:List Blk} {x:Blk}
theorem fop_instr {o:Obj}{y:Ins}{va vl:Value}{gb capb gg cap n:Nat}{xs:List Value}(h:FOp Bp Bf w5 Sf nm ps vp (.slice (some ⟨gb,0,none⟩) (bs.length+1) capb) vc bs x)(hn:n=x.code.length)
  (hxl:w5.ownsRow Bf 49 8 vc n xs) (hxs:∀i d,x.code[i]?=some d→∃cs,Away (fun k=>vc.ownBlock=some k∨(k<Bf∨(Value.slice (some ⟨gb,0,none⟩) (bs.length+1) capb).ownBlock=some k)) RdInsU w5 cs d∧cs.length=8∧∀j u,cs[j]?=some u→xs[i*8+j]?=some u)
  (hg:(w5.alloc o).grownBy w7 vc.ownBlock) (hO:w7.ownsRow Bf 49 8 (.slice (some ⟨gg,0,none⟩) (n+1) cap) (n+1) (xs++insV y va vl)) (hat:vc.ownBlock=some gg∨gg=w5.heap.size+1)
  (ra:w5.ownsRow H 9 1 va y.args.length (y.args.map Value.string)) (rl:w5.ownsRow H 9 1 vl y.labels.length (y.labels.map Value.string)) (hH:Bf≤H) (hHb:gb<H) (hHc:∀g,vc.ownBlock=some g→g<H):
  FOp Bp Bf (w7.setCell ⟨gb,bs.length*2+1,none⟩ (.slice (some ⟨gg,0,none⟩) (n+1) cap)) Sf nm ps vp (.slice (some ⟨gb,0,none⟩) (bs.length+1) capb) (.slice (some ⟨gg,0,none⟩) (n+1) cap) bs {x with code:=x.code++[y]}∧Touch w5 (w7.setCell ⟨gb,bs.length*2+1,none⟩ (.slice (some ⟨gg,0,none⟩) (n+1) cap)) (fun k=>Bf≤k)∧
   (∃u,w7.cell? ⟨gb,bs.length*2+1,none⟩=some u∧u=vc)∧w7.frozen? ⟨gb,bs.length*2+1,none⟩=false:=by
 have t3:Touch w5 w7 (fun k=>vc.ownBlock=some k):=((Touch.refl w5 _).alloc o).trans (Touch.of_grown hg (fun k e=>e))
 have t4:Touch w7 (w7.setCell ⟨gb,bs.length*2+1,none⟩ (.slice (some ⟨gg,0,none⟩) (n+1) cap)) (fun k=>k=gb):=(Touch.refl w7 (fun k=>k=gb)).setCell (a:=⟨gb,bs.length*2+1,none⟩) (fun _=>rfl) _
 obtain⟨flat,r1,r2,r3⟩:=h.row
 have hlt:=h.lt
 have htop:=h.top
 have hgb:=r1.lt gb rfl
 have hvc:∀k,vc.ownBlock=some k→Bf≤k:=fun k e=>(hxl.lt k e).1
 have hne:¬vc.ownBlock=some gb:=h.n2 gb rfl
 have hggb:gg≠gb:=by
  rintro rfl
  rcases hat with e | e
  ·exact hne e
  ·omega
 have b3:=(t3.block Sf (by omega) (fun e=>by have:=hvc _ e;omega)).trans h.blk
 have p3:=ownsRow_touch h.par t3 (fun g hg e=>(h.n1 g hg).2 e)
 have r13:=ownsRow_touch r1 t3 (fun g hg e=>h.n2 g hg e)
 have tt:Touch w5 (w7.setCell ⟨gb,bs.length*2+1,none⟩ (.slice (some ⟨gg,0,none⟩) (n+1) cap)) (fun k=>vc.ownBlock=some k∨k=gb):=(t3.mono (fun _ _ e=>.inl e)).trans (t4.mono (fun _ _ e=>.inr e))
 have hst:=(r13.stored (bs.length*2+1) (.slice (some ⟨gg,0,none⟩) (n+1) cap)).1
 have hset:(flat++[.string x.label,vc]).set (bs.length*2+1) (.slice (some ⟨gg,0,none⟩) (n+1) cap)=flat++[.string x.label,.slice (some ⟨gg,0,none⟩) (n+1) cap]:=by
  rw [List.set_append_right _ _ (by omega),show bs.length*2+1-flat.length=1 by omega]
  rfl
 rw [hset] at hst
 have hc:=r13.cells (g:=gb) rfl (bs.length*2+1) vc (by rw [List.getElem?_append_right (by omega),show bs.length*2+1-flat.length=1 by omega];rfl)
 rw [add0] at hc
 have hO8:=ownsRow_touch hO t4 (fun g hg e=>by simp only [Value.ownBlock,Option.some.injEq] at hg;omega)
 have hnew:∀k,k<w5.heap.size→(Value.slice (some ⟨gg,0,none⟩) (n+1) cap).ownBlock=some k→vc.ownBlock=some k:=fun k hk e=>by
  simp only [Value.ownBlock,Option.some.injEq] at e
  rcases hat with e2 | e2
  ·rw [←e];exact e2
  ·omega
 refine⟨⟨(t4.block Sf (by have:=t3.size;omega) (by omega)).trans b3,ownsRow_touch p3 t4 (fun g hg e=>(h.n1 g hg).1 (by rw [e];rfl)),⟨flat,hst,r2,fun i y hy=>?_⟩,⟨xs++insV y va vl,?_,fun i d hd=>?_⟩,fun g hg=>⟨(h.n1 g hg).1,fun e=>?_⟩,fun g hg e=>?_,hlt,?_,h.pne,h.le⟩,tt.mono (fun k _ e=>by rcases e with e | e;exact hvc k e;omega),⟨vc,hc,rfl⟩,r13.frozenAt _⟩
 ·obtain⟨v,a1,a2,a3,a4⟩:=r3 i y hy
  refine⟨v,a1,a2,a3,fun w' t'=>a4 w' ?_⟩
  refine (tt.mono (S':=fun k=>k<Bf∨(Value.slice (some ⟨gb,0,none⟩) (bs.length+1) capb).ownBlock=some k∨vc.ownBlock=some k) (fun k _ e=>?_)).then t' (fun k hk e=>?_)
  ·rcases e with e | e
   ·exact .inr (.inr e)
   ·exact .inr (.inl (by rw [e];rfl))
  ·rcases e with e | e | e
   ·exact .inl e
   ·exact .inr (.inl e)
   ·exact .inr (.inr (hnew k hk e))
 ·rw [List.length_append,List.length_singleton,←hn]
  exact hO8
 ·rcases Nat.lt_or_ge i x.code.length with hi | hi
  ·rw [List.getElem?_append_left hi] at hd
   obtain⟨cs,k1,k2,k3⟩:=hxs i d hd
   refine⟨cs,k1.move (tt.mono (fun k _ e=>?_)) (fun k hk e=>?_),k2,fun j u hj=>?_⟩
   ·rcases e with e | e
    ·exact .inl e
    ·exact .inr (.inr (by rw [e];rfl))
   ·rcases e with e | e
    ·exact .inl (hnew k hk e)
    ·exact .inr e
   ·have:=k3 j u hj
    rw [List.getElem?_append_left (List.getElem?_eq_some_iff.1 this).1]
    exact this
  ·have hi2:i=x.code.length:=by have:=(List.getElem?_eq_some_iff.1 hd).1;simp at this;omega
   subst hi2
   rw [List.getElem?_append_right (Nat.le_refl _),Nat.sub_self] at hd
   simp only [List.getElem?_cons_zero,Option.some.injEq] at hd
   subst hd
   refine⟨insV y va vl,fun w' t'=>?_,rfl,fun j u hj=>?_⟩
   ·have key:∀{v:Value} {m:Nat} {us:List Value},w5.ownsRow H 9 1 v m us→w'.ownsRow H 9 1 v m us:=fun {v m us} r=>by
     have r8:=ownsRow_touch r tt (fun g hg e=>by
      have h1:=(r.lt g hg).1
      rcases e with e | e
      ·have:=hHc g e;omega
      ·omega)
     refine ownsRow_touch r8 t' (fun g hg e=>?_)
     have h1:=(r.lt g hg).1
     have h2:=(r.lt g hg).2
     rcases e with e | e | e
     ·have:=hHc g (hnew g h2 e);omega
     ·omega
     ·simp only [Value.ownBlock,Option.some.injEq] at e;omega
    exact⟨⟨va,vl,rfl,rds_ownP (key ra),rds_ownP (key rl)⟩,fz_ins (fz_own (key ra)) (fz_own (key rl))⟩
   ·have hl:=hxl.1
    rw [List.getElem?_append_right (by omega),show x.code.length*8+j-xs.length=j by omega]
    exact hj
 ·simp only [Value.ownBlock,Option.some.injEq] at e
  subst e
  rcases hat with e2 | e2
  ·exact (h.n1 _ hg).2 e2
  ·have:=(h.par.lt _ hg).2;omega
 ·simp only [Value.ownBlock,Option.some.injEq] at hg e
  omega
 ·have:=tt.size;omega
end
end
end Go.Proofs.YtgcanabckogmmaaDoor
