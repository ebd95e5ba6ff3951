/- RfP3. -/
import Derived.Test.YtgcanabckogmmaaDoorZR28
namespace Go.Proofs.YtgcanabckogmmaaDoor
set_option linter.unusedVariables false
set_option linter.unusedSimpArgs false
section
open Go.RowKit Go.Maps Go.Shelf
attribute [local go_sem] Oper.semAt_some fld0 fld1 fld2
theorem rd_formR {w:World}{v:Value}{l:List ByteArray}(h:RdS w v l):∃a n c,v=.slice a n c:=by
 obtain⟨a,c,e⟩:=Rd.form h
 exact⟨a,_,c,e⟩
theorem ins_forms {w:World}{y:Ins}{va vl:Value}(h:RdInsU w (insV y va vl) y):(∃a n c,va=.slice a n c)∧∃a n c,vl=.slice a n c:=by
 obtain⟨⟨va',vl',e,h1,h2⟩,-⟩:=h
 simp only [insV,List.cons.injEq,true_and,and_true] at e
 obtain⟨rfl,rfl⟩:=e
 exact⟨rd_formR h1,rd_formR h2⟩
def findR (d:Fun)(p:List Tok)(b:Nat):Ins ⊕ Nat:=if d.blocks=[] then .inr b else searchR formsR p b
theorem search_step {j b:Nat}{f:FormR}{p:List Tok}(hf:formsR[j]?=some f):searchR (formsR.drop j) p b=if fullR f p=true then .inl (insR f p) else searchR (formsR.drop (j+1)) p (max b (farS (itemsR f) p).1):=by
 obtain⟨h1,h2⟩:=List.getElem?_eq_some_iff.1 hf
 rw [List.drop_eq_getElem_cons h1,h2]
 rfl
section
variable {B bp:Nat} {w w2:World} {acc:List Fun} {d:Fun} {vF vp vb vc:Value}
theorem info_insP:(Tryd.prog.info? 49).map (fun i=>(i.zero,i.size,i.bytes))=some (some (.agg #[.int .u8 0,.string ⟨#[]⟩,.string ⟨#[]⟩,.string ⟨#[]⟩,.int .i64 0,.string ⟨#[]⟩,.slice none 0 0,.slice none 0 0]),8,128):=by kernel_rfl
end
set_option maxRecDepth 20000 in
set_option maxHeartbeats 4000000 in
theorem rfp6 {c:Code}(hc:Func.blockOf Tryd.f10 6=some c){Q:Exit→Act→World→Prop}{w:World}{gw ow cp fm nb b0 B bp:Nat}{ab:Option Addr}{cb:Nat}{p:List Tok}{acc:List Fun}{d:Fun}{vF vp vb vc:Value}{u0 u1 u2 u3 u4 u5 u6 u7 u8 u9 u10 u11 u13 u14 u15 u16 u17 u18 u19 u20 u22 u23 u28 u29 u30 u31 u32 u33 u34 u35 u36 u37 u38 u39 u40 u41 u42 u43 u44 u45 u46 u47 u48 u49 u50 u51 u52 u53 u54 u55 u56 u57 u58 u59 u60 u61 u62 u63 u64 u65 u66 u67 u68 u69 u70 u71 u72 u73 u74 u75 u76 u77 u78 u79 u80 u81 u82 u83 u84 u85 u86 u87 u88 u89 u90 u91 u92 u93 u94 u95 u96 u97 u98 u99 u100 u101 u102 u103 u104 u105 u106 u107 u108 u109 u110 u111 u112 u113 u114 u115 u116 u117 u118 u119 u120 u121 u122 u123 u124 u125 u126 u127 u128 u129 u130 u131 u132 u133 u134 u135 u136 u137 u138 u139 u140 u141 u142 u143 u144 u145 u146 u147 u148 u149 u150 u151 u152 u153 u154 u155 u156 u157 u158 u159 u160 u161 u162 u163 u164 u165 u166 u167 u168 u169 u170 u171 u172 u173 u174 u175 u176 u177 u178 u179 u180 u181 u182 u183 u184 u185 u186 u187 u188 u189 u190 u191 u192 u193 u194 u195 u196 u197 u198 u199 u200 u201 u202 u203 u204 u205 u206 u207 u208 u209 u210 u211 u212 u213 u214 u215 u216 u217 u218 u219 u220 u221 u222 u223 u224 u225 u226 u227 u228 u229 u230 u231 u232 u233 u234 u235 u236 u237 u238 u239 u240 u241 u242 u243 u244 u245 u246 u247 u248 u249 u250 u251 u252 u253 u254 u255 u256 u257 u258 u259 u260 u261 u262 u263 u264 u265 u266 u267 u268 u269 u270 u271 u272:Value}
  (hPn:∀{x} {a a1:Act} {w1:World},Q (.panic x) a w1→a.defers=a1.defers→Q (.panic x) a1 w1) (hP:PcAt w gw ow p) (hF:FmAt w fm) (hO:Op B bp w acc d vF vp vb vc) (hvb:vb=.slice ab nb cb) (hnb:nb=d.blocks.length) (hb0:b0≤p.length) (hbl:d.blocks.length≤2000000) (hcl:∀x∈d.blocks,x.code.length≤2000000)
  (hins:∀(f:FormR) (w':World) (ib:Nat),f∈formsR→fullR f p=true→PcAt w' gw ow p→StAt w' ib (itemsR f)→Calls Tryd.prog 25 #[.agg #[.int .u8 f.op,.slice (some ⟨ib,0,none⟩) (itemsR f).length (itemsR f).length],.slice (some ⟨gw,ow,none⟩) p.length cp] w' (InsPost w' (insR f p)))
  (hQ:Hid (∀{wx:World} {v21 v22 v23 v25 v27 v197 v198 v199 v200 v201 v202 v203 v204 v205 v206 v207 v208 v209 v210 v211 v212 v213 v214 v215 v216 v217 v218 v219 v220 v221 v222 v223 v224 v225 v226 v227 v228 v229 v230 v231 v232 v233 v234 v235 v236 v237 v238 v239 v240 v241 v242 v243 v244 v245 v246 v247 v248:Value},((∃b:Nat,findR d p b0=.inr b∧b≤p.length∧v25=.bool false∧v21=.int .i64 b∧Below w.heap.size w wx)∨∃y vc',findR d p b0=.inl y∧v25=.bool true∧Op B bp wx acc (addI d y) vF vp vb vc'∧Touch w wx (fun k=>k=bp∨B≤k))→Q .normal {tmps:=#[u0,u1,u2,u3,u4,u5,u6,u7,u8,u9,u10,u11,.slice (some ⟨gw,ow,none⟩) p.length cp,u13,u14,u15,u16,u17,u18,u19,u20,v21,v22,v23,.slice ab nb cb,v25,.slice (some ⟨fm,0,none⟩) 16 16,v27,u28,u29,u30,u31,u32,u33,u34,u35,u36,u37,u38,u39,u40,u41,u42,u43,u44,u45,u46,u47,u48,u49,u50,u51,u52,u53,u54,u55,u56,u57,u58,u59,u60,u61,u62,u63,u64,u65,u66,u67,u68,u69,u70,u71,u72,u73,u74,u75,u76,u77,u78,u79,u80,u81,u82,u83,u84,u85,u86,u87,u88,u89,u90,u91,u92,u93,u94,u95,u96,u97,u98,u99,u100,u101,u102,u103,u104,u105,u106,u107,u108,u109,u110,u111,u112,u113,u114,u115,u116,u117,u118,u119,u120,u121,u122,u123,u124,u125,u126,u127,u128,u129,u130,u131,u132,u133,u134,u135,u136,u137,u138,u139,u140,u141,u142,u143,u144,u145,u146,u147,u148,u149,u150,u151,u152,u153,u154,u155,u156,u157,u158,u159,u160,u161,u162,u163,u164,u165,u166,u167,u168,u169,u170,u171,u172,u173,u174,u175,u176,u177,u178,u179,u180,u181,u182,u183,u184,u185,u186,u187,u188,u189,u190,u191,u192,u193,u194,u195,u196,v197,v198,v199,v200,v201,v202,v203,v204,v205,v206,v207,v208,v209,v210,v211,v212,v213,v214,v215,v216,v217,v218,v219,v220,v221,v222,v223,v224,v225,v226,v227,v228,v229,v230,v231,v232,v233,v234,v235,v236,v237,v238,v239,v240,v241,v242,v243,v244,v245,v246,v247,v248,u249,u250,u251,u252,u253,u254,u255,u256,u257,u258,u259,u260,u261,u262,u263,u264,u265,u266,u267,u268,u269,u270,u271,u272],defers:=[]} wx)):
  c.wp Tryd.prog Q {tmps:=#[u0,u1,u2,u3,u4,u5,u6,u7,u8,u9,u10,u11,.slice (some ⟨gw,ow,none⟩) p.length cp,u13,u14,u15,u16,u17,u18,u19,u20,.int .i64 b0,u22,u23,.slice ab nb cb,.bool false,.slice (some ⟨fm,0,none⟩) 16 16,.int .i64 0,u28,u29,u30,u31,u32,u33,u34,u35,u36,u37,u38,u39,u40,u41,u42,u43,u44,u45,u46,u47,u48,u49,u50,u51,u52,u53,u54,u55,u56,u57,u58,u59,u60,u61,u62,u63,u64,u65,u66,u67,u68,u69,u70,u71,u72,u73,u74,u75,u76,u77,u78,u79,u80,u81,u82,u83,u84,u85,u86,u87,u88,u89,u90,u91,u92,u93,u94,u95,u96,u97,u98,u99,u100,u101,u102,u103,u104,u105,u106,u107,u108,u109,u110,u111,u112,u113,u114,u115,u116,u117,u118,u119,u120,u121,u122,u123,u124,u125,u126,u127,u128,u129,u130,u131,u132,u133,u134,u135,u136,u137,u138,u139,u140,u141,u142,u143,u144,u145,u146,u147,u148,u149,u150,u151,u152,u153,u154,u155,u156,u157,u158,u159,u160,u161,u162,u163,u164,u165,u166,u167,u168,u169,u170,u171,u172,u173,u174,u175,u176,u177,u178,u179,u180,u181,u182,u183,u184,u185,u186,u187,u188,u189,u190,u191,u192,u193,u194,u195,u196,u197,u198,u199,u200,u201,u202,u203,u204,u205,u206,u207,u208,u209,u210,u211,u212,u213,u214,u215,u216,u217,u218,u219,u220,u221,u222,u223,u224,u225,u226,u227,u228,u229,u230,u231,u232,u233,u234,u235,u236,u237,u238,u239,u240,u241,u242,u243,u244,u245,u246,u247,u248,u249,u250,u251,u252,u253,u254,u255,u256,u257,u258,u259,u260,u261,u262,u263,u264,u265,u266,u267,u268,u269,u270,u271,u272],defers:=[]} w:=by
 conv at hc=>lhs;whnf
 simp only [Option.some.injEq] at hc
 subst hc
 obtain⟨i0,hi0,hz0,hz1,hz2⟩:=info_parts info_insP
 have hlen:=hP.len
 have hoff:=hP.off
 by_cases hd:d.blocks=[]
 ·have hnb0:nb=0:=by rw [hnb,hd];rfl
  have hres:findR d p b0=.inr b0:=if_pos hd
  subst hnb0
  replace hres:=Lib.hid hres
  replace hO:=Lib.hid hO
  replace hd:=Lib.hid hd
  replace hnb:=Lib.hid hnb
  replace hvb:=Lib.hid hvb
  clear hP hF hins
  go_wp2_with fail
  go_loopw [21,25,27] (fun v2 v5 i wr=>v2=.int .i64 b0∧v5=.bool false∧i=.int .i64 0∧wr=w) (fun _ _ i _=>1)
  case atStart=>exact⟨rfl,rfl,rfl,rfl⟩
  case round=>
   obtain⟨rfl,rfl,rfl,rfl⟩:=hrel
   go_wp2_with fail
   exact hQ.out (.inl ⟨b0,hres.out,hb0,rfl,rfl,Below.refl _ _⟩)
 ·obtain⟨gb,capb,m,ac,n,cc,xs,e1,e2,e3,⟨xb,hxb,hnx⟩,hgbB,hgbl,hcell,hcode⟩:=hO.code hd
  rw [hvb] at e1
  simp only [Value.slice.injEq] at e1
  obtain⟨rfl,e1b,rfl⟩:=e1
  subst e1b
  subst e3
  have hnl:n≤2000000:=by rw [hnx];exact hcl xb hxb
  have hml:m+1≤2000000:=by rw [←e2];exact hbl
  have hres:findR d p b0=searchR (formsR.drop 0) p b0:=if_neg hd
  have hBle:B≤w.heap.size:=hO.top
  replace hcode:=Lib.hid hcode
  replace hO:=Lib.hid hO
  have hPw:=Lib.hid (fun (wr:World) (hb:Below w.heap.size w wr)=>hP.below hb)
  have hFw:=Lib.hid (fun (wr:World) (hb:Below w.heap.size w wr) (k:Nat) (f:FormR) (hf:formsR[k]?=some f)=>(by
   obtain⟨ib,h1,h2,h3⟩:=hF.at' k f hf
   exact⟨ib,(hb.cell (p:=⟨fm,k*2,none⟩) hF.lt).trans h1,(hb.cell (p:=⟨fm,k*2+1,none⟩) hF.lt).trans h2,h3.below hb⟩:∃ib,wr.cell? ⟨fm,k*2,none⟩=some (.int .u8 f.op)∧wr.cell? ⟨fm,k*2+1,none⟩=some (.slice (some ⟨ib,0,none⟩) (itemsR f).length (itemsR f).length)∧StAt wr ib (itemsR f)))
  have hFl:=hF.lt
  have hins0:=Lib.hid hins
  have hb00:b0≤p.length:=hb0
  replace hd:=Lib.hid hd
  replace hvb:=Lib.hid hvb
  replace hnb:=Lib.hid hnb
  replace e2:=Lib.hid e2
  replace hnx:=Lib.hid hnx
  replace hres:=Lib.hid hres
  clear hP hF hins hcl hbl hb0
  go_wp2_with fail
  go_loopw [21,25,27] (fun vb v5 i wr=>∃(j b:Nat),vb=.int .i64 b∧v5=.bool false∧i=.int .i64 j∧j≤16∧b≤p.length∧Hid (findR d p b0=searchR (formsR.drop j) p b)∧Hid (Below w.heap.size w wr)) (fun _ _ i _=>16-(intOf i).toNat)
  case atStart=>exact⟨0,b0,rfl,rfl,rfl,by omega,hb00,hres,Lib.hid (Below.refl _ _)⟩
  case round=>
   clear hres
   obtain⟨j,b,rfl,rfl,rfl,hj,hb,hres,hB⟩:=hrel
   have i9:(0:Int)<(m:Int)+1:=by omega
   by_cases hlt:j<16
   ·obtain⟨f,hf⟩:∃f,formsR[j]?=some f:=⟨formsR[j]'hlt,List.getElem?_eq_getElem (show j<formsR.length from hlt)⟩
    obtain⟨ib,z1,z2,hI⟩:=hFw.out wr hB.out j f hf
    have i1:(j:Int)<16:=by omega
    have hfar:=Lib.hid (reffar_any (c:=cp) (cb:=(itemsR f).length) (hPw.out wr hB.out) hI)
    have hstep:=search_step (p:=p) (b:=b) hf
    rw [←hres.out] at hstep
    have hfle:=farS_le (itemsR f) p
    obtain⟨k1,hk1⟩:∃k1,k1=(farS (itemsR f) p).1:=⟨_,rfl⟩
    obtain⟨q1,hq1⟩:∃q1,q1=(farS (itemsR f) p).2:=⟨_,rfl⟩
    have hfull:fullR f p=(q1&&k1==p.length):=by rw [hq1,hk1];rfl
    rw [←hk1,←hq1] at hfar
    rw [←hk1] at hstep hfle
    have hfml:fm<wr.heap.size:=Nat.lt_of_lt_of_le hFl hB.out.size
    obtain⟨nI,hnI⟩:∃nI,nI=(itemsR f).length:=⟨_,rfl⟩
    rw [←hnI] at z2 hfar
    replace hnI:=Lib.hid hnI
    replace hk1:=Lib.hid hk1
    replace hq1:=Lib.hid hq1
    replace hI:=Lib.hid hI
    replace hfull:=Lib.hid hfull
    replace hstep:=Lib.hid hstep
    replace hf:=Lib.hid hf
    replace hres:=Lib.hid hres
    go_upto_region 42 with fail
    go_wp2_with fail
    refine hfar.out.mono ?_
    rintro e w1 ⟨rfl,hb1⟩
    have hB1:=Lib.hid (hB.out.trans (hb1.mono hB.out.size))
    have z1:=(hb1.cell (p:=⟨fm,j*2,none⟩) hfml).trans z1
    have z2:=(hb1.cell (p:=⟨fm,j*2+1,none⟩) hfml).trans z2
    have hI:=Lib.hid (hI.out.below hb1)
    clear hfar hB hb1
    replace hB1:=hB1
    have hfm:=List.mem_of_getElem? hf.out
    replace hfm:=Lib.hid hfm
    cases q1 with
    | false=>
     have hno:fullR f p=false:=hfull.out
     have hst2:findR d p b0=searchR (formsR.drop (j+1)) p (max b k1):=by rw [hstep.out,if_neg (by rw [hno];simp)]
     replace hst2:=Lib.hid hst2
     clear hstep hfull hno z1 z2 hI
     go_wp2_with fail
     exact⟨⟨j+1,max b k1,by congr 1;omega,rfl,by go_num,by omega,by omega,hst2,hB1⟩,by simp only [intOf];omega⟩
    | true=>
     by_cases hke:k1=p.length
     ·have hyes:fullR f p=true:=by rw [hfull.out,hke];simp
      have g1:((k1:Int)==(p.length:Int))=true:=by rw [hke];simp
      have hfound:findR d p b0=.inl (insR f p):=by rw [hstep.out,if_pos hyes]
      have hins:=Lib.hid (fun (w':World) hP hI=>hins0.out f w' ib hfm.out hyes hP hI)
      obtain⟨y,hy⟩:∃y,y=insR f p:=⟨_,rfl⟩
      rw [←hy] at hfound hins
      rw [←hnI.out] at hins
      have hbd:=Lib.hid (hB1.out.trans ((Below.refl w.heap.size w1).drew))
      have hcd:=Lib.hid (fun (w5:World) (hb:Below w.heap.size w w5)=>hcode.out w5 hb)
      have hPd:=Lib.hid (hPw.out w1.drew hbd.out)
      have hId:=Lib.hid (hI.out.below (Below.refl _ _).drew)
      have zc:=(hB1.out.cell (p:=⟨gb,m*2+1,none⟩) hgbl).trans hcell
      have zd:w1.drew.cell? ⟨gb,m*2+1,none⟩=some (.slice ac n cc):=zc
      have d1:w1.drew.cell? ⟨fm,j*2,none⟩=some (.int .u8 f.op):=z1
      have d2:w1.drew.cell? ⟨fm,j*2+1,none⟩=some (.slice (some ⟨ib,0,none⟩) nI nI):=z2
      have m0:((m:Int)+1-1)=(m:Int):=by omega
      have m1:(m:Int)<(m:Int)+1:=by omega
      have mw:IntKind.i64.wrap (m:Int)=(m:Int):=by rw [IntKind.wrap_i64];omega
      replace hfound:=Lib.hid hfound
      replace hy:=Lib.hid hy
      clear hstep hfull hyes hke hk1 hq1
      go_upto_region 44 with fail
      clear z1 z2 zc
      refine wp_region_held_drew (S:=(fun _=>True)) (by kernel_rfl) trivial (fun hHeld=>?_)
      clear hHeld
      refine wpAnyH_take (i:=0) (oi:=(.mk (some 225) (.move (.tmp 24)) 41 "ref.go:202" #[] none)) (v:=?_) rfl (by kernel_rfl) (by kernel_rfl) (by kernel_rfl) (fun _ _ _ h=>hPn h rfl) (Or.inl ⟨by rfl,?_⟩) trivial ?_
      rotate_left
      ·(intro w hSw;(try dsimp only at hSw);go_simp;try with_reducible rfl)
      try simp only [Act.put,List.setIfInBounds_toArray,List.set_cons_zero,List.set_cons_succ]
      refine wpAnyH_take (i:=1) (oi:=(.mk (some 226) (.move (.tmp 24)) 41 "ref.go:202" #[] none)) (v:=?_) rfl (by kernel_rfl) (by kernel_rfl) (by kernel_rfl) (fun _ _ _ h=>hPn h rfl) (Or.inl ⟨by rfl,?_⟩) trivial ?_
      rotate_left
      ·(intro w hSw;(try dsimp only at hSw);go_simp;try with_reducible rfl)
      try simp only [Act.put,List.setIfInBounds_toArray,List.set_cons_zero,List.set_cons_succ]
      refine wpAnyH_take (i:=2) (oi:=(.mk (some 227) (.call (.mk (.builtin Builtin.len) #[(.tmp 226)] #[41])) 3 "ref.go:202" #[.mk 1 .data] none)) (v:=?_) rfl (by kernel_rfl) (by kernel_rfl) (by kernel_rfl) (fun _ _ _ h=>hPn h rfl) (Or.inl ⟨by rfl,?_⟩) trivial ?_
      rotate_left
      ·(intro w hSw;(try dsimp only at hSw);go_simp;try with_reducible rfl)
      try simp only [Act.put,List.setIfInBounds_toArray,List.set_cons_zero,List.set_cons_succ]
      refine wpAnyH_take (i:=3) (oi:=(.mk (some 228) (.binOp BinOp.sub 3 (.tmp 227) (.const (Value.int IntKind.i64 1)) 3) 3 "ref.go:202" #[.mk 2 .data] none)) (v:=?_) rfl (by kernel_rfl) (by kernel_rfl) (by kernel_rfl) (fun _ _ _ h=>hPn h rfl) (Or.inl ⟨by rfl,?_⟩) trivial ?_
      rotate_left
      ·(intro w hSw;(try dsimp only at hSw);go_simp;try with_reducible rfl)
      try simp only [Act.put,List.setIfInBounds_toArray,List.set_cons_zero,List.set_cons_succ]
      refine wpAnyH_take (i:=4) (oi:=(.mk (some 229) (.move (.tmp 24)) 41 "ref.go:202" #[] none)) (v:=?_) rfl (by kernel_rfl) (by kernel_rfl) (by kernel_rfl) (fun _ _ _ h=>hPn h rfl) (Or.inl ⟨by rfl,?_⟩) trivial ?_
      rotate_left
      ·(intro w hSw;(try dsimp only at hSw);go_simp;try with_reducible rfl)
      try simp only [Act.put,List.setIfInBounds_toArray,List.set_cons_zero,List.set_cons_succ]
      refine wpAnyH_take (i:=5) (oi:=(.mk (some 230) (.move (.tmp 24)) 41 "ref.go:202" #[] none)) (v:=?_) rfl (by kernel_rfl) (by kernel_rfl) (by kernel_rfl) (fun _ _ _ h=>hPn h rfl) (Or.inl ⟨by rfl,?_⟩) trivial ?_
      rotate_left
      ·(intro w hSw;(try dsimp only at hSw);go_simp;try with_reducible rfl)
      try simp only [Act.put,List.setIfInBounds_toArray,List.set_cons_zero,List.set_cons_succ]
      refine wpAnyH_take (i:=6) (oi:=(.mk (some 231) (.call (.mk (.builtin Builtin.len) #[(.tmp 230)] #[41])) 3 "ref.go:202" #[.mk 5 .data] none)) (v:=?_) rfl (by kernel_rfl) (by kernel_rfl) (by kernel_rfl) (fun _ _ _ h=>hPn h rfl) (Or.inl ⟨by rfl,?_⟩) trivial ?_
      rotate_left
      ·(intro w hSw;(try dsimp only at hSw);go_simp;try with_reducible rfl)
      try simp only [Act.put,List.setIfInBounds_toArray,List.set_cons_zero,List.set_cons_succ]
      refine wpAnyH_take (i:=7) (oi:=(.mk (some 232) (.binOp BinOp.sub 3 (.tmp 231) (.const (Value.int IntKind.i64 1)) 3) 3 "ref.go:202" #[.mk 6 .data] none)) (v:=?_) rfl (by kernel_rfl) (by kernel_rfl) (by kernel_rfl) (fun _ _ _ h=>hPn h rfl) (Or.inl ⟨by rfl,?_⟩) trivial ?_
      rotate_left
      ·(intro w hSw;(try dsimp only at hSw);go_simp;try with_reducible rfl)
      try simp only [Act.put,List.setIfInBounds_toArray,List.set_cons_zero,List.set_cons_succ]
      refine wpAnyH_take (i:=8) (oi:=(.mk (some 233) (.indexAddr 41 (.tmp 229) (.tmp 232)) 0 "ref.go:202" #[.mk 4 .data,.mk 7 .data] none)) (v:=?_) rfl (by kernel_rfl) (by kernel_rfl) (by kernel_rfl) (fun _ _ _ h=>hPn h rfl) (Or.inl ⟨by rfl,?_⟩) trivial ?_
      rotate_left
      ·(intro w hSw;(try dsimp only at hSw);go_simp;try with_reducible rfl)
      try simp only [Act.put,List.setIfInBounds_toArray,List.set_cons_zero,List.set_cons_succ]
      refine wpAnyH_take (i:=9) (oi:=(.mk (some 234) (.fieldAddr 46 (.tmp 233) 1) 0 "ref.go:202" #[.mk 8 .data] none)) (v:=?_) rfl (by kernel_rfl) (by kernel_rfl) (by kernel_rfl) (fun _ _ _ h=>hPn h rfl) (Or.inl ⟨by rfl,?_⟩) trivial ?_
      rotate_left
      ·(intro w hSw;(try dsimp only at hSw);go_simp;try with_reducible rfl)
      try simp only [Act.put,List.setIfInBounds_toArray,List.set_cons_zero,List.set_cons_succ]
      refine wpAnyH_take (i:=11) (oi:=(.mk (some 236) (.move (.tmp 26)) 69 "ref.go:202" #[] none)) (v:=?_) rfl (by kernel_rfl) (by kernel_rfl) (by kernel_rfl) (fun _ _ _ h=>hPn h rfl) (Or.inl ⟨by rfl,?_⟩) trivial ?_
      rotate_left
      ·(intro w hSw;(try dsimp only at hSw);go_simp;try with_reducible rfl)
      try simp only [Act.put,List.setIfInBounds_toArray,List.set_cons_zero,List.set_cons_succ]
      refine wpAnyH_take (i:=12) (oi:=(.mk (some 237) (.move (.tmp 27)) 3 "ref.go:202" #[] none)) (v:=?_) rfl (by kernel_rfl) (by kernel_rfl) (by kernel_rfl) (fun _ _ _ h=>hPn h rfl) (Or.inl ⟨by rfl,?_⟩) trivial ?_
      rotate_left
      ·(intro w hSw;(try dsimp only at hSw);go_simp;try with_reducible rfl)
      try simp only [Act.put,List.setIfInBounds_toArray,List.set_cons_zero,List.set_cons_succ]
      refine wpAnyH_take (i:=13) (oi:=(.mk (some 238) (.indexAddr 69 (.tmp 236) (.tmp 237)) 0 "ref.go:202" #[.mk 11 .data,.mk 12 .data] none)) (v:=?_) rfl (by kernel_rfl) (by kernel_rfl) (by kernel_rfl) (fun _ _ _ h=>hPn h rfl) (Or.inl ⟨by rfl,?_⟩) trivial ?_
      rotate_left
      ·(intro w hSw;(try dsimp only at hSw);go_simp;try with_reducible rfl)
      try simp only [Act.put,List.setIfInBounds_toArray,List.set_cons_zero,List.set_cons_succ]
      refine wpAnyH_take (i:=15) (oi:=(.mk (some 240) (.move (.tmp 12)) 34 "ref.go:202" #[] none)) (v:=?_) rfl (by kernel_rfl) (by kernel_rfl) (by kernel_rfl) (fun _ _ _ h=>hPn h rfl) (Or.inl ⟨by rfl,?_⟩) trivial ?_
      rotate_left
      ·(intro w hSw;(try dsimp only at hSw);go_simp;try with_reducible rfl)
      try simp only [Act.put,List.setIfInBounds_toArray,List.set_cons_zero,List.set_cons_succ]
      refine wpAnyH_ready (rs:=[10,14]) (by kernel_rfl) (by simp) (AllReadyH.cons (o:=(.mk (some 235) (.load 44 (.tmp 234)) 44 "ref.go:202" #[.mk 9 .data] none)) rfl (fun K hK=>?_) (AllReadyH.cons (o:=(.mk (some 239) (.load 72 (.tmp 238)) 72 "ref.go:202" #[.mk 13 .data] none)) rfl (fun K hK=>?_) AllReadyH.nil))
      ·skip
       go_simp
       skip
       refine hK.out _ _ trivial (fun hHeld=>?_)
       clear hK K hHeld
       try simp only [Act.put,List.setIfInBounds_toArray,List.set_cons_zero,List.set_cons_succ]
       refine wpAnyH_ready (rs:=[14]) (by kernel_rfl) (by simp) (AllReadyH.cons (o:=(.mk (some 239) (.load 72 (.tmp 238)) 72 "ref.go:202" #[.mk 13 .data] none)) rfl (fun K hK=>?_) AllReadyH.nil)
       go_simp
       skip
       refine hK.out _ _ trivial (fun hHeld=>?_)
       clear hK K hHeld
       try simp only [Act.put,List.setIfInBounds_toArray,List.set_cons_zero,List.set_cons_succ]
       refine wpAnyH_ready (rs:=[16]) (by kernel_rfl) (by simp) (AllReadyH.cons (o:=(.mk (some 241) (.call (.mk (.value (.func 25)) #[(.tmp 239),(.tmp 240)] #[72,34])) 49 "ref.go:202" #[.mk 14 .data,.mk 15 .data] none)) rfl (fun K hK=>?_) AllReadyH.nil)
       go_simp
       go_at_call 25
       refine (hins.out _ hPd.out hId.out).mono ?_
       rintro e w6 ⟨hb6,va,vl,he6,hrd6⟩
       obtain⟨⟨aa,na,ca,rfl⟩,⟨al,nl,cl,rfl⟩⟩:=ins_forms (hrd6 w6 (Touch.refl _ _))
       have he6:e=.returned (.agg #[.int .u8 y.op,.string y.dst,.string y.a,.string y.b,.int .i64 y.n,.string y.fn,.slice aa na ca,.slice al nl cl]):=he6
       subst he6
       have hB6:=Lib.hid (hbd.out.trans (hb6.mono hbd.out.size))
       obtain⟨ho6,hc6,happ6⟩:=hcd.out w6 hB6.out
       have hap:=Lib.hid happ6
       have hown:=Lib.hid (ownsRow_touch (S:=fun _=>False) ho6 ((Touch.refl w6 _).alloc (.cells #[.int .u8 y.op,.string y.dst,.string y.a,.string y.b,.int .i64 y.n,.string y.fn,.slice aa na ca,.slice al nl cl] 49)) (fun _ _ h=>h))
       have hrd:=Lib.hid hrd6
       have hbs6:B≤w6.heap.size:=Nat.le_trans hBle hB6.out.size
       have hgb6:gb<w6.heap.size:=Nat.lt_of_lt_of_le hgbl hB6.out.size
       have z6:(w6.alloc (.cells #[.int .u8 y.op,.string y.dst,.string y.a,.string y.b,.int .i64 y.n,.string y.fn,.slice aa na ca,.slice al nl cl] 49)).cell? ⟨gb,m*2+1,none⟩=some (.slice ac n cc):=(World.cell?_alloc_past _ _ _ hgb6).trans hc6
       clear ho6 happ6 hb6 hrd6
       go_simp
       refine hK.out _ _ trivial (fun hHeld=>?_)
       clear hK K hHeld
       try simp only [Act.put,List.setIfInBounds_toArray,List.set_cons_zero,List.set_cons_succ]
       refine wpAnyH_ready (rs:=[17]) (by kernel_rfl) (by simp) (AllReadyH.cons (o:=(.mk (some 242) (.buildSlice 44 1 #[(0,(.tmp 241))]) 44 "ref.go:202" #[.mk 16 .data] none)) rfl (fun K hK=>?_) AllReadyH.nil)
       go_simp
       skip
       refine hK.out _ _ trivial (fun hHeld=>?_)
       clear hK K hHeld
       try simp only [Act.put,List.setIfInBounds_toArray,List.set_cons_zero,List.set_cons_succ]
       refine wpAnyH_ready (rs:=[18]) (by kernel_rfl) (by simp) (AllReadyH.cons (o:=(.mk (some 243) (.call (.mk (.builtin Builtin.append) #[(.tmp 235),(.tmp 242)] #[44,44])) 44 "ref.go:202" #[.mk 10 .data,.mk 17 .data,.mk 16 .chain] none)) rfl (fun K hK=>?_) AllReadyH.nil)
       refine step_append_lies _ (by rfl) _ _ _ (by rfl) B 49 i0 _ 8 128 Tryd.underlying44 hi0 hz0 hz1 hz2 rfl (by omega) (.slice ac n cc) n xs (by rfl) hown.out ⟨w6.heap.size,0,none⟩ 1 1 [.int .u8 y.op,.string y.dst,.string y.a,.string y.b,.int .i64 y.n,.string y.fn,.slice aa na ca,.slice al nl cl] (by rfl) (by rfl) (World.news_of_block (cs:=#[.int .u8 y.op,.string y.dst,.string y.a,.string y.b,.int .i64 y.n,.string y.fn,.slice aa na ca,.slice al nl cl]) (t:=49) (fr:=(0,0)) (heap_alloc_new w6 _)) (by simp [Value.oneCell']) (by omega) (by unfold maxLen;omega) (by omega) (by simp;omega) (w6.heap.size+1) (by simp) ?_
       intro gg cap2 w7 hO7 hg7 hat7 hlt7
       obtain⟨he1,he2,he3,he4⟩:=hap.out (.cells #[.int .u8 y.op,.string y.dst,.string y.a,.string y.b,.int .i64 y.n,.string y.fn,.slice aa na ca,.slice al nl cl] 49) w7 gg cap2 y (.slice aa na ca) (.slice al nl cl) hg7 hO7 hat7 (fun w'' t=>hrd.out w'' (t.mono (fun k hk e=>Nat.lt_of_lt_of_le e hbd.out.size)))
       have he:=Lib.hid (And.intro he1 (Touch.then (Touch.of_below hB6.out (fun k=>k=bp∨B≤k)) he2 (fun k _ h=>h)))
       clear hO7 hg7 hat7 hlt7 hown he1 he2 z6
       refine hK.out _ _ trivial (fun hHeld=>?_)
       clear hK K hHeld
       try simp only [Act.put,List.setIfInBounds_toArray,List.set_cons_zero,List.set_cons_succ]
       refine wpAnyH_take (i:=19) (oi:=(.mk (some 244) (.indexAddr 41 (.tmp 225) (.tmp 228)) 0 "ref.go:202" #[.mk 0 .data,.mk 3 .data,.mk 0 .phase,.mk 1 .phase,.mk 2 .phase,.mk 3 .phase,.mk 4 .phase,.mk 5 .phase,.mk 6 .phase,.mk 7 .phase,.mk 8 .phase,.mk 9 .phase,.mk 10 .phase,.mk 11 .phase,.mk 12 .phase,.mk 13 .phase,.mk 14 .phase,.mk 15 .phase,.mk 16 .phase,.mk 17 .phase,.mk 18 .phase] none)) (v:=?_) rfl (by kernel_rfl) (by kernel_rfl) (by kernel_rfl) (fun _ _ _ h=>hPn h rfl) (Or.inl ⟨by rfl,?_⟩) trivial ?_
       rotate_left
       ·(intro w hSw;(try dsimp only at hSw);go_simp;try with_reducible rfl)
       try simp only [Act.put,List.setIfInBounds_toArray,List.set_cons_zero,List.set_cons_succ]
       refine wpAnyH_take (i:=20) (oi:=(.mk (some 245) (.fieldAddr 46 (.tmp 244) 1) 0 "ref.go:202" #[.mk 19 .data,.mk 0 .phase,.mk 1 .phase,.mk 2 .phase,.mk 3 .phase,.mk 4 .phase,.mk 5 .phase,.mk 6 .phase,.mk 7 .phase,.mk 8 .phase,.mk 9 .phase,.mk 10 .phase,.mk 11 .phase,.mk 12 .phase,.mk 13 .phase,.mk 14 .phase,.mk 15 .phase,.mk 16 .phase,.mk 17 .phase,.mk 18 .phase] none)) (v:=?_) rfl (by kernel_rfl) (by kernel_rfl) (by kernel_rfl) (fun _ _ _ h=>hPn h rfl) (Or.inl ⟨by rfl,?_⟩) trivial ?_
       rotate_left
       ·(intro w hSw;(try dsimp only at hSw);go_simp;try with_reducible rfl)
       try simp only [Act.put,List.setIfInBounds_toArray,List.set_cons_zero,List.set_cons_succ]
       refine wpAnyH_ready (rs:=[21]) (by kernel_rfl) (by simp) (AllReadyH.cons (o:=(.mk none (.store 44 (.tmp 245) (.tmp 243)) 0 "ref.go:202" #[.mk 20 .data,.mk 18 .data,.mk 18 .chain,.mk 0 .phase,.mk 1 .phase,.mk 2 .phase,.mk 3 .phase,.mk 4 .phase,.mk 5 .phase,.mk 6 .phase,.mk 7 .phase,.mk 8 .phase,.mk 9 .phase,.mk 10 .phase,.mk 11 .phase,.mk 12 .phase,.mk 13 .phase,.mk 14 .phase,.mk 15 .phase,.mk 16 .phase,.mk 17 .phase,.mk 18 .phase] none)) rfl (fun K hK=>?_) AllReadyH.nil)
       go_simp
       skip
       refine hK.out _ _ trivial (fun hHeld=>?_)
       clear hK K hHeld
       try simp only [Act.put,List.setIfInBounds_toArray,List.set_cons_zero,List.set_cons_succ]
       refine wpAnyH_done (by kernel_rfl) ?_ _
       go_wp2_with fail
       exact hQ.out (.inr ⟨y,.slice (some ⟨gg,0,none⟩) (n+1) cap2,hfound.out,rfl,he.out.1,he.out.2⟩)
      ·skip
       go_simp
       skip
       refine hK.out _ _ trivial (fun hHeld=>?_)
       clear hK K hHeld
       try simp only [Act.put,List.setIfInBounds_toArray,List.set_cons_zero,List.set_cons_succ]
       refine wpAnyH_ready (rs:=[10,16]) (by kernel_rfl) (by simp) (AllReadyH.cons (o:=(.mk (some 235) (.load 44 (.tmp 234)) 44 "ref.go:202" #[.mk 9 .data] none)) rfl (fun K hK=>?_) (AllReadyH.cons (o:=(.mk (some 241) (.call (.mk (.value (.func 25)) #[(.tmp 239),(.tmp 240)] #[72,34])) 49 "ref.go:202" #[.mk 14 .data,.mk 15 .data] none)) rfl (fun K hK=>?_) AllReadyH.nil))
       ·skip
        go_simp
        skip
        refine hK.out _ _ trivial (fun hHeld=>?_)
        clear hK K hHeld
        try simp only [Act.put,List.setIfInBounds_toArray,List.set_cons_zero,List.set_cons_succ]
        refine wpAnyH_ready (rs:=[16]) (by kernel_rfl) (by simp) (AllReadyH.cons (o:=(.mk (some 241) (.call (.mk (.value (.func 25)) #[(.tmp 239),(.tmp 240)] #[72,34])) 49 "ref.go:202" #[.mk 14 .data,.mk 15 .data] none)) rfl (fun K hK=>?_) AllReadyH.nil)
        go_simp
        go_at_call 25
        refine (hins.out _ hPd.out hId.out).mono ?_
        rintro e w6 ⟨hb6,va,vl,he6,hrd6⟩
        obtain⟨⟨aa,na,ca,rfl⟩,⟨al,nl,cl,rfl⟩⟩:=ins_forms (hrd6 w6 (Touch.refl _ _))
        have he6:e=.returned (.agg #[.int .u8 y.op,.string y.dst,.string y.a,.string y.b,.int .i64 y.n,.string y.fn,.slice aa na ca,.slice al nl cl]):=he6
        subst he6
        have hB6:=Lib.hid (hbd.out.trans (hb6.mono hbd.out.size))
        obtain⟨ho6,hc6,happ6⟩:=hcd.out w6 hB6.out
        have hap:=Lib.hid happ6
        have hown:=Lib.hid (ownsRow_touch (S:=fun _=>False) ho6 ((Touch.refl w6 _).alloc (.cells #[.int .u8 y.op,.string y.dst,.string y.a,.string y.b,.int .i64 y.n,.string y.fn,.slice aa na ca,.slice al nl cl] 49)) (fun _ _ h=>h))
        have hrd:=Lib.hid hrd6
        have hbs6:B≤w6.heap.size:=Nat.le_trans hBle hB6.out.size
        have hgb6:gb<w6.heap.size:=Nat.lt_of_lt_of_le hgbl hB6.out.size
        have z6:(w6.alloc (.cells #[.int .u8 y.op,.string y.dst,.string y.a,.string y.b,.int .i64 y.n,.string y.fn,.slice aa na ca,.slice al nl cl] 49)).cell? ⟨gb,m*2+1,none⟩=some (.slice ac n cc):=(World.cell?_alloc_past _ _ _ hgb6).trans hc6
        clear ho6 happ6 hb6 hrd6
        go_simp
        refine hK.out _ _ trivial (fun hHeld=>?_)
        clear hK K hHeld
        try simp only [Act.put,List.setIfInBounds_toArray,List.set_cons_zero,List.set_cons_succ]
        refine wpAnyH_ready (rs:=[17]) (by kernel_rfl) (by simp) (AllReadyH.cons (o:=(.mk (some 242) (.buildSlice 44 1 #[(0,(.tmp 241))]) 44 "ref.go:202" #[.mk 16 .data] none)) rfl (fun K hK=>?_) AllReadyH.nil)
        go_simp
        skip
        refine hK.out _ _ trivial (fun hHeld=>?_)
        clear hK K hHeld
        try simp only [Act.put,List.setIfInBounds_toArray,List.set_cons_zero,List.set_cons_succ]
        refine wpAnyH_ready (rs:=[18]) (by kernel_rfl) (by simp) (AllReadyH.cons (o:=(.mk (some 243) (.call (.mk (.builtin Builtin.append) #[(.tmp 235),(.tmp 242)] #[44,44])) 44 "ref.go:202" #[.mk 10 .data,.mk 17 .data,.mk 16 .chain] none)) rfl (fun K hK=>?_) AllReadyH.nil)
        refine step_append_lies _ (by rfl) _ _ _ (by rfl) B 49 i0 _ 8 128 Tryd.underlying44 hi0 hz0 hz1 hz2 rfl (by omega) (.slice ac n cc) n xs (by rfl) hown.out ⟨w6.heap.size,0,none⟩ 1 1 [.int .u8 y.op,.string y.dst,.string y.a,.string y.b,.int .i64 y.n,.string y.fn,.slice aa na ca,.slice al nl cl] (by rfl) (by rfl) (World.news_of_block (cs:=#[.int .u8 y.op,.string y.dst,.string y.a,.string y.b,.int .i64 y.n,.string y.fn,.slice aa na ca,.slice al nl cl]) (t:=49) (fr:=(0,0)) (heap_alloc_new w6 _)) (by simp [Value.oneCell']) (by omega) (by unfold maxLen;omega) (by omega) (by simp;omega) (w6.heap.size+1) (by simp) ?_
        intro gg cap2 w7 hO7 hg7 hat7 hlt7
        obtain⟨he1,he2,he3,he4⟩:=hap.out (.cells #[.int .u8 y.op,.string y.dst,.string y.a,.string y.b,.int .i64 y.n,.string y.fn,.slice aa na ca,.slice al nl cl] 49) w7 gg cap2 y (.slice aa na ca) (.slice al nl cl) hg7 hO7 hat7 (fun w'' t=>hrd.out w'' (t.mono (fun k hk e=>Nat.lt_of_lt_of_le e hbd.out.size)))
        have he:=Lib.hid (And.intro he1 (Touch.then (Touch.of_below hB6.out (fun k=>k=bp∨B≤k)) he2 (fun k _ h=>h)))
        clear hO7 hg7 hat7 hlt7 hown he1 he2 z6
        refine hK.out _ _ trivial (fun hHeld=>?_)
        clear hK K hHeld
        try simp only [Act.put,List.setIfInBounds_toArray,List.set_cons_zero,List.set_cons_succ]
        refine wpAnyH_take (i:=19) (oi:=(.mk (some 244) (.indexAddr 41 (.tmp 225) (.tmp 228)) 0 "ref.go:202" #[.mk 0 .data,.mk 3 .data,.mk 0 .phase,.mk 1 .phase,.mk 2 .phase,.mk 3 .phase,.mk 4 .phase,.mk 5 .phase,.mk 6 .phase,.mk 7 .phase,.mk 8 .phase,.mk 9 .phase,.mk 10 .phase,.mk 11 .phase,.mk 12 .phase,.mk 13 .phase,.mk 14 .phase,.mk 15 .phase,.mk 16 .phase,.mk 17 .phase,.mk 18 .phase] none)) (v:=?_) rfl (by kernel_rfl) (by kernel_rfl) (by kernel_rfl) (fun _ _ _ h=>hPn h rfl) (Or.inl ⟨by rfl,?_⟩) trivial ?_
        rotate_left
        ·(intro w hSw;(try dsimp only at hSw);go_simp;try with_reducible rfl)
        try simp only [Act.put,List.setIfInBounds_toArray,List.set_cons_zero,List.set_cons_succ]
        refine wpAnyH_take (i:=20) (oi:=(.mk (some 245) (.fieldAddr 46 (.tmp 244) 1) 0 "ref.go:202" #[.mk 19 .data,.mk 0 .phase,.mk 1 .phase,.mk 2 .phase,.mk 3 .phase,.mk 4 .phase,.mk 5 .phase,.mk 6 .phase,.mk 7 .phase,.mk 8 .phase,.mk 9 .phase,.mk 10 .phase,.mk 11 .phase,.mk 12 .phase,.mk 13 .phase,.mk 14 .phase,.mk 15 .phase,.mk 16 .phase,.mk 17 .phase,.mk 18 .phase] none)) (v:=?_) rfl (by kernel_rfl) (by kernel_rfl) (by kernel_rfl) (fun _ _ _ h=>hPn h rfl) (Or.inl ⟨by rfl,?_⟩) trivial ?_
        rotate_left
        ·(intro w hSw;(try dsimp only at hSw);go_simp;try with_reducible rfl)
        try simp only [Act.put,List.setIfInBounds_toArray,List.set_cons_zero,List.set_cons_succ]
        refine wpAnyH_ready (rs:=[21]) (by kernel_rfl) (by simp) (AllReadyH.cons (o:=(.mk none (.store 44 (.tmp 245) (.tmp 243)) 0 "ref.go:202" #[.mk 20 .data,.mk 18 .data,.mk 18 .chain,.mk 0 .phase,.mk 1 .phase,.mk 2 .phase,.mk 3 .phase,.mk 4 .phase,.mk 5 .phase,.mk 6 .phase,.mk 7 .phase,.mk 8 .phase,.mk 9 .phase,.mk 10 .phase,.mk 11 .phase,.mk 12 .phase,.mk 13 .phase,.mk 14 .phase,.mk 15 .phase,.mk 16 .phase,.mk 17 .phase,.mk 18 .phase] none)) rfl (fun K hK=>?_) AllReadyH.nil)
        go_simp
        skip
        refine hK.out _ _ trivial (fun hHeld=>?_)
        clear hK K hHeld
        try simp only [Act.put,List.setIfInBounds_toArray,List.set_cons_zero,List.set_cons_succ]
        refine wpAnyH_done (by kernel_rfl) ?_ _
        go_wp2_with fail
        exact hQ.out (.inr ⟨y,.slice (some ⟨gg,0,none⟩) (n+1) cap2,hfound.out,rfl,he.out.1,he.out.2⟩)
       ·skip
        go_simp
        go_at_call 25
        refine (hins.out _ hPd.out hId.out).mono ?_
        rintro e w6 ⟨hb6,va,vl,he6,hrd6⟩
        obtain⟨⟨aa,na,ca,rfl⟩,⟨al,nl,cl,rfl⟩⟩:=ins_forms (hrd6 w6 (Touch.refl _ _))
        have he6:e=.returned (.agg #[.int .u8 y.op,.string y.dst,.string y.a,.string y.b,.int .i64 y.n,.string y.fn,.slice aa na ca,.slice al nl cl]):=he6
        subst he6
        have hB6:=Lib.hid (hbd.out.trans (hb6.mono hbd.out.size))
        obtain⟨ho6,hc6,happ6⟩:=hcd.out w6 hB6.out
        have hap:=Lib.hid happ6
        have hown:=Lib.hid (ownsRow_touch (S:=fun _=>False) ho6 ((Touch.refl w6 _).alloc (.cells #[.int .u8 y.op,.string y.dst,.string y.a,.string y.b,.int .i64 y.n,.string y.fn,.slice aa na ca,.slice al nl cl] 49)) (fun _ _ h=>h))
        have hrd:=Lib.hid hrd6
        have hbs6:B≤w6.heap.size:=Nat.le_trans hBle hB6.out.size
        have hgb6:gb<w6.heap.size:=Nat.lt_of_lt_of_le hgbl hB6.out.size
        have z6:(w6.alloc (.cells #[.int .u8 y.op,.string y.dst,.string y.a,.string y.b,.int .i64 y.n,.string y.fn,.slice aa na ca,.slice al nl cl] 49)).cell? ⟨gb,m*2+1,none⟩=some (.slice ac n cc):=(World.cell?_alloc_past _ _ _ hgb6).trans hc6
        clear ho6 happ6 hb6 hrd6
        go_simp
        refine hK.out _ _ trivial (fun hHeld=>?_)
        clear hK K hHeld
        try simp only [Act.put,List.setIfInBounds_toArray,List.set_cons_zero,List.set_cons_succ]
        refine wpAnyH_ready (rs:=[10,17]) (by kernel_rfl) (by simp) (AllReadyH.cons (o:=(.mk (some 235) (.load 44 (.tmp 234)) 44 "ref.go:202" #[.mk 9 .data] none)) rfl (fun K hK=>?_) (AllReadyH.cons (o:=(.mk (some 242) (.buildSlice 44 1 #[(0,(.tmp 241))]) 44 "ref.go:202" #[.mk 16 .data] none)) rfl (fun K hK=>?_) AllReadyH.nil))
        ·skip
         go_simp
         skip
         refine hK.out _ _ trivial (fun hHeld=>?_)
         clear hK K hHeld
         try simp only [Act.put,List.setIfInBounds_toArray,List.set_cons_zero,List.set_cons_succ]
         refine wpAnyH_ready (rs:=[17]) (by kernel_rfl) (by simp) (AllReadyH.cons (o:=(.mk (some 242) (.buildSlice 44 1 #[(0,(.tmp 241))]) 44 "ref.go:202" #[.mk 16 .data] none)) rfl (fun K hK=>?_) AllReadyH.nil)
         go_simp
         skip
         refine hK.out _ _ trivial (fun hHeld=>?_)
         clear hK K hHeld
         try simp only [Act.put,List.setIfInBounds_toArray,List.set_cons_zero,List.set_cons_succ]
         refine wpAnyH_ready (rs:=[18]) (by kernel_rfl) (by simp) (AllReadyH.cons (o:=(.mk (some 243) (.call (.mk (.builtin Builtin.append) #[(.tmp 235),(.tmp 242)] #[44,44])) 44 "ref.go:202" #[.mk 10 .data,.mk 17 .data,.mk 16 .chain] none)) rfl (fun K hK=>?_) AllReadyH.nil)
         refine step_append_lies _ (by rfl) _ _ _ (by rfl) B 49 i0 _ 8 128 Tryd.underlying44 hi0 hz0 hz1 hz2 rfl (by omega) (.slice ac n cc) n xs (by rfl) hown.out ⟨w6.heap.size,0,none⟩ 1 1 [.int .u8 y.op,.string y.dst,.string y.a,.string y.b,.int .i64 y.n,.string y.fn,.slice aa na ca,.slice al nl cl] (by rfl) (by rfl) (World.news_of_block (cs:=#[.int .u8 y.op,.string y.dst,.string y.a,.string y.b,.int .i64 y.n,.string y.fn,.slice aa na ca,.slice al nl cl]) (t:=49) (fr:=(0,0)) (heap_alloc_new w6 _)) (by simp [Value.oneCell']) (by omega) (by unfold maxLen;omega) (by omega) (by simp;omega) (w6.heap.size+1) (by simp) ?_
         intro gg cap2 w7 hO7 hg7 hat7 hlt7
         obtain⟨he1,he2,he3,he4⟩:=hap.out (.cells #[.int .u8 y.op,.string y.dst,.string y.a,.string y.b,.int .i64 y.n,.string y.fn,.slice aa na ca,.slice al nl cl] 49) w7 gg cap2 y (.slice aa na ca) (.slice al nl cl) hg7 hO7 hat7 (fun w'' t=>hrd.out w'' (t.mono (fun k hk e=>Nat.lt_of_lt_of_le e hbd.out.size)))
         have he:=Lib.hid (And.intro he1 (Touch.then (Touch.of_below hB6.out (fun k=>k=bp∨B≤k)) he2 (fun k _ h=>h)))
         clear hO7 hg7 hat7 hlt7 hown he1 he2 z6
         refine hK.out _ _ trivial (fun hHeld=>?_)
         clear hK K hHeld
         try simp only [Act.put,List.setIfInBounds_toArray,List.set_cons_zero,List.set_cons_succ]
         refine wpAnyH_take (i:=19) (oi:=(.mk (some 244) (.indexAddr 41 (.tmp 225) (.tmp 228)) 0 "ref.go:202" #[.mk 0 .data,.mk 3 .data,.mk 0 .phase,.mk 1 .phase,.mk 2 .phase,.mk 3 .phase,.mk 4 .phase,.mk 5 .phase,.mk 6 .phase,.mk 7 .phase,.mk 8 .phase,.mk 9 .phase,.mk 10 .phase,.mk 11 .phase,.mk 12 .phase,.mk 13 .phase,.mk 14 .phase,.mk 15 .phase,.mk 16 .phase,.mk 17 .phase,.mk 18 .phase] none)) (v:=?_) rfl (by kernel_rfl) (by kernel_rfl) (by kernel_rfl) (fun _ _ _ h=>hPn h rfl) (Or.inl ⟨by rfl,?_⟩) trivial ?_
         rotate_left
         ·(intro w hSw;(try dsimp only at hSw);go_simp;try with_reducible rfl)
         try simp only [Act.put,List.setIfInBounds_toArray,List.set_cons_zero,List.set_cons_succ]
         refine wpAnyH_take (i:=20) (oi:=(.mk (some 245) (.fieldAddr 46 (.tmp 244) 1) 0 "ref.go:202" #[.mk 19 .data,.mk 0 .phase,.mk 1 .phase,.mk 2 .phase,.mk 3 .phase,.mk 4 .phase,.mk 5 .phase,.mk 6 .phase,.mk 7 .phase,.mk 8 .phase,.mk 9 .phase,.mk 10 .phase,.mk 11 .phase,.mk 12 .phase,.mk 13 .phase,.mk 14 .phase,.mk 15 .phase,.mk 16 .phase,.mk 17 .phase,.mk 18 .phase] none)) (v:=?_) rfl (by kernel_rfl) (by kernel_rfl) (by kernel_rfl) (fun _ _ _ h=>hPn h rfl) (Or.inl ⟨by rfl,?_⟩) trivial ?_
         rotate_left
         ·(intro w hSw;(try dsimp only at hSw);go_simp;try with_reducible rfl)
         try simp only [Act.put,List.setIfInBounds_toArray,List.set_cons_zero,List.set_cons_succ]
         refine wpAnyH_ready (rs:=[21]) (by kernel_rfl) (by simp) (AllReadyH.cons (o:=(.mk none (.store 44 (.tmp 245) (.tmp 243)) 0 "ref.go:202" #[.mk 20 .data,.mk 18 .data,.mk 18 .chain,.mk 0 .phase,.mk 1 .phase,.mk 2 .phase,.mk 3 .phase,.mk 4 .phase,.mk 5 .phase,.mk 6 .phase,.mk 7 .phase,.mk 8 .phase,.mk 9 .phase,.mk 10 .phase,.mk 11 .phase,.mk 12 .phase,.mk 13 .phase,.mk 14 .phase,.mk 15 .phase,.mk 16 .phase,.mk 17 .phase,.mk 18 .phase] none)) rfl (fun K hK=>?_) AllReadyH.nil)
         go_simp
         skip
         refine hK.out _ _ trivial (fun hHeld=>?_)
         clear hK K hHeld
         try simp only [Act.put,List.setIfInBounds_toArray,List.set_cons_zero,List.set_cons_succ]
         refine wpAnyH_done (by kernel_rfl) ?_ _
         go_wp2_with fail
         exact hQ.out (.inr ⟨y,.slice (some ⟨gg,0,none⟩) (n+1) cap2,hfound.out,rfl,he.out.1,he.out.2⟩)
        ·skip
         go_simp
         skip
         refine hK.out _ _ trivial (fun hHeld=>?_)
         clear hK K hHeld
         try simp only [Act.put,List.setIfInBounds_toArray,List.set_cons_zero,List.set_cons_succ]
         refine wpAnyH_ready (rs:=[10]) (by kernel_rfl) (by simp) (AllReadyH.cons (o:=(.mk (some 235) (.load 44 (.tmp 234)) 44 "ref.go:202" #[.mk 9 .data] none)) rfl (fun K hK=>?_) AllReadyH.nil)
         go_simp
         skip
         refine hK.out _ _ trivial (fun hHeld=>?_)
         clear hK K hHeld
         try simp only [Act.put,List.setIfInBounds_toArray,List.set_cons_zero,List.set_cons_succ]
         refine wpAnyH_ready (rs:=[18]) (by kernel_rfl) (by simp) (AllReadyH.cons (o:=(.mk (some 243) (.call (.mk (.builtin Builtin.append) #[(.tmp 235),(.tmp 242)] #[44,44])) 44 "ref.go:202" #[.mk 10 .data,.mk 17 .data,.mk 16 .chain] none)) rfl (fun K hK=>?_) AllReadyH.nil)
         refine step_append_lies _ (by rfl) _ _ _ (by rfl) B 49 i0 _ 8 128 Tryd.underlying44 hi0 hz0 hz1 hz2 rfl (by omega) (.slice ac n cc) n xs (by rfl) hown.out ⟨w6.heap.size,0,none⟩ 1 1 [.int .u8 y.op,.string y.dst,.string y.a,.string y.b,.int .i64 y.n,.string y.fn,.slice aa na ca,.slice al nl cl] (by rfl) (by rfl) (World.news_of_block (cs:=#[.int .u8 y.op,.string y.dst,.string y.a,.string y.b,.int .i64 y.n,.string y.fn,.slice aa na ca,.slice al nl cl]) (t:=49) (fr:=(0,0)) (heap_alloc_new w6 _)) (by simp [Value.oneCell']) (by omega) (by unfold maxLen;omega) (by omega) (by simp;omega) (w6.heap.size+1) (by simp) ?_
         intro gg cap2 w7 hO7 hg7 hat7 hlt7
         obtain⟨he1,he2,he3,he4⟩:=hap.out (.cells #[.int .u8 y.op,.string y.dst,.string y.a,.string y.b,.int .i64 y.n,.string y.fn,.slice aa na ca,.slice al nl cl] 49) w7 gg cap2 y (.slice aa na ca) (.slice al nl cl) hg7 hO7 hat7 (fun w'' t=>hrd.out w'' (t.mono (fun k hk e=>Nat.lt_of_lt_of_le e hbd.out.size)))
         have he:=Lib.hid (And.intro he1 (Touch.then (Touch.of_below hB6.out (fun k=>k=bp∨B≤k)) he2 (fun k _ h=>h)))
         clear hO7 hg7 hat7 hlt7 hown he1 he2 z6
         refine hK.out _ _ trivial (fun hHeld=>?_)
         clear hK K hHeld
         try simp only [Act.put,List.setIfInBounds_toArray,List.set_cons_zero,List.set_cons_succ]
         refine wpAnyH_take (i:=19) (oi:=(.mk (some 244) (.indexAddr 41 (.tmp 225) (.tmp 228)) 0 "ref.go:202" #[.mk 0 .data,.mk 3 .data,.mk 0 .phase,.mk 1 .phase,.mk 2 .phase,.mk 3 .phase,.mk 4 .phase,.mk 5 .phase,.mk 6 .phase,.mk 7 .phase,.mk 8 .phase,.mk 9 .phase,.mk 10 .phase,.mk 11 .phase,.mk 12 .phase,.mk 13 .phase,.mk 14 .phase,.mk 15 .phase,.mk 16 .phase,.mk 17 .phase,.mk 18 .phase] none)) (v:=?_) rfl (by kernel_rfl) (by kernel_rfl) (by kernel_rfl) (fun _ _ _ h=>hPn h rfl) (Or.inl ⟨by rfl,?_⟩) trivial ?_
         rotate_left
         ·(intro w hSw;(try dsimp only at hSw);go_simp;try with_reducible rfl)
         try simp only [Act.put,List.setIfInBounds_toArray,List.set_cons_zero,List.set_cons_succ]
         refine wpAnyH_take (i:=20) (oi:=(.mk (some 245) (.fieldAddr 46 (.tmp 244) 1) 0 "ref.go:202" #[.mk 19 .data,.mk 0 .phase,.mk 1 .phase,.mk 2 .phase,.mk 3 .phase,.mk 4 .phase,.mk 5 .phase,.mk 6 .phase,.mk 7 .phase,.mk 8 .phase,.mk 9 .phase,.mk 10 .phase,.mk 11 .phase,.mk 12 .phase,.mk 13 .phase,.mk 14 .phase,.mk 15 .phase,.mk 16 .phase,.mk 17 .phase,.mk 18 .phase] none)) (v:=?_) rfl (by kernel_rfl) (by kernel_rfl) (by kernel_rfl) (fun _ _ _ h=>hPn h rfl) (Or.inl ⟨by rfl,?_⟩) trivial ?_
         rotate_left
         ·(intro w hSw;(try dsimp only at hSw);go_simp;try with_reducible rfl)
         try simp only [Act.put,List.setIfInBounds_toArray,List.set_cons_zero,List.set_cons_succ]
         refine wpAnyH_ready (rs:=[21]) (by kernel_rfl) (by simp) (AllReadyH.cons (o:=(.mk none (.store 44 (.tmp 245) (.tmp 243)) 0 "ref.go:202" #[.mk 20 .data,.mk 18 .data,.mk 18 .chain,.mk 0 .phase,.mk 1 .phase,.mk 2 .phase,.mk 3 .phase,.mk 4 .phase,.mk 5 .phase,.mk 6 .phase,.mk 7 .phase,.mk 8 .phase,.mk 9 .phase,.mk 10 .phase,.mk 11 .phase,.mk 12 .phase,.mk 13 .phase,.mk 14 .phase,.mk 15 .phase,.mk 16 .phase,.mk 17 .phase,.mk 18 .phase] none)) rfl (fun K hK=>?_) AllReadyH.nil)
         go_simp
         skip
         refine hK.out _ _ trivial (fun hHeld=>?_)
         clear hK K hHeld
         try simp only [Act.put,List.setIfInBounds_toArray,List.set_cons_zero,List.set_cons_succ]
         refine wpAnyH_done (by kernel_rfl) ?_ _
         go_wp2_with fail
         exact hQ.out (.inr ⟨y,.slice (some ⟨gg,0,none⟩) (n+1) cap2,hfound.out,rfl,he.out.1,he.out.2⟩)
     ·have hno:fullR f p=false:=by rw [hfull.out];simp [hke]
      have g1:((k1:Int)==(p.length:Int))=false:=by simp;omega
      have hst2:findR d p b0=searchR (formsR.drop (j+1)) p (max b k1):=by rw [hstep.out,if_neg (by rw [hno];simp)]
      replace hst2:=Lib.hid hst2
      clear hstep hfull hno z1 z2 hI hke
      go_wp2_with fail
      exact⟨⟨j+1,max b k1,by congr 1;omega,rfl,by go_num,by omega,by omega,hst2,hB1⟩,by simp only [intOf];omega⟩
   ·have hje:j=16:=by omega
    subst hje
    have hbr:findR d p b0=.inr b:=hres.out
    replace hbr:=Lib.hid hbr
    clear hres
    go_wp2_with fail
    exact hQ.out (.inl ⟨b,hbr.out,hb,rfl,rfl,hB.out⟩)
end
end Go.Proofs.YtgcanabckogmmaaDoor
