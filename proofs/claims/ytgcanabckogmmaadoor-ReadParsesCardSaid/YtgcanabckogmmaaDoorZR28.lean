/- RfP2, RfM7, RfC6. -/
import Derived.Test.YtgcanabckogmmaaDoorZR27
import Derived.Test.YtgcanabckogmmaaDoorZR26
import Derived.Test.YtgcanabckogmmaaDoorZR20
import Derived.Deep.AppendLies
namespace Go.Proofs.YtgcanabckogmmaaDoor
set_option linter.unusedVariables false
set_option linter.unusedSimpArgs false
section
open Go.RowKit Go.Maps Go.Shelf
attribute [local go_sem] Oper.semAt_some fld0 fld1 fld2
structure PB (w wr:World) (fb:Nat) (nm:ByteArray) (v:Value) (ps:List ByteArray):Prop where
 blk:wr.heap[fb]?=some (.cells #[.string nm,v,.slice none 0 0] 43 (0,0))
 row:wr.ownsRow (fb+1) 9 1 v ps.length (ps.map Value.string)
 touch:Touch w wr (fun k=>k=fb)
theorem PB.app {w wr w2:World}{fb gg cap:Nat}{nm s:ByteArray}{v:Value}{ps:List ByteArray}{o:Obj}(h:PB w wr fb nm v ps)(hfb:w.heap.size=fb+1)(hg:(wr.alloc o).drew.grownBy w2 v.ownBlock)(hO:w2.ownsRow (fb+1) 9 1 (.slice (some ⟨gg,0,none⟩) (ps.length+1) cap) (ps.length+1) (ps.map Value.string++[.string s])):PB w (w2.setCell ⟨fb,1,none⟩ (.slice (some ⟨gg,0,none⟩) (ps.length+1) cap)) fb nm (.slice (some ⟨gg,0,none⟩) (ps.length+1) cap) (ps++[s]):=by
 have hs:=h.touch.size
 have T:Touch wr w2 (fun k=>v.ownBlock=some k):=(((Touch.refl wr _).alloc o).drew).trans (Touch.of_grown hg (fun k e=>e))
 have hne:¬v.ownBlock=some fb:=fun e=>by have:=(h.row.lt fb e).1;omega
 have T4:Touch w2 (w2.setCell ⟨fb,1,none⟩ (.slice (some ⟨gg,0,none⟩) (ps.length+1) cap)) (fun k=>k=fb):=(Touch.refl w2 (fun k=>k=fb)).setCell (a:=⟨fb,1,none⟩) (fun _=>rfl) _
 have b:=(T.block fb (by omega) hne).trans h.blk
 refine⟨blk_set (i:=1) _ b,?_,(h.touch.then (T.mono (S':=fun k=>fb+1≤k) (fun k _ e=>(h.row.lt k e).1)) (fun k hk e=>by omega)).then T4 (fun k _ e=>e)⟩
 rw [List.length_append,List.length_singleton,List.map_append]
 exact ownsRow_touch hO T4 (fun g hg e=>by simp only [Value.ownBlock,Option.some.injEq] at hg;have:=(hO.lt gg rfl).1;omega)
theorem nms_take {p:List Tok}{j:Nat}{t:Tok}(ht:p[j]?=some t)(h2:2≤j):nmsT ((p.take (j+1)).drop 2)=nmsT ((p.take j).drop 2)++(if t.kind=1 then [nmT t] else []):=by
 have hj:=(List.getElem?_eq_some_iff.1 ht).1
 have e:(p.take (j+1)).drop 2=(p.take j).drop 2++[t]:=by
  rw [List.take_add_one,ht]
  show (p.take j++[t]).drop 2=_
  rw [List.drop_append_of_le_length (by rw [List.length_take];omega)]
 rw [e]
 unfold nmsT
 rw [List.filter_append,List.map_append]
 by_cases h:t.kind=1
 ·simp [h]
 ·simp [h]
theorem nms_low (l:List Tok):(nmsT l).length≤l.length:=by
 unfold nmsT
 rw [List.length_map]
 exact List.length_filter_le _ _
set_option maxRecDepth 20000 in
set_option maxHeartbeats 4000000 in
theorem rfp4 {c:Code}(hc:Func.blockOf Tryd.f10 4=some c){Q:Exit→Act→World→Prop}{w:World}{gw ow cp fb:Nat}{p:List Tok}{nm:ByteArray}{u0 u1 u2 u3 u4 u5 u6 u7 u8 u9 u10 u11 u13 u14 u15 u16 u17 u18 u21 u22 u23 u24 u25 u26 u27 u28 u29 u30 u31 u32 u33 u34 u35 u36 u37 u38 u39 u40 u41 u42 u43 u44 u45 u46 u47 u48 u49 u50 u51 u52 u53 u54 u55 u56 u57 u58 u59 u60 u61 u62 u63 u64 u65 u66 u67 u68 u69 u70 u71 u72 u73 u74 u75 u76 u77 u78 u79 u80 u81 u82 u83 u84 u85 u86 u87 u88 u89 u90 u91 u92 u93 u94 u95 u96 u97 u98 u99 u100 u101 u102 u103 u104 u105 u106 u107 u108 u109 u110 u111 u112 u113 u114 u115 u116 u117 u118 u119 u120 u121 u122 u123 u124 u125 u126 u127 u128 u129 u130 u131 u132 u133 u134 u135 u136 u137 u138 u139 u140 u141 u142 u143 u144 u145 u146 u147 u148 u149 u150 u151 u152 u153 u154 u155 u156 u157 u158 u159 u160 u161 u162 u163 u164 u165 u166 u167 u168 u169 u170 u171 u172 u173 u174 u175 u176 u177 u178 u179 u180 u181 u182 u183 u184 u185 u186 u187 u188 u189 u190 u191 u192 u193 u194 u195 u196 u197 u198 u199 u200 u201 u202 u203 u204 u205 u206 u207 u208 u209 u210 u211 u212 u213 u214 u215 u216 u217 u218 u219 u220 u221 u222 u223 u224 u225 u226 u227 u228 u229 u230 u231 u232 u233 u234 u235 u236 u237 u238 u239 u240 u241 u242 u243 u244 u245 u246 u247 u248 u249 u250 u251 u252 u253 u254 u255 u256 u257 u258 u259 u260 u261 u262 u263 u264 u265 u266 u267 u268 u269 u270 u271 u272:Value}
  (hP:PcAt w gw ow p) (h2:2≤p.length) (hfb:w.heap.size=fb+1) (hgf:gw<fb) (hb:w.heap[fb]?=some (.cells #[.string nm,.slice none 0 0,.slice none 0 0] 43 (0,0)))
  (hQ:Hid (∀{wx:World} {v20 v112 v113 v114 v115 v116 v117 v118 v119 v120 v121 v122 v123 v124 v125 v126 v127 v128 v129 v130 v131 v132 v133:Value},(∃v,PB w wx fb nm v (nmsT (p.drop 2)))→Q .normal {tmps:=#[u0,u1,u2,u3,u4,u5,u6,u7,u8,u9,u10,u11,.slice (some ⟨gw,ow,none⟩) p.length cp,u13,u14,u15,u16,u17,u18,.pointer (some ⟨fb,0,none⟩),v20,u21,u22,u23,u24,u25,u26,u27,u28,u29,u30,u31,u32,u33,u34,u35,u36,u37,u38,u39,u40,u41,u42,u43,u44,u45,u46,u47,u48,u49,u50,u51,u52,u53,u54,u55,u56,u57,u58,u59,u60,u61,u62,u63,u64,u65,u66,u67,u68,u69,u70,u71,u72,u73,u74,u75,u76,u77,u78,u79,u80,u81,u82,u83,u84,u85,u86,u87,u88,u89,u90,u91,u92,u93,u94,u95,u96,u97,u98,u99,u100,u101,u102,u103,u104,u105,u106,u107,u108,u109,u110,u111,v112,v113,v114,v115,v116,v117,v118,v119,v120,v121,v122,v123,v124,v125,v126,v127,v128,v129,v130,v131,v132,v133,u134,u135,u136,u137,u138,u139,u140,u141,u142,u143,u144,u145,u146,u147,u148,u149,u150,u151,u152,u153,u154,u155,u156,u157,u158,u159,u160,u161,u162,u163,u164,u165,u166,u167,u168,u169,u170,u171,u172,u173,u174,u175,u176,u177,u178,u179,u180,u181,u182,u183,u184,u185,u186,u187,u188,u189,u190,u191,u192,u193,u194,u195,u196,u197,u198,u199,u200,u201,u202,u203,u204,u205,u206,u207,u208,u209,u210,u211,u212,u213,u214,u215,u216,u217,u218,u219,u220,u221,u222,u223,u224,u225,u226,u227,u228,u229,u230,u231,u232,u233,u234,u235,u236,u237,u238,u239,u240,u241,u242,u243,u244,u245,u246,u247,u248,u249,u250,u251,u252,u253,u254,u255,u256,u257,u258,u259,u260,u261,u262,u263,u264,u265,u266,u267,u268,u269,u270,u271,u272],defers:=[]} wx)):
  c.wp Tryd.prog Q {tmps:=#[u0,u1,u2,u3,u4,u5,u6,u7,u8,u9,u10,u11,.slice (some ⟨gw,ow,none⟩) p.length cp,u13,u14,u15,u16,u17,u18,.pointer (some ⟨fb,0,none⟩),.int .i64 2,u21,u22,u23,u24,u25,u26,u27,u28,u29,u30,u31,u32,u33,u34,u35,u36,u37,u38,u39,u40,u41,u42,u43,u44,u45,u46,u47,u48,u49,u50,u51,u52,u53,u54,u55,u56,u57,u58,u59,u60,u61,u62,u63,u64,u65,u66,u67,u68,u69,u70,u71,u72,u73,u74,u75,u76,u77,u78,u79,u80,u81,u82,u83,u84,u85,u86,u87,u88,u89,u90,u91,u92,u93,u94,u95,u96,u97,u98,u99,u100,u101,u102,u103,u104,u105,u106,u107,u108,u109,u110,u111,u112,u113,u114,u115,u116,u117,u118,u119,u120,u121,u122,u123,u124,u125,u126,u127,u128,u129,u130,u131,u132,u133,u134,u135,u136,u137,u138,u139,u140,u141,u142,u143,u144,u145,u146,u147,u148,u149,u150,u151,u152,u153,u154,u155,u156,u157,u158,u159,u160,u161,u162,u163,u164,u165,u166,u167,u168,u169,u170,u171,u172,u173,u174,u175,u176,u177,u178,u179,u180,u181,u182,u183,u184,u185,u186,u187,u188,u189,u190,u191,u192,u193,u194,u195,u196,u197,u198,u199,u200,u201,u202,u203,u204,u205,u206,u207,u208,u209,u210,u211,u212,u213,u214,u215,u216,u217,u218,u219,u220,u221,u222,u223,u224,u225,u226,u227,u228,u229,u230,u231,u232,u233,u234,u235,u236,u237,u238,u239,u240,u241,u242,u243,u244,u245,u246,u247,u248,u249,u250,u251,u252,u253,u254,u255,u256,u257,u258,u259,u260,u261,u262,u263,u264,u265,u266,u267,u268,u269,u270,u271,u272],defers:=[]} w:=by
 conv at hc=>lhs;whnf
 simp only [Option.some.injEq] at hc
 subst hc
 obtain⟨i0,hi0,hz0,hz1,hz2⟩:=info_parts infoStrP
 have hPw:=Lib.hid (fun (wr:World) (t:Touch w wr (fun k=>k=fb))=>hP.touch t (by omega))
 have hlen:=hP.len
 replace hb:=Lib.hid hb
 clear hP
 go_wp2_with fail
 go_loopw [20] (fun i wr=>∃(j:Nat) (v:Value),i=.int .i64 j∧2≤j∧j≤p.length∧Hid (PB w wr fb nm v (nmsT ((p.take j).drop 2)))) (fun i _=>p.length-(intOf i).toNat)
 case atStart=>
  refine⟨2,.slice none 0 0,rfl,Nat.le_refl _,h2,Lib.hid ⟨hb.out,?_,Touch.refl _ _⟩⟩
  rw [List.drop_eq_nil_of_le (by rw [List.length_take];omega)]
  exact World.ownsRow_nil _ _ _ _
 case round=>
  clear hb
  obtain⟨j,v,rfl,hj2,hj,hS⟩:=hrel
  have hPr:=hPw.out wr hS.out.touch
  by_cases hlt:j<p.length
  ·obtain⟨t,ht⟩:∃t,p[j]?=some t:=⟨p[j]'hlt,List.getElem?_eq_getElem hlt⟩
   obtain⟨a0,a1,-,-,-⟩:=hPr.toks j t ht
   have hglt:=hPr.lt
   have i1:(j:Int)<(p.length:Int):=by omega
   have hsz:=hS.out.touch.size
   clear hPr
   by_cases h1:t.kind=1
   ·have g1:((t.kind:Int)==1)=true:=by rw [h1];rfl
    obtain⟨av,cv,e⟩:=row_formS hS.out.row
    subst e
    have hnl:=nms_low ((p.take j).drop 2)
    rw [List.length_drop,List.length_take] at hnl
    have hnext:=nms_take ht hj2
    rw [if_pos h1] at hnext
    obtain⟨ps,hps⟩:∃ps,ps=nmsT ((p.take j).drop 2):=⟨_,rfl⟩
    rw [←hps] at hS hnext hnl
    obtain⟨nl,hnlp⟩:∃nl,nl=ps.length:=⟨_,rfl⟩
    rw [←hnlp] at hS hnl
    have hrow:wr.ownsRow (fb+1) 9 1 (.slice av nl cv) nl (ps.map Value.string):=by have:=hS.out.row;rw [←hnlp] at this;exact this
    obtain⟨XS,hXS⟩:∃XS,XS=ps.map Value.string:=⟨_,rfl⟩
    rw [←hXS] at hrow
    have hne:(Value.slice av nl cv).ownBlock≠some fb:=fun e=>by have:=(hrow.lt fb e).1;omega
    have c1:wr.cell? ⟨fb,1,none⟩=some (.slice av nl cv):=by rw [blk_cell hS.out.blk];rfl
    have f1:wr.frozen? ⟨fb,1,none⟩=false:=by simp [World.frozen?,hS.out.blk]
    have lfb:fb<wr.heap.size:=by omega
    have hcz:∀o,(wr.alloc o).drew.cell? ⟨fb,1,none⟩=some (.slice av nl cv):=fun o=>(World.cell?_alloc_past _ _ _ lfb).trans c1
    have hfz:∀o,(wr.alloc o).drew.frozen? ⟨fb,1,none⟩=false:=fun o=>(World.frozen?_alloc_past _ _ _ lfb).trans f1
    have hbase:fb+1≤wr.heap.size:=by omega
    replace hXS:=Lib.hid hXS
    replace hnlp:=Lib.hid hnlp
    replace hps:=Lib.hid hps
    replace hnext:=Lib.hid hnext
    replace ht:=Lib.hid ht
    clear h1 hlt
    go_wp2_with fail
    refine wp_region_noPanic ?_
    go_region_law ((refine step_append_lies _ (by rfl) _ _ _ (by rfl) (fb+1) 9 i0 _ 1 16 Tryd.underlying39 hi0 hz0 hz1 hz2 rfl (by omega) (.slice av nl cv) nl XS (by rfl) ((hrow.alloc _).drew) ⟨wr.heap.size,0,none⟩ 1 1 [.string (nmT t)] (by rfl) (by rfl) (World.news_of_block (cs:=#[.string (nmT t)]) (t:=9) (fr:=(0,0)) (heap_alloc_new wr _)) (by simp [Value.oneCell']) (by omega) (by unfold maxLen;omega) (by omega) (by simp;omega) (wr.heap.size+1) (by simp) ?_;intro gg cap' w1 hown1 hgrow hat hlt1;have c12:w1.cell? ⟨fb,1,none⟩=some (.slice av nl cv):=(hgrow.cell_far ⟨fb,1,none⟩ (by simp;omega) (Ne.symm hne)).trans (hcz _);have f12:w1.frozen? ⟨fb,1,none⟩=false:=(hgrow.frozen_far ⟨fb,1,none⟩ (by simp;omega) (Ne.symm hne)).trans (hfz _)))
    all_goals
     refine NoPanic.normal ?_
     have hnew:Hid (PB w (w1.setCell ⟨fb,1,none⟩ (.slice (some ⟨gg,0,none⟩) (nl+1) cap')) fb nm (.slice (some ⟨gg,0,none⟩) (nl+1) cap') (nmsT ((p.take (j+1)).drop 2))):=by
      have hS2:=hS.out
      have hn2:=hnlp.out
      subst hn2
      have hx2:=hXS.out
      subst hx2
      have:=hS2.app hfb hgrow hown1
      rw [hnext.out]
      exact Lib.hid this
     clear hS hown1 hgrow hat hlt1 hcz hfz c1 f1 hrow
     go_wp2_with fail
     exact⟨⟨j+1,_,by go_num,by omega,by omega,hnew⟩,by simp [intOf];omega⟩
   ·have g1:((t.kind:Int)==1)=false:=by simp;omega
    have hnew:Hid (PB w wr fb nm v (nmsT ((p.take (j+1)).drop 2))):=by
     rw [nms_take ht hj2,if_neg h1,List.append_nil]
     exact hS
    replace ht:=Lib.hid ht
    clear hS h1
    go_wp2_with fail
    exact⟨⟨j+1,_,by go_num,by omega,by omega,hnew⟩,by simp [intOf];omega⟩
  ·obtain rfl:j=p.length:=by omega
   rw [List.take_length] at hS
   have i1:decide ((p.length:Int)<(p.length:Int))=false:=by simp
   clear hPr
   go_wp2_with fail
   exact hQ.out ⟨v,hS.out⟩
end
section
section
variable {p q:List Tok} {f:FormR}
theorem numL_keep:∀{l:List Tok},(∀t∈l,t.kind≠2)→∀z,numL l z=z
 | [],_,_=>rfl
 | t::l,h,z=>by
  rw [numL_cons,if_neg (h t (List.mem_cons_self ..))]
  exact numL_keep (fun u hu=>h u (List.mem_cons_of_mem _ hu)) z
theorem take2 {α:Type}(a b:α)(r:List α)(R:Nat):List.take (1+1+R) (a::b::r)=a::b::r.take R:=by rw [show 1+1+R=R+1+1 from by omega];rfl
theorem take4 {α:Type}(a b c d:α)(r:List α)(R:Nat):List.take (3+1+R) (a::b::c::d::r)=a::b::c::d::r.take R:=by rw [show 3+1+R=R+1+1+1+1 from by omega];rfl
theorem rowS_shape:∀(n:Nat) (pairs:Bool) (close:List UInt8) (q:List Tok),(rowS n pairs close q).2=true→(∀t∈q.take (rowS n pairs close q).1,t.kind≠2)∧(pairs=true→(nmsT (q.take (rowS n pairs close q).1)).length%2=0)
 | 0,_,_,_,h=>by cases h
 | n+1,false,close,q,h=>by
  simp only [rowS,Bool.false_and,Bool.false_eq_true,if_false] at h ⊢
  by_cases h0:wordS q 1 []=false
  ·rw [if_pos h0] at h;cases h
  rw [if_neg h0] at h ⊢
  obtain⟨t,r,rfl,hk,-⟩:=word_cons (by simpa using h0)
  rw [d1C] at h ⊢
  by_cases h1:wordS r 3 close=true
  ·rw [if_pos h1]
   obtain⟨x,r',rfl,hk2,-⟩:=word_cons h1
   refine⟨fun u hu=>?_,fun e=>by cases e⟩
   rcases List.mem_cons.1 hu with rfl | hu
   ·omega
   ·obtain rfl:u=x:=by simpa using hu
    omega
  ·rw [if_neg h1] at h ⊢
   by_cases h2:wordS r 3 [44]=false
   ·rw [if_pos h2] at h;cases h
   rw [if_neg h2] at h ⊢
   obtain⟨x,r',rfl,hk2,-⟩:=word_cons (by simpa using h2)
   rw [show List.drop (1+1) (t::x::r')=r' from rfl] at h ⊢
   obtain⟨i1,-⟩:=rowS_shape n false close r' h
   dsimp only
   rw [take2]
   refine⟨fun u hu=>?_,fun e=>by cases e⟩
   rcases List.mem_cons.1 hu with rfl | hu
   ·omega
   rcases List.mem_cons.1 hu with rfl | hu
   ·omega
   exact i1 u hu
 | n+1,true,close,q,h=>by
  simp only [rowS,Bool.true_and,if_true,Bool.not_eq_true'] at h ⊢
  by_cases h0:wordS q 1 []=false
  ·rw [if_pos h0] at h;cases h
  rw [if_neg h0] at h ⊢
  obtain⟨t,r,rfl,hk,-⟩:=word_cons (by simpa using h0)
  rw [d1C] at h ⊢
  by_cases h4:wordS r 3 [58]=false
  ·rw [if_pos h4] at h;cases h
  rw [if_neg h4] at h ⊢
  obtain⟨c,r1,rfl,hkc,-⟩:=word_cons (by simpa using h4)
  rw [d2C] at h ⊢
  by_cases h5:wordS r1 1 []=false
  ·rw [if_pos h5] at h;cases h
  rw [if_neg h5] at h ⊢
  obtain⟨s,r2,rfl,hks,-⟩:=word_cons (by simpa using h5)
  rw [d3C] at h ⊢
  by_cases h1:wordS r2 3 close=true
  ·rw [if_pos h1]
   obtain⟨x,r',rfl,hk2,-⟩:=word_cons h1
   refine⟨fun u hu=>?_,fun _=>?_⟩
   ·have:u=t∨u=c∨u=s∨u=x:=by simpa using hu
    rcases this with rfl | rfl | rfl | rfl<;>omega
   ·show (nmsT [t,c,s,x]).length%2=0
    rw [nms_name hk,nms_skip (by omega),nms_name hks,nms_skip (by omega),nms_nil]
    simp
  ·rw [if_neg h1] at h ⊢
   by_cases h2:wordS r2 3 [44]=false
   ·rw [if_pos h2] at h;cases h
   rw [if_neg h2] at h ⊢
   obtain⟨x,r',rfl,hk2,-⟩:=word_cons (by simpa using h2)
   rw [show List.drop (3+1) (t::c::s::x::r')=r' from rfl] at h ⊢
   obtain⟨i1,i2⟩:=rowS_shape n true close r' h
   dsimp only
   rw [take4]
   refine⟨fun u hu=>?_,fun e=>?_⟩
   ·rcases List.mem_cons.1 hu with rfl | hu
    ·omega
    rcases List.mem_cons.1 hu with rfl | hu
    ·omega
    rcases List.mem_cons.1 hu with rfl | hu
    ·omega
    rcases List.mem_cons.1 hu with rfl | hu
    ·omega
    exact i1 u hu
   ·rw [nms_name hk,nms_skip (by omega),nms_name hks,nms_skip (by omega)]
    have:=i2 rfl
    simp only [List.length_cons]
    omega
theorem rowF_shape (pairs:Bool)(close:List UInt8)(q:List Tok)(h:(rowF pairs close q).2=true):(∀t∈q.take (rowF pairs close q).1,t.kind≠2)∧(pairs=true→(nmsT (q.take (rowF pairs close q).1)).length%2=0):=by
 unfold rowF at h ⊢
 by_cases h0:(!pairs&&wordS q 3 close)=true
 ·rw [if_pos h0]
  simp only [Bool.and_eq_true] at h0
  obtain⟨t,r,rfl,hk,-⟩:=word_cons h0.2
  refine⟨fun u hu=>?_,fun e=>by rw [e] at h0;simp at h0⟩
  obtain rfl:u=t:=by simpa using hu
  omega
 ·rw [if_neg h0] at h ⊢
  exact rowS_shape _ _ _ _ h
def Shape (r:Rst)(N:List ByteArray)(z:Prop):Prop:=
 match r with
 | .fields=>N=[]
 | .nothing=>N=[]∧z
 | .fn | .operand | .label=>(∃s,N=[s])∧z
 | .field=>∃s,N=[s]
 | .phi=>N.length%2=0∧z
 | .call | .icall=>(∃s ns,N=s::ns)∧z
 | .store | .branch=>(∃s u,N=[s,u])∧z
 | .result=>(N=[]∨∃s,N=[s])∧z
theorem one_name (h:farS [[78]] q=(q.length,true)):∃t,q=[t]∧t.kind=1:=by
 rw [farS_N] at h
 split at h
 ·rename_i h1
  obtain⟨t,r,rfl,hk,-⟩:=word_cons h1
  have:=congrArg Prod.fst h
  rw [d1C,farS_nil] at this
  simp only [List.length_cons] at this
  obtain rfl:r=[]:=List.eq_nil_of_length_eq_zero (by omega)
  exact⟨t,rfl,hk⟩
 ·cases congrArg Prod.snd h
theorem n_step {r:List (List UInt8)}{L:Nat}(h:farS ([78]::r) q=(q.length,true)):∃t q',q=t::q'∧t.kind=1∧farS r q'=(q'.length,true):=by
 rw [farS_N] at h
 split at h
 ·rename_i h1
  obtain⟨t,r',rfl,hk,-⟩:=word_cons h1
  rw [d1C] at h
  have e1:=congrArg Prod.fst h
  have e2:=congrArg Prod.snd h
  simp only [List.length_cons] at e1
  exact⟨t,r',rfl,hk,Prod.ext (by omega) e2⟩
 ·cases congrArg Prod.snd h
theorem nil_step (h:farS [] q=(q.length,true)):q=[]:=List.eq_nil_of_length_eq_zero (congrArg Prod.fst h).symm
theorem k_step (h:farS [[75]] q=(q.length,true)):∃t,q=[t]∧t.kind=2:=by
 rw [farS_K] at h
 split at h
 ·rename_i h1
  obtain⟨t,r,rfl,hk,-⟩:=word_cons h1
  have:=congrArg Prod.fst h
  rw [d1C,farS_nil] at this
  simp only [List.length_cons] at this
  obtain rfl:r=[]:=List.eq_nil_of_length_eq_zero (by omega)
  exact⟨t,rfl,hk⟩
 ·cases congrArg Prod.snd h
theorem c_step (hw:∀t∈q,Wd1 t){r:List (List UInt8)}(h:farS ([44]::r) q=(q.length,true)):∃t q',q=t::q'∧t.kind=3∧farS r q'=(q'.length,true):=by
 rw [farS_L (by decide),lit_sign hw (c:=44) rfl] at h
 split at h
 ·rename_i h1
  obtain⟨t,r',rfl,hk,-⟩:=word_cons h1
  rw [d1C] at h
  have e1:=congrArg Prod.fst h
  have e2:=congrArg Prod.snd h
  simp only [List.length_cons] at e1
  exact⟨t,r',rfl,hk,Prod.ext (by omega) e2⟩
 ·cases congrArg Prod.snd h
theorem b_step (h:farS [[40]] q=(q.length,true)):∀t∈q,t.kind≠2:=by
 rw [farS_B] at h
 split at h
 ·cases congrArg Prod.snd h
 ·rename_i h1
  obtain⟨t,r,rfl,hk,-⟩:=word_cons (by simpa using h1)
  rw [d1C] at h
  have e1:=congrArg Prod.fst h
  have e2:=congrArg Prod.snd h
  obtain⟨i1,-⟩:=rowF_shape _ _ _ e2
  simp only [List.length_cons] at e1
  rw [List.take_of_length_le (by omega)] at i1
  intro u hu
  rcases List.mem_cons.1 hu with rfl | hu
  ·omega
  ·exact i1 u hu
theorem p_step (h:farS [[91]] q=(q.length,true)):(∀t∈q,t.kind≠2)∧(nmsT q).length%2=0:=by
 rw [farS_P] at h
 split at h
 ·cases congrArg Prod.snd h
 ·rename_i h1
  obtain⟨t,r,rfl,hk,-⟩:=word_cons (by simpa using h1)
  rw [d1C] at h
  have e1:=congrArg Prod.fst h
  have e2:=congrArg Prod.snd h
  obtain⟨i1,i2⟩:=rowF_shape _ _ _ e2
  have i2:=i2 rfl
  simp only [List.length_cons] at e1
  rw [List.take_of_length_le (by omega)] at i1 i2
  rw [nms_skip (by omega)]
  refine⟨fun u hu=>?_,i2⟩
  rcases List.mem_cons.1 hu with rfl | hu
  ·omega
  ·exact i1 u hu
theorem q_step (h:farS [[63]] q=(q.length,true)):q=[]∨∃t,q=[t]∧t.kind=1:=by
 rw [farS_Q] at h
 split at h
 ·rename_i h1
  obtain⟨t,r,rfl,hk,-⟩:=word_cons h1
  have:=congrArg Prod.fst h
  simp only [List.length_cons] at this
  obtain rfl:r=[]:=List.eq_nil_of_length_eq_zero (by omega)
  exact .inr ⟨t,rfl,hk⟩
 ·exact .inl (List.eq_nil_of_length_eq_zero (congrArg Prod.fst h).symm)
theorem nms_one {t:Tok}(h:t.kind=1):nmsT [t]=[nmT t]:=by rw [nms_name h,nms_nil]
theorem num_skip {t:Tok}{l:List Tok}(h:t.kind≠2)(z:Nat):numL (t::l) z=numL l z:=by rw [numL_cons,if_neg h]
theorem rest_shape (hw:∀t∈q,Wd1 t)(r:Rst)(h:farS (restI r) q=(q.length,true)):Shape r (nmsT q) (∀z,numL q z=z):=by
 cases r with
 | fields=>
  obtain⟨t,rfl,hk⟩:=k_step h
  show nmsT [t]=[]
  rw [nms_skip (by omega),nms_nil]
 | nothing=>
  obtain rfl:=nil_step h
  exact⟨rfl,fun _=>rfl⟩
 | field=>
  obtain⟨t,q',rfl,hk,h2⟩:=n_step (L:=0) h
  obtain⟨u,rfl,hk2⟩:=k_step h2
  exact⟨nmT t,by rw [nms_name hk,nms_skip (by omega),nms_nil]⟩
 | phi=>
  obtain⟨h1,h2⟩:=p_step h
  exact⟨h2,numL_keep h1⟩
 | call=>
  obtain⟨t,q',rfl,hk,h2⟩:=n_step (L:=0) h
  exact⟨⟨nmT t,nmsT q',nms_name hk⟩,fun z=>by rw [num_skip (by omega)];exact numL_keep (b_step h2) z⟩
 | icall=>
  obtain⟨t,q',rfl,hk,h2⟩:=n_step (L:=0) h
  exact⟨⟨nmT t,nmsT q',nms_name hk⟩,fun z=>by rw [num_skip (by omega)];exact numL_keep (b_step h2) z⟩
 | store=>
  obtain⟨t,q',rfl,hk,h2⟩:=n_step (L:=0) h
  obtain⟨c,q2,rfl,hk2,h3⟩:=c_step (fun u hu=>hw u (List.mem_cons_of_mem _ hu)) h2
  obtain⟨u,rfl,hk3⟩:=one_name h3
  exact⟨⟨nmT t,nmT u,by rw [nms_name hk,nms_skip (by omega),nms_one hk3]⟩,fun z=>by rw [num_skip (by omega),num_skip (by omega),num_skip (by omega),numL_nil]⟩
 | branch=>
  obtain⟨t,q',rfl,hk,h2⟩:=n_step (L:=0) h
  obtain⟨u,rfl,hk3⟩:=one_name h2
  exact⟨⟨nmT t,nmT u,by rw [nms_name hk,nms_one hk3]⟩,fun z=>by rw [num_skip (by omega),num_skip (by omega),numL_nil]⟩
 | result=>
  rcases q_step h with rfl | ⟨t,rfl,hk⟩
  ·exact⟨.inl rfl,fun _=>rfl⟩
  ·exact⟨.inr ⟨nmT t,nms_one hk⟩,fun z=>by rw [num_skip (by omega),numL_nil]⟩
 | fn | operand | label=>
  obtain⟨t,rfl,hk⟩:=one_name h
  exact⟨⟨nmT t,nms_one hk⟩,fun z=>by rw [num_skip (by omega),numL_nil]⟩
theorem full_val (hf:f∈formsR)(hv:f.val=true)(hw:∀t∈p,Wd1 t)(h:fullR f p=true):∃d wd q,nmsT p=d::wd::nmsT q∧numL p 0=numL q 0∧Shape f.rst (nmsT q) (∀z,numL q z=z)∧insR f p=restV f.rst (insOf f.op d) (nmsT q) (numL q 0):=by
 unfold fullR at h
 rw [far_val hf hv hw] at h
 by_cases h0:wordS p 1 []=false
 ·rw [if_pos h0] at h;simp at h
 rw [if_neg h0] at h
 obtain⟨t,r,rfl,hk,-⟩:=word_cons (by simpa using h0)
 rw [d1C] at h
 by_cases h1:wordS r 3 [61]=false
 ·rw [if_pos h1] at h;simp at h
 rw [if_neg h1] at h
 obtain⟨c,r1,rfl,hkc,-⟩:=word_cons (by simpa using h1)
 rw [d2C] at h
 by_cases h2:wordS r1 1 f.word=false
 ·rw [if_pos h2] at h;simp at h
 rw [if_neg h2] at h
 obtain⟨s,q,rfl,hks,-⟩:=word_cons (by simpa using h2)
 rw [d3C] at h
 simp only [Bool.and_eq_true,beq_iff_eq,List.length_cons] at h
 refine⟨nmT t,nmT s,q,by rw [nms_name hk,nms_skip (by omega),nms_name hks],by rw [num_skip (by omega),num_skip (by omega),num_skip (by omega)],rest_shape (fun u hu=>hw u (List.mem_cons_of_mem _ (List.mem_cons_of_mem _ (List.mem_cons_of_mem _ hu)))) _ (Prod.ext (by have:=h.2;dsimp only;omega) h.1),?_⟩
 unfold insR aheadR dstR
 rw [hv]
 rfl
theorem full_bare (hf:f∈formsR)(hv:f.val=false)(hw:∀t∈p,Wd1 t)(h:fullR f p=true):∃wd q,nmsT p=wd::nmsT q∧numL p 0=numL q 0∧Shape f.rst (nmsT q) (∀z,numL q z=z)∧insR f p=restV f.rst (insOf f.op ⟨#[]⟩) (nmsT q) (numL q 0):=by
 unfold fullR at h
 rw [far_bare hf hv hw] at h
 by_cases h0:wordS p 1 f.word=true
 ·rw [if_pos h0] at h
  obtain⟨t,q,rfl,hk,-⟩:=word_cons h0
  rw [d1C] at h
  simp only [Bool.and_eq_true,beq_iff_eq,List.length_cons] at h
  refine⟨nmT t,q,nms_name hk,num_skip (by omega) 0,rest_shape (fun u hu=>hw u (List.mem_cons_of_mem _ hu)) _ (Prod.ext (by have:=h.2;dsimp only;omega) h.1),?_⟩
  unfold insR aheadR dstR
  rw [hv]
  rfl
 ·rw [if_neg h0] at h;simp at h
end
end
section
open Go.RowKit Go.Maps Go.Shelf
attribute [local go_sem] Oper.semAt_some
section
variable {w wr:World} {g o c ib n op k:Nat} {p:List Tok} {v:Value}
structure IL (w:World) (op ib n:Nat) (p:List Tok) (wr:World) (k:Nat) (v:Value):Prop where
 box:wr.heap[w.heap.size]?=some (.cells #[.int .u8 op,.slice (some ⟨ib,0,none⟩) n n] 72 (0,0))
 ans:wr.heap[w.heap.size+1]?=some (.cells #[.int .u8 0,.string ⟨#[]⟩,.string ⟨#[]⟩,.string ⟨#[]⟩,.int .i64 0,.string ⟨#[]⟩,.slice none 0 0,.slice none 0 0] 49 (0,0))
 ins:wr.heap[w.heap.size+2]?=some (.cells #[.int .u8 op,.string ⟨#[]⟩,.string ⟨#[]⟩,.string ⟨#[]⟩,.int .i64 (numL (p.take k) 0),.string ⟨#[]⟩,.slice none 0 0,.slice none 0 0] 49 (0,0))
 own:wr.ownsRow (w.heap.size+3) 9 1 v (nmsT (p.take k)).length ((nmsT (p.take k)).map Value.string)
 below:Below w.heap.size w wr
 top:w.heap.size+3≤wr.heap.size
theorem own_formR {W:World}{base e size:Nat}{v:Value}{n:Nat}{xs:List Value}(h:W.ownsRow base e size v n xs):∃a cap,v=.slice a n cap:=by
 rcases h.2 with ⟨rfl,rfl⟩ | ⟨g,cap,cur,rfl,-⟩
 ·exact⟨none,0,rfl⟩
 ·exact⟨_,_,rfl⟩
theorem take_oneR {t:Tok}(ht:p[k]?=some t):p.take (k+1)=p.take k++[t]:=by
 rw [List.take_add_one,ht]
 rfl
theorem nms_app (a b:List Tok):nmsT (a++b)=nmsT a++nmsT b:=by
 unfold nmsT
 rw [List.filter_append,List.map_append]
theorem nms_le (l:List Tok):(nmsT l).length≤l.length:=by
 unfold nmsT
 rw [List.length_map]
 exact List.length_filter_le _ _
theorem numL_app (a:List Tok)(t:Tok)(z:Nat):numL (a++[t]) z=if t.kind=2 then t.num else numL a z:=by
 unfold numL
 rw [List.foldl_append]
 rfl
theorem IL.skip {t:Tok}(h:IL w op ib n p wr k v)(ht:p[k]?=some t)(h1:t.kind≠1)(h2:t.kind≠2):IL w op ib n p wr (k+1) v:=by
 have e1:nmsT (p.take (k+1))=nmsT (p.take k):=by rw [take_oneR ht,nms_app,nms_skip h1,nms_nil,List.append_nil]
 have e2:numL (p.take (k+1)) 0=numL (p.take k) 0:=by rw [take_oneR ht,numL_app,if_neg h2]
 exact⟨h.box,h.ans,by rw [e2];exact h.ins,by rw [e1];exact h.own,h.below,h.top⟩
theorem IL.num {t:Tok}(h:IL w op ib n p wr k v)(ht:p[k]?=some t)(h2:t.kind=2):IL w op ib n p (wr.setCell ⟨w.heap.size+2,4,none⟩ (.int .i64 t.num)) (k+1) v:=by
 have e1:nmsT (p.take (k+1))=nmsT (p.take k):=by rw [take_oneR ht,nms_app,nms_skip (by omega),nms_nil,List.append_nil]
 have e2:numL (p.take (k+1)) 0=t.num:=by rw [take_oneR ht,numL_app,if_pos h2]
 have T:Touch wr (wr.setCell ⟨w.heap.size+2,4,none⟩ (.int .i64 t.num)) (fun b=>b=w.heap.size+2):=(Touch.refl wr (fun b=>b=w.heap.size+2)).setCell (a:=⟨w.heap.size+2,4,none⟩) (fun _=>rfl) _
 have ht:=h.top
 refine⟨(T.block _ (by omega) (by omega)).trans h.box,(T.block _ (by omega) (by omega)).trans h.ans,?_,by rw [e1];exact ownsRow_touch h.own T (fun b hb e=>by have:=(h.own.lt b hb).1;omega),?_,Nat.le_trans h.top T.size⟩
 ·rw [e2]
  exact (blk_set _ h.ins).trans rfl
 ·exact h.below.setCell (by show w.heap.size≤w.heap.size+2;omega) _
theorem IL.app {t:Tok}{ob:Obj}{w2:World}{v2:Value}(h:IL w op ib n p wr k v)(ht:p[k]?=some t)(h1:t.kind=1)(hg:(wr.alloc ob).grownBy w2 v.ownBlock)(ho:w2.ownsRow (w.heap.size+3) 9 1 v2 ((nmsT (p.take k)).length+1) ((nmsT (p.take k)).map Value.string++[.string (nmT t)])):IL w op ib n p w2 (k+1) v2:=by
 have e1:nmsT (p.take (k+1))=nmsT (p.take k)++[nmT t]:=by rw [take_oneR ht,nms_app,nms_one h1]
 have e2:numL (p.take (k+1)) 0=numL (p.take k) 0:=by rw [take_oneR ht,numL_app,if_neg (by omega)]
 have T:Touch wr w2 (fun b=>v.ownBlock=some b):=((Touch.refl wr _).alloc ob).trans (Touch.of_grown hg (fun k e=>e))
 have htop:=h.top
 have hne:∀j,j<w.heap.size+3→¬v.ownBlock=some j:=fun j hj e=>by have:=(h.own.lt j e).1;omega
 exact⟨(T.block _ (by omega) (hne _ (by omega))).trans h.box,(T.block _ (by omega) (hne _ (by omega))).trans h.ans,by rw [e2];exact (T.block _ (by omega) (hne _ (by omega))).trans h.ins,by rw [e1,List.length_append,List.map_append];exact ho,(h.below.alloc (by omega) ob).grown hg (by simp;omega) (fun b e=>by have:=(h.own.lt b e).1;omega),Nat.le_trans h.top T.size⟩
theorem own_cap {w:World}{base n m size g cap:Nat}{xs:List Value}{t:TypeId}(h:w.ownsRow base t size (.slice (some ⟨g,0,none⟩) m cap) n xs)(hm:m=n):n≤cap:=by
 obtain⟨h0,⟨e,-⟩ | ⟨g',cap',cur,e,h1,h2,h3,h4⟩⟩:=h
 ·cases e
 ·injection e with e1 e2 e3
  subst e3
  exact h3
theorem bodyPost_retE {α:Type}{P:Program}{fn:Func}{R:Ending→World→Prop}{a:Act}{w:World}(F:α→Value)(x:α)(hr:(results fn a.tmps).run P w=.ok (F x) w)(hd:a.defers=[])(hR:R (.returned (F x)) w):bodyPost P fn R .ret a w:=bodyPost_ret hr hd hR
theorem rds_none (w:World):RdS w (.slice none 0 0) []:=.inl ⟨rfl,.inl rfl⟩
theorem insU_of {y:Ins}{va vl:Value}(w:World)(ha:RdS w va y.args)(hl:RdS w vl y.labels)(fa:Fz w va)(fl:Fz w vl):RdInsU w (insV y va vl) y:=
 ⟨⟨va,vl,rfl,ha,hl⟩,fun u hu=>by
  unfold insV at hu
  simp only [List.mem_cons,List.not_mem_nil,or_false] at hu
  rcases hu with rfl | rfl | rfl | rfl | rfl | rfl | rfl | rfl
  iterate 6 (intro g hg;simp [Value.ownBlock] at hg)
  ·exact fa
  ·exact fl⟩
theorem touch_off {wr F w'':World}{H:Nat}(hT:Touch F w'' (fun k=>k<H))(T:Touch wr F (fun k=>k=H+1∨k=H+1+1)):Touch wr w'' (fun k=>k<H+3):=
 (T.mono (S':=fun k=>k<H+3) (fun k _ h=>by omega)).then hT (fun k _ h=>by omega)
theorem rows_off {wr:World}{H gn n cap j off m k:Nat}{N:List ByteArray}(own:wr.ownsRow (H+3) 9 1 (.slice (some ⟨gn,0,none⟩) n cap) n (N.map Value.string))(hn:n=N.length)(hm:m+j=N.length)(ho:m≠0→off=j):∀w'',Touch wr w'' (fun k=>k<H+3)→RdS w'' (.slice (some ⟨gn,off,none⟩) m k) (N.drop j)∧Fz w'' (.slice (some ⟨gn,off,none⟩) m k):=by
 intro w'' hT
 have hg:=own.lt gn rfl
 have own2:=ownsRow_touch own hT (fun b hb e=>by have:=(own.lt b hb).1;omega)
 refine⟨?_,fun g hg=>fz_own own2 g hg⟩
 by_cases h0:m=0
 ·subst h0
  exact .inl ⟨by rw [List.drop_eq_nil_of_le (by omega)];rfl,.inr ⟨_,_,rfl⟩⟩
 ·obtain rfl:=ho h0
  refine .inr ⟨gn,off,k,by rw [List.length_map,List.length_drop];congr 1;omega,Nat.lt_of_lt_of_le hg.2 hT.size,fun i u hu=>?_⟩
  have:=own2.cells (g:=gn) rfl (off+i) u (by
   rw [List.getElem?_map] at hu ⊢
   rw [List.getElem?_drop] at hu
   exact hu)
  rwa [add0] at this
def InsPost (w:World)(y:Ins)(e:Ending)(w':World):Prop:=Below w.heap.size w w'∧∃va vl,e=.returned (.agg (insV y va vl).toArray)∧∀w'',Touch w' w'' (fun k=>k<w.heap.size)→RdInsU w'' (insV y va vl) y
theorem ins_post {w wr F:World}{y y2:Ins}{va vl:Value}(e:y=y2)(hbe:Below w.heap.size w wr)(T:Touch wr F (fun k=>k=w.heap.size+1∨k=w.heap.size+1+1))(hle:w.heap.size≤wr.heap.size)(ha:∀w'',Touch wr w'' (fun k=>k<w.heap.size+3)→RdS w'' va y2.args∧Fz w'' va)(hl:∀w'',Touch wr w'' (fun k=>k<w.heap.size+3)→RdS w'' vl y2.labels∧Fz w'' vl):InsPost w y (.returned (.agg (insV y2 va vl).toArray)) F:=by
 subst e
 exact⟨hbe.trans (T.below hle (fun k hk h=>by omega)),va,vl,rfl,fun w'' hT=>insU_of w'' (ha w'' (touch_off hT T)).1 (hl w'' (touch_off hT T)).1 (ha w'' (touch_off hT T)).2 (hl w'' (touch_off hT T)).2⟩
theorem none_off {wr:World}{H:Nat}:∀w'',Touch wr w'' (fun k=>k<H+3)→RdS w'' (.slice none 0 0) []∧Fz w'' (.slice none 0 0):=fun w'' _=>⟨rds_none w'',fz_nil w''⟩
end
theorem in_facts {w wr:World}{gn op:Nat}{z:Int}(hgn:w.heap.size+3≤gn)(an:wr.heap[w.heap.size+1]?=some (.cells #[.int .u8 0,.string ⟨#[]⟩,.string ⟨#[]⟩,.string ⟨#[]⟩,.int .i64 0,.string ⟨#[]⟩,.slice none 0 0,.slice none 0 0] 49 (0,0)))(ins:wr.heap[w.heap.size+2]?=some (.cells #[.int .u8 op,.string ⟨#[]⟩,.string ⟨#[]⟩,.string ⟨#[]⟩,.int .i64 z,.string ⟨#[]⟩,.slice none 0 0,.slice none 0 0] 49 (0,0))):
  (∀(W:World) (j i:Nat) (u:Value),(W.setCell ⟨w.heap.size+1+1,j,none⟩ u).cell? ⟨w.heap.size,i,none⟩=W.cell? ⟨w.heap.size,i,none⟩)∧
  (∀(W:World) (j i:Nat) (u:Value),(W.setCell ⟨w.heap.size+1+1,j,none⟩ u).cell? ⟨gn,i,none⟩=W.cell? ⟨gn,i,none⟩)∧
  (∀(W:World) (j i:Nat) (u:Value),i≠j→(W.setCell ⟨w.heap.size+1+1,j,none⟩ u).cell? ⟨w.heap.size+1+1,i,none⟩=W.cell? ⟨w.heap.size+1+1,i,none⟩)∧
  (∀(W:World) (j i:Nat) (u:Value),i≠j→(W.setCell ⟨w.heap.size+1,j,none⟩ u).cell? ⟨w.heap.size+1,i,none⟩=W.cell? ⟨w.heap.size+1,i,none⟩)∧
  (∀(W:World) (j i:Nat) (u:Value),(W.setCell ⟨w.heap.size+1+1,j,none⟩ u).cell? ⟨w.heap.size+1,i,none⟩=W.cell? ⟨w.heap.size+1,i,none⟩)∧
  (wr.cell? ⟨w.heap.size+1,0,none⟩=some (.int .u8 0))∧
  (wr.cell? ⟨w.heap.size+1,1,none⟩=some (.string ⟨#[]⟩))∧
  (wr.cell? ⟨w.heap.size+1,2,none⟩=some (.string ⟨#[]⟩))∧
  (wr.cell? ⟨w.heap.size+1,3,none⟩=some (.string ⟨#[]⟩))∧
  (wr.cell? ⟨w.heap.size+1,4,none⟩=some (.int .i64 0))∧
  (wr.cell? ⟨w.heap.size+1,5,none⟩=some (.string ⟨#[]⟩))∧
  (wr.cell? ⟨w.heap.size+1,6,none⟩=some (.slice none 0 0))∧
  (wr.cell? ⟨w.heap.size+1,7,none⟩=some (.slice none 0 0))∧
  (∀j,wr.frozen? ⟨w.heap.size+1+1,j,none⟩=false)∧
  (∀j,wr.frozen? ⟨w.heap.size+1,j,none⟩=false)∧
  (wr.cell? ⟨w.heap.size+1+1,0,none⟩=some (.int .u8 op))∧
  (wr.cell? ⟨w.heap.size+1+1,1,none⟩=some (.string ⟨#[]⟩))∧
  (wr.cell? ⟨w.heap.size+1+1,2,none⟩=some (.string ⟨#[]⟩))∧
  (wr.cell? ⟨w.heap.size+1+1,3,none⟩=some (.string ⟨#[]⟩))∧
  (wr.cell? ⟨w.heap.size+1+1,4,none⟩=some (.int .i64 (z)))∧
  (wr.cell? ⟨w.heap.size+1+1,5,none⟩=some (.string ⟨#[]⟩))∧
  (wr.cell? ⟨w.heap.size+1+1,6,none⟩=some (.slice none 0 0))∧
  (wr.cell? ⟨w.heap.size+1+1,7,none⟩=some (.slice none 0 0)):=
 ⟨fun W j i u=>World.cell?_setCell_other _ _ _ _ (fun e=>by simp only [Addr.mk.injEq] at e;omega),
  fun W j i u=>World.cell?_setCell_other _ _ _ _ (fun e=>by simp only [Addr.mk.injEq] at e;omega),
  fun W j i u hij=>World.cell?_setCell_other _ _ _ _ (fun e=>by simp only [Addr.mk.injEq] at e;omega),
  fun W j i u hij=>World.cell?_setCell_other _ _ _ _ (fun e=>by simp only [Addr.mk.injEq] at e;omega),
  fun W j i u=>World.cell?_setCell_other _ _ _ _ (fun e=>by simp only [Addr.mk.injEq] at e;omega),
  (by rw [blk_cell an];rfl),
  (by rw [blk_cell an];rfl),
  (by rw [blk_cell an];rfl),
  (by rw [blk_cell an];rfl),
  (by rw [blk_cell an];rfl),
  (by rw [blk_cell an];rfl),
  (by rw [blk_cell an];rfl),
  (by rw [blk_cell an];rfl),
  fun j=>frozB ins j,
  fun j=>frozB an j,
  (by rw [blk_cell ins];rfl),
  (by rw [blk_cell ins];rfl),
  (by rw [blk_cell ins];rfl),
  (by rw [blk_cell ins];rfl),
  (by rw [blk_cell ins];rfl),
  (by rw [blk_cell ins];rfl),
  (by rw [blk_cell ins];rfl),
  (by rw [blk_cell ins];rfl)⟩
end
end Go.Proofs.YtgcanabckogmmaaDoor
