/- RfP4, RfQ0, RfQ1. -/
import Derived.Test.YtgcanabckogmmaaDoorZR29
import Derived.Test.YtgcanabckogmmaaDoorZR34
import Derived.Deep.AppendLies
namespace Go.Proofs.YtgcanabckogmmaaDoor
set_option linter.unusedVariables false
set_option linter.unusedSimpArgs false
section
open Go.RowKit Go.Maps Go.Shelf
attribute [local go_sem] Oper.semAt_some fld0 fld1 fld2
def ErrAt (w:World)(e0 e1:Nat)(v4:Value)(f:Flt):Prop:=w.cell? ⟨e0,0,none⟩=some (.slice none 0 0)∧w.cell? ⟨e1,0,none⟩=some (.int .i64 f.1)∧w.cell? ⟨e1,1,none⟩=some (.int .i64 f.2.1)∧v4=.int .i64 f.2.2
theorem err_at {w5:World}{e0 e1:Nat}{x0 x1 x2:Value}{t0 t1:TypeId}(h01:e0≠e1)(b0:w5.heap[e0]?=some (.cells #[x0] t0 (0,0)))(b1:w5.heap[e1]?=some (.cells #[x1,x2] t1 (0,0)))(u:Tok)(r:List Tok):ErrAt (((w5.setCell ⟨e0,0,none⟩ (.slice none 0 0)).setCell ⟨e1,0,none⟩ (.int .i64 u.line)).setCell ⟨e1,1,none⟩ (.int .i64 u.col)) e0 e1 (.int .i64 (if u.kind=4 then 41 else 40)) (fltL (u::r)):=by
 have c0:=blk_set (i:=0) (.slice none 0 0) b0
 have c1:=(Below.heap_setCell w5 ⟨e0,0,none⟩ (.slice none 0 0) e1 (fun e=>h01 e.symm)).trans b1
 have d1:=blk_set (i:=0) (.int .i64 u.line) c1
 have d0:=(Below.heap_setCell (w5.setCell ⟨e0,0,none⟩ (.slice none 0 0)) ⟨e1,0,none⟩ (.int .i64 u.line) e0 h01).trans c0
 have f1:=blk_set (i:=1) (.int .i64 u.col) d1
 have f0:=(Below.heap_setCell ((w5.setCell ⟨e0,0,none⟩ (.slice none 0 0)).setCell ⟨e1,0,none⟩ (.int .i64 u.line)) ⟨e1,1,none⟩ (.int .i64 u.col) e0 h01).trans d0
 refine⟨by rw [blk_cell f0];rfl,by rw [blk_cell f1];rfl,by rw [blk_cell f1];rfl,?_⟩
 unfold fltL
 by_cases h:u.kind=4<;>simp [h]
theorem err_touch {w5:World}{e0 e1:Nat}{x0 x1 x2:Value}:Touch w5 (((w5.setCell ⟨e0,0,none⟩ x0).setCell ⟨e1,0,none⟩ x1).setCell ⟨e1,1,none⟩ x2) (fun k=>k=e0∨k=e1):=
 (((Touch.refl w5 _).setCell (a:=⟨e0,0,none⟩) (fun _=>.inl rfl) _).setCell (a:=⟨e1,0,none⟩) (fun _=>.inr rfl) _).setCell (a:=⟨e1,1,none⟩) (fun _=>.inr rfl) _
theorem info_funP:(Tryd.prog.info? 43).map (fun i=>(i.zero,i.size,i.bytes))=some (some (.agg #[.string ⟨#[]⟩,.slice none 0 0,.slice none 0 0]),3,64):=by kernel_rfl
theorem info_blkP:(Tryd.prog.info? 46).map (fun i=>(i.zero,i.size,i.bytes))=some (some (.agg #[.string ⟨#[]⟩,.slice none 0 0]),2,40):=by kernel_rfl
theorem drop_at {T:List Tok}{i:Nat}{u:Tok}(h:T[i]?=some u):T.drop i=u::T.drop (i+1):=by
 obtain⟨h1,h2⟩:=List.getElem?_eq_some_iff.1 h
 rw [List.drop_eq_getElem_cons h1,h2]
theorem sub_at {T:List Tok}{k:Nat}{p b:List Tok}(h:T=T.take k++p++b)(hk:k≤T.length){j:Nat}{u:Tok}(hj:p[j]?=some u):T[k+j]?=some u:=by
 have hjl:=(List.getElem?_eq_some_iff.1 hj).1
 rw [h,List.append_assoc,List.getElem?_append_right (by rw [List.length_take];omega),List.length_take,Nat.min_eq_left hk,Nat.add_sub_cancel_left,List.getElem?_append_left hjl]
 exact hj
theorem head_two {p:List Tok}(h:fullI headI p=true):2≤p.length:=by
 rcases p with _ | ⟨a,_ | ⟨b,r⟩⟩
 ·exact absurd h (by simp [fullI,headI,farS,litT])
 ·refine absurd h ?_
  by_cases hl:litT [a] [102,117,110,99]=true
  ·simp [fullI,headI,farS,wordS,hl]
  ·simp [fullI,headI,farS,hl]
 ·simp
set_option maxRecDepth 20000 in
set_option maxHeartbeats 4000000 in
theorem rfpA {c:Code}(hc:Func.blockOf Tryd.f10 1=some c){Q:Exit→Act→World→Prop}{w:World}{gw cw k K e0 e1 B bp na:Nat}{T p:List Tok}{t:Tok}{acc:List Fun}{vp vb vc:Value}{vF:Value}{u0 u1 u4 u6 u7 u11 u12 u13 u14 u15 u16 u17 u18 u19 u20 u21 u22 u23 u24 u25 u26 u27 u28 u29 u30 u31 u32 u33 u34 u35 u36 u37 u38 u39 u40 u41 u42 u43 u44 u45 u46 u47 u48 u49 u50 u51 u52 u53 u54 u55 u56 u57 u58 u59 u60 u61 u62 u63 u64 u65 u66 u67 u68 u69 u70 u71 u72 u73 u74 u75 u76 u77 u78 u79 u80 u81 u82 u83 u84 u85 u86 u87 u88 u89 u90 u91 u92 u93 u94 u95 u96 u97 u98 u99 u100 u101 u102 u103 u104 u105 u106 u107 u108 u109 u110 u111 u112 u113 u114 u115 u116 u117 u118 u119 u120 u121 u122 u123 u124 u125 u126 u127 u128 u129 u130 u131 u132 u133 u134 u135 u136 u137 u138 u139 u140 u141 u142 u143 u144 u145 u146 u147 u148 u149 u150 u151 u152 u153 u154 u155 u156 u157 u158 u159 u160 u161 u162 u163 u164 u165 u166 u167 u168 u169 u170 u171 u172 u173 u174 u175 u176 u177 u178 u179 u180 u181 u182 u183 u184 u185 u186 u187 u188 u189 u190 u191 u192 u193 u194 u195 u196 u197 u198 u199 u200 u201 u202 u203 u204 u205 u206 u207 u208 u209 u210 u211 u212 u213 u214 u215 u216 u217 u218 u219 u220 u221 u222 u223 u224 u225 u226 u227 u228 u229 u230 u231 u232 u233 u234 u235 u236 u237 u238 u239 u240 u241 u242 u243 u244 u245 u246 u247 u248 u249 u250 u251 u252 u253 u254 u255 u256 u257 u258 u259 u260 u261 u262 u263 u264 u265 u266 u267 u268 u269 u270 u271 u272:Value}
  (hP:PcAt w gw 0 T) (hcw:T.length≤cw) (ht:T[k]?=some t) (hKp:p.length=K+1) (hKl:k+1+K<T.length) (hat:∀j,j≤K→∃u,T[k+1+j]?=some u∧(j<K→u.kind≠4∧u.line=t.line)∧(j=K→u.kind=4∨(u.kind≠4∧u.line≠t.line))) (hPp:PcAt w gw (k*5) p) (hpt:∀j u,p[j]?=some u→T[k+j]?=some u) (hwd:∀u∈p,Wd1 u) (hb0:w.heap[e0]?=some (.cells #[.slice none 0 0] 24 (0,0))) (hb1:w.heap[e1]?=some (.cells #[.int .i64 0,.int .i64 0] 26 (0,0))) (h01:e0≠e1) (he0:e0<B∧e0≠bp) (he1:e1<B∧e1≠bp) (hgB:gw<B∧gw≠bp) (hO:Cl B bp w acc vF) (hna:acc.length≤2000000) (hRet:Hid (∀{wx:World} {v4 v9 v10 v11 v12 v13 v14 v15 v16 v17 v18 v19 v20 v21 v22 v23 v24 v25 v26 v27 v45 v46 v47 v48 v49 v50 v51 v52 v53 v54 v55 v56 v57 v58 v59 v60 v61 v62 v63 v64 v65 v66 v67 v68 v69 v70 v71 v72 v73 v74 v75 v76 v77 v78 v79 v80 v81 v82 v83 v84 v85 v86 v87 v88 v89 v90 v91 v92 v93 v94 v95 v96 v97 v98 v99 v100 v101 v102 v103 v104 v105 v106 v107 v108 v109 v110 v111 v112 v113 v114 v115 v116 v117 v118 v119 v120 v121 v122 v123 v124 v125 v126 v127 v128 v129 v130 v131 v132 v133 v134 v135 v136 v137 v138 v139 v140 v141 v142 v143 v144 v145 v146 v147 v148 v149 v150 v151 v152 v153 v154 v155 v156 v157 v158 v159 v160 v161 v162 v163 v164 v165 v166 v167 v168 v169 v170 v171 v172 v173 v174 v175 v176 v177 v178 v179 v180 v181 v182 v183 v184 v185 v186 v187 v188 v189 v190 v191 v192 v193 v194 v195 v196 v197 v198 v199 v200 v201 v202 v203 v204 v205 v206 v207 v208 v209 v210 v211 v212 v213 v214 v215 v216 v217 v218 v219 v220 v221 v222 v223 v224 v225 v226 v227 v228 v229 v230 v231 v232 v233 v234 v235 v236 v237 v238 v239 v240 v241 v242 v243 v244 v245 v246 v247 v248 v249 v250 v251 v252 v253 v254 v255 v256 v257 v258 v259 v260 v261:Value},(∃b:Nat,fullI headI p=false∧b=(farS headI p).1∧ErrAt wx e0 e1 v4 (fltL (T.drop (k+b)))∧Touch w wx (fun k=>k=bp∨k=e0∨k=e1∨B≤k))→Q .ret {tmps:=#[u0,u1,.pointer (some ⟨e0,0,none⟩),.pointer (some ⟨e1,0,none⟩),v4,.slice (some ⟨gw,0,none⟩) T.length cw,u6,u7,.pointer (some ⟨bp,0,none⟩),v9,v10,v11,v12,v13,v14,v15,v16,v17,v18,v19,v20,v21,v22,v23,v24,v25,v26,v27,u28,u29,u30,u31,u32,u33,u34,u35,u36,u37,u38,u39,u40,u41,u42,u43,u44,v45,v46,v47,v48,v49,v50,v51,v52,v53,v54,v55,v56,v57,v58,v59,v60,v61,v62,v63,v64,v65,v66,v67,v68,v69,v70,v71,v72,v73,v74,v75,v76,v77,v78,v79,v80,v81,v82,v83,v84,v85,v86,v87,v88,v89,v90,v91,v92,v93,v94,v95,v96,v97,v98,v99,v100,v101,v102,v103,v104,v105,v106,v107,v108,v109,v110,v111,v112,v113,v114,v115,v116,v117,v118,v119,v120,v121,v122,v123,v124,v125,v126,v127,v128,v129,v130,v131,v132,v133,v134,v135,v136,v137,v138,v139,v140,v141,v142,v143,v144,v145,v146,v147,v148,v149,v150,v151,v152,v153,v154,v155,v156,v157,v158,v159,v160,v161,v162,v163,v164,v165,v166,v167,v168,v169,v170,v171,v172,v173,v174,v175,v176,v177,v178,v179,v180,v181,v182,v183,v184,v185,v186,v187,v188,v189,v190,v191,v192,v193,v194,v195,v196,v197,v198,v199,v200,v201,v202,v203,v204,v205,v206,v207,v208,v209,v210,v211,v212,v213,v214,v215,v216,v217,v218,v219,v220,v221,v222,v223,v224,v225,v226,v227,v228,v229,v230,v231,v232,v233,v234,v235,v236,v237,v238,v239,v240,v241,v242,v243,v244,v245,v246,v247,v248,v249,v250,v251,v252,v253,v254,v255,v256,v257,v258,v259,v260,v261,u262,u263,u264,u265,u266,u267,u268,u269,u270,u271,u272],defers:=[]} wx))
  (hQ:Hid (∀{wx:World} {v4 v9 v10 v11 v12 v13 v14 v15 v16 v17 v18 v19 v20 v21 v22 v23 v24 v25 v26 v27 v45 v46 v47 v48 v49 v50 v51 v52 v53 v54 v55 v56 v57 v58 v59 v60 v61 v62 v63 v64 v65 v66 v67 v68 v69 v70 v71 v72 v73 v74 v75 v76 v77 v78 v79 v80 v81 v82 v83 v84 v85 v86 v87 v88 v89 v90 v91 v92 v93 v94 v95 v96 v97 v98 v99 v100 v101 v102 v103 v104 v105 v106 v107 v108 v109 v110 v111 v112 v113 v114 v115 v116 v117 v118 v119 v120 v121 v122 v123 v124 v125 v126 v127 v128 v129 v130 v131 v132 v133 v134 v135 v136 v137 v138 v139 v140 v141 v142 v143 v144 v145 v146 v147 v148 v149 v150 v151 v152 v153 v154 v155 v156 v157 v158 v159 v160 v161 v162 v163 v164 v165 v166 v167 v168 v169 v170 v171 v172 v173 v174 v175 v176 v177 v178 v179 v180 v181 v182 v183 v184 v185 v186 v187 v188 v189 v190 v191 v192 v193 v194 v195 v196 v197 v198 v199 v200 v201 v202 v203 v204 v205 v206 v207 v208 v209 v210 v211 v212 v213 v214 v215 v216 v217 v218 v219 v220 v221 v222 v223 v224 v225 v226 v227 v228 v229 v230 v231 v232 v233 v234 v235 v236 v237 v238 v239 v240 v241 v242 v243 v244 v245 v246 v247 v248 v249 v250 v251 v252 v253 v254 v255 v256 v257 v258 v259 v260 v261:Value},(fullI headI p=true∧v9=.bool true∧v10=.int .i64 (k+1+K:Nat)∧∃vF2 vp,Op B bp wx acc ⟨nmT ((p.drop 1).headD ⟨0,[],0,0,0⟩),nmsT (p.drop 2),[]⟩ vF2 vp (.slice none 0 0) (.slice none 0 0)∧Touch w wx (fun k=>k=bp∨B≤k))→Q .normal {tmps:=#[u0,u1,.pointer (some ⟨e0,0,none⟩),.pointer (some ⟨e1,0,none⟩),v4,.slice (some ⟨gw,0,none⟩) T.length cw,u6,u7,.pointer (some ⟨bp,0,none⟩),v9,v10,v11,v12,v13,v14,v15,v16,v17,v18,v19,v20,v21,v22,v23,v24,v25,v26,v27,u28,u29,u30,u31,u32,u33,u34,u35,u36,u37,u38,u39,u40,u41,u42,u43,u44,v45,v46,v47,v48,v49,v50,v51,v52,v53,v54,v55,v56,v57,v58,v59,v60,v61,v62,v63,v64,v65,v66,v67,v68,v69,v70,v71,v72,v73,v74,v75,v76,v77,v78,v79,v80,v81,v82,v83,v84,v85,v86,v87,v88,v89,v90,v91,v92,v93,v94,v95,v96,v97,v98,v99,v100,v101,v102,v103,v104,v105,v106,v107,v108,v109,v110,v111,v112,v113,v114,v115,v116,v117,v118,v119,v120,v121,v122,v123,v124,v125,v126,v127,v128,v129,v130,v131,v132,v133,v134,v135,v136,v137,v138,v139,v140,v141,v142,v143,v144,v145,v146,v147,v148,v149,v150,v151,v152,v153,v154,v155,v156,v157,v158,v159,v160,v161,v162,v163,v164,v165,v166,v167,v168,v169,v170,v171,v172,v173,v174,v175,v176,v177,v178,v179,v180,v181,v182,v183,v184,v185,v186,v187,v188,v189,v190,v191,v192,v193,v194,v195,v196,v197,v198,v199,v200,v201,v202,v203,v204,v205,v206,v207,v208,v209,v210,v211,v212,v213,v214,v215,v216,v217,v218,v219,v220,v221,v222,v223,v224,v225,v226,v227,v228,v229,v230,v231,v232,v233,v234,v235,v236,v237,v238,v239,v240,v241,v242,v243,v244,v245,v246,v247,v248,v249,v250,v251,v252,v253,v254,v255,v256,v257,v258,v259,v260,v261,u262,u263,u264,u265,u266,u267,u268,u269,u270,u271,u272],defers:=[]} wx)):
  c.wp Tryd.prog Q {tmps:=#[u0,u1,.pointer (some ⟨e0,0,none⟩),.pointer (some ⟨e1,0,none⟩),u4,.slice (some ⟨gw,0,none⟩) T.length cw,u6,u7,.pointer (some ⟨bp,0,none⟩),.bool false,.int .i64 k,u11,u12,u13,u14,u15,u16,u17,u18,u19,u20,u21,u22,u23,u24,u25,u26,u27,u28,u29,u30,u31,u32,u33,u34,u35,u36,u37,u38,u39,u40,u41,u42,u43,u44,u45,u46,u47,u48,u49,u50,u51,u52,u53,u54,u55,u56,u57,u58,u59,u60,u61,u62,u63,u64,u65,u66,u67,u68,u69,u70,u71,u72,u73,u74,u75,u76,u77,u78,u79,u80,u81,u82,u83,u84,u85,u86,u87,u88,u89,u90,u91,u92,u93,u94,u95,u96,u97,u98,u99,u100,u101,u102,u103,u104,u105,u106,u107,u108,u109,u110,u111,u112,u113,u114,u115,u116,u117,u118,u119,u120,u121,u122,u123,u124,u125,u126,u127,u128,u129,u130,u131,u132,u133,u134,u135,u136,u137,u138,u139,u140,u141,u142,u143,u144,u145,u146,u147,u148,u149,u150,u151,u152,u153,u154,u155,u156,u157,u158,u159,u160,u161,u162,u163,u164,u165,u166,u167,u168,u169,u170,u171,u172,u173,u174,u175,u176,u177,u178,u179,u180,u181,u182,u183,u184,u185,u186,u187,u188,u189,u190,u191,u192,u193,u194,u195,u196,u197,u198,u199,u200,u201,u202,u203,u204,u205,u206,u207,u208,u209,u210,u211,u212,u213,u214,u215,u216,u217,u218,u219,u220,u221,u222,u223,u224,u225,u226,u227,u228,u229,u230,u231,u232,u233,u234,u235,u236,u237,u238,u239,u240,u241,u242,u243,u244,u245,u246,u247,u248,u249,u250,u251,u252,u253,u254,u255,u256,u257,u258,u259,u260,u261,u262,u263,u264,u265,u266,u267,u268,u269,u270,u271,u272],defers:=[]} w:=by
 conv at hc=>lhs;whnf
 simp only [Option.some.injEq] at hc
 subst hc
 have hlen:=hP.len
 have hBw:B≤w.heap.size:=hO.top
 have hPw:=Lib.hid (fun (wr:World) (hb:Below w.heap.size w wr)=>hP.below hb)
 have hPpw:=Lib.hid (fun (wr:World) (hb:Below w.heap.size w wr)=>hPp.below hb)
 have hfar:=Lib.hid (fun (wr:World) (hb:Below w.heap.size w wr) (items:List (List UInt8)) (ib n:Nat) (hs:StAt wr ib items) (hn:n=items.length)=>(by
  have h:=reffar_any (c:=cw-k) (cb:=n) (hPp.below hb) hs
  rw [hKp,←hn] at h
  exact h:Calls Tryd.prog 22 #[.slice (some ⟨ib,0,none⟩) n n,.slice (some ⟨gw,k*5,none⟩) (K+1) (cw-k)] wr fun e w'=>e=.returned (.tuple #[.int .i64 ((farS items p).1:Nat),.bool (farS items p).2])∧Below wr.heap.size wr w'))
 have hkeep:=Lib.hid (fun (wr:World) (hb:Below w.heap.size w wr)=>(⟨(Touch.of_below hb (fun _=>False)).block e0 (by omega) (fun h=>h) |>.trans hb0,(Touch.of_below hb (fun _=>False)).block e1 (by omega) (fun h=>h) |>.trans hb1⟩:wr.heap[e0]?=some (.cells #[.slice none 0 0] 24 (0,0))∧wr.heap[e1]?=some (.cells #[.int .i64 0,.int .i64 0] 26 (0,0))))
 have q1:¬cw=k:=by omega
 have q2:¬cw=0:=by omega
 replace hpt:=Lib.hid hpt
 replace hwd:=Lib.hid hwd
 replace hKp:=Lib.hid hKp
 replace hO:=Lib.hid hO
 clear hb0 hb1
 go_upto_block 2 with fail
 refine rfp2 (by kernel_rfl) (w:=w) (gw:=gw) (cw:=cw) (k:=k) (K:=K) (T:=T) (t:=t) hP ht hKl hat (Lib.hid ?_)
 intros
 rename_i hx
 obtain⟨rfl,hb1⟩:=hx
 rename World=>w1
 have hB1:=Lib.hid hb1
 obtain⟨aF,cF,hvF,cbp,fbp⟩:=(hO.out.keep (Touch.of_below hB1.out (fun _=>False)) (fun _ _ e=>e.elim)).form
 replace hat:=Lib.hid hat
 replace ht:=Lib.hid ht
 clear hP hPp hb1
 have i1:k≤k+1+K:=by omega
 have i2:k+1+K≤T.length:=by omega
 have i3:k+1+K≤cw:=by omega
 have i4:k+1+K-k=K+1:=by omega
 go_upto_region 13 with fail
 rw [i4]
 obtain⟨w3,hw3⟩:∃w3,w3=((w1.alloc (.cells #[.string ⟨#[102,117,110,99]⟩,.string ⟨#[78]⟩,.string ⟨#[40]⟩,.string ⟨#[123]⟩] 9)).alloc (.cells #[.string ⟨#[78]⟩,.string ⟨#[58]⟩] 9)).alloc (.cells #[.string ⟨#[125]⟩] 9):=⟨_,rfl⟩
 have s1:StAt w3 w1.heap.size headI:=stAt_of (t:=9) (by rw [hw3];exact at_oldP (at_oldP (at_newP rfl))) (by decide)
 have s2:StAt w3 (w1.heap.size+1) [[78],[58]]:=stAt_of (t:=9) (by rw [hw3];exact at_oldP (at_newP (by simp))) (by decide)
 have s3:StAt w3 (w1.heap.size+1+1) [[125]]:=stAt_of (t:=9) (by rw [hw3];exact at_newP (by simp)) (by decide)
 have hB3:Hid (Below w.heap.size w w3):=Lib.hid (hB1.out.trans (by
  have h1:=hB1.out.size
  rw [hw3]
  exact (((Below.refl w1.heap.size w1).alloc (Nat.le_refl _) _).alloc (by simp) _).alloc (by simp;omega) _ |>.mono h1))
 replace s1:=Lib.hid s1
 replace s2:=Lib.hid s2
 replace s3:=Lib.hid s3
 replace hw3:=Lib.hid hw3
 go_upto_region 14 with fail
 rw [←hw3.out]
 clear cbp fbp hw3
 obtain⟨i0,hi0,hz0,hz1,hz2⟩:=info_parts info_funP
 obtain⟨k1,hk1⟩:∃k1,k1=(farS headI p).1:=⟨_,rfl⟩
 obtain⟨qq,hqq⟩:∃qq,qq=(farS headI p).2:=⟨_,rfl⟩
 have hfull:fullI headI p=(qq&&k1==K+1):=by rw [hqq,hk1,←hKp.out];rfl
 have hk1l:k1≤K+1:=by rw [hk1,←hKp.out];exact farS_le _ _
 have hf4:=hfar.out w3 hB3.out headI w1.heap.size 4 s1.out rfl
 rw [←hk1,←hqq] at hf4
 replace hf4:=Lib.hid hf4
 replace hfull:=Lib.hid hfull
 replace hqq:=Lib.hid hqq
 replace hk1:=Lib.hid hk1
 cases qq with
 | false=>
  have hno:Hid (fullI headI p=false):=Lib.hid hfull.out
  go_wp2_with fail
  refine hf4.out.mono ?_
  rintro e w4 ⟨rfl,hb4⟩
  dsimp only
  have hBC:=Lib.hid (hB3.out.trans (hb4.mono hB3.out.size))
  clear hf4 hb4
  obtain⟨u,hu⟩:∃u,T[k+k1]?=some u:=⟨_,List.getElem?_eq_getElem (by omega)⟩
  have hPn:=hPw.out _ hBC.out
  obtain⟨t0,t1,t2,t3,t4⟩:=hPn.toks (k+k1) u hu
  rw [Nat.zero_add] at t0 t1 t2 t3 t4
  have hgl:=hPn.lt
  obtain⟨x,hx⟩:∃x,x=k+k1:=⟨_,rfl⟩
  rw [←hx] at t0 t1 t2 t3 t4
  have j1:x<T.length:=by omega
  have j5:k+k1=x:=hx.symm
  have j2:(0:Int)≤(k:Int)+(k1:Int):=by omega
  have j3:(k:Int)+(k1:Int)<(T.length:Int):=by omega
  have j4:((k:Int)+(k1:Int)).toNat=x:=by omega
  replace hx:=Lib.hid hx
  have jw:IntKind.i64.wrap ((k:Int)+(k1:Int))=(k:Int)+(k1:Int):=by rw [IntKind.wrap_i64];omega
  obtain⟨er,her⟩:∃er:Int,er=if u.kind=4 then 41 else 40:=⟨_,rfl⟩
  have hwr:=Lib.hid (fun (wx:World)=>refwrong_any (w:=wx) u)
  unfold tokV at hwr
  rw [←her] at hwr
  replace her:=Lib.hid her
  replace hu:=Lib.hid hu
  clear hPn
  go_wp2_with fail
  refine (hwr.out _).mono ?_
  rintro e w9 ⟨rfl,hb9⟩
  dsimp only
  have hB9:=Lib.hid (hBC.out.trans (hb9.mono hBC.out.size))
  obtain⟨bb0,bb1⟩:=hkeep.out w9 hB9.out
  have x0:w9.cell? ⟨e0,0,none⟩=some (.slice none 0 0):=by rw [blk_cell bb0];rfl
  have x1:w9.cell? ⟨e1,0,none⟩=some (.int .i64 0):=by rw [blk_cell bb1];rfl
  have x2:w9.cell? ⟨e1,1,none⟩=some (.int .i64 0):=by rw [blk_cell bb1];rfl
  have y0:w9.frozen? ⟨e0,0,none⟩=false:=frozB bb0 0
  have y1:w9.frozen? ⟨e1,0,none⟩=false:=frozB bb1 0
  have y2:w9.frozen? ⟨e1,1,none⟩=false:=frozB bb1 1
  have hE:=Lib.hid (err_at h01 bb0 bb1 u (T.drop (k+k1+1)))
  rw [←her.out] at hE
  replace bb0:=Lib.hid bb0
  replace bb1:=Lib.hid bb1
  clear hb9 t0 t1 t2 t3 t4
  go_wp2_with fail
  refine hRet.out ⟨k1,hno.out,hk1.out,by rw [drop_at hu.out];exact hE.out,(Touch.of_below hB9.out (fun k=>k=bp∨k=e0∨k=e1∨B≤k)).then err_touch (fun k _ e=>.inr (by rcases e with e | e;exact .inl e;exact .inr (.inl e)))⟩
 | true=>
  by_cases hlt:k1<K+1
  ·have hno:Hid (fullI headI p=false):=Lib.hid (by rw [hfull.out];simp;omega)
   have j0:decide ((k1:Int)<(K:Int)+1)=true:=by simp;omega
   have j0b:(k1:Int)<(K:Int)+1:=by omega
   go_wp2_with fail
   refine hf4.out.mono ?_
   rintro e w4 ⟨rfl,hb4⟩
   dsimp only
   have hBC:=Lib.hid (hB3.out.trans (hb4.mono hB3.out.size))
   clear hf4 hb4
   obtain⟨u,hu⟩:∃u,T[k+k1]?=some u:=⟨_,List.getElem?_eq_getElem (by omega)⟩
   have hPn:=hPw.out _ hBC.out
   obtain⟨t0,t1,t2,t3,t4⟩:=hPn.toks (k+k1) u hu
   rw [Nat.zero_add] at t0 t1 t2 t3 t4
   have hgl:=hPn.lt
   obtain⟨x,hx⟩:∃x,x=k+k1:=⟨_,rfl⟩
   rw [←hx] at t0 t1 t2 t3 t4
   have j1:x<T.length:=by omega
   have j5:k+k1=x:=hx.symm
   have j2:(0:Int)≤(k:Int)+(k1:Int):=by omega
   have j3:(k:Int)+(k1:Int)<(T.length:Int):=by omega
   have j4:((k:Int)+(k1:Int)).toNat=x:=by omega
   replace hx:=Lib.hid hx
   have jw:IntKind.i64.wrap ((k:Int)+(k1:Int))=(k:Int)+(k1:Int):=by rw [IntKind.wrap_i64];omega
   obtain⟨er,her⟩:∃er:Int,er=if u.kind=4 then 41 else 40:=⟨_,rfl⟩
   have hwr:=Lib.hid (fun (wx:World)=>refwrong_any (w:=wx) u)
   unfold tokV at hwr
   rw [←her] at hwr
   replace her:=Lib.hid her
   replace hu:=Lib.hid hu
   clear hPn
   go_wp2_with fail
   refine (hwr.out _).mono ?_
   rintro e w9 ⟨rfl,hb9⟩
   dsimp only
   have hB9:=Lib.hid (hBC.out.trans (hb9.mono hBC.out.size))
   obtain⟨bb0,bb1⟩:=hkeep.out w9 hB9.out
   have x0:w9.cell? ⟨e0,0,none⟩=some (.slice none 0 0):=by rw [blk_cell bb0];rfl
   have x1:w9.cell? ⟨e1,0,none⟩=some (.int .i64 0):=by rw [blk_cell bb1];rfl
   have x2:w9.cell? ⟨e1,1,none⟩=some (.int .i64 0):=by rw [blk_cell bb1];rfl
   have y0:w9.frozen? ⟨e0,0,none⟩=false:=frozB bb0 0
   have y1:w9.frozen? ⟨e1,0,none⟩=false:=frozB bb1 0
   have y2:w9.frozen? ⟨e1,1,none⟩=false:=frozB bb1 1
   have hE:=Lib.hid (err_at h01 bb0 bb1 u (T.drop (k+k1+1)))
   rw [←her.out] at hE
   replace bb0:=Lib.hid bb0
   replace bb1:=Lib.hid bb1
   clear hb9 t0 t1 t2 t3 t4
   go_wp2_with fail
   refine hRet.out ⟨k1,hno.out,hk1.out,by rw [drop_at hu.out];exact hE.out,(Touch.of_below hB9.out (fun k=>k=bp∨k=e0∨k=e1∨B≤k)).then err_touch (fun k _ e=>.inr (by rcases e with e | e;exact .inl e;exact .inr (.inl e)))⟩
  ·have hyes:fullI headI p=true:=by rw [hfull.out];simp;omega
   obtain rfl:k1=K+1:=by omega
   have h2:=head_two hyes
   have hK2:=hKp.out
   have j0:decide (((K+1:Nat):Int)<((K+1:Nat):Int))=false:=by simp
   go_wp2_with fail
   refine hf4.out.mono ?_
   rintro e w4 ⟨rfl,hb4⟩
   dsimp only
   have hBC:=Lib.hid (hB3.out.trans (hb4.mono hB3.out.size))
   clear hf4 hb4
   obtain⟨u1,hu1⟩:∃u,p[1]?=some u:=⟨_,List.getElem?_eq_getElem (by omega)⟩
   have hP4:=hPpw.out w4 hBC.out
   obtain⟨-,n1,-,-,-⟩:=hP4.toks 1 u1 hu1
   rw [Nat.one_mul] at n1
   have hnm:(p.drop 1).headD ⟨0,[],0,0,0⟩=u1:=by rw [drop_at hu1];rfl
   have j4:1<K+1:=by omega
   have j5:(1:Int)<(K:Int)+1:=by omega
   have hgl:=hP4.lt
   have hP5:=Lib.hid (hP4.below ((Below.refl _ _).alloc (Nat.le_refl _) (.cells #[.string (nmT u1),.slice none 0 0,.slice none 0 0] 43)))
   replace hnm:=Lib.hid hnm
   replace hyes:=Lib.hid hyes
   clear hP4 hlt hfull
   go_upto_block 4 with fail
   rw [←hK2]
   refine rfp4 (by kernel_rfl) (w:=w4.alloc (.cells #[.string (nmT u1),.slice none 0 0,.slice none 0 0] 43)) (gw:=gw) (ow:=k*5) (cp:=cw-k) (fb:=w4.heap.size) (p:=p) (nm:=nmT u1) hP5.out h2 (by simp) (by have:=hBC.out.size;omega) (heap_alloc_new _ _) (Lib.hid ?_)
   intros
   rename_i hx
   obtain⟨v,hPB⟩:=hx
   rename World=>w6
   have hB6:Below w.heap.size w w6:=hBC.out.trans ((((Below.refl _ _).alloc (Nat.le_refl _) _).mono hBC.out.size).trans (hPB.touch.below (B:=w.heap.size) (by have:=hBC.out.size;simp;omega) (fun j hj e=>by have:=hBC.out.size;omega)))
   have hO6:=hO.out.keep (Touch.of_below hB6 (fun _=>False)) (fun _ _ e=>e.elim)
   obtain⟨aF2,cF2,hvF2,cb6,fb6⟩:=hO6.form
   obtain⟨xs,r1,happ⟩:=hO6.opens
   have hlow:∀g,vF.ownBlock=some g→g<w.heap.size:=fun g hg=>by
    obtain⟨_,r,_⟩:=hO.out.row
    exact (r.lt g hg).2
   have hpar:∀w'',Touch w6 w'' (fun k=>k<B∨vF.ownBlock=some k)→RdS w'' v (nmsT (p.drop 2))∧Fz w'' v:=fun w'' t=>by
    have r:=ownsRow_touch hPB.row t (fun g hg e=>by
     have h1:=(hPB.row.lt g hg).1
     have h2:=hBC.out.size
     rcases e with e | e
     ·omega
     ·have:=hlow g e;omega)
    exact⟨rds_ownP r,fz_own r⟩
   obtain⟨av,cv,rfl⟩:=row_formS hPB.row
   obtain⟨nv,hnv⟩:∃nv,nv=(nmsT (p.drop 2)).length:=⟨_,rfl⟩
   rw [←hnv] at hPB
   have hblk:=hPB.blk
   have z0:w6.cell? ⟨w4.heap.size,0,none⟩=some (.string (nmT u1)):=by rw [blk_cell hblk];rfl
   have z1:w6.cell? ⟨w4.heap.size,1,none⟩=some (.slice av nv cv):=by rw [blk_cell hblk];rfl
   have z2:w6.cell? ⟨w4.heap.size,2,none⟩=some (.slice none 0 0):=by rw [blk_cell hblk];rfl
   have hBs:B≤w6.heap.size:=Nat.le_trans hBw hB6.size
   rw [hvF2] at r1 cb6 happ
   obtain⟨na,hna2⟩:∃na,na=acc.length:=⟨_,rfl⟩
   rw [←hna2] at r1 cb6 happ hna
   have hown:=Lib.hid (ownsRow_touch (S:=fun _=>False) r1 ((Touch.refl w6 _).alloc (.cells #[.string (nmT u1),.slice av nv cv,.slice none 0 0] 43)) (fun _ _ h=>h))
   have hop:=Lib.hid (fun w7 gg cap h1 h2 h3=>happ (.cells #[.string (nmT u1),.slice av nv cv,.slice none 0 0] 43) w7 gg cap (nmT u1) (nmsT (p.drop 2)) (.slice av nv cv) h1 h2 h3 (by rw [hvF2,←hna2,←hnv] at hpar;exact hpar))
   replace hvF2:=Lib.hid hvF2
   replace hvF:=Lib.hid hvF
   replace hna2:=Lib.hid hna2
   replace hnv:=Lib.hid hnv
   replace hK2:=Lib.hid hK2
   have hTB:=Lib.hid (Touch.of_below hB6 (fun k=>k=bp∨B≤k))
   clear hPB hblk happ r1 hpar hlow hO6 hB6 n1 hu1 hgl hP5
   go_wp2_with (at_builtin;refine wpList_append_lies _ rfl _ _ _ rfl B 43 i0 _ 3 64 Tryd.underlying22 hi0 hz0 hz1 hz2 rfl (by omega) (.slice aF2 na cF2) na xs rfl hown.out ⟨w6.heap.size,0,none⟩ 1 1 [.string (nmT u1),.slice av nv cv,.slice none 0 0] rfl rfl (World.news_of_block (cs:=#[.string (nmT u1),.slice av nv cv,.slice none 0 0]) (t:=43) (fr:=(0,0)) (heap_alloc_new w6 _)) (by simp [Value.oneCell']) (by omega) (by unfold maxLen;omega) (by omega) (by simp;omega) (w6.heap.size+1) (by simp) ?_)
   intro gg cap2 w7 hO7 hg7 hat7 hlt7
   obtain⟨y1,y2,y3,y4⟩:=hop.out w7 gg cap2 hg7 hO7 hat7
   have he:=Lib.hid (And.intro y1 (hTB.out.then y2 (fun k _ h=>h)))
   clear hO7 hg7 hat7 hlt7 y1 y2 hown cb6 fb6
   go_wp2_with fail
   refine hQ.out ⟨hyes.out,rfl,by first | rfl | (congr 1;omega),.slice (some ⟨gg,0,none⟩) (na+1) cap2,.slice av nv cv,?_,he.out.2⟩
   rw [hnm.out]
   exact he.out.1
end
section
open Go.RowKit Go.Maps Go.Shelf
attribute [local go_sem] Oper.semAt_some fld0 fld1 fld2
theorem piece_fin {has:Bool}{p:List Tok}(h:fullI [[125]] p=true):pieceR has p=.fin:=by unfold pieceR;rw [if_pos h]
theorem piece_lab {has:Bool}{p:List Tok}(h:fullI [[125]] p=false)(h2:fullI [[78],[58]] p=true):pieceR has p=.lab:=by unfold pieceR;rw [if_neg (by rw [h];simp),if_pos h2]
theorem piece_ins {d:Fun}{p:List Tok}{b0:Nat}{y:Ins}(h:fullI [[125]] p=false)(h2:fullI [[78],[58]] p=false)(hb:b0=max (farS [[125]] p).1 (farS [[78],[58]] p).1)(hf:findR d p b0=.inl y):pieceR (!d.blocks.isEmpty) p=.ins y:=by
 unfold findR at hf
 by_cases hd:d.blocks=[]
 ·rw [if_pos hd] at hf;cases hf
 ·rw [if_neg hd] at hf
  unfold pieceR
  rw [if_neg (by rw [h];simp),if_neg (by rw [h2];simp),if_pos (by simpa using hd),←hb,hf]
theorem piece_bad {d:Fun}{p:List Tok}{b0 b:Nat}(h:fullI [[125]] p=false)(h2:fullI [[78],[58]] p=false)(hb:b0=max (farS [[125]] p).1 (farS [[78],[58]] p).1)(hf:findR d p b0=.inr b):pieceR (!d.blocks.isEmpty) p=.bad b:=by
 unfold findR at hf
 by_cases hd:d.blocks=[]
 ·rw [if_pos hd] at hf
  injection hf with hf
  unfold pieceR
  rw [if_neg (by rw [h];simp),if_neg (by rw [h2];simp),if_neg (by simp [hd]),←hb,hf]
 ·rw [if_neg hd] at hf
  unfold pieceR
  rw [if_neg (by rw [h];simp),if_neg (by rw [h2];simp),if_pos (by simpa using hd),←hb,hf]
theorem Op.form4 {B bp:Nat}{w:World}{acc:List Fun}{d:Fun}{vF vp vb vc:Value}(h:Op B bp w acc d vF vp vb vc):True∧w.cell? ⟨bp,0,none⟩=some vF:=by
 obtain⟨_,_,_,_,_,_,e,_⟩:=h.form
 exact⟨trivial,e⟩
abbrev LeafB (E:List Tok→Nat→Prop):Prop:=∀{c:Code} (hc:Func.blockOf Tryd.f10 1=some c) {Q:Exit→Act→World→Prop} {w:World} {gw cw k K e0 e1 B bp:Nat} {T p:List Tok} {t:Tok} {acc:List Fun} {vp vb vc:Value} {d:Fun} {vF:Value} (hE:E p K) (hP:PcAt w gw 0 T) (hcw:T.length≤cw) (ht:T[k]?=some t) (hKp:p.length=K+1) (hKl:k+1+K<T.length) (hat:∀j,j≤K→∃u,T[k+1+j]?=some u∧(j<K→u.kind≠4∧u.line=t.line)∧(j=K→u.kind=4∨(u.kind≠4∧u.line≠t.line))) (hPp:PcAt w gw (k*5) p) (hpt:∀j u,p[j]?=some u→T[k+j]?=some u) (hwd:∀u∈p,Wd1 u) (hb0:w.heap[e0]?=some (.cells #[.slice none 0 0] 24 (0,0))) (hb1:w.heap[e1]?=some (.cells #[.int .i64 0,.int .i64 0] 26 (0,0))) (h01:e0≠e1) (he0:e0<B∧e0≠bp) (he1:e1<B∧e1≠bp) (hgB:gw<B∧gw≠bp) (hO:Op B bp w acc d vF vp vb vc) (hna:acc.length≤2000000) (hbl:d.blocks.length≤2000000) (hcl:∀x∈d.blocks,x.code.length≤2000000) (hPn:∀{x} {a a1:Act} {w1:World},Q (.panic x) a w1→a.defers=a1.defers→Q (.panic x) a1 w1) {u0 u1 u4 u6 u7 u11 u12 u13 u14 u15 u16 u17 u18 u19 u20 u21 u22 u23 u24 u25 u26 u27 u28 u29 u30 u31 u32 u33 u34 u35 u36 u37 u38 u39 u40 u41 u42 u43 u44 u45 u46 u47 u48 u49 u50 u51 u52 u53 u54 u55 u56 u57 u58 u59 u60 u61 u62 u63 u64 u65 u66 u67 u68 u69 u70 u71 u72 u73 u74 u75 u76 u77 u78 u79 u80 u81 u82 u83 u84 u85 u86 u87 u88 u89 u90 u91 u92 u93 u94 u95 u96 u97 u98 u99 u100 u101 u102 u103 u104 u105 u106 u107 u108 u109 u110 u111 u112 u113 u114 u115 u116 u117 u118 u119 u120 u121 u122 u123 u124 u125 u126 u127 u128 u129 u130 u131 u132 u133 u134 u135 u136 u137 u138 u139 u140 u141 u142 u143 u144 u145 u146 u147 u148 u149 u150 u151 u152 u153 u154 u155 u156 u157 u158 u159 u160 u161 u162 u163 u164 u165 u166 u167 u168 u169 u170 u171 u172 u173 u174 u175 u176 u177 u178 u179 u180 u181 u182 u183 u184 u185 u186 u187 u188 u189 u190 u191 u192 u193 u194 u195 u196 u197 u198 u199 u200 u201 u202 u203 u204 u205 u206 u207 u208 u209 u210 u211 u212 u213 u214 u215 u216 u217 u218 u219 u220 u221 u222 u223 u224 u225 u226 u227 u228 u229 u230 u231 u232 u233 u234 u235 u236 u237 u238 u239 u240 u241 u242 u243 u244 u245 u246 u247 u248 u249 u250 u251 u252 u253 u254 u255 u256 u257 u258 u259 u260 u261 u262 u263 u264 u265 u266 u267 u268 u269 u270 u271 u272:Value} (hRet:Hid (∀{wx:World} {v4 v9 v10 v11 v12 v13 v14 v15 v16 v17 v18 v19 v20 v21 v22 v23 v24 v25 v26 v27 v45 v46 v47 v48 v49 v50 v51 v52 v53 v54 v55 v56 v57 v58 v59 v60 v61 v62 v63 v64 v65 v66 v67 v68 v69 v70 v71 v72 v73 v74 v75 v76 v77 v78 v79 v80 v81 v82 v83 v84 v85 v86 v87 v88 v89 v90 v91 v92 v93 v94 v95 v96 v97 v98 v99 v100 v101 v102 v103 v104 v105 v106 v107 v108 v109 v110 v111 v112 v113 v114 v115 v116 v117 v118 v119 v120 v121 v122 v123 v124 v125 v126 v127 v128 v129 v130 v131 v132 v133 v134 v135 v136 v137 v138 v139 v140 v141 v142 v143 v144 v145 v146 v147 v148 v149 v150 v151 v152 v153 v154 v155 v156 v157 v158 v159 v160 v161 v162 v163 v164 v165 v166 v167 v168 v169 v170 v171 v172 v173 v174 v175 v176 v177 v178 v179 v180 v181 v182 v183 v184 v185 v186 v187 v188 v189 v190 v191 v192 v193 v194 v195 v196 v197 v198 v199 v200 v201 v202 v203 v204 v205 v206 v207 v208 v209 v210 v211 v212 v213 v214 v215 v216 v217 v218 v219 v220 v221 v222 v223 v224 v225 v226 v227 v228 v229 v230 v231 v232 v233 v234 v235 v236 v237 v238 v239 v240 v241 v242 v243 v244 v245 v246 v247 v248 v249 v250 v251 v252 v253 v254 v255 v256 v257 v258 v259 v260 v261:Value},(∃b:Nat,pieceR (!d.blocks.isEmpty) p=.bad b∧ErrAt wx e0 e1 v4 (fltL (T.drop (k+b)))∧Touch w wx (fun k=>k=bp∨k=e0∨k=e1∨B≤k))→Q .ret {tmps:=#[u0,u1,.pointer (some ⟨e0,0,none⟩),.pointer (some ⟨e1,0,none⟩),v4,.slice (some ⟨gw,0,none⟩) T.length cw,u6,u7,.pointer (some ⟨bp,0,none⟩),v9,v10,v11,v12,v13,v14,v15,v16,v17,v18,v19,v20,v21,v22,v23,v24,v25,v26,v27,u28,u29,u30,u31,u32,u33,u34,u35,u36,u37,u38,u39,u40,u41,u42,u43,u44,v45,v46,v47,v48,v49,v50,v51,v52,v53,v54,v55,v56,v57,v58,v59,v60,v61,v62,v63,v64,v65,v66,v67,v68,v69,v70,v71,v72,v73,v74,v75,v76,v77,v78,v79,v80,v81,v82,v83,v84,v85,v86,v87,v88,v89,v90,v91,v92,v93,v94,v95,v96,v97,v98,v99,v100,v101,v102,v103,v104,v105,v106,v107,v108,v109,v110,v111,v112,v113,v114,v115,v116,v117,v118,v119,v120,v121,v122,v123,v124,v125,v126,v127,v128,v129,v130,v131,v132,v133,v134,v135,v136,v137,v138,v139,v140,v141,v142,v143,v144,v145,v146,v147,v148,v149,v150,v151,v152,v153,v154,v155,v156,v157,v158,v159,v160,v161,v162,v163,v164,v165,v166,v167,v168,v169,v170,v171,v172,v173,v174,v175,v176,v177,v178,v179,v180,v181,v182,v183,v184,v185,v186,v187,v188,v189,v190,v191,v192,v193,v194,v195,v196,v197,v198,v199,v200,v201,v202,v203,v204,v205,v206,v207,v208,v209,v210,v211,v212,v213,v214,v215,v216,v217,v218,v219,v220,v221,v222,v223,v224,v225,v226,v227,v228,v229,v230,v231,v232,v233,v234,v235,v236,v237,v238,v239,v240,v241,v242,v243,v244,v245,v246,v247,v248,v249,v250,v251,v252,v253,v254,v255,v256,v257,v258,v259,v260,v261,u262,u263,u264,u265,u266,u267,u268,u269,u270,u271,u272],defers:=[]} wx)) (hQ:Hid (∀{wx:World} {v4 v9 v10 v11 v12 v13 v14 v15 v16 v17 v18 v19 v20 v21 v22 v23 v24 v25 v26 v27 v45 v46 v47 v48 v49 v50 v51 v52 v53 v54 v55 v56 v57 v58 v59 v60 v61 v62 v63 v64 v65 v66 v67 v68 v69 v70 v71 v72 v73 v74 v75 v76 v77 v78 v79 v80 v81 v82 v83 v84 v85 v86 v87 v88 v89 v90 v91 v92 v93 v94 v95 v96 v97 v98 v99 v100 v101 v102 v103 v104 v105 v106 v107 v108 v109 v110 v111 v112 v113 v114 v115 v116 v117 v118 v119 v120 v121 v122 v123 v124 v125 v126 v127 v128 v129 v130 v131 v132 v133 v134 v135 v136 v137 v138 v139 v140 v141 v142 v143 v144 v145 v146 v147 v148 v149 v150 v151 v152 v153 v154 v155 v156 v157 v158 v159 v160 v161 v162 v163 v164 v165 v166 v167 v168 v169 v170 v171 v172 v173 v174 v175 v176 v177 v178 v179 v180 v181 v182 v183 v184 v185 v186 v187 v188 v189 v190 v191 v192 v193 v194 v195 v196 v197 v198 v199 v200 v201 v202 v203 v204 v205 v206 v207 v208 v209 v210 v211 v212 v213 v214 v215 v216 v217 v218 v219 v220 v221 v222 v223 v224 v225 v226 v227 v228 v229 v230 v231 v232 v233 v234 v235 v236 v237 v238 v239 v240 v241 v242 v243 v244 v245 v246 v247 v248 v249 v250 v251 v252 v253 v254 v255 v256 v257 v258 v259 v260 v261:Value},((pieceR (!d.blocks.isEmpty) p=.fin∧v9=.bool false∧v10=.int .i64 (k+1+K:Nat)∧Op B bp wx acc d vF vp vb vc∧Touch w wx (fun k=>k=bp∨B≤k))∨(pieceR (!d.blocks.isEmpty) p=.lab∧v9=.bool true∧v10=.int .i64 (k+1+K:Nat)∧∃vb2,Op B bp wx acc (addB d (nmT (p.headD ⟨0,[],0,0,0⟩))) vF vp vb2 (.slice none 0 0)∧Touch w wx (fun k=>k=bp∨B≤k))∨∃y vc2,pieceR (!d.blocks.isEmpty) p=.ins y∧v9=.bool true∧v10=.int .i64 (k+1+K:Nat)∧Op B bp wx acc (addI d y) vF vp vb vc2∧Touch w wx (fun k=>k=bp∨B≤k))→Q .normal {tmps:=#[u0,u1,.pointer (some ⟨e0,0,none⟩),.pointer (some ⟨e1,0,none⟩),v4,.slice (some ⟨gw,0,none⟩) T.length cw,u6,u7,.pointer (some ⟨bp,0,none⟩),v9,v10,v11,v12,v13,v14,v15,v16,v17,v18,v19,v20,v21,v22,v23,v24,v25,v26,v27,u28,u29,u30,u31,u32,u33,u34,u35,u36,u37,u38,u39,u40,u41,u42,u43,u44,v45,v46,v47,v48,v49,v50,v51,v52,v53,v54,v55,v56,v57,v58,v59,v60,v61,v62,v63,v64,v65,v66,v67,v68,v69,v70,v71,v72,v73,v74,v75,v76,v77,v78,v79,v80,v81,v82,v83,v84,v85,v86,v87,v88,v89,v90,v91,v92,v93,v94,v95,v96,v97,v98,v99,v100,v101,v102,v103,v104,v105,v106,v107,v108,v109,v110,v111,v112,v113,v114,v115,v116,v117,v118,v119,v120,v121,v122,v123,v124,v125,v126,v127,v128,v129,v130,v131,v132,v133,v134,v135,v136,v137,v138,v139,v140,v141,v142,v143,v144,v145,v146,v147,v148,v149,v150,v151,v152,v153,v154,v155,v156,v157,v158,v159,v160,v161,v162,v163,v164,v165,v166,v167,v168,v169,v170,v171,v172,v173,v174,v175,v176,v177,v178,v179,v180,v181,v182,v183,v184,v185,v186,v187,v188,v189,v190,v191,v192,v193,v194,v195,v196,v197,v198,v199,v200,v201,v202,v203,v204,v205,v206,v207,v208,v209,v210,v211,v212,v213,v214,v215,v216,v217,v218,v219,v220,v221,v222,v223,v224,v225,v226,v227,v228,v229,v230,v231,v232,v233,v234,v235,v236,v237,v238,v239,v240,v241,v242,v243,v244,v245,v246,v247,v248,v249,v250,v251,v252,v253,v254,v255,v256,v257,v258,v259,v260,v261,u262,u263,u264,u265,u266,u267,u268,u269,u270,u271,u272],defers:=[]} wx)),
  c.wp Tryd.prog Q {tmps:=#[u0,u1,.pointer (some ⟨e0,0,none⟩),.pointer (some ⟨e1,0,none⟩),u4,.slice (some ⟨gw,0,none⟩) T.length cw,u6,u7,.pointer (some ⟨bp,0,none⟩),.bool true,.int .i64 k,u11,u12,u13,u14,u15,u16,u17,u18,u19,u20,u21,u22,u23,u24,u25,u26,u27,u28,u29,u30,u31,u32,u33,u34,u35,u36,u37,u38,u39,u40,u41,u42,u43,u44,u45,u46,u47,u48,u49,u50,u51,u52,u53,u54,u55,u56,u57,u58,u59,u60,u61,u62,u63,u64,u65,u66,u67,u68,u69,u70,u71,u72,u73,u74,u75,u76,u77,u78,u79,u80,u81,u82,u83,u84,u85,u86,u87,u88,u89,u90,u91,u92,u93,u94,u95,u96,u97,u98,u99,u100,u101,u102,u103,u104,u105,u106,u107,u108,u109,u110,u111,u112,u113,u114,u115,u116,u117,u118,u119,u120,u121,u122,u123,u124,u125,u126,u127,u128,u129,u130,u131,u132,u133,u134,u135,u136,u137,u138,u139,u140,u141,u142,u143,u144,u145,u146,u147,u148,u149,u150,u151,u152,u153,u154,u155,u156,u157,u158,u159,u160,u161,u162,u163,u164,u165,u166,u167,u168,u169,u170,u171,u172,u173,u174,u175,u176,u177,u178,u179,u180,u181,u182,u183,u184,u185,u186,u187,u188,u189,u190,u191,u192,u193,u194,u195,u196,u197,u198,u199,u200,u201,u202,u203,u204,u205,u206,u207,u208,u209,u210,u211,u212,u213,u214,u215,u216,u217,u218,u219,u220,u221,u222,u223,u224,u225,u226,u227,u228,u229,u230,u231,u232,u233,u234,u235,u236,u237,u238,u239,u240,u241,u242,u243,u244,u245,u246,u247,u248,u249,u250,u251,u252,u253,u254,u255,u256,u257,u258,u259,u260,u261,u262,u263,u264,u265,u266,u267,u268,u269,u270,u271,u272],defers:=[]} w
end
section
open Go.RowKit Go.Maps Go.Shelf
attribute [local go_sem] Oper.semAt_some fld0 fld1 fld2
set_option maxRecDepth 20000 in
set_option maxHeartbeats 16000000 in
theorem rfpB0:LeafB (fun p K=>(farS [[125]] p).2=true∧(farS [[125]] p).1=K+1):=by
 intro c hc Q w gw cw k K e0 e1 B bp T p t acc vp vb vc d vF hE hP hcw ht hKp hKl hat hPp hpt hwd hb0 hb1 h01 he0 he1 hgB hO hna hbl hcl hPn
 intros
 rename_i hRet hQ
 obtain⟨hc1,hd1⟩:=hE
 conv at hc=>lhs;whnf
 simp only [Option.some.injEq] at hc
 subst hc
 obtain⟨gf,capF,ab,cb,rfl,rfl,-⟩:=hO.form
 obtain⟨nb,hnb⟩:∃nb,nb=d.blocks.length:=⟨_,rfl⟩
 rw [←hnb] at hO hQ
 replace hnb:=Lib.hid hnb
 have hnbl:nb≤2000000:=by rw [hnb.out];exact hbl
 have hlen:=hP.len
 have hBw:B≤w.heap.size:=hO.top
 have hPw:=Lib.hid (fun (wr:World) (hb:Below w.heap.size w wr)=>hP.below hb)
 have hPpw:=Lib.hid (fun (wr:World) (hb:Below w.heap.size w wr)=>hPp.below hb)
 have hfar:=Lib.hid (fun (wr:World) (hb:Below w.heap.size w wr) (items:List (List UInt8)) (ib n:Nat) (hs:StAt wr ib items) (hn:n=items.length)=>(by
  have h:=reffar_any (c:=cw-k) (cb:=n) (hPp.below hb) hs
  rw [hKp,←hn] at h
  exact h:Calls Tryd.prog 22 #[.slice (some ⟨ib,0,none⟩) n n,.slice (some ⟨gw,k*5,none⟩) (K+1) (cw-k)] wr fun e w'=>e=.returned (.tuple #[.int .i64 ((farS items p).1:Nat),.bool (farS items p).2])∧Below wr.heap.size wr w'))
 have hkeep:=Lib.hid (fun (wr:World) (hb:Below w.heap.size w wr)=>(⟨(Touch.of_below hb (fun _=>False)).block e0 (by omega) (fun h=>h) |>.trans hb0,(Touch.of_below hb (fun _=>False)).block e1 (by omega) (fun h=>h) |>.trans hb1⟩:wr.heap[e0]?=some (.cells #[.slice none 0 0] 24 (0,0))∧wr.heap[e1]?=some (.cells #[.int .i64 0,.int .i64 0] 26 (0,0))))
 have q1:¬cw=k:=by omega
 have q2:¬cw=0:=by omega
 replace hpt:=Lib.hid hpt
 replace hwd:=Lib.hid hwd
 replace hKp:=Lib.hid hKp
 replace hO:=Lib.hid hO
 clear hb0 hb1
 go_upto_block 2 with fail
 refine rfp2 (by kernel_rfl) (w:=w) (gw:=gw) (cw:=cw) (k:=k) (K:=K) (T:=T) (t:=t) hP ht hKl hat (Lib.hid ?_)
 intros
 rename_i hx
 obtain⟨rfl,hb1⟩:=hx
 rename World=>w1
 have hB1:=Lib.hid hb1
 obtain⟨hvF,cbp⟩:=(hO.out.keep (Touch.of_below hB1.out (fun _=>False)) (fun _ _ e=>e.elim)).form4
 replace hat:=Lib.hid hat
 replace ht:=Lib.hid ht
 clear hP hPp hb1
 have i1:k≤k+1+K:=by omega
 have i2:k+1+K≤T.length:=by omega
 have i3:k+1+K≤cw:=by omega
 have i4:k+1+K-k=K+1:=by omega
 go_upto_region 13 with fail
 rw [i4]
 obtain⟨w3,hw3⟩:∃w3,w3=((w1.alloc (.cells #[.string ⟨#[102,117,110,99]⟩,.string ⟨#[78]⟩,.string ⟨#[40]⟩,.string ⟨#[123]⟩] 9)).alloc (.cells #[.string ⟨#[78]⟩,.string ⟨#[58]⟩] 9)).alloc (.cells #[.string ⟨#[125]⟩] 9):=⟨_,rfl⟩
 have s1:StAt w3 w1.heap.size headI:=stAt_of (t:=9) (by rw [hw3];exact at_oldP (at_oldP (at_newP rfl))) (by decide)
 have s2:StAt w3 (w1.heap.size+1) [[78],[58]]:=stAt_of (t:=9) (by rw [hw3];exact at_oldP (at_newP (by simp))) (by decide)
 have s3:StAt w3 (w1.heap.size+1+1) [[125]]:=stAt_of (t:=9) (by rw [hw3];exact at_newP (by simp)) (by decide)
 have hB3:Hid (Below w.heap.size w w3):=Lib.hid (hB1.out.trans (by
  have h1:=hB1.out.size
  rw [hw3]
  exact (((Below.refl w1.heap.size w1).alloc (Nat.le_refl _) _).alloc (by simp) _).alloc (by simp;omega) _ |>.mono h1))
 replace s1:=Lib.hid s1
 replace s2:=Lib.hid s2
 replace s3:=Lib.hid s3
 replace hw3:=Lib.hid hw3
 go_upto_region 14 with fail
 rw [←hw3.out]
 clear hw3
 obtain⟨k1,hk1⟩:∃k1,k1=(farS [[125]] p).1:=⟨_,rfl⟩
 obtain⟨q1',hq1⟩:∃qq,qq=(farS [[125]] p).2:=⟨_,rfl⟩
 obtain⟨k2,hk2⟩:∃k1,k1=(farS [[78],[58]] p).1:=⟨_,rfl⟩
 obtain⟨q2',hq2⟩:∃qq,qq=(farS [[78],[58]] p).2:=⟨_,rfl⟩
 have hfull1:fullI [[125]] p=(q1'&&k1==K+1):=by rw [hq1,hk1,←hKp.out];rfl
 have hfull2:fullI [[78],[58]] p=(q2'&&k2==K+1):=by rw [hq2,hk2,←hKp.out];rfl
 have hk1l:k1≤K+1:=by rw [hk1,←hKp.out];exact farS_le _ _
 have hk2l:k2≤K+1:=by rw [hk2,←hKp.out];exact farS_le _ _
 have m1:(acc.length:Int)<(acc.length:Int)+1:=by omega
 have m0:(acc.length:Int)+1-1=(acc.length:Int):=by omega
 have mw:IntKind.i64.wrap (acc.length:Int)=(acc.length:Int):=by rw [IntKind.wrap_i64];omega
 replace hk1:=Lib.hid hk1
 replace hk2:=Lib.hid hk2
 replace hq1:=Lib.hid hq1
 replace hq2:=Lib.hid hq2
 replace hfull1:=Lib.hid hfull1
 replace hfull2:=Lib.hid hfull2
 clear hvF cbp
 obtain rfl:q1'=true:=by rw [hq1.out];exact hc1
 have hk1e:k1=K+1:=by rw [hk1.out];exact hd1
 clear hc1 hd1
 have hyes:fullI [[125]] p=true:=by rw [hfull1.out];simp;omega
 have g1:((k1:Int)==(K:Int)+1)=true:=by simp;omega
 have g1b:((k1:Int)==((K+1:Nat):Int))=true:=by simp;omega
 have hf1:=hfar.out w3 hB3.out [[125]] (w1.heap.size+1+1) 1 s3.out rfl
 rw [←hk1.out,←hq1.out] at hf1
 replace hf1:=Lib.hid hf1
 go_wp2_with fail
 refine hf1.out.mono ?_
 rintro e w4 ⟨rfl,hb4⟩
 dsimp only
 have hB4:=Lib.hid (hB3.out.trans (hb4.mono hB3.out.size))
 have s24:=Lib.hid (s2.out.below hb4)
 clear hb4 hf1
 replace hyes:=Lib.hid hyes
 go_wp2_with fail
 exact hQ.out (.inl ⟨piece_fin hyes.out,rfl,by first | rfl | (congr 1;omega),hO.out.keep (Touch.of_below hB4.out (fun _=>False)) (fun _ _ e=>e.elim),Touch.of_below hB4.out _⟩)
end
end Go.Proofs.YtgcanabckogmmaaDoor
